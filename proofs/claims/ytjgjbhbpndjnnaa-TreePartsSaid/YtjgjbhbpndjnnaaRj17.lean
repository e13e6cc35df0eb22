/-
  Walk: the reference's Join: the statement that puts two together, but for its store.
-/
import Derived.Test.YtjgjbhbpndjnnaaAccRegs
import Derived.Test.YtjgjbhbpndjnnaaTwo
import Derived.Test.YtjgjbhbpndjnnaaHead
import Derived.Test.YtjgjbhbpndjnnaaG15
namespace Go.Proofs.Ytjgjbhbpndjnnaa
open Go.RowKit

/-- What a call hands out alone, in new memory. -/
def foldF (R : Ac) (N : Nat) : Fact := fun z w => ∃ A n c, z = .agg (accC R A n c) ∧ AccIn w N R A n c
theorem mono_fold (R : Ac) (N : Nat) : Mono (foldF R N) := fun _ _ _ hb ⟨A, n, c, e, h⟩ => ⟨A, n, c, e, h.below hb⟩

section
variable (g b1 o1 n d j : Nat) (O Z R : Ac) (D A1 : Option Addr) (k c k1 c1 : Nat)
def rj17F (N : Nat) : List Fact := [isV (.agg (accC O D k c)), isV (.slice (some ⟨b1, o1, none⟩) n d), isV (.int .i64 (j : Int)), isV (.pointer (some ⟨b1, o1 + j * 13, none⟩)), isV (.agg (accC Z A1 k1 c1)), foldF R N]
def rj17D : List (Option Tmp) := [some 64, some 65, some 66, some 67, some 68, some 69, none]
theorem rj17F_mono (N : Nat) : ∀ f ∈ rj17F b1 o1 n d j O Z R D A1 k c k1 c1 N, Mono f := by
  unfold rj17F
  repeat (first | exact monos_nil | (refine monos_cons (mono_isV _) ?_) | (refine monos_cons (mono_fold _ _) ?_))
structure Rj17 (a0 : Act) (w0 : World) : Prop where
  size : a0.tmps.size = 91
  v8 : a0.tmps.getD 8 undef = .pointer (some ⟨g, 0, none⟩)
  v1 : a0.tmps.getD 1 undef = .slice (some ⟨b1, o1, none⟩) n d
  v9 : a0.tmps.getD 9 undef = .int .i64 (j : Int)
  out : Has w0 g 29 (accC O D k c)
  r1 : AccAt w0 b1 (o1 + j * 13) Z A1 k1 c1
  lt : j < n
  call : ∀ W, Below w0.heap.size w0 W → Calls Try.prog 50 #[.agg (accC O D k c), .agg (accC Z A1 k1 c1)] W (FoldAcc R W)
end
section
variable {g b1 o1 n d j : Nat} {O Z R : Ac} {D A1 : Option Addr} {k c k1 c1 : Nat} {a0 : Act} {w0 : World} (S : Rj17 g b1 o1 n d j O Z R D A1 k c k1 c1 a0 w0)
include S
set_option maxRecDepth 100000 in
set_option maxHeartbeats 4000000 in
theorem rj17_ok : AllOps (fun i o => ∀ (a : Act) (w : World), Below w0.heap.size w0 w → FrD (rj17D.take 6) a0 a → needs rj17D (rj17F b1 o1 n d j O Z R D A1 k c k1 c1 w0.heap.size) a w o.after.toList → StepD Try.prog rj17D (factAt (rj17F b1 o1 n d j O Z R D A1 k c k1 c1 w0.heap.size) i) o a w) 0 ((opsOf 17 Try.f14).take 6) := by
  simp only [opsOf, Try.f14, opsAt, Option.bind, Option.or, Option.getD, reduceCtorEq, if_true, if_false, Nat.reduceEqDiff, List.take_succ_cons, List.take_zero]
  refine ⟨?_, ?_⟩
  · intro a w hB hF hd
    exact step_load (guard_none rfl) rfl _ rfl g ((hF.other 8 rfl).trans S.v8) (S.out.below hB S.out.lt) rfl
  refine ⟨?_, ?_⟩
  · intro a w hB hF hd
    exact step_move (guard_none rfl) rfl _ rfl ((hF.other 1 rfl).trans S.v1)
  refine ⟨?_, ?_⟩
  · intro a w hB hF hd
    exact step_move (guard_none rfl) rfl _ rfl ((hF.other 9 rfl).trans S.v9)
  refine ⟨?_, ?_⟩
  · intro a w hB hF hd
    have h0 : a.tmps.getD 65 undef = .slice (some ⟨b1, o1, none⟩) n d := hd.1 rfl
    have h1 : a.tmps.getD 66 undef = .int .i64 (j : Int) := hd.2.1 rfl
    exact step_iaddrA (guard_none rfl) rfl _ _ rfl b1 o1 n d j h0 h1 S.lt rfl
  refine ⟨?_, ?_⟩
  · intro a w hB hF hd
    have h0 : a.tmps.getD 67 undef = .pointer (some ⟨b1, o1 + j * 13, none⟩) := hd.1 rfl
    exact step_accA (guard_none rfl) rfl _ rfl b1 _ h0 (S.r1.keep fun _ hp => hB.cell hp) rfl
  refine ⟨?_, ?_⟩
  · intro a w hB hF hd
    have h0 : a.tmps.getD 64 undef = .agg (accC O D k c) := hd.1 rfl
    have h1 : a.tmps.getD 68 undef = .agg (accC Z A1 k1 c1) := hd.2.1 rfl
    refine step_call (guard_none rfl) rfl _ _ (rf_call_run Try.func50 (by kernel_rfl) (by kernel_rfl) _ _ rfl) ?_
    simp only [List.map_toArray, List.map_cons, List.map_nil, Act.eval, h0, h1]
    exact (S.call w hB).mono (by rintro e w1 ⟨A5, k5, c5, rfl, h5, hb⟩; exact ⟨_, rfl, hb, A5, k5, c5, rfl, h5.mono hB.size⟩)
  trivial
theorem rj17_any {Q : Exit → Act → World → Prop} {l : List Oper} (hl : opsOf 17 Try.f14 = l)
    (hend : ∀ (A5 : Option Addr) (k5 c5 : Nat) (w : World), Below w0.heap.size w0 w → AccIn w w0.heap.size R A5 k5 c5 →
      wpList Try.prog l.toArray Q (l.drop 6) (putAll a0 [(64, .agg (accC O D k c)), (65, .slice (some ⟨b1, o1, none⟩) n d), (66, .int .i64 (j : Int)), (67, .pointer (some ⟨b1, o1 + j * 13, none⟩)), (68, .agg (accC Z A1 k1 c1)), (69, .agg (accC R A5 k5 c5))]) w) :
    (Code.region 17 l.toArray true).wp Try.prog Q a0 w0 := by
  subst hl
  refine region_head (rj17F b1 o1 n d j O Z R D A1 k c k1 c1 w0.heap.size) rj17D 6 91 S.size rfl (by kernel_rfl) (by kernel_rfl) (by kernel_rfl) (rj17F_mono _ _ _ _ _ _ _ _ _ _ _ _ _ _ _) (rj17_ok S) fun a w hB hF h => ?_
  obtain ⟨A5, k5, c5, h69, hin⟩ := h 5 (some 69) (by omega) rfl
  rw [frame_is hF [(64, .agg (accC O D k c)), (65, .slice (some ⟨b1, o1, none⟩) n d), (66, .int .i64 (j : Int)), (67, .pointer (some ⟨b1, o1 + j * 13, none⟩)), (68, .agg (accC Z A1 k1 c1)), (69, .agg (accC R A5 k5 c5))]
    ⟨h 0 (some 64) (by omega) rfl, h 1 (some 65) (by omega) rfl, h 2 (some 66) (by omega) rfl, h 3 (some 67) (by omega) rfl, h 4 (some 68) (by omega) rfl, h69, trivial⟩ (by rfl) (by rfl)]
  exact hend A5 k5 c5 w hB hin
end

end Go.Proofs.Ytjgjbhbpndjnnaa
