/-
  Push's drawn region that appends: the facts of its reading head (written by gen/hppush.py).
-/
import Derived.Test.YtmhmekmacdkdgaaHpMem
import Derived.Test.YtmhmekmacdkdgaaHead3
namespace Go.Proofs.Ytmhmekmacdkdgaa
open Go.RowKit

def row1 (x : It) : Fact := fun v w => ∃ e, v = .slice (some ⟨e, 0, none⟩) 1 1 ∧ Has w e 34 (itemL x).toArray
theorem row1_mono (x : It) : Mono (row1 x) := fun _ _ _ hb ⟨e, he, h⟩ => ⟨e, he, h.below hb h.lt⟩
theorem rf_oneIt {D : List (Option Tmp)} {Φ : Fact} {o : Oper} {a : Act} {w : World} (hw : Region.wanted o (yieldD D a.tmps) = true) {t : Tmp} (hd : o.dst = some t) (x : Operand) (ho : o.op = .buildSlice 22 1 #[(0, x)]) (y : It) (hx : a.eval x = .agg #[.int .i64 y.s, .int .i64 y.t, .int .i64 y.q, .int .i64 y.v]) (h : ∀ v w', row1 y v w' → Φ v w') : StepD Try.prog D Φ o a w := by
  have e : (Instr.buildSlice 22 1 #[(0, .agg #[.int .i64 y.s, .int .i64 y.t, .int .i64 y.q, .int .i64 y.v])]).run Try.prog w = .ok (.slice (some ⟨w.heap.size, 0, none⟩) 1 1) (w.alloc (.cells (itemL y).toArray 34)) := by kernel_rfl
  refine step_val hw hd (.slice (some ⟨w.heap.size, 0, none⟩) 1 1) (w.alloc (.cells (itemL y).toArray 34)) ?_ ((Below.refl _ w).alloc (Nat.le_refl _) _) (h _ _ ⟨_, rfl, Has.made _ _ _⟩)
  unfold execOp
  rw [ho]
  generalize a.eval = ev at hx ⊢
  simp only [List.map_toArray, List.map_cons, List.map_nil, hx, Sem.run_bind, e, Result.andThen_ok]
  rfl

def hpu14D : List (Option Tmp) := [some 40, some 41, some 42, some 43, some 44, some 45, some 46, some 47, some 48, some 49, none]
def hpu14F (g _p n c : Nat) (_m : Int) (A : Option Addr) (x : It) : List Fact := [isV (.pointer (some ⟨g, 0, none⟩)), isV (.pointer (some ⟨g, 0, none⟩)), isV (.pointer (some ⟨g, 0, none⟩)), isV (.pointer (some ⟨g, 1, none⟩)), isV (.slice A n c), isV (.agg #[.int .i64 x.s, .int .i64 x.t, .int .i64 x.q, .int .i64 x.v]), row1 x]
theorem hpu14F_mono (g p n c : Nat) (m : Int) (A : Option Addr) (x : It) : ∀ φ ∈ hpu14F g p n c m A x, Mono φ := by
  unfold hpu14F
  repeat (first | exact monos_nil | (refine monos_cons (mono_isV _) ?_) | (refine monos_cons (row1_mono _) ?_))
structure hpu14S (g p n c : Nat) (m : Int) (A : Option Addr) (x : It) (a0 : Act) (w0 : World) : Prop where
  size : a0.tmps.size = 58
  v0 : a0.tmps.getD 0 undef = .pointer (some ⟨g, 0, none⟩)
  v8 : a0.tmps.getD 8 undef = .pointer (some ⟨p, 0, none⟩)
  st : Has w0 g 54 (hpC m A n c)
  bx : Has w0 p 34 #[.int .i64 x.s, .int .i64 x.t, .int .i64 x.q, .int .i64 x.v]
section
variable {g p n c : Nat} {m : Int} {A : Option Addr} {x : It} {a0 : Act} {w0 : World} (S : hpu14S g p n c m A x a0 w0)
include S
set_option maxRecDepth 100000 in
set_option maxHeartbeats 8000000 in
theorem hpu14_ok : AllOps (fun j o => ∀ (a : Act) (w : World), Below w0.heap.size w0 w → FrD (hpu14D.take 7) a0 a → needs hpu14D (hpu14F g p n c m A x) a w o.after.toList → StepD Try.prog hpu14D (factAt (hpu14F g p n c m A x) j) o a w) 0 ((opsOf 14 Try.f15).take 7) := by
  simp only [opsOf, Try.f15, opsAt, Option.bind, Option.or, Option.getD, reduceCtorEq, if_true, if_false, Nat.reduceEqDiff, List.take_succ_cons, List.take_zero]
  refine ⟨?_, ?_⟩
  · intro _a _w _hB hF _hd
    exact step_move (guard_none rfl) rfl _ rfl ((hF.other 0 rfl).trans S.v0)
  refine ⟨?_, ?_⟩
  · intro _a _w _hB hF _hd
    exact step_move (guard_none rfl) rfl _ rfl ((hF.other 0 rfl).trans S.v0)
  refine ⟨?_, ?_⟩
  · intro a _w _hB _hF hd
    have h41 : a.tmps.getD 41 undef = .pointer (some ⟨g, 0, none⟩) := hd.1 rfl
    exact rf_nilck (guard_none rfl) rfl _ rfl _ h41 rfl
  refine ⟨?_, ?_⟩
  · intro a _w _hB _hF hd
    have h42 : a.tmps.getD 42 undef = .pointer (some ⟨g, 0, none⟩) := hd.1 rfl
    exact rf_faddr (guard_none rfl) rfl _ _ _ rfl _ _ 1 _ h42 (by omega) (fun _ _ => by kernel_rfl) rfl
  refine ⟨?_, ?_⟩
  · intro a _w hB _hF hd
    have h43 : a.tmps.getD 43 undef = .pointer (some ⟨g, 1, none⟩) := hd.1 rfl
    exact rf_load1 (guard_none rfl) rfl _ _ rfl _ _ h43 (run_ldIt ((Has.cell (S.st.below hB S.st.lt) 1).trans rfl)) rfl
  refine ⟨?_, ?_⟩
  · intro _a _w hB hF _hd
    exact rf_loadS (guard_none rfl) rfl _ _ rfl _ _ ((hF.other 8 rfl).trans S.v8) _ (rf_range (S.bx.below hB S.bx.lt)) Try.underlying34 rfl (by kernel_rfl) rfl
  refine ⟨?_, ?_⟩
  · intro a _w _hB _hF hd
    have h45 : a.tmps.getD 45 undef = .agg #[.int .i64 x.s, .int .i64 x.t, .int .i64 x.q, .int .i64 x.v] := hd.1 rfl
    exact rf_oneIt (guard_none rfl) rfl _ rfl x h45 (fun _ _ h => h)
  trivial
theorem hpu14_any {Q : Exit → Act → World → Prop} {l : List Oper} (hl : opsOf 14 Try.f15 = l) (hend : ∀ (e46 : Nat), ∀ w : World, Below w0.heap.size w0 w → Has w e46 34 (itemL x).toArray → wpList Try.prog l.toArray Q (l.drop 7) (putAll a0 [(40, .pointer (some ⟨g, 0, none⟩)), (41, .pointer (some ⟨g, 0, none⟩)), (42, .pointer (some ⟨g, 0, none⟩)), (43, .pointer (some ⟨g, 1, none⟩)), (44, .slice A n c), (45, .agg #[.int .i64 x.s, .int .i64 x.t, .int .i64 x.q, .int .i64 x.v]), (46, .slice (some ⟨e46, 0, none⟩) 1 1)]) w)
    (hendQ : ∀ (e46 : Nat), ∀ w : World, Below w0.heap.size w0 w → Has w e46 34 (itemL x).toArray → wpList Try.prog l.toArray Q (pickL l [7, 0, 8, 9, 10]) (putAll a0 [(40, a0.tmps.getD 40 undef), (41, .pointer (some ⟨g, 0, none⟩)), (42, .pointer (some ⟨g, 0, none⟩)), (43, .pointer (some ⟨g, 1, none⟩)), (44, .slice A n c), (45, .agg #[.int .i64 x.s, .int .i64 x.t, .int .i64 x.q, .int .i64 x.v]), (46, .slice (some ⟨e46, 0, none⟩) 1 1)]) w) :
    (Code.region 14 l.toArray true).wp Try.prog Q a0 w0 := by
  subst hl
  refine region_head3 (hpu14F g p n c m A x) hpu14D 7 58 0 [0, 8, 9, 10] S.size rfl (by kernel_rfl) (by kernel_rfl) (by kernel_rfl) (hpu14F_mono _ _ _ _ _ _ _) (hpu14_ok S) ?_ ?_
  · intro a w hB hF h
    obtain ⟨e46, h46, p46⟩ : row1 x (a.tmps.getD 46 undef) w := h 6 (some 46) (by omega) rfl
    have hv : valsAre a [(40, .pointer (some ⟨g, 0, none⟩)), (41, .pointer (some ⟨g, 0, none⟩)), (42, .pointer (some ⟨g, 0, none⟩)), (43, .pointer (some ⟨g, 1, none⟩)), (44, .slice A n c), (45, .agg #[.int .i64 x.s, .int .i64 x.t, .int .i64 x.q, .int .i64 x.v]), (46, .slice (some ⟨e46, 0, none⟩) 1 1)] := by
      refine ⟨?_, ?_, ?_, ?_, ?_, ?_, ?_, trivial⟩
      · exact h 0 (some 40) (by omega) rfl
      · exact h 1 (some 41) (by omega) rfl
      · exact h 2 (some 42) (by omega) rfl
      · exact h 3 (some 43) (by omega) rfl
      · exact h 4 (some 44) (by omega) rfl
      · exact h 5 (some 45) (by omega) rfl
      · exact h46
    rw [frame_is hF _ hv (by rfl) (by rfl)]
    exact hend e46 w hB p46
  · intro a w hB hF h hq
    obtain ⟨e46, h46, p46⟩ : row1 x (a.tmps.getD 46 undef) w := h 6 (some 46) (by omega) (by omega) rfl
    have hv : valsAre a [(40, a0.tmps.getD 40 undef), (41, .pointer (some ⟨g, 0, none⟩)), (42, .pointer (some ⟨g, 0, none⟩)), (43, .pointer (some ⟨g, 1, none⟩)), (44, .slice A n c), (45, .agg #[.int .i64 x.s, .int .i64 x.t, .int .i64 x.q, .int .i64 x.v]), (46, .slice (some ⟨e46, 0, none⟩) 1 1)] := by
      refine ⟨?_, ?_, ?_, ?_, ?_, ?_, ?_, trivial⟩
      · exact hq (some 40) rfl
      · exact h 1 (some 41) (by omega) (by omega) rfl
      · exact h 2 (some 42) (by omega) (by omega) rfl
      · exact h 3 (some 43) (by omega) (by omega) rfl
      · exact h 4 (some 44) (by omega) (by omega) rfl
      · exact h 5 (some 45) (by omega) (by omega) rfl
      · exact h46
    rw [frame_is hF _ hv (by rfl) (by rfl)]
    exact hendQ e46 w hB p46
end

end Go.Proofs.Ytmhmekmacdkdgaa
