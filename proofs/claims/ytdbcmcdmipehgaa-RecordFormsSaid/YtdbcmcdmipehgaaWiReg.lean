/-
  The head of Writer.Put's drawn region: its facts, one by one (written by gen/wiwr.py).
-/
import Derived.Test.YtdbcmcdmipehgaaRf
import Derived.Test.YtdbcmcdmipehgaaHead3
import Derived.Test.YtdbcmcdmipehgaaVPut
namespace Go.Proofs.Ytdbcmcdmipehgaa
open Go.RowKit

section
variable {P : Program} {D : List (Option Tmp)} {Φ : Fact} {o : Oper} {a : Act} {w : World}
theorem rf_nil (hw : Region.wanted o (yieldD D a.tmps) = true) {t : Tmp} (hd : o.dst = some t) (x : Operand) (ho : o.op = .nilCheck x) (ad : Addr) (hx : a.eval x = .pointer (some ad)) (h : Φ (.pointer (some ad)) w) : StepD P D Φ o a w :=
  step_val hw hd _ w (by unfold execOp; rw [ho]; generalize a.eval = ev at hx ⊢; simp [hx, go_sem]) (Below.refl _ _) h
theorem rf_loadB_run (g k : Nat) (A : Option Addr) (m c : Nat) (w : World) (h : w.cell? ⟨g, k, none⟩ = some (.slice A m c)) : (Instr.loadAt 49 (.pointer (some ⟨g, k, none⟩))).run Try.prog w = .ok (.slice A m c) w := by simp [go_sem, h, Instr.loadAt]
theorem rf_loadB (hw : Region.wanted o (yieldD D a.tmps) = true) {t : Tmp} (hd : o.dst = some t) (x : Operand) (ho : o.op = .load 49 x) (g k : Nat) (hx : a.eval x = .pointer (some ⟨g, k, none⟩)) {A : Option Addr} {m c : Nat}
    (hc : w.cell? ⟨g, k, none⟩ = some (.slice A m c)) (h : Φ (.slice A m c) w) : StepD Try.prog D Φ o a w := by
  refine step_val hw hd _ _ ?_ (Below.refl _ _) h
  unfold execOp
  rw [ho]
  simp only [hx, Sem.run_bind, rf_loadB_run g k A m c w hc, Result.andThen_ok]
  rfl
end

def wp3D : List (Option Tmp) := [some 12, some 13, some 14, some 15, some 16, some 17, some 18, some 19, some 20, some 21, none]
def wp3F (g m c : Nat) (A : Option Addr) (x : Int) : List Fact := [isV (.pointer (some ⟨g, 0, none⟩)), isV (.pointer (some ⟨g, 0, none⟩)), isV (.pointer (some ⟨g, 0, none⟩)), isV (.pointer (some ⟨g, 0, none⟩)), isV (.slice A m c), isV (.int .i64 x), isV (.string (encS x))]
theorem wp3F_mono (g m c : Nat) (A : Option Addr) (x : Int) : ∀ φ ∈ wp3F g m c A x, Mono φ := by
  unfold wp3F
  repeat (first | exact monos_nil | (refine monos_cons (mono_isV _) ?_))
structure wp3S (g m c : Nat) (A : Option Addr) (x : Int) (a0 : Act) (w0 : World) : Prop where
  size : a0.tmps.size = 23
  v0 : a0.tmps.getD 0 undef = .pointer (some ⟨g, 0, none⟩)
  v5 : a0.tmps.getD 5 undef = .int .i64 x
  cw : w0.cell? ⟨g, 0, none⟩ = some (.slice A m c)
  lx : -9223372036854775808 ≤ x
  ux : x ≤ 9223372036854775807
section
variable {g m c : Nat} {A : Option Addr} {x : Int} {a0 : Act} {w0 : World} (S : wp3S g m c A x a0 w0)
include S
set_option maxRecDepth 100000 in
set_option maxHeartbeats 8000000 in
theorem wp3_ok : AllOps (fun j o => ∀ (a : Act) (w : World), Below w0.heap.size w0 w → FrD (wp3D.take 7) a0 a → needs wp3D (wp3F g m c A x) a w o.after.toList → StepD Try.prog wp3D (factAt (wp3F g m c A x) j) o a w) 0 ((opsOf 3 Try.f16).take 7) := by
  simp only [opsOf, Try.f16, opsAt, Option.bind, Option.or, Option.getD, reduceCtorEq, if_true, if_false, Nat.reduceEqDiff, List.take_succ_cons, List.take_zero]
  refine ⟨?_, ?_⟩
  · intro _a _w _hB hF _hd
    exact step_move (guard_none rfl) rfl _ rfl ((hF.other 0 rfl).trans S.v0)
  refine ⟨?_, ?_⟩
  · intro _a _w _hB hF _hd
    exact step_move (guard_none rfl) rfl _ rfl ((hF.other 0 rfl).trans S.v0)
  refine ⟨?_, ?_⟩
  · intro a _w _hB _hF hd
    have h13 : a.tmps.getD 13 undef = .pointer (some ⟨g, 0, none⟩) := hd.1 rfl
    exact rf_nil (guard_none rfl) rfl _ rfl _ h13 rfl
  refine ⟨?_, ?_⟩
  · intro a _w _hB _hF hd
    have h14 : a.tmps.getD 14 undef = .pointer (some ⟨g, 0, none⟩) := hd.1 rfl
    exact rf_faddr (guard_none rfl) rfl _ _ _ rfl _ _ 0 _ h14 (by omega) (fun _ _ => by kernel_rfl) rfl
  refine ⟨?_, ?_⟩
  · intro a _w hB _hF hd
    have h15 : a.tmps.getD 15 undef = .pointer (some ⟨g, 0, none⟩) := hd.1 rfl
    exact rf_loadB (guard_none rfl) rfl _ rfl _ _ h15 (rf_cell hB S.cw) rfl
  refine ⟨?_, ?_⟩
  · intro _a _w _hB hF _hd
    exact step_move (guard_none rfl) rfl _ rfl ((hF.other 5 rfl).trans S.v5)
  refine ⟨?_, ?_⟩
  · intro a _w _hB _hF hd
    have h17 : a.tmps.getD 17 undef = .int .i64 x := hd.1 rfl
    refine step_call (guard_none rfl) rfl _ _ (rf_call_run Try.func34 (by kernel_rfl) (by kernel_rfl) _ _ rfl) ?_
    simp only [List.map_toArray, List.map_cons, List.map_nil, Act.eval, h17]
    exact (put_any x S.lx S.ux _).mono (by rintro e w1 ⟨rfl, hb⟩; exact ⟨_, rfl, hb, rfl⟩)
  trivial
theorem wp3_any {Q : Exit → Act → World → Prop} {l : List Oper} (hl : opsOf 3 Try.f16 = l) (hend : ∀ w : World, Below w0.heap.size w0 w → wpList Try.prog l.toArray Q (l.drop 7) (putAll a0 [(12, .pointer (some ⟨g, 0, none⟩)), (13, .pointer (some ⟨g, 0, none⟩)), (14, .pointer (some ⟨g, 0, none⟩)), (15, .pointer (some ⟨g, 0, none⟩)), (16, .slice A m c), (17, .int .i64 x), (18, .string (encS x))]) w)
    (hendQ : ∀ w : World, Below w0.heap.size w0 w → wpList Try.prog l.toArray Q (pickL l [7, 0, 8, 9, 10]) (putAll a0 [(12, a0.tmps.getD 12 undef), (13, .pointer (some ⟨g, 0, none⟩)), (14, .pointer (some ⟨g, 0, none⟩)), (15, .pointer (some ⟨g, 0, none⟩)), (16, .slice A m c), (17, .int .i64 x), (18, .string (encS x))]) w) :
    (Code.region 3 l.toArray true).wp Try.prog Q a0 w0 := by
  subst hl
  refine region_head3 (wp3F g m c A x) wp3D 7 23 0 [0, 8, 9, 10] S.size rfl (by kernel_rfl) (by kernel_rfl) (by kernel_rfl) (wp3F_mono _ _ _ _ _) (wp3_ok S) ?_ ?_
  · intro a w hB hF h
    have hv : valsAre a [(12, .pointer (some ⟨g, 0, none⟩)), (13, .pointer (some ⟨g, 0, none⟩)), (14, .pointer (some ⟨g, 0, none⟩)), (15, .pointer (some ⟨g, 0, none⟩)), (16, .slice A m c), (17, .int .i64 x), (18, .string (encS x))] := by
      refine ⟨?_, ?_, ?_, ?_, ?_, ?_, ?_, trivial⟩
      · exact h 0 (some 12) (by omega) rfl
      · exact h 1 (some 13) (by omega) rfl
      · exact h 2 (some 14) (by omega) rfl
      · exact h 3 (some 15) (by omega) rfl
      · exact h 4 (some 16) (by omega) rfl
      · exact h 5 (some 17) (by omega) rfl
      · exact h 6 (some 18) (by omega) rfl
    rw [frame_is hF _ hv (by rfl) (by rfl)]
    exact hend w hB
  · intro a w hB hF h hq
    have hv : valsAre a [(12, a0.tmps.getD 12 undef), (13, .pointer (some ⟨g, 0, none⟩)), (14, .pointer (some ⟨g, 0, none⟩)), (15, .pointer (some ⟨g, 0, none⟩)), (16, .slice A m c), (17, .int .i64 x), (18, .string (encS x))] := by
      refine ⟨?_, ?_, ?_, ?_, ?_, ?_, ?_, trivial⟩
      · exact hq (some 12) rfl
      · exact h 1 (some 13) (by omega) (by omega) rfl
      · exact h 2 (some 14) (by omega) (by omega) rfl
      · exact h 3 (some 15) (by omega) (by omega) rfl
      · exact h 4 (some 16) (by omega) (by omega) rfl
      · exact h 5 (some 17) (by omega) (by omega) rfl
      · exact h 6 (some 18) (by omega) (by omega) rfl
    rw [frame_is hF _ hv (by rfl) (by rfl)]
    exact hendQ w hB
end

end Go.Proofs.Ytdbcmcdmipehgaa
