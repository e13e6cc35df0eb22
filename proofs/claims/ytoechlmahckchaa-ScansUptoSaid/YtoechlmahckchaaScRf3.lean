/-
  Single operations more of the scan laws' drawn regions: a pointer that is checked, a text that is loaded.
-/
import Derived.Test.YtoechlmahckchaaScTwoL
import Derived.Test.YtoechlmahckchaaG11l
namespace Go.Proofs.Ytoechlmahckchaa
open Go.RowKit

theorem ButS.cell {gs : List Nat} {w w' : World} (h : ButS gs w w') {b k : Nat} {v : Value} (hc : w.cell? ⟨b, k, none⟩ = some v) (hb : b ∉ gs) : w'.cell? ⟨b, k, none⟩ = some v :=
  (World.cell?_of_block (w := w) (w' := w') (a := ⟨b, k, none⟩) (h.other b (block_lt_of_cell hc) hb)).trans hc
section
variable {D : List (Option Tmp)} {Φ : Fact} {o : Oper} {a : Act} {w : World}
theorem rf_nilC (hw : Region.wanted o (yieldD D a.tmps) = true) {t : Tmp} (hd : o.dst = some t) (x : Operand) (ho : o.op = .nilCheck x) (g : Addr) (hx : a.eval x = .pointer (some g)) (h : Φ (.pointer (some g)) w) : StepD Try.prog D Φ o a w :=
  step_val hw hd _ w (by unfold execOp; rw [ho]; generalize a.eval = ev at hx ⊢; simp [hx, go_sem]) (Below.refl _ _) h
theorem rf_loadT (hw : Region.wanted o (yieldD D a.tmps) = true) {t : Tmp} (hd : o.dst = some t) (x : Operand) (ho : o.op = .load 9 x) (g k : Nat) (hx : a.eval x = .pointer (some ⟨g, k, none⟩)) (s : ByteArray)
    (hc : w.cell? ⟨g, k, none⟩ = some (.string s)) (h : Φ (.string s) w) : StepD Try.prog D Φ o a w := by
  have hrun : (Instr.loadAt 9 (.pointer (some ⟨g, k, none⟩))).run Try.prog w = .ok (.string s) w := by simp [go_sem, hc, Instr.loadAt]
  refine step_val hw hd _ w ?_ (Below.refl _ _) h
  unfold execOp
  rw [ho]
  generalize a.eval = ev at hx ⊢
  simp [hx, hrun]
end

end Go.Proofs.Ytoechlmahckchaa
