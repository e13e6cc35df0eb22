/-
  Single operations in a region whose facts are shown one by one: a field's address, a number or an item out of memory, items compared. No program's own steps here.
-/
import Derived.Test.YtigjnmjmjhbigaaEnd
namespace Go.Proofs.Ytigjnmjmjhbigaa
open Go.RowKit

section
variable {D : List (Option Tmp)} {Φ : Fact} {o : Oper} {a : Act} {w : World}
theorem step_faddr (hw : Region.wanted o (yieldD D a.tmps) = true) {t : Tmp} (hd : o.dst = some t) (T : TypeId) (x : Operand) (f : Nat) (ho : o.op = .fieldAddr T x f) (g i j : Nat) (hx : a.eval x = .pointer (some ⟨g, i, none⟩))
    (hrun : ∀ w : World, (Instr.fieldAt T (.pointer (some ⟨g, i, none⟩)) f).run Try.prog w = .ok (.pointer (some ⟨g, j, none⟩)) w) (h : Φ (.pointer (some ⟨g, j, none⟩)) w) : StepD Try.prog D Φ o a w := by
  refine step_val hw hd _ _ ?_ (Below.refl _ _) h
  unfold execOp
  rw [ho]
  simp only [hx, Sem.run_bind, hrun, Result.andThen_ok]
  rfl
theorem loadi_run (g k : Nat) (n : Int) (w : World) (h : w.cell? ⟨g, k, none⟩ = some (.int .i64 n)) : (Instr.loadAt 3 (.pointer (some ⟨g, k, none⟩))).run Try.prog w = .ok (.int .i64 n) w := by simp [go_sem, h, Instr.loadAt]
theorem step_loadi (hw : Region.wanted o (yieldD D a.tmps) = true) {t : Tmp} (hd : o.dst = some t) (x : Operand) (ho : o.op = .load 3 x) (g k : Nat) (hx : a.eval x = .pointer (some ⟨g, k, none⟩)) (n : Int)
    (hc : w.cell? ⟨g, k, none⟩ = some (.int .i64 n)) (h : Φ (.int .i64 n) w) : StepD Try.prog D Φ o a w := by
  refine step_val hw hd _ _ ?_ (Below.refl _ _) h
  unfold execOp
  rw [ho]
  simp only [hx, Sem.run_bind, loadi_run g k n w hc, Result.andThen_ok]
  rfl
abbrev itemV (x : It) : Value := .agg #[.int .i64 x.s, .int .i64 x.t, .int .i64 x.q, .int .i64 x.v]
def itemL (x : It) : List Value := [.int .i64 x.s, .int .i64 x.t, .int .i64 x.q, .int .i64 x.v]
theorem step_loadI (hw : Region.wanted o (yieldD D a.tmps) = true) {t : Tmp} (hd : o.dst = some t) (x : Operand) (ho : o.op = .load 23 x) (g k : Nat) (hx : a.eval x = .pointer (some ⟨g, k, none⟩)) (y : It)
    (hc : w.rangeAt g k (itemL y)) (h : Φ (itemV y) w) : StepD Try.prog D Φ o a w := by
  intro Q
  rw [if_pos hw]
  exact wp_load_mid 23 x ho g k hx (itemL y) _ hc Try.underlying23 rfl (by kernel_rfl) ⟨_, rfl, (fun hn => by rw [hd] at hn; cases hn), Below.refl _ _, h⟩
theorem step_eqI (hw : Region.wanted o (yieldD D a.tmps) = true) {t : Tmp} (hd : o.dst = some t) (x y : Operand) (ho : o.op = .binOp .eql 23 x y 23) (z : It) (hx : a.eval x = itemV z) (hy : a.eval y = itemV z) (h : Φ (.bool true) w) : StepD Try.prog D Φ o a w :=
  step_val hw hd _ _ (by unfold execOp; rw [ho]; simp only [hx, hy]; simp [go_sem]) (Below.refl _ _) h
theorem range_first {g : Nat} {c : Ac} {A : Option Addr} {k m : Nat} (h : Has w g 29 (accC c A k m)) : w.rangeAt g 4 (itemL c.f) := fun j v hj => by
  rw [h.cell]
  match j, hj with
  | 0, hj => exact hj
  | 1, hj => exact hj
  | 2, hj => exact hj
  | 3, hj => exact hj
  | j + 4, hj => simp [itemL] at hj
theorem range_last {g : Nat} {c : Ac} {A : Option Addr} {k m : Nat} (h : Has w g 29 (accC c A k m)) : w.rangeAt g 8 (itemL c.l) := fun j v hj => by
  rw [h.cell]
  match j, hj with
  | 0, hj => exact hj
  | 1, hj => exact hj
  | 2, hj => exact hj
  | 3, hj => exact hj
  | j + 4, hj => simp [itemL] at hj
theorem range_item {g : Nat} {x : It} (h : Has w g 23 #[.int .i64 x.s, .int .i64 x.t, .int .i64 x.q, .int .i64 x.v]) : w.rangeAt g 0 (itemL x) := fun j v hj => by
  rw [h.cell]
  match j, hj with
  | 0, hj => exact hj
  | 1, hj => exact hj
  | 2, hj => exact hj
  | 3, hj => exact hj
  | j + 4, hj => simp [itemL] at hj
end

end Go.Proofs.Ytigjnmjmjhbigaa
