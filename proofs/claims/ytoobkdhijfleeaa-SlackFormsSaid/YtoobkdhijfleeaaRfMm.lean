/-
  max and min of two integers, as operations of a drawn region. (rf_max: out of XMkSetR.)
-/
import Derived.Test.YtoobkdhijfleeaaRfOne
namespace Go.Proofs.Ytoobkdhijfleeaa
open Go.RowKit

theorem rf_max {P : Program} {D : List (Option Tmp)} {Φ : Fact} {o : Oper} {a : Act} {w : World} (hw : Region.wanted o (yieldD D a.tmps) = true) {t : Tmp} (hd : o.dst = some t) (T : TypeId) (x y : Operand) (ho : o.op = .call { callee := .builtin .max, args := #[x, y], argTypes := #[T, T] }) (p q r : Int) (hx : a.eval x = .int .i64 p) (hy : a.eval y = .int .i64 q) (hr : (if q > p then q else p) = r) (h : Φ (.int .i64 r) w) : StepD P D Φ o a w :=
  step_val hw hd _ w (by subst hr; unfold execOp; rw [ho]; have e := run_max_int2 (P := P) (w := w) #[T, T] o.type .i64 .i64 p q; generalize a.eval = ev at hx hy ⊢; simp [hx, hy, go_sem, resolve, invoke, builtin, e, Result.andThen]) (Below.refl _ _) h
theorem rf_min {P : Program} {D : List (Option Tmp)} {Φ : Fact} {o : Oper} {a : Act} {w : World} (hw : Region.wanted o (yieldD D a.tmps) = true) {t : Tmp} (hd : o.dst = some t) (T : TypeId) (x y : Operand) (ho : o.op = .call { callee := .builtin .min, args := #[x, y], argTypes := #[T, T] }) (p q r : Int) (hx : a.eval x = .int .i64 p) (hy : a.eval y = .int .i64 q) (hr : (if q < p then q else p) = r) (h : Φ (.int .i64 r) w) : StepD P D Φ o a w :=
  step_val hw hd _ w (by subst hr; unfold execOp; rw [ho]; have e := run_min_int2 (P := P) (w := w) #[T, T] o.type .i64 .i64 p q; generalize a.eval = ev at hx hy ⊢; simp [hx, hy, go_sem, resolve, invoke, builtin, e, Result.andThen]) (Below.refl _ _) h

end Go.Proofs.Ytoobkdhijfleeaa
