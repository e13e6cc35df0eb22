/-
  x & k, x >> k and sums, an element's address: as operations of a drawn region.
-/
import Derived.Test.YtmhmekmacdkdgaaRfOne
import Derived.Test.YtmhmekmacdkdgaaMask
namespace Go.Proofs.Ytmhmekmacdkdgaa
open Go.RowKit

theorem mask1 (n : Int) : bits .and .i64 n 1 = n % 2 := mask_of n 1 1 (by decide) (by decide)
theorem mask31 (n : Int) : bits .and .i64 n 31 = n % 32 := mask_of n 5 31 (by decide) (by decide)
theorem mask127 (n : Int) : bits .and .i64 n 127 = n % 128 := mask_of n 7 127 (by decide) (by decide)
section
variable {D : List (Option Tmp)} {Φ : Fact} {o : Oper} {a : Act} {w : World}
theorem rf_and (hw : Region.wanted o (yieldD D a.tmps) = true) {t : Tmp} (hd : o.dst = some t) (x y : Operand) (ho : o.op = .binOp .and 3 x y 3) (p q r : Int) (hx : a.eval x = .int .i64 p) (hy : a.eval y = .int .i64 q) (hr : bits .and .i64 p q = r) (h : Φ (.int .i64 r) w) : StepD Try.prog D Φ o a w := by
  refine step_val hw hd _ _ ?_ (Below.refl _ _) h
  unfold execOp
  rw [ho]
  simp only [hx, hy]
  simp [go_sem, hr]
theorem rf_shr1 (hw : Region.wanted o (yieldD D a.tmps) = true) {t : Tmp} (hd : o.dst = some t) (x y : Operand) (ho : o.op = .binOp .shr 3 x y 39) (m : Int) (hx : a.eval x = .int .i64 m) (hy : a.eval y = .int .u64 1)
    (h : Φ (.int .i64 (m / 2)) w) : StepD Try.prog D Φ o a w := by
  refine step_val hw hd _ _ ?_ (Below.refl _ _) h
  unfold execOp
  rw [ho]
  simp only [hx, hy]
  simp [go_sem]
theorem rf_shr2 (hw : Region.wanted o (yieldD D a.tmps) = true) {t : Tmp} (hd : o.dst = some t) (x y : Operand) (ho : o.op = .binOp .shr 3 x y 39) (m : Int) (hx : a.eval x = .int .i64 m) (hy : a.eval y = .int .u64 2)
    (h : Φ (.int .i64 (m / 4)) w) : StepD Try.prog D Φ o a w := by
  refine step_val hw hd _ _ ?_ (Below.refl _ _) h
  unfold execOp
  rw [ho]
  simp only [hx, hy]
  simp [go_sem]
theorem rf_shr7 (hw : Region.wanted o (yieldD D a.tmps) = true) {t : Tmp} (hd : o.dst = some t) (x y : Operand) (ho : o.op = .binOp .shr 3 x y 39) (m : Int) (hx : a.eval x = .int .i64 m) (hy : a.eval y = .int .u64 7)
    (h : Φ (.int .i64 (m / 128)) w) : StepD Try.prog D Φ o a w := by
  refine step_val hw hd _ _ ?_ (Below.refl _ _) h
  unfold execOp
  rw [ho]
  simp only [hx, hy]
  simp [go_sem]
theorem rf_addr (hw : Region.wanted o (yieldD D a.tmps) = true) {t : Tmp} (hd : o.dst = some t) (x y : Operand) (ho : o.op = .binOp .add 3 x y 3) (p q r : Int) (hx : a.eval x = .int .i64 p) (hy : a.eval y = .int .i64 q) (hr : p + q = r) (h1 : -9223372036854775808 ≤ r) (h2 : r ≤ 9223372036854775807) (h : Φ (.int .i64 r) w) : StepD Try.prog D Φ o a w := by
  subst hr
  exact rf_add hw hd x y ho p q hx hy h1 h2 h
theorem rf_subq (hw : Region.wanted o (yieldD D a.tmps) = true) {t : Tmp} (hd : o.dst = some t) (x y : Operand) (ho : o.op = .binOp .sub 3 x y 3) (p q r : Int) (hx : a.eval x = .int .i64 p) (hy : a.eval y = .int .i64 q) (hr : p - q = r) (h1 : -9223372036854775808 ≤ r) (h2 : r ≤ 9223372036854775807) (h : Φ (.int .i64 r) w) : StepD Try.prog D Φ o a w := by
  subst hr
  exact rf_sub hw hd x y ho p q hx hy h1 h2 h
theorem rf_indexN (hw : Region.wanted o (yieldD D a.tmps) = true) {t : Tmp} (hd : o.dst = some t) (x i : Operand) (ho : o.op = .indexAddr 23 x i)
    (b f n c k : Nat) (z : Int) (hx : a.eval x = .slice (some ⟨b, f, none⟩) n c) (hi : a.eval i = .int .i64 z) (hz : z = (k : Int)) (hk : k < n) (h : Φ (.pointer (some ⟨b, f + k, none⟩)) w) : StepD Try.prog D Φ o a w :=
  rf_index (s := 1) hw hd 23 x i ho Try.underlying23 (fun _ => by kernel_rfl) b f n c k z hx hi hz hk (by rw [Nat.mul_one]; exact h)
end

end Go.Proofs.Ytmhmekmacdkdgaa
