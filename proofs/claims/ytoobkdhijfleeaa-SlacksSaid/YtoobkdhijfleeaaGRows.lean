/-
  Single operations of a region whose facts are shown one by one: rows of integers that are written out or handed out, an index into one, a sum that may go round, two bools held against each other.
-/
import Derived.Test.YtoobkdhijfleeaaRfOne
import Derived.Test.YtoobkdhijfleeaaIRow
import Derived.Great.BuildSlice
namespace Go.Proofs.Ytoobkdhijfleeaa
open Go.RowKit

/-- A row of integers. -/
def rowN (n : Nat) (xs : List Int) : Fact := fun v w => ∃ A c, v = .slice A n c ∧ Ints w A n xs
theorem rowN_mono (n : Nat) (xs : List Int) : Mono (rowN n xs) := fun _ _ _ hb ⟨A, c, e, h⟩ => ⟨A, c, e, h.below hb⟩
theorem ints_made (w : World) (xs : List Int) : Ints (w.alloc (.cells (ints xs) 3)) (some ⟨w.heap.size, 0, none⟩) xs.length xs :=
  ⟨rfl, fun _ => ⟨w.heap.size, 0, rfl, fun k hk => by
    rw [Nat.zero_add]
    exact ((Has.made w 3 (ints xs)).cell k).trans (ints_get xs hk)⟩⟩
section
variable {D : List (Option Tmp)} {Φ : Fact} {o : Oper} {a : Act} {w : World}
theorem rf_list1I (hw : Region.wanted o (yieldD D a.tmps) = true) {t : Tmp} (hd : o.dst = some t) (x : Operand) (ho : o.op = .buildSlice 22 1 #[(0, x)]) (p : Int) (hx : a.eval x = .int .i64 p) (h : ∀ v w', rowN 1 [p] v w' → Φ v w') : StepD Try.prog D Φ o a w := by
  obtain ⟨i0, hi, hz, hs0, hy0⟩ := rinfo_parts
  have e := run_buildSlice (P := Try.prog) w 22 3 1 #[(0, .int .i64 p)] (ints [p]) i0 (.int .i64 0) Try.underlying22 hi hz (by omega) (by omega) (by rw [hs0]; simp [go_sem, ints])
  refine step_val hw hd (.slice (some ⟨w.heap.size, 0, none⟩) 1 1) (w.alloc (.cells (ints [p]) 3)) ?_ ((Below.refl _ w).alloc (Nat.le_refl _) _) (h _ _ ⟨_, _, rfl, ints_made w [p]⟩)
  unfold execOp
  rw [ho]
  generalize a.eval = ev at hx ⊢
  simp only [List.map_toArray, List.map_cons, List.map_nil, hx, Sem.run_bind, e, Result.andThen_ok]
  rfl
theorem rf_list2I (hw : Region.wanted o (yieldD D a.tmps) = true) {t : Tmp} (hd : o.dst = some t) (x y : Operand) (ho : o.op = .buildSlice 22 2 #[(0, x), (1, y)]) (p q : Int) (hx : a.eval x = .int .i64 p) (hy : a.eval y = .int .i64 q) (h : ∀ v w', rowN 2 [p, q] v w' → Φ v w') : StepD Try.prog D Φ o a w := by
  obtain ⟨i0, hi, hz, hs0, hy0⟩ := rinfo_parts
  have e := run_buildSlice (P := Try.prog) w 22 3 2 #[(0, .int .i64 p), (1, .int .i64 q)] (ints [p, q]) i0 (.int .i64 0) Try.underlying22 hi hz (by omega) (by omega) (by rw [hs0]; simp [go_sem, ints])
  refine step_val hw hd (.slice (some ⟨w.heap.size, 0, none⟩) 2 2) (w.alloc (.cells (ints [p, q]) 3)) ?_ ((Below.refl _ w).alloc (Nat.le_refl _) _) (h _ _ ⟨_, _, rfl, ints_made w [p, q]⟩)
  unfold execOp
  rw [ho]
  generalize a.eval = ev at hx hy ⊢
  simp only [List.map_toArray, List.map_cons, List.map_nil, hx, hy, Sem.run_bind, e, Result.andThen_ok]
  rfl
theorem rf_addw (hw : Region.wanted o (yieldD D a.tmps) = true) {t : Tmp} (hd : o.dst = some t) (x y : Operand) (ho : o.op = .binOp .add 3 x y 3) (p q r : Int) (hx : a.eval x = .int .i64 p) (hy : a.eval y = .int .i64 q) (hr : wrap64 (p + q) = r) (h : Φ (.int .i64 r) w) : StepD Try.prog D Φ o a w :=
  step_val hw hd _ w (by subst hr; unfold execOp; rw [ho]; have e := IntWalk.i64_left (p + q); generalize a.eval = ev at hx hy ⊢; simp [hx, hy, go_sem, e]) (Below.refl _ _) h
theorem rf_neqb (hw : Region.wanted o (yieldD D a.tmps) = true) {t : Tmp} (hd : o.dst = some t) (x y : Operand) (ho : o.op = .binOp .neq 4 x y 4) (p q b : Bool) (hx : a.eval x = .bool p) (hy : a.eval y = .bool q) (hb : (p != q) = b) (h : Φ (.bool b) w) : StepD Try.prog D Φ o a w :=
  step_val hw hd _ w (by subst hb; unfold execOp; rw [ho]; generalize a.eval = ev at hx hy ⊢; cases p <;> cases q <;> simp [hx, hy, go_sem]) (Below.refl _ _) h
set_option maxRecDepth 100000 in
theorem rf_indexI (hw : Region.wanted o (yieldD D a.tmps) = true) {t : Tmp} (hd : o.dst = some t) (x i : Operand) (ho : o.op = .indexAddr 22 x i)
    (b f n c k : Nat) (z : Int) (hx : a.eval x = .slice (some ⟨b, f, none⟩) n c) (hi : a.eval i = .int .i64 z) (hz : z = (k : Int)) (hk : k < n) (h : Φ (.pointer (some ⟨b, f + k, none⟩)) w) : StepD Try.prog D Φ o a w :=
  rf_index (s := 1) hw hd 22 x i ho Try.underlying22 (fun _ => by kernel_rfl) b f n c k z hx hi hz hk (by rw [Nat.mul_one]; exact h)
end

end Go.Proofs.Ytoobkdhijfleeaa
