/-
  Walks: math/bits.Mul of one and a small number; a row of which so many cells were filled.
-/
import Derived.Test.YtgibmcljlaoahaaProg
import Derived.Test.YtgibmcljlaoahaaMem
import Derived.Laws.CopyOwn
import Derived.BigQuiet
import Derived.WalkSpells
namespace Go.Proofs.Ytgibmcljlaoahaa
open Go.RowKit

/-- A row of n cells, the first m of which hold z. -/
def partL (z : Int) (n m : Nat) : List Value := List.replicate m (Value.int .i64 z) ++ List.replicate (n - m) (Value.int .i64 0)
theorem partL_len (z : Int) {n m : Nat} (h : m ≤ n) : (partL z n m).length = n := by simp [partL]; omega
theorem partL_zero (z : Int) (n : Nat) : partL z n 0 = List.replicate n (Value.int .i64 0) := by simp [partL]
theorem partL_full (z : Int) (n : Nat) : (partL z n n).toArray = ints (List.replicate n z) := by simp [partL, ints]
theorem partL_more (z : Int) {n m k : Nat} (h : m + k ≤ n) : splice (partL z n m) m (List.replicate k (Value.int .i64 z)) = partL z n (m + k) := by
  unfold splice partL
  rw [List.length_replicate, List.take_append_of_le_length (by simp), List.take_of_length_le (by simp), List.drop_append, List.length_replicate]
  rw [List.drop_of_length_le (by simp), List.nil_append, List.drop_replicate, ← List.append_assoc, List.replicate_append_replicate]
  congr 2
  omega
theorem partL_get (z : Int) {n m j : Nat} (h : j < m) : (partL z n m)[j]? = some (.int .i64 z) := by
  unfold partL
  rw [List.getElem?_append_left (by simpa using h)]
  simp [h]

set_option maxRecDepth 100000 in
set_option maxHeartbeats 2000000 in
theorem bmul64_any (n : Nat) (h : 1 ≤ n ∧ n ≤ 8) (w : World) :
    Calls Try.prog 23 #[.int .u64 1, .int .u64 n] w fun e w' => e = .returned (.tuple #[.int .u64 0, .int .u64 n]) ∧ w = w' := by
  obtain rfl | rfl | rfl | rfl | rfl | rfl | rfl | rfl : n = 1 ∨ n = 2 ∨ n = 3 ∨ n = 4 ∨ n = 5 ∨ n = 6 ∨ n = 7 ∨ n = 8 := by omega
  all_goals
    go_enter Try.func23, Try.ntmps23
    go_wp2
    go_ret2
    exact ⟨rfl, rfl⟩
set_option maxHeartbeats 400000 in
theorem bmul_any (n : Nat) (h : 1 ≤ n ∧ n ≤ 8) (w : World) :
    Calls Try.prog 21 #[.int .u64 1, .int .u64 n] w fun e w' => e = .returned (.tuple #[.int .u64 0, .int .u64 n]) ∧ w = w' := by
  go_enter Try.func21, Try.ntmps21
  go_wp2_with (go_at_call 23; refine (bmul64_any n h _).mono ?_; rintro e w' ⟨rfl, rfl⟩)
  go_ret2
  exact ⟨rfl, rfl⟩

end Go.Proofs.Ytgibmcljlaoahaa
