/-
  Walk of the reference's leaf Before. (Out of XRef.)
-/
import Derived.Test.YtkbocjmdbfddhaaLf
import Derived.Test.YtkbocjmdbfddhaaMem
import Derived.Test.YtkbocjmdbfddhaaPlain
import Derived.Deep.QuietTactic
namespace Go.Proofs.Ytkbocjmdbfddhaa
open Go.RowKit

set_option maxRecDepth 100000 in
set_option maxHeartbeats 1000000 in
theorem rbefore_any (x y : It) (w : World) :
    Calls Try.prog 71 #[.agg #[.int .i64 x.s, .int .i64 x.t, .int .i64 x.q, .int .i64 x.v], .agg #[.int .i64 y.s, .int .i64 y.t, .int .i64 y.q, .int .i64 y.v]] w
      fun e w' => e = .returned (.bool (beforeB x y)) ∧ Below w.heap.size w w' := by
  have hbox : ∀ o o', Below w.heap.size w ((w.alloc o).alloc o') := fun o o' => below_alloc ((Below.refl _ _).alloc (Nat.le_refl _) o) (Nat.le_refl _) o'
  have HBOX := Lib.hid hbox; clear hbox
  by_cases h1 : x.t < y.t
  · rw [show beforeB x y = true from decide_eq_true (by omega)]
    go_enter Try.func71, Try.ntmps71
    go_wp2
    go_ret
    exact ⟨rfl, HBOX.out _ _⟩
  · by_cases h2 : x.t = y.t
    · have h2' : (x.t == y.t) = true := by simp [h2]
      by_cases h3 : x.q < y.q
      · rw [show beforeB x y = true from decide_eq_true (by omega)]
        clear h2
        go_enter Try.func71, Try.ntmps71
        go_wp2
        go_ret
        exact ⟨rfl, HBOX.out _ _⟩
      · rw [show beforeB x y = false from decide_eq_false (by omega)]
        clear h2
        go_enter Try.func71, Try.ntmps71
        go_wp2
        go_ret
        exact ⟨rfl, HBOX.out _ _⟩
    · have h2' : (x.t == y.t) = false := by simp [h2]
      rw [show beforeB x y = false from decide_eq_false (by omega)]
      clear h2
      go_enter Try.func71, Try.ntmps71
      go_wp2
      go_ret
      exact ⟨rfl, HBOX.out _ _⟩

end Go.Proofs.Ytkbocjmdbfddhaa
