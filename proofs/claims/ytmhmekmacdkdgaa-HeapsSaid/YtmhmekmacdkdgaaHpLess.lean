/-
  Walk: the reference's less.
-/
import Derived.Test.YtmhmekmacdkdgaaHpP
import Derived.Test.YtmhmekmacdkdgaaMem
import Derived.Test.YtmhmekmacdkdgaaLf
namespace Go.Proofs.Ytmhmekmacdkdgaa
open Go.RowKit

set_option maxRecDepth 100000 in
set_option maxHeartbeats 1000000 in
theorem rless_any (x y : It) (w : World) :
    Calls Try.prog 37 #[.agg #[.int .i64 x.s, .int .i64 x.t, .int .i64 x.q, .int .i64 x.v], .agg #[.int .i64 y.s, .int .i64 y.t, .int .i64 y.q, .int .i64 y.v]] w
      fun e w' => e = .returned (.bool (lt4 x y)) ∧ Below w.heap.size w w' := by
  have hbox : ∀ o o', Below w.heap.size w ((w.alloc o).alloc o') := fun o o' => below_alloc ((Below.refl _ _).alloc (Nat.le_refl _) o) (Nat.le_refl _) o'
  have HBOX := Lib.hid hbox; clear hbox
  by_cases h1 : x.t = y.t
  · have g1 : (x.t == y.t) = true := by simp [h1]
    have g1' : (x.t != y.t) = false := by simp [h1]
    by_cases h2 : x.q = y.q
    · have g2 : (x.q == y.q) = true := by simp [h2]
      have g2' : (x.q != y.q) = false := by simp [h2]
      by_cases h3 : x.s = y.s
      · have g3 : (x.s == y.s) = true := by simp [h3]
        have g3' : (x.s != y.s) = false := by simp [h3]
        rw [show lt4 x y = decide (x.v < y.v) by unfold lt4; congr 1; simp [h1, h2, h3]]
        clear h1 h2 h3
        go_enter Try.func37, Try.ntmps37
        go_wp2
        go_ret
        exact ⟨rfl, HBOX.out _ _⟩
      · have g3 : (x.s == y.s) = false := by simp [h3]
        have g3' : (x.s != y.s) = true := by simp [h3]
        rw [show lt4 x y = decide (x.s < y.s) by unfold lt4; congr 1; simp [h1, h2, h3]]
        clear h1 h2 h3
        go_enter Try.func37, Try.ntmps37
        go_wp2
        go_ret
        exact ⟨rfl, HBOX.out _ _⟩
    · have g2 : (x.q == y.q) = false := by simp [h2]
      have g2' : (x.q != y.q) = true := by simp [h2]
      rw [show lt4 x y = decide (x.q < y.q) by unfold lt4; congr 1; simp [h1, h2]]
      clear h1 h2
      go_enter Try.func37, Try.ntmps37
      go_wp2
      go_ret
      exact ⟨rfl, HBOX.out _ _⟩
  · have g1 : (x.t == y.t) = false := by simp [h1]
    have g1' : (x.t != y.t) = true := by simp [h1]
    rw [show lt4 x y = decide (x.t < y.t) by unfold lt4; congr 1; simp [h1]]
    clear h1
    go_enter Try.func37, Try.ntmps37
    go_wp2
    go_ret
    exact ⟨rfl, HBOX.out _ _⟩

end Go.Proofs.Ytmhmekmacdkdgaa
