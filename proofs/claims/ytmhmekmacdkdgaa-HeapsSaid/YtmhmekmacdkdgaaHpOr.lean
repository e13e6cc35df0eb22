/-
  Walk: cmp.Or at three values.
-/
import Derived.Test.YtmhmekmacdkdgaaHpP
import Derived.Test.YtmhmekmacdkdgaaIt0
import Derived.Test.YtmhmekmacdkdgaaCmp
namespace Go.Proofs.Ytmhmekmacdkdgaa
open Go.RowKit

def cmp4 (x y : It) : Int := orI (cmpT x y) (orI (cmpI x.s y.s) (cmpI x.v y.v))
theorem cmp4_lt (x y : It) : decide (cmp4 x y < 0) = lt4 x y := by
  unfold cmp4 orI cmpT cmpI lt4
  by_cases h : (x.t < y.t ∨ (x.t = y.t ∧ (x.q < y.q ∨ (x.q = y.q ∧ (x.s < y.s ∨ (x.s = y.s ∧ x.v < y.v))))))
  · rw [decide_eq_true h]
    refine decide_eq_true ?_
    (repeat' split) <;> omega
  · rw [decide_eq_false h]
    refine decide_eq_false ?_
    (repeat' split) <;> omega

set_option maxRecDepth 100000 in
set_option maxHeartbeats 400000 in
theorem or3_any (a b c : Int) (g : Nat) (w : World) (h0 : w.cell? ⟨g, 0, none⟩ = some (.int .i64 a)) (h1 : w.cell? ⟨g, 1, none⟩ = some (.int .i64 b)) (h2 : w.cell? ⟨g, 2, none⟩ = some (.int .i64 c)) :
    Calls Try.prog 39 #[.slice (some ⟨g, 0, none⟩) 3 3] w fun e w' => e = .returned (.int .i64 (orI a (orI b c))) ∧ w = w' := by
  unfold orI
  by_cases ha : a = 0
  · subst ha
    rw [if_pos rfl]
    by_cases hb : b = 0
    · subst hb
      rw [if_pos rfl]
      by_cases hc : c = 0
      · subst hc
        go_enter Try.func39, Try.ntmps39
        go_wp2
        refine wp_loop_rounds 4 ?_; rw [rounds_succ]
        go_wp2
        rw [rounds_succ]
        go_wp2
        rw [rounds_succ]
        go_wp2
        rw [rounds_succ]
        go_wp2
        go_ret
        exact ⟨rfl, rfl⟩
      · go_enter Try.func39, Try.ntmps39
        go_wp2
        refine wp_loop_rounds 3 ?_; rw [rounds_succ]
        go_wp2
        rw [rounds_succ]
        go_wp2
        rw [rounds_succ]
        go_wp2
        go_ret
        exact ⟨rfl, rfl⟩
    · rw [if_neg hb]
      go_enter Try.func39, Try.ntmps39
      go_wp2
      refine wp_loop_rounds 2 ?_; rw [rounds_succ]
      go_wp2
      rw [rounds_succ]
      go_wp2
      go_ret
      exact ⟨rfl, rfl⟩
  · rw [if_neg ha]
    go_enter Try.func39, Try.ntmps39
    go_wp2
    refine wp_loop_rounds 1 ?_; rw [rounds_succ]
    go_wp2
    go_ret
    exact ⟨rfl, rfl⟩

end Go.Proofs.Ytmhmekmacdkdgaa
