/-
  Walks of the reference's leaves: within, ItemMay. (Out of XRfB, XRef.)
-/
import Derived.Test.YtkbocjmdbfddhaaRWi
import Derived.Test.YtkbocjmdbfddhaaMem
import Derived.Test.YtkbocjmdbfddhaaPlain
import Derived.Deep.QuietTactic
namespace Go.Proofs.Ytkbocjmdbfddhaa
open Go.RowKit

theorem cmp_chain {x : It} {b : Bool} (h : b = itemB x) : Ending.returned (.bool b) = .returned (.bool (itemB x)) := by rw [h]
set_option maxRecDepth 100000 in
set_option maxHeartbeats 1000000 in
theorem ritem_any (x : It) (w : World) :
    Calls Try.prog 60 #[.agg #[.int .i64 x.s, .int .i64 x.t, .int .i64 x.q, .int .i64 x.v]] w fun e w' => e = .returned (.bool (itemB x)) ∧ Below w.heap.size w w' := by
  by_cases s1 : 0 ≤ x.s
  · by_cases s2 : x.s ≤ 1048575
    · cases t1 : wi x.t (-1099511627776) 1099511627776
      · rw [itemB_false (by have := t1; unfold wi at this; simp only [decide_eq_false_iff_not] at this; omega)]
        go_enter Try.func60, Try.ntmps60
        go_wp2_with (go_at_call 45; refine (rwithin_any _ 1099511627776 _ (by omega) (by omega)).mono ?_; rintro e w' ⟨rfl, rfl⟩)
        go_ret
        exact ⟨rfl, (Below.refl _ _).alloc (Nat.le_refl _) _⟩
      · have t2 := wi_true t1
        by_cases q1 : 1 ≤ x.q
        · by_cases q2 : x.q ≤ 1073741823
          · cases v1 : wi x.v (-1099511627776) 1099511627776
            · rw [itemB_false (by have := v1; unfold wi at this; simp only [decide_eq_false_iff_not] at this; omega)]
              go_enter Try.func60, Try.ntmps60
              go_wp2_with (go_at_call 45; refine (rwithin_any _ 1099511627776 _ (by omega) (by omega)).mono ?_; rintro e w' ⟨rfl, rfl⟩)
              go_ret
              exact ⟨rfl, (Below.refl _ _).alloc (Nat.le_refl _) _⟩
            · have v2 := wi_true v1
              rw [itemB_iff.2 (by omega)]
              go_enter Try.func60, Try.ntmps60
              go_wp2_with (go_at_call 45; refine (rwithin_any _ 1099511627776 _ (by omega) (by omega)).mono ?_; rintro e w' ⟨rfl, rfl⟩)
              go_ret
              exact ⟨rfl, (Below.refl _ _).alloc (Nat.le_refl _) _⟩
          · rw [itemB_false (by omega)]
            go_enter Try.func60, Try.ntmps60
            go_wp2_with (go_at_call 45; refine (rwithin_any _ 1099511627776 _ (by omega) (by omega)).mono ?_; rintro e w' ⟨rfl, rfl⟩)
            go_ret
            exact ⟨rfl, (Below.refl _ _).alloc (Nat.le_refl _) _⟩
        · rw [itemB_false (by omega)]
          go_enter Try.func60, Try.ntmps60
          go_wp2_with (go_at_call 45; refine (rwithin_any _ 1099511627776 _ (by omega) (by omega)).mono ?_; rintro e w' ⟨rfl, rfl⟩)
          go_ret
          exact ⟨rfl, (Below.refl _ _).alloc (Nat.le_refl _) _⟩
    · rw [itemB_false (by omega)]
      go_enter Try.func60, Try.ntmps60
      go_wp2_with fail
      go_ret
      exact ⟨rfl, (Below.refl _ _).alloc (Nat.le_refl _) _⟩
  · rw [itemB_false (by omega)]
    go_enter Try.func60, Try.ntmps60
    go_wp2_with fail
    go_ret
    exact ⟨rfl, (Below.refl _ _).alloc (Nat.le_refl _) _⟩

end Go.Proofs.Ytkbocjmdbfddhaa
