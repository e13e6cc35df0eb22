/-
  Walks: wire.May and the reference's OpMay (written by gen/wimay.py).
-/
import Derived.Test.YtoechlmahckchaaG11h
import Derived.Test.YtoechlmahckchaaG11e
namespace Go.Proofs.Ytoechlmahckchaa
open Go.RowKit

set_option maxHeartbeats 400000 in
theorem src_yes (so : Int) (h : 0 ≤ so) (h2 : so ≤ 7) (w : World) :
    Calls Try.prog 50 #[.int .i64 so] w fun e w' => e = .returned (.bool true) ∧ w = w' := by
  go_enter Try.func50, Try.ntmps50
  go_wp2_with (go_at_call 26; refine (within_yes _ _ _ _ (by omega) (by omega)).mono ?_; rintro e w' ⟨rfl, rfl⟩)
  go_ret
  exact ⟨rfl, rfl⟩
set_option maxHeartbeats 400000 in
theorem src_no (so : Int) (h : so < 0 ∨ 7 < so) (w : World) :
    Calls Try.prog 50 #[.int .i64 so] w fun e w' => e = .returned (.bool false) ∧ w = w' := by
  go_enter Try.func50, Try.ntmps50
  go_wp2_with (go_at_call 26; refine (within_no _ _ _ _ (by omega)).mono ?_; rintro e w' ⟨rfl, rfl⟩)
  go_ret
  exact ⟨rfl, rfl⟩
set_option maxHeartbeats 400000 in
theorem rin_yes (x m : Int) (hm : 0 ≤ m) (hm2 : m ≤ 9223372036854775807) (h : -m ≤ x) (h2 : x ≤ m) (w : World) :
    Calls Try.prog 53 #[.int .i64 x, .int .i64 m] w fun e w' => e = .returned (.bool true) ∧ w = w' := by
  go_enter Try.func53, Try.ntmps53
  go_wp2
  go_ret
  exact ⟨rfl, rfl⟩
set_option maxHeartbeats 400000 in
theorem rin_no (x m : Int) (hm : 0 ≤ m) (hm2 : m ≤ 9223372036854775807) (h : x < -m ∨ m < x) (w : World) :
    Calls Try.prog 53 #[.int .i64 x, .int .i64 m] w fun e w' => e = .returned (.bool false) ∧ w = w' := by
  by_cases h1 : -m ≤ x
  · have h2 : ¬ x ≤ m := by omega
    go_enter Try.func53, Try.ntmps53
    go_wp2
    go_ret
    exact ⟨rfl, rfl⟩
  · go_enter Try.func53, Try.ntmps53
    go_wp2
    go_ret
    exact ⟨rfl, rfl⟩

theorem bool_eq {a b c : Bool} (h : a = b) (k : a = c) : b = c := h.symm.trans k
theorem ret_bool {a b c : Bool} (h : a = b) (k : a = c) : Ending.returned (.bool b) = .returned (.bool c) := by rw [bool_eq h k]

set_option maxRecDepth 100000 in
set_option maxHeartbeats 1000000 in
theorem may0 (so se ti va : Int) (v : Bool) (hv : mayB 0 so se ti va = v) (w : World) :
    Calls Try.prog 41 #[.agg #[.int .i64 0, .int .i64 so, .int .i64 se, .int .i64 ti, .int .i64 va]] w fun e w' => e = .returned (.bool v) ∧ Below w.heap.size w w' := by
  have hb := fun o => (Below.refl w.heap.size w).alloc (Nat.le_refl _) o
  by_cases h1 : 0 ≤ so ∧ so ≤ 7
  · by_cases h2 : 0 ≤ se ∧ se ≤ 1048575
    · by_cases h3 : -1099511627776 ≤ ti ∧ ti ≤ 1099511627776
      · by_cases h4 : -1099511627776 ≤ va ∧ va ≤ 1099511627776
        · obtain rfl := bool_eq (mayB_yes (by unfold MayO; omega)) hv
          clear hv
          go_enter Try.func41, Try.ntmps41
          go_wp2_with (first
            | (go_at_call 50; refine (src_yes _ (by omega) (by omega) _).mono ?_; rintro e w' ⟨rfl, rfl⟩)
            | (go_at_call 50; refine (src_no _ (by omega) _).mono ?_; rintro e w' ⟨rfl, rfl⟩)
            | (go_at_call 26; refine (within_yes _ _ _ _ (by omega) (by omega)).mono ?_; rintro e w' ⟨rfl, rfl⟩)
            | (go_at_call 26; refine (within_no _ _ _ _ (by omega)).mono ?_; rintro e w' ⟨rfl, rfl⟩))
          go_ret
          exact ⟨rfl, hb _⟩
        · obtain rfl := bool_eq (mayB_no (by unfold MayO; omega)) hv
          clear hv
          go_enter Try.func41, Try.ntmps41
          go_wp2_with (first
            | (go_at_call 50; refine (src_yes _ (by omega) (by omega) _).mono ?_; rintro e w' ⟨rfl, rfl⟩)
            | (go_at_call 50; refine (src_no _ (by omega) _).mono ?_; rintro e w' ⟨rfl, rfl⟩)
            | (go_at_call 26; refine (within_yes _ _ _ _ (by omega) (by omega)).mono ?_; rintro e w' ⟨rfl, rfl⟩)
            | (go_at_call 26; refine (within_no _ _ _ _ (by omega)).mono ?_; rintro e w' ⟨rfl, rfl⟩))
          go_ret
          exact ⟨rfl, hb _⟩
      · obtain rfl := bool_eq (mayB_no (by unfold MayO; omega)) hv
        clear hv
        go_enter Try.func41, Try.ntmps41
        go_wp2_with (first
            | (go_at_call 50; refine (src_yes _ (by omega) (by omega) _).mono ?_; rintro e w' ⟨rfl, rfl⟩)
            | (go_at_call 50; refine (src_no _ (by omega) _).mono ?_; rintro e w' ⟨rfl, rfl⟩)
            | (go_at_call 26; refine (within_yes _ _ _ _ (by omega) (by omega)).mono ?_; rintro e w' ⟨rfl, rfl⟩)
            | (go_at_call 26; refine (within_no _ _ _ _ (by omega)).mono ?_; rintro e w' ⟨rfl, rfl⟩))
        go_ret
        exact ⟨rfl, hb _⟩
    · obtain rfl := bool_eq (mayB_no (by unfold MayO; omega)) hv
      clear hv
      go_enter Try.func41, Try.ntmps41
      go_wp2_with (first
            | (go_at_call 50; refine (src_yes _ (by omega) (by omega) _).mono ?_; rintro e w' ⟨rfl, rfl⟩)
            | (go_at_call 50; refine (src_no _ (by omega) _).mono ?_; rintro e w' ⟨rfl, rfl⟩)
            | (go_at_call 26; refine (within_yes _ _ _ _ (by omega) (by omega)).mono ?_; rintro e w' ⟨rfl, rfl⟩)
            | (go_at_call 26; refine (within_no _ _ _ _ (by omega)).mono ?_; rintro e w' ⟨rfl, rfl⟩))
      go_ret
      exact ⟨rfl, hb _⟩
  · obtain rfl := bool_eq (mayB_no (by unfold MayO; omega)) hv
    clear hv
    go_enter Try.func41, Try.ntmps41
    go_wp2_with (first
            | (go_at_call 50; refine (src_yes _ (by omega) (by omega) _).mono ?_; rintro e w' ⟨rfl, rfl⟩)
            | (go_at_call 50; refine (src_no _ (by omega) _).mono ?_; rintro e w' ⟨rfl, rfl⟩)
            | (go_at_call 26; refine (within_yes _ _ _ _ (by omega) (by omega)).mono ?_; rintro e w' ⟨rfl, rfl⟩)
            | (go_at_call 26; refine (within_no _ _ _ _ (by omega)).mono ?_; rintro e w' ⟨rfl, rfl⟩))
    go_ret
    exact ⟨rfl, hb _⟩

set_option maxRecDepth 100000 in
set_option maxHeartbeats 1000000 in
theorem may1 (so se ti va : Int) (v : Bool) (hv : mayB 1 so se ti va = v) (w : World) :
    Calls Try.prog 41 #[.agg #[.int .i64 1, .int .i64 so, .int .i64 se, .int .i64 ti, .int .i64 va]] w fun e w' => e = .returned (.bool v) ∧ Below w.heap.size w w' := by
  have hb := fun o => (Below.refl w.heap.size w).alloc (Nat.le_refl _) o
  by_cases h1 : 0 ≤ so ∧ so ≤ 7
  · by_cases h3 : -4398046511104 < ti ∧ ti ≤ 4398046511104
    · by_cases h2 : se = 0
      · by_cases h4 : va = 0
        · obtain rfl := bool_eq (mayB_yes (by unfold MayO; omega)) hv
          clear hv
          go_enter Try.func41, Try.ntmps41
          go_wp2_with (first
            | (go_at_call 50; refine (src_yes _ (by omega) (by omega) _).mono ?_; rintro e w' ⟨rfl, rfl⟩)
            | (go_at_call 50; refine (src_no _ (by omega) _).mono ?_; rintro e w' ⟨rfl, rfl⟩)
            | (go_at_call 26; refine (within_yes _ _ _ _ (by omega) (by omega)).mono ?_; rintro e w' ⟨rfl, rfl⟩)
            | (go_at_call 26; refine (within_no _ _ _ _ (by omega)).mono ?_; rintro e w' ⟨rfl, rfl⟩))
          go_ret
          exact ⟨rfl, hb _⟩
        · obtain rfl := bool_eq (mayB_no (by unfold MayO; omega)) hv
          clear hv
          have q : (va == 0) = false := by simpa using h4
          go_enter Try.func41, Try.ntmps41
          go_wp2_with (first
            | (go_at_call 50; refine (src_yes _ (by omega) (by omega) _).mono ?_; rintro e w' ⟨rfl, rfl⟩)
            | (go_at_call 50; refine (src_no _ (by omega) _).mono ?_; rintro e w' ⟨rfl, rfl⟩)
            | (go_at_call 26; refine (within_yes _ _ _ _ (by omega) (by omega)).mono ?_; rintro e w' ⟨rfl, rfl⟩)
            | (go_at_call 26; refine (within_no _ _ _ _ (by omega)).mono ?_; rintro e w' ⟨rfl, rfl⟩))
          go_ret
          exact ⟨rfl, hb _⟩
      · obtain rfl := bool_eq (mayB_no (by unfold MayO; omega)) hv
        clear hv
        have q : (se == 0) = false := by simpa using h2
        go_enter Try.func41, Try.ntmps41
        go_wp2_with (first
            | (go_at_call 50; refine (src_yes _ (by omega) (by omega) _).mono ?_; rintro e w' ⟨rfl, rfl⟩)
            | (go_at_call 50; refine (src_no _ (by omega) _).mono ?_; rintro e w' ⟨rfl, rfl⟩)
            | (go_at_call 26; refine (within_yes _ _ _ _ (by omega) (by omega)).mono ?_; rintro e w' ⟨rfl, rfl⟩)
            | (go_at_call 26; refine (within_no _ _ _ _ (by omega)).mono ?_; rintro e w' ⟨rfl, rfl⟩))
        go_ret
        exact ⟨rfl, hb _⟩
    · obtain rfl := bool_eq (mayB_no (by unfold MayO; omega)) hv
      clear hv
      go_enter Try.func41, Try.ntmps41
      go_wp2_with (first
            | (go_at_call 50; refine (src_yes _ (by omega) (by omega) _).mono ?_; rintro e w' ⟨rfl, rfl⟩)
            | (go_at_call 50; refine (src_no _ (by omega) _).mono ?_; rintro e w' ⟨rfl, rfl⟩)
            | (go_at_call 26; refine (within_yes _ _ _ _ (by omega) (by omega)).mono ?_; rintro e w' ⟨rfl, rfl⟩)
            | (go_at_call 26; refine (within_no _ _ _ _ (by omega)).mono ?_; rintro e w' ⟨rfl, rfl⟩))
      go_ret
      exact ⟨rfl, hb _⟩
  · obtain rfl := bool_eq (mayB_no (by unfold MayO; omega)) hv
    clear hv
    go_enter Try.func41, Try.ntmps41
    go_wp2_with (first
            | (go_at_call 50; refine (src_yes _ (by omega) (by omega) _).mono ?_; rintro e w' ⟨rfl, rfl⟩)
            | (go_at_call 50; refine (src_no _ (by omega) _).mono ?_; rintro e w' ⟨rfl, rfl⟩)
            | (go_at_call 26; refine (within_yes _ _ _ _ (by omega) (by omega)).mono ?_; rintro e w' ⟨rfl, rfl⟩)
            | (go_at_call 26; refine (within_no _ _ _ _ (by omega)).mono ?_; rintro e w' ⟨rfl, rfl⟩))
    go_ret
    exact ⟨rfl, hb _⟩

set_option maxRecDepth 100000 in
set_option maxHeartbeats 1000000 in
theorem mayN (kd : Int) (so se ti va : Int) (v : Bool) (h0 : kd ≠ 0) (h1 : kd ≠ 1) (h2 : kd ≠ 2) (hv : mayB kd so se ti va = v) (w : World) :
    Calls Try.prog 41 #[.agg #[.int .i64 kd, .int .i64 so, .int .i64 se, .int .i64 ti, .int .i64 va]] w fun e w' => e = .returned (.bool v) ∧ Below w.heap.size w w' := by
  have hb := fun o => (Below.refl w.heap.size w).alloc (Nat.le_refl _) o
  have q0 : (kd == 0) = false := by simpa using h0
  have q1 : (kd == 1) = false := by simpa using h1
  have q2 : (kd == 2) = false := by simpa using h2
  obtain rfl := bool_eq (mayB_no (by unfold MayO; omega)) hv
  clear hv
  go_enter Try.func41, Try.ntmps41
  go_wp2_with (first
            | (go_at_call 50; refine (src_yes _ (by omega) (by omega) _).mono ?_; rintro e w' ⟨rfl, rfl⟩)
            | (go_at_call 50; refine (src_no _ (by omega) _).mono ?_; rintro e w' ⟨rfl, rfl⟩)
            | (go_at_call 26; refine (within_yes _ _ _ _ (by omega) (by omega)).mono ?_; rintro e w' ⟨rfl, rfl⟩)
            | (go_at_call 26; refine (within_no _ _ _ _ (by omega)).mono ?_; rintro e w' ⟨rfl, rfl⟩))
  go_ret
  exact ⟨rfl, hb _⟩

set_option maxRecDepth 100000 in
set_option maxHeartbeats 1000000 in
theorem may2 (so se ti va : Int) (v : Bool) (hv : mayB 2 so se ti va = v) (w : World) :
    Calls Try.prog 41 #[.agg #[.int .i64 2, .int .i64 so, .int .i64 se, .int .i64 ti, .int .i64 va]] w fun e w' => e = .returned (.bool v) ∧ Below w.heap.size w w' := by
  have hb := fun o => (Below.refl w.heap.size w).alloc (Nat.le_refl _) o
  go_enter Try.func41, Try.ntmps41
  go_wp2_with fail
  all_goals
    go_ret
    exact ⟨ret_bool (by first | exact mayB_yes (by unfold MayO; omega) | exact mayB_no (by unfold MayO; omega)) hv, hb _⟩

theorem may_any (kd so se ti va : Int) (v : Bool) (hv : mayB kd so se ti va = v) (w : World) :
    Calls Try.prog 41 #[.agg #[.int .i64 kd, .int .i64 so, .int .i64 se, .int .i64 ti, .int .i64 va]] w fun e w' => e = .returned (.bool v) ∧ Below w.heap.size w w' := by
  by_cases h0 : kd = 0
  · subst h0; exact may0 so se ti va v hv w
  · by_cases h1 : kd = 1
    · subst h1; exact may1 so se ti va v hv w
    · by_cases h2 : kd = 2
      · subst h2; exact may2 so se ti va v hv w
      · exact mayN kd so se ti va v h0 h1 h2 hv w

set_option maxRecDepth 100000 in
set_option maxHeartbeats 1000000 in
theorem rmay0 (so se ti va : Int) (v : Bool) (hv : mayB 0 so se ti va = v) (w : World) :
    Calls Try.prog 45 #[.agg #[.int .i64 0, .int .i64 so, .int .i64 se, .int .i64 ti, .int .i64 va]] w fun e w' => e = .returned (.bool v) ∧ Below w.heap.size w w' := by
  have hb := fun o => (Below.refl w.heap.size w).alloc (Nat.le_refl _) o
  by_cases h1 : 0 ≤ so
  · by_cases h1b : so < 8
    · by_cases h2 : 0 ≤ se
      · by_cases h2b : se ≤ 1048575
        · by_cases h3 : -1099511627776 ≤ ti ∧ ti ≤ 1099511627776
          · by_cases h4 : -1099511627776 ≤ va ∧ va ≤ 1099511627776
            · obtain rfl := bool_eq (mayB_yes (by unfold MayO; omega)) hv
              clear hv
              go_enter Try.func45, Try.ntmps45
              go_wp2_with (first
            | (go_at_call 53; refine (rin_yes _ _ (by omega) (by omega) (by omega) (by omega) _).mono ?_; rintro e w' ⟨rfl, rfl⟩)
            | (go_at_call 53; refine (rin_no _ _ (by omega) (by omega) (by omega) _).mono ?_; rintro e w' ⟨rfl, rfl⟩))
              go_ret
              exact ⟨rfl, hb _⟩
            · obtain rfl := bool_eq (mayB_no (by unfold MayO; omega)) hv
              clear hv
              go_enter Try.func45, Try.ntmps45
              go_wp2_with (first
            | (go_at_call 53; refine (rin_yes _ _ (by omega) (by omega) (by omega) (by omega) _).mono ?_; rintro e w' ⟨rfl, rfl⟩)
            | (go_at_call 53; refine (rin_no _ _ (by omega) (by omega) (by omega) _).mono ?_; rintro e w' ⟨rfl, rfl⟩))
              go_ret
              exact ⟨rfl, hb _⟩
          · obtain rfl := bool_eq (mayB_no (by unfold MayO; omega)) hv
            clear hv
            go_enter Try.func45, Try.ntmps45
            go_wp2_with (first
            | (go_at_call 53; refine (rin_yes _ _ (by omega) (by omega) (by omega) (by omega) _).mono ?_; rintro e w' ⟨rfl, rfl⟩)
            | (go_at_call 53; refine (rin_no _ _ (by omega) (by omega) (by omega) _).mono ?_; rintro e w' ⟨rfl, rfl⟩))
            go_ret
            exact ⟨rfl, hb _⟩
        · obtain rfl := bool_eq (mayB_no (by unfold MayO; omega)) hv
          clear hv
          have q : decide (se ≤ 1048575) = false := by simpa using h2b
          go_enter Try.func45, Try.ntmps45
          go_wp2_with (first
            | (go_at_call 53; refine (rin_yes _ _ (by omega) (by omega) (by omega) (by omega) _).mono ?_; rintro e w' ⟨rfl, rfl⟩)
            | (go_at_call 53; refine (rin_no _ _ (by omega) (by omega) (by omega) _).mono ?_; rintro e w' ⟨rfl, rfl⟩))
          go_ret
          exact ⟨rfl, hb _⟩
      · obtain rfl := bool_eq (mayB_no (by unfold MayO; omega)) hv
        clear hv
        have q : decide (0 ≤ se) = false := by simpa using h2
        go_enter Try.func45, Try.ntmps45
        go_wp2_with (first
            | (go_at_call 53; refine (rin_yes _ _ (by omega) (by omega) (by omega) (by omega) _).mono ?_; rintro e w' ⟨rfl, rfl⟩)
            | (go_at_call 53; refine (rin_no _ _ (by omega) (by omega) (by omega) _).mono ?_; rintro e w' ⟨rfl, rfl⟩))
        go_ret
        exact ⟨rfl, hb _⟩
    · obtain rfl := bool_eq (mayB_no (by unfold MayO; omega)) hv
      clear hv
      have q : decide (so < 8) = false := by simpa using h1b
      go_enter Try.func45, Try.ntmps45
      go_wp2_with (first
            | (go_at_call 53; refine (rin_yes _ _ (by omega) (by omega) (by omega) (by omega) _).mono ?_; rintro e w' ⟨rfl, rfl⟩)
            | (go_at_call 53; refine (rin_no _ _ (by omega) (by omega) (by omega) _).mono ?_; rintro e w' ⟨rfl, rfl⟩))
      go_ret
      exact ⟨rfl, hb _⟩
  · obtain rfl := bool_eq (mayB_no (by unfold MayO; omega)) hv
    clear hv
    have q : decide (0 ≤ so) = false := by simpa using h1
    go_enter Try.func45, Try.ntmps45
    go_wp2_with (first
            | (go_at_call 53; refine (rin_yes _ _ (by omega) (by omega) (by omega) (by omega) _).mono ?_; rintro e w' ⟨rfl, rfl⟩)
            | (go_at_call 53; refine (rin_no _ _ (by omega) (by omega) (by omega) _).mono ?_; rintro e w' ⟨rfl, rfl⟩))
    go_ret
    exact ⟨rfl, hb _⟩

set_option maxRecDepth 100000 in
set_option maxHeartbeats 1000000 in
theorem rmay1 (so se ti va : Int) (v : Bool) (hv : mayB 1 so se ti va = v) (w : World) :
    Calls Try.prog 45 #[.agg #[.int .i64 1, .int .i64 so, .int .i64 se, .int .i64 ti, .int .i64 va]] w fun e w' => e = .returned (.bool v) ∧ Below w.heap.size w w' := by
  have hb := fun o => (Below.refl w.heap.size w).alloc (Nat.le_refl _) o
  by_cases h1 : 0 ≤ so
  · by_cases h1b : so < 8
    · by_cases h2 : se = 0
      · by_cases h3 : -4398046511104 < ti
        · by_cases h3b : ti ≤ 4398046511104
          · by_cases h4 : va = 0
            · obtain rfl := bool_eq (mayB_yes (by unfold MayO; omega)) hv
              clear hv
              go_enter Try.func45, Try.ntmps45
              go_wp2_with (first
            | (go_at_call 53; refine (rin_yes _ _ (by omega) (by omega) (by omega) (by omega) _).mono ?_; rintro e w' ⟨rfl, rfl⟩)
            | (go_at_call 53; refine (rin_no _ _ (by omega) (by omega) (by omega) _).mono ?_; rintro e w' ⟨rfl, rfl⟩))
              go_ret
              exact ⟨rfl, hb _⟩
            · obtain rfl := bool_eq (mayB_no (by unfold MayO; omega)) hv
              clear hv
              have q : (va == 0) = false := by simpa using h4
              go_enter Try.func45, Try.ntmps45
              go_wp2_with (first
            | (go_at_call 53; refine (rin_yes _ _ (by omega) (by omega) (by omega) (by omega) _).mono ?_; rintro e w' ⟨rfl, rfl⟩)
            | (go_at_call 53; refine (rin_no _ _ (by omega) (by omega) (by omega) _).mono ?_; rintro e w' ⟨rfl, rfl⟩))
              go_ret
              exact ⟨rfl, hb _⟩
          · obtain rfl := bool_eq (mayB_no (by unfold MayO; omega)) hv
            clear hv
            have q : decide (ti ≤ 4398046511104) = false := by simpa using h3b
            go_enter Try.func45, Try.ntmps45
            go_wp2_with (first
            | (go_at_call 53; refine (rin_yes _ _ (by omega) (by omega) (by omega) (by omega) _).mono ?_; rintro e w' ⟨rfl, rfl⟩)
            | (go_at_call 53; refine (rin_no _ _ (by omega) (by omega) (by omega) _).mono ?_; rintro e w' ⟨rfl, rfl⟩))
            go_ret
            exact ⟨rfl, hb _⟩
        · obtain rfl := bool_eq (mayB_no (by unfold MayO; omega)) hv
          clear hv
          have q : decide (-4398046511104 < ti) = false := by simpa using h3
          go_enter Try.func45, Try.ntmps45
          go_wp2_with (first
            | (go_at_call 53; refine (rin_yes _ _ (by omega) (by omega) (by omega) (by omega) _).mono ?_; rintro e w' ⟨rfl, rfl⟩)
            | (go_at_call 53; refine (rin_no _ _ (by omega) (by omega) (by omega) _).mono ?_; rintro e w' ⟨rfl, rfl⟩))
          go_ret
          exact ⟨rfl, hb _⟩
      · obtain rfl := bool_eq (mayB_no (by unfold MayO; omega)) hv
        clear hv
        have q : (se == 0) = false := by simpa using h2
        go_enter Try.func45, Try.ntmps45
        go_wp2_with (first
            | (go_at_call 53; refine (rin_yes _ _ (by omega) (by omega) (by omega) (by omega) _).mono ?_; rintro e w' ⟨rfl, rfl⟩)
            | (go_at_call 53; refine (rin_no _ _ (by omega) (by omega) (by omega) _).mono ?_; rintro e w' ⟨rfl, rfl⟩))
        go_ret
        exact ⟨rfl, hb _⟩
    · obtain rfl := bool_eq (mayB_no (by unfold MayO; omega)) hv
      clear hv
      have q : decide (so < 8) = false := by simpa using h1b
      go_enter Try.func45, Try.ntmps45
      go_wp2_with (first
            | (go_at_call 53; refine (rin_yes _ _ (by omega) (by omega) (by omega) (by omega) _).mono ?_; rintro e w' ⟨rfl, rfl⟩)
            | (go_at_call 53; refine (rin_no _ _ (by omega) (by omega) (by omega) _).mono ?_; rintro e w' ⟨rfl, rfl⟩))
      go_ret
      exact ⟨rfl, hb _⟩
  · obtain rfl := bool_eq (mayB_no (by unfold MayO; omega)) hv
    clear hv
    have q : decide (0 ≤ so) = false := by simpa using h1
    go_enter Try.func45, Try.ntmps45
    go_wp2_with (first
            | (go_at_call 53; refine (rin_yes _ _ (by omega) (by omega) (by omega) (by omega) _).mono ?_; rintro e w' ⟨rfl, rfl⟩)
            | (go_at_call 53; refine (rin_no _ _ (by omega) (by omega) (by omega) _).mono ?_; rintro e w' ⟨rfl, rfl⟩))
    go_ret
    exact ⟨rfl, hb _⟩

set_option maxRecDepth 100000 in
set_option maxHeartbeats 1000000 in
theorem rmayN (kd : Int) (so se ti va : Int) (v : Bool) (h0 : kd ≠ 0) (h1 : kd ≠ 1) (h2 : kd ≠ 2) (hv : mayB kd so se ti va = v) (w : World) :
    Calls Try.prog 45 #[.agg #[.int .i64 kd, .int .i64 so, .int .i64 se, .int .i64 ti, .int .i64 va]] w fun e w' => e = .returned (.bool v) ∧ Below w.heap.size w w' := by
  have hb := fun o => (Below.refl w.heap.size w).alloc (Nat.le_refl _) o
  have q0 : (kd == 0) = false := by simpa using h0
  have q1 : (kd == 1) = false := by simpa using h1
  have q2 : (kd == 2) = false := by simpa using h2
  by_cases h1 : 0 ≤ so
  · by_cases h1b : so < 8
    · obtain rfl := bool_eq (mayB_no (by unfold MayO; omega)) hv
      clear hv
      go_enter Try.func45, Try.ntmps45
      go_wp2_with (first
            | (go_at_call 53; refine (rin_yes _ _ (by omega) (by omega) (by omega) (by omega) _).mono ?_; rintro e w' ⟨rfl, rfl⟩)
            | (go_at_call 53; refine (rin_no _ _ (by omega) (by omega) (by omega) _).mono ?_; rintro e w' ⟨rfl, rfl⟩))
      go_ret
      exact ⟨rfl, hb _⟩
    · obtain rfl := bool_eq (mayB_no (by unfold MayO; omega)) hv
      clear hv
      have q : decide (so < 8) = false := by simpa using h1b
      go_enter Try.func45, Try.ntmps45
      go_wp2_with (first
            | (go_at_call 53; refine (rin_yes _ _ (by omega) (by omega) (by omega) (by omega) _).mono ?_; rintro e w' ⟨rfl, rfl⟩)
            | (go_at_call 53; refine (rin_no _ _ (by omega) (by omega) (by omega) _).mono ?_; rintro e w' ⟨rfl, rfl⟩))
      go_ret
      exact ⟨rfl, hb _⟩
  · obtain rfl := bool_eq (mayB_no (by unfold MayO; omega)) hv
    clear hv
    have q : decide (0 ≤ so) = false := by simpa using h1
    go_enter Try.func45, Try.ntmps45
    go_wp2_with (first
            | (go_at_call 53; refine (rin_yes _ _ (by omega) (by omega) (by omega) (by omega) _).mono ?_; rintro e w' ⟨rfl, rfl⟩)
            | (go_at_call 53; refine (rin_no _ _ (by omega) (by omega) (by omega) _).mono ?_; rintro e w' ⟨rfl, rfl⟩))
    go_ret
    exact ⟨rfl, hb _⟩

set_option maxRecDepth 100000 in
set_option maxHeartbeats 1000000 in
theorem rmay2 (so se ti va : Int) (v : Bool) (hv : mayB 2 so se ti va = v) (w : World) :
    Calls Try.prog 45 #[.agg #[.int .i64 2, .int .i64 so, .int .i64 se, .int .i64 ti, .int .i64 va]] w fun e w' => e = .returned (.bool v) ∧ Below w.heap.size w w' := by
  have hb := fun o => (Below.refl w.heap.size w).alloc (Nat.le_refl _) o
  by_cases g1 : 0 ≤ so
  · by_cases g2 : so < 8
    · go_enter Try.func45, Try.ntmps45
      go_wp2_with fail
      all_goals
        go_ret
        exact ⟨ret_bool (by first | exact mayB_yes (by unfold MayO; omega) | exact mayB_no (by unfold MayO; omega)) hv, hb _⟩
    · go_enter Try.func45, Try.ntmps45
      go_wp2_with fail
      all_goals
        go_ret
        exact ⟨ret_bool (by first | exact mayB_yes (by unfold MayO; omega) | exact mayB_no (by unfold MayO; omega)) hv, hb _⟩
  · go_enter Try.func45, Try.ntmps45
    go_wp2_with fail
    all_goals
      go_ret
      exact ⟨ret_bool (by first | exact mayB_yes (by unfold MayO; omega) | exact mayB_no (by unfold MayO; omega)) hv, hb _⟩

theorem rmay_any (kd so se ti va : Int) (v : Bool) (hv : mayB kd so se ti va = v) (w : World) :
    Calls Try.prog 45 #[.agg #[.int .i64 kd, .int .i64 so, .int .i64 se, .int .i64 ti, .int .i64 va]] w fun e w' => e = .returned (.bool v) ∧ Below w.heap.size w w' := by
  by_cases h0 : kd = 0
  · subst h0; exact rmay0 so se ti va v hv w
  · by_cases h1 : kd = 1
    · subst h1; exact rmay1 so se ti va v hv w
    · by_cases h2 : kd = 2
      · subst h2; exact rmay2 so se ti va v hv w
      · exact rmayN kd so se ti va v h0 h1 h2 hv w


end Go.Proofs.Ytoechlmahckchaa
