/-
  Walks: See, K, New, Line, the program's and the reference's.
-/
import Derived.Test.YtoobkdhijfleeaaSkSeeR
import Derived.Test.YtoobkdhijfleeaaGLeaf
import Derived.Lib.Hide
import Derived.Deep.Cut
namespace Go.Proofs.Ytoobkdhijfleeaa
open Go.RowKit

set_option maxRecDepth 100000 in
set_option maxHeartbeats 400000 in
theorem mayLate_any (n : Int) (w : World) :
    Calls Try.prog 15 #[.int .i64 n] w fun e w' => e = .returned (.bool (wi n 0 1073741824)) ∧ w = w' := by
  go_enter Try.func15, Try.ntmps15
  go_wp2_with (go_at_call 16; refine (gwithin_any _ _ _ _).mono ?_; rintro e w' ⟨rfl, rfl⟩)
  go_ret
  exact ⟨rfl, rfl⟩
theorem mayLate_yes (n : Int) (w : World) (h : 0 ≤ n ∧ n ≤ 1073741824) :
    Calls Try.prog 15 #[.int .i64 n] w fun e w' => e = .returned (.bool true) ∧ w = w' := by
  have := mayLate_any n w
  rwa [wi_mk h] at this
theorem mayLate_no (n : Int) (w : World) (h : n < 0 ∨ 1073741824 < n) :
    Calls Try.prog 15 #[.int .i64 n] w fun e w' => e = .returned (.bool false) ∧ w = w' := by
  have := mayLate_any n w
  rwa [wi_false (by omega)] at this

set_option maxRecDepth 100000 in
set_option maxHeartbeats 400000 in
theorem slnew_no (n : Int) (w : World) (h : n < 0 ∨ 1073741824 < n) :
    Calls Try.prog 6 #[.int .i64 n] w fun e w' => e = .returned (.tuple #[.pointer none, .int .i64 1600]) ∧ w = w' := by
  go_enter Try.func6, Try.ntmps6
  go_wp2_with (go_at_call 15; refine (mayLate_no _ _ h).mono ?_; rintro e w' ⟨rfl, rfl⟩)
  go_ret2
  exact ⟨rfl, rfl⟩
set_option maxRecDepth 100000 in
set_option maxHeartbeats 400000 in
theorem slnew_ok (n : Int) (w : World) (h : 0 ≤ n ∧ n ≤ 1073741824) :
    Calls Try.prog 6 #[.int .i64 n] w fun e w' => ∃ g, e = .returned (.tuple #[.pointer (some ⟨g, 0, none⟩), .int .i64 0]) ∧ MadeS 43 g (slC n (-1099511627776) 0) w w' := by
  have HM := Lib.hid (MadeS.mk' 43 (slC n (-1099511627776) 0) w)
  go_enter Try.func6, Try.ntmps6
  go_wp2_with (go_at_call 15; refine (mayLate_yes _ _ h).mono ?_; rintro e w' ⟨rfl, rfl⟩)
  go_ret2
  exact ⟨_, rfl, HM.out⟩
set_option maxRecDepth 100000 in
set_option maxHeartbeats 400000 in
theorem srnew_no (n : Int) (w : World) (h : n < 0 ∨ 1073741824 < n) :
    Calls Try.prog 7 #[.int .i64 n] w fun e w' => e = .returned (.tuple #[.pointer none, .int .i64 1600]) ∧ w = w' := by
  by_cases h1 : n < 0
  · go_enter Try.func7, Try.ntmps7
    go_wp2_with fail
    go_ret2
    exact ⟨rfl, rfl⟩
  · have h2 : 1073741824 < n := by omega
    go_enter Try.func7, Try.ntmps7
    go_wp2_with fail
    go_ret2
    exact ⟨rfl, rfl⟩
set_option maxRecDepth 100000 in
set_option maxHeartbeats 400000 in
theorem srnew_ok (n : Int) (w : World) (h : 0 ≤ n ∧ n ≤ 1073741824) :
    Calls Try.prog 7 #[.int .i64 n] w fun e w' => ∃ g, e = .returned (.tuple #[.pointer (some ⟨g, 0, none⟩), .int .i64 0]) ∧ MadeS 37 g (srC n false 0 0) w w' := by
  have HM := Lib.hid (MadeS.mk' 37 (srC n false 0 0) w)
  have h1 : ¬ n < 0 := by omega
  have h2 : ¬ 1073741824 < n := by omega
  go_enter Try.func7, Try.ntmps7
  go_wp2_with fail
  go_ret2
  exact ⟨_, rfl, HM.out⟩

set_option maxRecDepth 100000 in
set_option maxHeartbeats 400000 in
theorem k_any (g : Nat) (L T K : Int) (w : World) (h : Has w g 43 (slC L T K)) :
    Calls Try.prog 14 #[.pointer (some ⟨g, 0, none⟩)] w fun e w' => e = .returned (.int .i64 K) ∧ w = w' := by
  have c2 : w.cell? ⟨g, 2, none⟩ = some (.int .i64 K) := h.cell 2
  go_enter Try.func14, Try.ntmps14
  go_wp2_with fail
  go_ret
  exact ⟨rfl, rfl⟩

/-- max as the walk leaves it. -/
theorem line_max (m L : Int) (h : okL m L) : lineN m L = (if -4398046511104 > m - L then -4398046511104 else m - L) := by
  unfold lineN
  rw [if_pos h]
  split <;> omega
set_option maxRecDepth 100000 in
set_option maxHeartbeats 400000 in
theorem line_any (m L : Int) (w : World) :
    Calls Try.prog 8 #[.int .i64 m, .int .i64 L] w fun e w' => e = .returned (.int .i64 (lineN m L)) ∧ w = w' := by
  by_cases h1 : -4398046511104 ≤ m ∧ m ≤ 4398046511104
  · by_cases h2 : 0 ≤ L ∧ L ≤ 1073741824
    · have hok : okL m L := ⟨h1.1, h1.2, h2.1, h2.2⟩
      have hw : wrap64 (m - L) = m - L := IntWalk.wrap64_in _ (by omega)
      by_cases h3 : -4398046511104 > m - L
      · have he : lineN m L = -4398046511104 := by rw [line_max m L hok, if_pos h3]
        rw [he]
        clear hok he
        go_enter Try.func8, Try.ntmps8
        go_wp2_with (first | (go_at_call 16; refine (gwithin_yes _ _ _ _ h1).mono ?_; rintro e w' ⟨rfl, rfl⟩) | (go_at_call 15; refine (mayLate_yes _ _ h2).mono ?_; rintro e w' ⟨rfl, rfl⟩))
        go_ret
        exact ⟨rfl, rfl⟩
      · have he : lineN m L = m - L := by rw [line_max m L hok, if_neg h3]
        rw [he]
        clear hok he
        go_enter Try.func8, Try.ntmps8
        go_wp2_with (first | (go_at_call 16; refine (gwithin_yes _ _ _ _ h1).mono ?_; rintro e w' ⟨rfl, rfl⟩) | (go_at_call 15; refine (mayLate_yes _ _ h2).mono ?_; rintro e w' ⟨rfl, rfl⟩))
        go_ret
        exact ⟨rfl, rfl⟩
    · have he : lineN m L = -4398046511104 := by unfold lineN; rw [if_neg (fun h => h2 ⟨h.2.2.1, h.2.2.2⟩)]
      have h3 : L < 0 ∨ 1073741824 < L := by omega
      rw [he]
      clear he
      go_enter Try.func8, Try.ntmps8
      go_wp2_with (first | (go_at_call 16; refine (gwithin_yes _ _ _ _ h1).mono ?_; rintro e w' ⟨rfl, rfl⟩) | (go_at_call 15; refine (mayLate_no _ _ h3).mono ?_; rintro e w' ⟨rfl, rfl⟩))
      go_ret
      exact ⟨rfl, rfl⟩
  · have he : lineN m L = -4398046511104 := by unfold lineN; rw [if_neg (fun h => h1 ⟨h.1, h.2.1⟩)]
    have h3 : m < -4398046511104 ∨ 4398046511104 < m := by omega
    rw [he]
    clear he
    go_enter Try.func8, Try.ntmps8
    go_wp2_with (go_at_call 16; refine (gwithin_no _ _ _ _ h3).mono ?_; rintro e w' ⟨rfl, rfl⟩)
    go_ret
    exact ⟨rfl, rfl⟩
set_option maxRecDepth 100000 in
set_option maxHeartbeats 400000 in
theorem rline_any (m L : Int) (w : World) :
    Calls Try.prog 9 #[.int .i64 m, .int .i64 L] w fun e w' => e = .returned (.int .i64 (lineN m L)) ∧ w = w' := by
  by_cases h1 : m < -4398046511104
  · have he : lineN m L = -4398046511104 := by unfold lineN; rw [if_neg (fun h => by have := h.1; omega)]
    rw [he]
    clear he
    go_enter Try.func9, Try.ntmps9
    go_wp2_with fail
    go_ret
    exact ⟨rfl, rfl⟩
  · by_cases h2 : 4398046511104 < m
    · have he : lineN m L = -4398046511104 := by unfold lineN; rw [if_neg (fun h => by have := h.2.1; omega)]
      rw [he]
      clear he
      go_enter Try.func9, Try.ntmps9
      go_wp2_with fail
      go_ret
      exact ⟨rfl, rfl⟩
    · by_cases h3 : L < 0
      · have he : lineN m L = -4398046511104 := by unfold lineN; rw [if_neg (fun h => by have := h.2.2.1; omega)]
        rw [he]
        clear he
        go_enter Try.func9, Try.ntmps9
        go_wp2_with fail
        go_ret
        exact ⟨rfl, rfl⟩
      · by_cases h4 : 1073741824 < L
        · have he : lineN m L = -4398046511104 := by unfold lineN; rw [if_neg (fun h => by have := h.2.2.2; omega)]
          rw [he]
          clear he
          go_enter Try.func9, Try.ntmps9
          go_wp2_with fail
          go_ret
          exact ⟨rfl, rfl⟩
        · have hok : okL m L := ⟨by omega, by omega, by omega, by omega⟩
          have hw : wrap64 (m - L) = m - L := IntWalk.wrap64_in _ (by omega)
          by_cases h5 : -4398046511104 > m - L
          · have he : lineN m L = -4398046511104 := by rw [line_max m L hok, if_pos h5]
            rw [he]
            clear hok he
            go_enter Try.func9, Try.ntmps9
            go_wp2_with fail
            go_ret
            exact ⟨rfl, rfl⟩
          · have he : lineN m L = m - L := by rw [line_max m L hok, if_neg h5]
            rw [he]
            clear hok he
            go_enter Try.func9, Try.ntmps9
            go_wp2_with fail
            go_ret
            exact ⟨rfl, rfl⟩

end Go.Proofs.Ytoobkdhijfleeaa
