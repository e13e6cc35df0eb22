/-
  Walk: varint.Get.
-/
import Derived.Test.YtdbcmcdmipehgaaVLeaf
namespace Go.Proofs.Ytdbcmcdmipehgaa
open Go.RowKit

/-- Three numbers. -/
def t3 (x : Int × Int × Int) : Value := .tuple #[.int .i64 x.1, .int .i64 x.2.1, .int .i64 x.2.2]

set_option maxHeartbeats 400000 in
theorem get_none (s : ByteArray) (a : Int) (w : World) (h : a < 0 ∨ (s.size : Int) < a) :
    Calls Try.prog 35 #[.string s, .int .i64 a] w fun e w' => e = .returned (t3 (0, 0, 700)) ∧ w = w' := by
  go_enter Try.func35, Try.ntmps35
  go_wp2_with (go_at_call 30; refine (within_no _ _ _ _ h).mono ?_; rintro e w' ⟨rfl, rfl⟩)
  go_ret3
  exact ⟨rfl, rfl⟩

set_option maxRecDepth 100000 in
set_option maxHeartbeats 1000000 in
theorem get_some (s : ByteArray) (a : Nat) (w : World) (hs : s.size ≤ maxLen) (ha : a ≤ s.size) :
    Calls Try.prog 35 #[.string s, .int .i64 a] w fun e w' => e = .returned (t3 (getT s.data.toList a)) ∧ w = w' := by
  unfold maxLen at hs
  go_enter Try.func35, Try.ntmps35
  go_wp2_with (go_at_call 30; refine (within_yes _ _ _ _ (by omega) (by omega)).mono ?_; rintro e w' ⟨rfl, rfl⟩)
  go_loop [7, 15] (fun x i => ∃ (k X : Nat), k ≤ 10 ∧ a + k ≤ s.size ∧ i = .int .i64 k ∧ x = .int .u64 X ∧ Hid (k ≤ 9 → X < 2 ^ (7 * k)) ∧ Hid (decL 0 0 (s.data.toList.drop a) = decL k X (s.data.toList.drop (a + k)))) (fun _ i => 10 - (intOf i).toNat)
  case atStart => exact ⟨0, 0, by omega, by omega, rfl, rfl, Lib.hid (by omega), Lib.hid rfl⟩
  case round =>
    obtain ⟨k, X, hk, hak, rfl, rfl, hX, HD⟩ := hrel
    by_cases h10 : k < 10
    · by_cases hlt : a + k < s.size
      · have hd := drop_at s (a + k) hlt
        have HO := Lib.hid (or_step X s[a + k].toNat k (by omega) (hX.out (by omega)))
        by_cases hb : 128 ≤ s[a + k].toNat
        · have HN : Hid (decL 0 0 (s.data.toList.drop a) = decL (k + 1) (X + s[a + k].toNat % 128 * 2 ^ (7 * k) % 18446744073709551616) (s.data.toList.drop (a + (k + 1)))) := Lib.hid (by rw [HD.out, hd, decL_more h10 hb]; rfl)
          have HX := Lib.hid (fun _ : k + 1 ≤ 9 => step_lt X s[a + k].toNat k (hX.out (by omega)))
          clear hd HD hX
          go_wp2_with fail
          exact ⟨⟨k + 1, _, by omega, by omega, by go_num, congrArg _ HO.out, HX, HN⟩, by simp [intOf]; omega⟩
        · by_cases he : endB k s[a + k].toNat = true
          · have HN := Lib.hid (getT_ok ha (HD.out.trans (by rw [hd, decL_end h10 hb he])))
            have HB := Lib.hid he
            have hin := step_in X s[a + k].toNat k (by omega) (hX.out (by omega))
            have HU := Lib.hid (fun w : World => unfold_any ((X + s[a + k].toNat % 128 * 2 ^ (7 * k) % 18446744073709551616 : Nat) : Int) (by omega) (by omega) w)
            clear hd HD hX he hin
            go_wp2_with (first
              | (go_at_call 42; refine (mayEnd_yes k _ (by omega) (by omega) (by omega) HB _).mono ?_; rintro e w' ⟨rfl, rfl⟩)
              | (go_at_call 43; rw [HO.out]; refine (HU.out _).mono ?_; rintro e w' ⟨rfl, rfl⟩))
            go_ret3
            exact ⟨by rw [HN.out]; rfl, rfl⟩
          · have he' : endB k s[a + k].toNat = false := by simpa using he
            have HN := Lib.hid (getT_err (e := 700) ha (by decide) (HD.out.trans (by rw [hd, decL_bad h10 hb he'])))
            have HB := Lib.hid he'
            clear hd HD hX he he'
            go_wp2_with (go_at_call 42; refine (mayEnd_no k _ (by omega) (by omega) (by omega) HB _).mono ?_; rintro e w' ⟨rfl, rfl⟩)
            go_ret3
            exact ⟨by rw [HN.out]; rfl, rfl⟩
      · have HN := Lib.hid (getT_err (e := 701) ha (by decide) (HD.out.trans (by rw [drop_all s _ (by omega), decL_cut h10])))
        have hb : ((a : Int) + k == s.size) = true := by simp; omega
        clear HD hX
        go_wp2_with fail
        go_ret3
        exact ⟨by rw [HN.out]; rfl, rfl⟩
    · have HN := Lib.hid (getT_err (e := 700) ha (by decide) (HD.out.trans (decL_form (by omega) _)))
      clear HD hX
      go_wp2_with fail
      go_ret3
      exact ⟨by rw [HN.out]; rfl, rfl⟩

theorem get_any (s : ByteArray) (a : Int) (w : World) (hs : s.size ≤ maxLen) :
    Calls Try.prog 35 #[.string s, .int .i64 a] w fun e w' => e = .returned (t3 (getT s.data.toList a)) ∧ w = w' := by
  by_cases h : a < 0 ∨ (s.size : Int) < a
  · rw [getT_none (by simpa using h)]
    exact get_none s a w h
  · obtain ⟨n, rfl⟩ := Int.eq_ofNat_of_zero_le (show 0 ≤ a by omega)
    exact get_some s n w hs (by omega)

/-- Get, its answer by three names. -/
theorem get_tri (s : ByteArray) (a x y z : Int) (h : getT s.data.toList a = (x, y, z)) (hs : s.size ≤ maxLen) (w : World) :
    Calls Try.prog 35 #[.string s, .int .i64 a] w fun e w' => e = .returned (.tuple #[.int .i64 x, .int .i64 y, .int .i64 z]) ∧ w = w' := by
  have h2 := get_any s a w hs
  rw [h] at h2
  exact h2

end Go.Proofs.Ytdbcmcdmipehgaa
