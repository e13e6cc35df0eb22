/-
  Walk: the reference's GetNum.
-/
import Derived.Test.YtdbcmcdmipehgaaVGet
import Derived.Deep.CutBlock
namespace Go.Proofs.Ytdbcmcdmipehgaa
open Go.RowKit

set_option maxHeartbeats 400000 in
theorem rget_none (s : ByteArray) (a : Int) (w : World) (h : a < 0 ∨ (s.size : Int) < a) :
    Calls Try.prog 37 #[.string s, .int .i64 a] w fun e w' => e = .returned (t3 (0, 0, 700)) ∧ w = w' := by
  by_cases h0 : a < 0
  · go_enter Try.func37, Try.ntmps37
    go_wp2
    go_ret3
    exact ⟨rfl, rfl⟩
  · have h1 : (s.size : Int) < a := by omega
    clear h
    go_enter Try.func37, Try.ntmps37
    go_wp2
    go_ret3
    exact ⟨rfl, rfl⟩

theorem and127_byte (b : UInt8) : bits .and .u8 (b.toNat : Int) 127 = (b.toNat : Int) % 128 := and127_u8 _ (by omega) (by have := b.toNat_lt; omega)

set_option maxRecDepth 100000 in
set_option maxHeartbeats 1000000 in
theorem rget_some (s : ByteArray) (a : Nat) (w : World) (hs : s.size ≤ maxLen) (ha : a ≤ s.size) :
    Calls Try.prog 37 #[.string s, .int .i64 a] w fun e w' => e = .returned (t3 (getT s.data.toList a)) ∧ w = w' := by
  unfold maxLen at hs
  have ha0 : decide ((a : Int) < 0) = false := by simp
  have ha1 : decide (s.size < a) = false := by simp; omega
  go_enter Try.func37, Try.ntmps37
  go_wp2_with fail
  go_loop [7, 8] (fun x i => ∃ (k X : Nat), k ≤ 10 ∧ a + k ≤ s.size ∧ i = .int .i64 k ∧ x = .int .u64 X ∧ Hid (k ≤ 9 → X < 2 ^ (7 * k)) ∧ Hid (decL 0 0 (s.data.toList.drop a) = decL k X (s.data.toList.drop (a + k)))) (fun _ i => 10 - (intOf i).toNat)
  case atStart => exact ⟨0, 0, by omega, by omega, rfl, rfl, Lib.hid (by omega), Lib.hid rfl⟩
  case round =>
    obtain ⟨k, X, hk, hak, rfl, rfl, hX, HD⟩ := hrel
    by_cases h10 : k < 10
    · by_cases hlt : a + k < s.size
      · have hd := drop_at s (a + k) hlt
        have HO := Lib.hid (or_step X s[a + k].toNat k (by omega) (hX.out (by omega)))
        have hm := and127_byte s[a + k]
        by_cases hb : 128 ≤ s[a + k].toNat
        · have HN : Hid (decL 0 0 (s.data.toList.drop a) = decL (k + 1) (X + s[a + k].toNat % 128 * 2 ^ (7 * k) % 18446744073709551616) (s.data.toList.drop (a + (k + 1)))) := Lib.hid (by rw [HD.out, hd, decL_more h10 hb]; rfl)
          have HX := Lib.hid (fun _ : k + 1 ≤ 9 => step_lt X s[a + k].toNat k (hX.out (by omega)))
          clear hd HD hX
          go_wp2_with fail
          exact ⟨⟨k + 1, _, by omega, by omega, by go_num, congrArg _ HO.out, HX, HN⟩, by simp [intOf]; omega⟩
        · have hin := step_in X s[a + k].toNat k (by omega) (hX.out (by omega))
          have HE := Lib.hid (fun he => HD.out.trans (by rw [hd, decL_end h10 hb he]))
          have HF := Lib.hid (fun he => HD.out.trans (by rw [hd, decL_bad h10 hb he]))
          clear hd HD hX
          have hc0 : (s[a + k].toNat : Int) < 128 := by omega
          go_upto_region 11 with fail
          rw [HO.out]
          clear HO hm
          generalize X + s[a + k].toNat % 128 * 2 ^ (7 * k) % 18446744073709551616 = Y at hin HE ⊢
          generalize s[a + k].toNat = c at hc0 hb HE HF ⊢
          have hP := and1_u64 (Y : Int) (by omega) (by omega)
          rcases Nat.eq_zero_or_pos k with rfl | hk0
          · have HN := Lib.hid (getT_ok ha (HE.out (endB_true (by omega) (.inl (by omega)))))
            clear HE HF
            by_cases ho : Y % 2 = 1
            · have hb1 : ((Y : Int) % 2 == 1) = true := by simp; omega
              have HU : unfI (Y : Int) = -((Y : Int) / 2) - 1 := if_pos (by omega)
              rw [HU] at HN
              clear HU ho
              go_wp2_with fail
              all_goals (go_ret3; exact ⟨by rw [HN.out]; rfl, rfl⟩)
            · have hb1 : ((Y : Int) % 2 == 1) = false := by simp; omega
              have HU : unfI (Y : Int) = (Y : Int) / 2 := if_neg (by omega)
              rw [HU] at HN
              clear HU ho
              go_wp2_with fail
              all_goals (go_ret3; exact ⟨by rw [HN.out]; rfl, rfl⟩)
          · have hk1 : (0 : Int) < k := by omega
            by_cases hz : c = 0
            · subst hz
              have HN := Lib.hid (getT_err (e := 700) ha (by decide) (HF.out (endB_zero hk0 rfl)))
              clear HE HF hP
              go_wp2_with fail
              all_goals (go_ret3; exact ⟨by rw [HN.out]; rfl, rfl⟩)
            · have hz' : ((c : Int) == 0) = false := by simp; omega
              by_cases h9 : k < 9
              · have h9' : ((k : Int) == 9) = false := by simp; omega
                have HN := Lib.hid (getT_ok ha (HE.out (endB_true (by omega) (.inl h9))))
                clear HE HF
                by_cases ho : Y % 2 = 1
                · have hb1 : ((Y : Int) % 2 == 1) = true := by simp; omega
                  have HU : unfI (Y : Int) = -((Y : Int) / 2) - 1 := if_pos (by omega)
                  rw [HU] at HN
                  clear HU ho
                  go_wp2_with fail
                  all_goals (go_ret3; exact ⟨by rw [HN.out]; rfl, rfl⟩)
                · have hb1 : ((Y : Int) % 2 == 1) = false := by simp; omega
                  have HU : unfI (Y : Int) = (Y : Int) / 2 := if_neg (by omega)
                  rw [HU] at HN
                  clear HU ho
                  go_wp2_with fail
                  all_goals (go_ret3; exact ⟨by rw [HN.out]; rfl, rfl⟩)
              · obtain rfl : k = 9 := by omega
                by_cases h1 : c ≤ 1
                · have HN := Lib.hid (getT_ok ha (HE.out (endB_true (by omega) (.inr (by omega)))))
                  clear HE HF
                  by_cases ho : Y % 2 = 1
                  · have hb1 : ((Y : Int) % 2 == 1) = true := by simp; omega
                    have HU : unfI (Y : Int) = -((Y : Int) / 2) - 1 := if_pos (by omega)
                    rw [HU] at HN
                    clear HU ho
                    go_wp2_with fail
                    all_goals (go_ret3; exact ⟨by rw [HN.out]; rfl, rfl⟩)
                  · have hb1 : ((Y : Int) % 2 == 1) = false := by simp; omega
                    have HU : unfI (Y : Int) = (Y : Int) / 2 := if_neg (by omega)
                    rw [HU] at HN
                    clear HU ho
                    go_wp2_with fail
                    all_goals (go_ret3; exact ⟨by rw [HN.out]; rfl, rfl⟩)
                · have HN := Lib.hid (getT_err (e := 700) ha (by decide) (HF.out (endB_last (by omega) (by omega))))
                  clear HE HF hP
                  go_wp2_with fail
                  all_goals (go_ret3; exact ⟨by rw [HN.out]; rfl, rfl⟩)
      · have HN := Lib.hid (getT_err (e := 701) ha (by decide) (HD.out.trans (by rw [drop_all s _ (by omega), decL_cut h10])))
        have hb : (s.size : Int) ≤ (a : Int) + k := by omega
        clear HD hX
        go_wp2_with fail
        go_ret3
        exact ⟨by rw [HN.out]; rfl, rfl⟩
    · have HN := Lib.hid (getT_err (e := 700) ha (by decide) (HD.out.trans (decL_form (by omega) _)))
      clear HD hX
      go_wp2_with fail
      go_ret3
      exact ⟨by rw [HN.out]; rfl, rfl⟩

theorem rget_any (s : ByteArray) (a : Int) (w : World) (hs : s.size ≤ maxLen) :
    Calls Try.prog 37 #[.string s, .int .i64 a] w fun e w' => e = .returned (t3 (getT s.data.toList a)) ∧ w = w' := by
  by_cases h : a < 0 ∨ (s.size : Int) < a
  · rw [getT_none (by simpa using h)]
    exact rget_none s a w h
  · obtain ⟨n, rfl⟩ := Int.eq_ofNat_of_zero_le (show 0 ≤ a by omega)
    exact rget_some s n w hs (by omega)

theorem rget_tri (s : ByteArray) (a x y z : Int) (h : getT s.data.toList a = (x, y, z)) (hs : s.size ≤ maxLen) (w : World) :
    Calls Try.prog 37 #[.string s, .int .i64 a] w fun e w' => e = .returned (.tuple #[.int .i64 x, .int .i64 y, .int .i64 z]) ∧ w = w' := by
  have h2 := rget_any s a w hs
  rw [h] at h2
  exact h2

end Go.Proofs.Ytdbcmcdmipehgaa
