/-
  Walks of package varint's leaves: fold, unfold, mayEnd; rules.Within; the helper Num.
  Walk: varint.Get.
  Walk: the reference's GetNum.
-/
import Derived.Test.YtoechlmahckchaaProg
import Derived.Test.YtoechlmahckchaaG11b
import Derived.WalkKit
import Derived.WalkSpells
import Derived.WalkLawsBesides
import Derived.BigQuiet
import Derived.Deep.QuietTactic
import Derived.Below
import Derived.Laws.Bits64
import Derived.Laws.Bits64b
import Derived.Deep.CutBlock
namespace Go.Proofs.Ytoechlmahckchaa
open Go.RowKit

theorem ret_v {k : IntKind} {a b : Int} (h : a = b) : Ending.returned (.int k a) = .returned (.int k b) := by rw [h]

set_option maxHeartbeats 400000 in
theorem num_any (n : Int) (w : World) :
    Calls Try.prog 12 #[.int .i64 n] w fun e w' => e = .returned (.int .i64 n) ∧ w = w' := by
  go_enter Try.func12, Try.ntmps12
  go_wp2
  go_ret
  exact ⟨rfl, rfl⟩

set_option maxHeartbeats 400000 in
theorem within_yes (n lo hi : Int) (w : World) (h1 : lo ≤ n) (h2 : n ≤ hi) :
    Calls Try.prog 26 #[.int .i64 n, .int .i64 lo, .int .i64 hi] w fun e w' => e = .returned (.bool true) ∧ w = w' := by
  go_enter Try.func26, Try.ntmps26
  go_wp2
  go_ret
  exact ⟨rfl, rfl⟩
set_option maxHeartbeats 400000 in
theorem within_no (n lo hi : Int) (w : World) (h : n < lo ∨ hi < n) :
    Calls Try.prog 26 #[.int .i64 n, .int .i64 lo, .int .i64 hi] w fun e w' => e = .returned (.bool false) ∧ w = w' := by
  by_cases h1 : lo ≤ n
  · have h2 : ¬ n ≤ hi := by omega
    go_enter Try.func26, Try.ntmps26
    go_wp2
    go_ret
    exact ⟨rfl, rfl⟩
  · go_enter Try.func26, Try.ntmps26
    go_wp2
    go_ret
    exact ⟨rfl, rfl⟩

set_option maxHeartbeats 400000 in
theorem mayEnd_any (i : Nat) (c : Int) (hi : i ≤ 9) (h0 : 0 ≤ c) (h1 : c ≤ 127) (w : World) :
    Calls Try.prog 63 #[.int .i64 i, .int .u8 c] w fun e w' => e = .returned (.bool (endB i c)) ∧ w = w' := by
  by_cases a : 0 < i
  · by_cases b : c = 0
    · rw [endB_zero a b]
      subst b
      have a' : (0 : Int) < i := by omega
      go_enter Try.func63, Try.ntmps63
      go_wp2
      go_ret
      exact ⟨rfl, rfl⟩
    · by_cases d : i < 9
      · rw [endB_true (by omega) (.inl d)]
        go_enter Try.func63, Try.ntmps63
        go_wp2
        go_ret
        exact ⟨rfl, rfl⟩
      · by_cases e : c ≤ 1
        · rw [endB_true (by omega) (.inr e)]
          go_enter Try.func63, Try.ntmps63
          go_wp2
          go_ret
          exact ⟨rfl, rfl⟩
        · rw [endB_last d e]
          have d' : decide ((i : Int) < 9) = false := by simp; omega
          go_enter Try.func63, Try.ntmps63
          go_wp2
          go_ret
          exact ⟨rfl, rfl⟩
  · obtain rfl : i = 0 := by omega
    rw [endB_true (by omega) (.inl (by omega))]
    go_enter Try.func63, Try.ntmps63
    go_wp2
    go_ret
    exact ⟨rfl, rfl⟩

theorem mayEnd_yes (i : Nat) (c : Int) (hi : i ≤ 9) (h0 : 0 ≤ c) (h1 : c ≤ 127) (h : Hid (endB i c = true)) (w : World) :
    Calls Try.prog 63 #[.int .i64 i, .int .u8 c] w fun e w' => e = .returned (.bool true) ∧ w = w' := by
  have := mayEnd_any i c hi h0 h1 w
  rwa [h.out] at this
theorem mayEnd_no (i : Nat) (c : Int) (hi : i ≤ 9) (h0 : 0 ≤ c) (h1 : c ≤ 127) (h : Hid (endB i c = false)) (w : World) :
    Calls Try.prog 63 #[.int .i64 i, .int .u8 c] w fun e w' => e = .returned (.bool false) ∧ w = w' := by
  have := mayEnd_any i c hi h0 h1 w
  rwa [h.out] at this

set_option maxHeartbeats 400000 in
theorem fold_any (x : Int) (l : -9223372036854775808 ≤ x) (u : x ≤ 9223372036854775807) (w : World) :
    Calls Try.prog 60 #[.int .i64 x] w fun e w' => e = .returned (.int .u64 (foldI x)) ∧ w = w' := by
  by_cases h : x < 0
  · rw [foldI_neg h]
    go_enter Try.func60, Try.ntmps60
    go_wp2
    go_ret
    exact ⟨ret_v (by rw [not_u64 _ (by rw [IntKind.wrap_u64]; omega) (by rw [IntKind.wrap_u64]; omega), IntKind.wrap_u64, IntKind.wrap_u64]; omega), rfl⟩
  · rw [foldI_pos h]
    go_enter Try.func60, Try.ntmps60
    go_wp2
    go_ret
    exact ⟨ret_v (by omega), rfl⟩

set_option maxHeartbeats 400000 in
theorem unfold_any (u : Int) (h0 : 0 ≤ u) (h1 : u < 18446744073709551616) (w : World) :
    Calls Try.prog 64 #[.int .u64 u] w fun e w' => e = .returned (.int .i64 (unfI u)) ∧ w = w' := by
  by_cases h : u % 2 = 1
  · have e : unfI u = -(u / 2) - 1 := if_pos h
    rw [e]; clear e
    have H := Lib.hid h; clear h
    have hb : (u % 2 == 1) = true := by rw [H.out]; rfl
    go_enter Try.func64, Try.ntmps64
    go_wp2
    go_ret
    exact ⟨ret_v (by omega), rfl⟩
  · have e : unfI u = u / 2 := if_neg h
    rw [e]; clear e
    have hb : (u % 2 == 1) = false := by simpa using h
    go_enter Try.func64, Try.ntmps64
    go_wp2
    go_ret
    exact ⟨ret_v (by omega), rfl⟩

end Go.Proofs.Ytoechlmahckchaa

namespace Go.Proofs.Ytoechlmahckchaa
open Go.RowKit

/-- Three numbers. -/
def t3 (x : Int × Int × Int) : Value := .tuple #[.int .i64 x.1, .int .i64 x.2.1, .int .i64 x.2.2]

set_option maxHeartbeats 400000 in
theorem get_none (s : ByteArray) (a : Int) (w : World) (h : a < 0 ∨ (s.size : Int) < a) :
    Calls Try.prog 61 #[.string s, .int .i64 a] w fun e w' => e = .returned (t3 (0, 0, 700)) ∧ w = w' := by
  go_enter Try.func61, Try.ntmps61
  go_wp2_with (go_at_call 26; refine (within_no _ _ _ _ h).mono ?_; rintro e w' ⟨rfl, rfl⟩)
  go_ret3
  exact ⟨rfl, rfl⟩

set_option maxRecDepth 100000 in
set_option maxHeartbeats 1000000 in
theorem get_some (s : ByteArray) (a : Nat) (w : World) (hs : s.size ≤ maxLen) (ha : a ≤ s.size) :
    Calls Try.prog 61 #[.string s, .int .i64 a] w fun e w' => e = .returned (t3 (getT s.data.toList a)) ∧ w = w' := by
  unfold maxLen at hs
  go_enter Try.func61, Try.ntmps61
  go_wp2_with (go_at_call 26; refine (within_yes _ _ _ _ (by omega) (by omega)).mono ?_; rintro e w' ⟨rfl, rfl⟩)
  go_loop [7, 15] (fun x i => ∃ (k X : Nat), k ≤ 10 ∧ a + k ≤ s.size ∧ i = .int .i64 k ∧ x = .int .u64 X ∧ Hid (k ≤ 9 → X < 2 ^ (7 * k)) ∧ Hid (decL 0 0 (s.data.toList.drop a) = decL k X (s.data.toList.drop (a + k)))) (fun _ i => 10 - (intOf i).toNat)
  case atStart => exact ⟨0, 0, by omega, by omega, rfl, rfl, Lib.hid (by omega), Lib.hid rfl⟩
  case round =>
    obtain ⟨k, X, hk, hak, rfl, rfl, hX, HD⟩ := hrel
    by_cases h10 : k < 10
    · by_cases hlt : a + k < s.size
      · have hd := drop_at s (a + k) hlt
        have HO := Lib.hid (or_step X s[a + k].toNat k (by omega) (hX.out (by omega)))
        by_cases hb : 128 ≤ s[a + k].toNat
        · have HN : Hid (decL 0 0 (s.data.toList.drop a) = decL (k + 1) (X + s[a + k].toNat % 128 * 2 ^ (7 * k) % 18446744073709551616) (s.data.toList.drop (a + (k + 1)))) := Lib.hid (by rw [HD.out, hd, decL_more h10 hb]; rfl)
          have HX := Lib.hid (fun _ : k + 1 ≤ 9 => step_lt X s[a + k].toNat k (hX.out (by omega)))
          clear hd HD hX
          go_wp2_with fail
          exact ⟨⟨k + 1, _, by omega, by omega, by go_num, congrArg _ HO.out, HX, HN⟩, by simp [intOf]; omega⟩
        · by_cases he : endB k s[a + k].toNat = true
          · have HN := Lib.hid (getT_ok ha (HD.out.trans (by rw [hd, decL_end h10 hb he])))
            have HB := Lib.hid he
            have hin := step_in X s[a + k].toNat k (by omega) (hX.out (by omega))
            have HU := Lib.hid (fun w : World => unfold_any ((X + s[a + k].toNat % 128 * 2 ^ (7 * k) % 18446744073709551616 : Nat) : Int) (by omega) (by omega) w)
            clear hd HD hX he hin
            go_wp2_with (first
              | (go_at_call 63; refine (mayEnd_yes k _ (by omega) (by omega) (by omega) HB _).mono ?_; rintro e w' ⟨rfl, rfl⟩)
              | (go_at_call 64; rw [HO.out]; refine (HU.out _).mono ?_; rintro e w' ⟨rfl, rfl⟩))
            go_ret3
            exact ⟨by rw [HN.out]; rfl, rfl⟩
          · have he' : endB k s[a + k].toNat = false := by simpa using he
            have HN := Lib.hid (getT_err (e := 700) ha (by decide) (HD.out.trans (by rw [hd, decL_bad h10 hb he'])))
            have HB := Lib.hid he'
            clear hd HD hX he he'
            go_wp2_with (go_at_call 63; refine (mayEnd_no k _ (by omega) (by omega) (by omega) HB _).mono ?_; rintro e w' ⟨rfl, rfl⟩)
            go_ret3
            exact ⟨by rw [HN.out]; rfl, rfl⟩
      · have HN := Lib.hid (getT_err (e := 701) ha (by decide) (HD.out.trans (by rw [drop_all s _ (by omega), decL_cut h10])))
        have hb : ((a : Int) + k == s.size) = true := by simp; omega
        clear HD hX
        go_wp2_with fail
        go_ret3
        exact ⟨by rw [HN.out]; rfl, rfl⟩
    · have HN := Lib.hid (getT_err (e := 700) ha (by decide) (HD.out.trans (decL_form (by omega) _)))
      clear HD hX
      go_wp2_with fail
      go_ret3
      exact ⟨by rw [HN.out]; rfl, rfl⟩

theorem get_any (s : ByteArray) (a : Int) (w : World) (hs : s.size ≤ maxLen) :
    Calls Try.prog 61 #[.string s, .int .i64 a] w fun e w' => e = .returned (t3 (getT s.data.toList a)) ∧ w = w' := by
  by_cases h : a < 0 ∨ (s.size : Int) < a
  · rw [getT_none (by simpa using h)]
    exact get_none s a w h
  · obtain ⟨n, rfl⟩ := Int.eq_ofNat_of_zero_le (show 0 ≤ a by omega)
    exact get_some s n w hs (by omega)

/-- Get, its answer by three names. -/
theorem get_tri (s : ByteArray) (a x y z : Int) (h : getT s.data.toList a = (x, y, z)) (hs : s.size ≤ maxLen) (w : World) :
    Calls Try.prog 61 #[.string s, .int .i64 a] w fun e w' => e = .returned (.tuple #[.int .i64 x, .int .i64 y, .int .i64 z]) ∧ w = w' := by
  have h2 := get_any s a w hs
  rw [h] at h2
  exact h2

end Go.Proofs.Ytoechlmahckchaa

namespace Go.Proofs.Ytoechlmahckchaa
open Go.RowKit

set_option maxHeartbeats 400000 in
theorem rget_none (s : ByteArray) (a : Int) (w : World) (h : a < 0 ∨ (s.size : Int) < a) :
    Calls Try.prog 62 #[.string s, .int .i64 a] w fun e w' => e = .returned (t3 (0, 0, 700)) ∧ w = w' := by
  by_cases h0 : a < 0
  · go_enter Try.func62, Try.ntmps62
    go_wp2
    go_ret3
    exact ⟨rfl, rfl⟩
  · have h1 : (s.size : Int) < a := by omega
    clear h
    go_enter Try.func62, Try.ntmps62
    go_wp2
    go_ret3
    exact ⟨rfl, rfl⟩

theorem and127_byte (b : UInt8) : bits .and .u8 (b.toNat : Int) 127 = (b.toNat : Int) % 128 := and127_u8 _ (by omega) (by have := b.toNat_lt; omega)

set_option maxRecDepth 100000 in
set_option maxHeartbeats 1000000 in
theorem rget_some (s : ByteArray) (a : Nat) (w : World) (hs : s.size ≤ maxLen) (ha : a ≤ s.size) :
    Calls Try.prog 62 #[.string s, .int .i64 a] w fun e w' => e = .returned (t3 (getT s.data.toList a)) ∧ w = w' := by
  unfold maxLen at hs
  have ha0 : decide ((a : Int) < 0) = false := by simp
  have ha1 : decide (s.size < a) = false := by simp; omega
  go_enter Try.func62, Try.ntmps62
  go_wp2_with fail
  go_loop [7, 8] (fun x i => ∃ (k X : Nat), k ≤ 10 ∧ a + k ≤ s.size ∧ i = .int .i64 k ∧ x = .int .u64 X ∧ Hid (k ≤ 9 → X < 2 ^ (7 * k)) ∧ Hid (decL 0 0 (s.data.toList.drop a) = decL k X (s.data.toList.drop (a + k)))) (fun _ i => 10 - (intOf i).toNat)
  case atStart => exact ⟨0, 0, by omega, by omega, rfl, rfl, Lib.hid (by omega), Lib.hid rfl⟩
  case round =>
    obtain ⟨k, X, hk, hak, rfl, rfl, hX, HD⟩ := hrel
    by_cases h10 : k < 10
    · by_cases hlt : a + k < s.size
      · have hd := drop_at s (a + k) hlt
        have HO := Lib.hid (or_step X s[a + k].toNat k (by omega) (hX.out (by omega)))
        have hm := and127_byte s[a + k]
        by_cases hb : 128 ≤ s[a + k].toNat
        · have HN : Hid (decL 0 0 (s.data.toList.drop a) = decL (k + 1) (X + s[a + k].toNat % 128 * 2 ^ (7 * k) % 18446744073709551616) (s.data.toList.drop (a + (k + 1)))) := Lib.hid (by rw [HD.out, hd, decL_more h10 hb]; rfl)
          have HX := Lib.hid (fun _ : k + 1 ≤ 9 => step_lt X s[a + k].toNat k (hX.out (by omega)))
          clear hd HD hX
          go_wp2_with fail
          exact ⟨⟨k + 1, _, by omega, by omega, by go_num, congrArg _ HO.out, HX, HN⟩, by simp [intOf]; omega⟩
        · have hin := step_in X s[a + k].toNat k (by omega) (hX.out (by omega))
          have HE := Lib.hid (fun he => HD.out.trans (by rw [hd, decL_end h10 hb he]))
          have HF := Lib.hid (fun he => HD.out.trans (by rw [hd, decL_bad h10 hb he]))
          clear hd HD hX
          have hc0 : (s[a + k].toNat : Int) < 128 := by omega
          go_upto_region 11 with fail
          rw [HO.out]
          clear HO hm
          generalize X + s[a + k].toNat % 128 * 2 ^ (7 * k) % 18446744073709551616 = Y at hin HE ⊢
          generalize s[a + k].toNat = c at hc0 hb HE HF ⊢
          have hP := and1_u64 (Y : Int) (by omega) (by omega)
          rcases Nat.eq_zero_or_pos k with rfl | hk0
          · have HN := Lib.hid (getT_ok ha (HE.out (endB_true (by omega) (.inl (by omega)))))
            clear HE HF
            by_cases ho : Y % 2 = 1
            · have hb1 : ((Y : Int) % 2 == 1) = true := by simp; omega
              have HU : unfI (Y : Int) = -((Y : Int) / 2) - 1 := if_pos (by omega)
              rw [HU] at HN
              clear HU ho
              go_wp2_with fail
              all_goals (go_ret3; exact ⟨by rw [HN.out]; rfl, rfl⟩)
            · have hb1 : ((Y : Int) % 2 == 1) = false := by simp; omega
              have HU : unfI (Y : Int) = (Y : Int) / 2 := if_neg (by omega)
              rw [HU] at HN
              clear HU ho
              go_wp2_with fail
              all_goals (go_ret3; exact ⟨by rw [HN.out]; rfl, rfl⟩)
          · have hk1 : (0 : Int) < k := by omega
            by_cases hz : c = 0
            · subst hz
              have HN := Lib.hid (getT_err (e := 700) ha (by decide) (HF.out (endB_zero hk0 rfl)))
              clear HE HF hP
              go_wp2_with fail
              all_goals (go_ret3; exact ⟨by rw [HN.out]; rfl, rfl⟩)
            · have hz' : ((c : Int) == 0) = false := by simp; omega
              by_cases h9 : k < 9
              · have h9' : ((k : Int) == 9) = false := by simp; omega
                have HN := Lib.hid (getT_ok ha (HE.out (endB_true (by omega) (.inl h9))))
                clear HE HF
                by_cases ho : Y % 2 = 1
                · have hb1 : ((Y : Int) % 2 == 1) = true := by simp; omega
                  have HU : unfI (Y : Int) = -((Y : Int) / 2) - 1 := if_pos (by omega)
                  rw [HU] at HN
                  clear HU ho
                  go_wp2_with fail
                  all_goals (go_ret3; exact ⟨by rw [HN.out]; rfl, rfl⟩)
                · have hb1 : ((Y : Int) % 2 == 1) = false := by simp; omega
                  have HU : unfI (Y : Int) = (Y : Int) / 2 := if_neg (by omega)
                  rw [HU] at HN
                  clear HU ho
                  go_wp2_with fail
                  all_goals (go_ret3; exact ⟨by rw [HN.out]; rfl, rfl⟩)
              · obtain rfl : k = 9 := by omega
                by_cases h1 : c ≤ 1
                · have HN := Lib.hid (getT_ok ha (HE.out (endB_true (by omega) (.inr (by omega)))))
                  clear HE HF
                  by_cases ho : Y % 2 = 1
                  · have hb1 : ((Y : Int) % 2 == 1) = true := by simp; omega
                    have HU : unfI (Y : Int) = -((Y : Int) / 2) - 1 := if_pos (by omega)
                    rw [HU] at HN
                    clear HU ho
                    go_wp2_with fail
                    all_goals (go_ret3; exact ⟨by rw [HN.out]; rfl, rfl⟩)
                  · have hb1 : ((Y : Int) % 2 == 1) = false := by simp; omega
                    have HU : unfI (Y : Int) = (Y : Int) / 2 := if_neg (by omega)
                    rw [HU] at HN
                    clear HU ho
                    go_wp2_with fail
                    all_goals (go_ret3; exact ⟨by rw [HN.out]; rfl, rfl⟩)
                · have HN := Lib.hid (getT_err (e := 700) ha (by decide) (HF.out (endB_last (by omega) (by omega))))
                  clear HE HF hP
                  go_wp2_with fail
                  all_goals (go_ret3; exact ⟨by rw [HN.out]; rfl, rfl⟩)
      · have HN := Lib.hid (getT_err (e := 701) ha (by decide) (HD.out.trans (by rw [drop_all s _ (by omega), decL_cut h10])))
        have hb : (s.size : Int) ≤ (a : Int) + k := by omega
        clear HD hX
        go_wp2_with fail
        go_ret3
        exact ⟨by rw [HN.out]; rfl, rfl⟩
    · have HN := Lib.hid (getT_err (e := 700) ha (by decide) (HD.out.trans (decL_form (by omega) _)))
      clear HD hX
      go_wp2_with fail
      go_ret3
      exact ⟨by rw [HN.out]; rfl, rfl⟩

theorem rget_any (s : ByteArray) (a : Int) (w : World) (hs : s.size ≤ maxLen) :
    Calls Try.prog 62 #[.string s, .int .i64 a] w fun e w' => e = .returned (t3 (getT s.data.toList a)) ∧ w = w' := by
  by_cases h : a < 0 ∨ (s.size : Int) < a
  · rw [getT_none (by simpa using h)]
    exact rget_none s a w h
  · obtain ⟨n, rfl⟩ := Int.eq_ofNat_of_zero_le (show 0 ≤ a by omega)
    exact rget_some s n w hs (by omega)

theorem rget_tri (s : ByteArray) (a x y z : Int) (h : getT s.data.toList a = (x, y, z)) (hs : s.size ≤ maxLen) (w : World) :
    Calls Try.prog 62 #[.string s, .int .i64 a] w fun e w' => e = .returned (.tuple #[.int .i64 x, .int .i64 y, .int .i64 z]) ∧ w = w' := by
  have h2 := rget_any s a w hs
  rw [h] at h2
  exact h2

end Go.Proofs.Ytoechlmahckchaa
