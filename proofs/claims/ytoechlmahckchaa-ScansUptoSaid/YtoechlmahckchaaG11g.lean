/-
  Walks of package frame's leaves: next, sumTold, headFits; rules.Within; the helper Num.
  Walks: frame.Sum and the reference's Sum.
  strings.Clone: the library's shelf, laid over this program.
  Walk: frame.Get.
-/
import Derived.Test.YtoechlmahckchaaProg
import Derived.Test.YtoechlmahckchaaG11a
import Derived.WalkKit
import Derived.WalkSpells
import Derived.WalkLawsBesides
import Derived.BigQuiet
import Derived.Deep.QuietTactic
import Derived.Below
import Derived.Laws.Bits64
import Derived.Laws.Bits64b
import Derived.Test.YtoechlmahckchaaFMask
import Derived.Deep.CutBlock
import Derived.Shelf.Pu.Clone
namespace Go.Proofs.Ytoechlmahckchaa
open Go.RowKit

theorem fret_v {k : IntKind} {a b : Int} (h : a = b) : Ending.returned (.int k a) = .returned (.int k b) := by rw [h]
theorem fdrop_at (s : ByteArray) (j : Nat) (h : j < s.size) : s.data.toList.drop j = s[j] :: s.data.toList.drop (j + 1) := by
  rw [List.drop_eq_getElem_cons (by simpa using h)]; rfl

set_option maxHeartbeats 400000 in
theorem fnum_any (n : Int) (w : World) :
    Calls Try.prog 12 #[.int .i64 n] w fun e w' => e = .returned (.int .i64 n) ∧ w = w' := by
  go_enter Try.func12, Try.ntmps12
  go_wp2
  go_ret
  exact ⟨rfl, rfl⟩

set_option maxHeartbeats 400000 in
theorem fwithin_yes (n lo hi : Int) (w : World) (h1 : lo ≤ n) (h2 : n ≤ hi) :
    Calls Try.prog 26 #[.int .i64 n, .int .i64 lo, .int .i64 hi] w fun e w' => e = .returned (.bool true) ∧ w = w' := by
  go_enter Try.func26, Try.ntmps26
  go_wp2
  go_ret
  exact ⟨rfl, rfl⟩
set_option maxHeartbeats 400000 in
theorem fwithin_no (n lo hi : Int) (w : World) (h : n < lo ∨ hi < n) :
    Calls Try.prog 26 #[.int .i64 n, .int .i64 lo, .int .i64 hi] w fun e w' => e = .returned (.bool false) ∧ w = w' := by
  by_cases h1 : lo ≤ n
  · have h2 : ¬ n ≤ hi := by omega
    go_enter Try.func26, Try.ntmps26
    go_wp2
    go_ret
    exact ⟨rfl, rfl⟩
  · go_enter Try.func26, Try.ntmps26
    go_wp2
    go_ret
    exact ⟨rfl, rfl⟩

set_option maxHeartbeats 400000 in
theorem fnext_any (x : Nat) (h : x < 65536) (w : World) :
    Calls Try.prog 52 #[.int .u16 x] w fun e w' => e = .returned (.int .u16 (nxt x)) ∧ w = w' := by
  have hn := nxt_u16 h
  go_enter Try.func52, Try.ntmps52
  go_wp2
  go_ret
  exact ⟨rfl, rfl⟩

theorem told_bits {h l : Nat} (hh : h < 256) (hl : l < 256) : bits .or .i64 ((h : Int) * 256) (l : Int) = ((h * 256 + l : Nat) : Int) := by
  have hj := bits_join .i64 63 (by decide) (fun n h0 h1 => by rw [IntKind.wrap_i64]; omega) 8 ((h : Int) * 256) l (by omega) (by omega) (by omega) (by omega) (by omega) (by omega)
  omega
set_option maxHeartbeats 400000 in
theorem told_at (s : ByteArray) (h l : UInt8) (h2 : 2 ≤ s.size) (eh : s[0] = h) (el : s[1] = l) (w : World) :
    Calls Try.prog 55 #[.string s] w fun e w' => e = .returned (.int .i64 ((h.toNat * 256 + l.toNat : Nat) : Int)) ∧ ∃ m, w' = w.drewN m := by
  subst eh; subst el
  have hb := told_bits s[0].toNat_lt s[1].toNat_lt
  have h0 : 0 < s.size := by omega
  have h1 : 1 < s.size := by omega
  have h1' : (1 : Int) < (s.size : Int) := by omega
  go_enter Try.func55, Try.ntmps55
  go_wp2_with fail
  go_quiet (fail)
  go_wp2_with fail
  go_ret
  refine ⟨fret_v ?_, _, rfl⟩
  rw [← hb]
  have hl0 := s[0].toNat_lt
  have hl1 := s[1].toNat_lt
  rw [show wrap64 (s[0].toNat : Int) = s[0].toNat by unfold wrap64; omega, show wrap64 (s[1].toNat : Int) = s[1].toNat by unfold wrap64; omega, show wrap64 ((s[0].toNat : Int) * 256) = (s[0].toNat : Int) * 256 by unfold wrap64; omega]

theorem told_any (s : ByteArray) (h l : UInt8) (t : List UInt8) (hl : s.data.toList = h :: l :: t) (w : World) :
    Calls Try.prog 55 #[.string s] w fun e w' => e = .returned (.int .i64 ((h.toNat * 256 + l.toNat : Nat) : Int)) ∧ ∃ m, w' = w.drewN m := by
  have hz : s.size = t.length + 2 := by
    have h1 : s.data.toList.length = s.size := by simp
    rw [← h1, hl]; simp
  have e0 := fdrop_at s 0 (by omega)
  have e1 := fdrop_at s 1 (by omega)
  rw [hl] at e0 e1
  simp only [List.drop_zero, List.drop_succ_cons, List.cons.injEq] at e0 e1
  exact told_at s h l (by omega) e0.1.symm e1.1.symm w

set_option maxHeartbeats 400000 in
theorem fits_nil (s : ByteArray) (h0 : s.size = 0) (w : World) :
    Calls Try.prog 54 #[.string s] w fun e w' => e = .returned (.bool true) ∧ w = w' := by
  have hb : (((s.size : Nat) : Int) == 0) = true := by simp [h0]
  go_enter Try.func54, Try.ntmps54
  go_wp2_with fail
  go_ret
  exact ⟨rfl, rfl⟩
set_option maxHeartbeats 400000 in
theorem fits_mark (s : ByteArray) (h0 : 0 < s.size) (hm : ¬ s[0].toNat = 181) (w : World) :
    Calls Try.prog 54 #[.string s] w fun e w' => e = .returned (.bool false) ∧ w = w' := by
  have hb : (((s.size : Nat) : Int) == 0) = false := by rw [beq_eq_false_iff_ne]; omega
  have hc : ((s[0].toNat : Int) == 181) = false := by rw [beq_eq_false_iff_ne]; omega
  go_enter Try.func54, Try.ntmps54
  go_wp2_with fail
  go_ret
  exact ⟨rfl, rfl⟩
set_option maxHeartbeats 400000 in
theorem fits_one (s : ByteArray) (h0 : s.size = 1) (hm : s[0].toNat = 181) (w : World) :
    Calls Try.prog 54 #[.string s] w fun e w' => e = .returned (.bool true) ∧ w = w' := by
  have hb : (((s.size : Nat) : Int) == 0) = false := by rw [beq_eq_false_iff_ne]; omega
  have hc : ((s[0].toNat : Int) == 181) = true := by rw [hm]; rfl
  have hl : 0 < s.size := by omega
  go_enter Try.func54, Try.ntmps54
  go_wp2_with fail
  go_ret
  exact ⟨rfl, rfl⟩
set_option maxHeartbeats 400000 in
theorem fits_yes (s : ByteArray) (h0 : 2 ≤ s.size) (hm : s[0].toNat = 181) (hk : 1 ≤ s[1].toNat ∧ s[1].toNat ≤ 60) (w : World) :
    Calls Try.prog 54 #[.string s] w fun e w' => e = .returned (.bool true) ∧ w = w' := by
  have hb : (((s.size : Nat) : Int) == 0) = false := by rw [beq_eq_false_iff_ne]; omega
  have hc : ((s[0].toNat : Int) == 181) = true := by rw [hm]; rfl
  have hl : 0 < s.size := by omega
  have hl1 : 1 < s.size := by omega
  have hl1' : (1 : Int) < (s.size : Int) := by omega
  have hd : decide ((s.size : Int) ≤ 1) = false := by simp; omega
  have hwr : wrap64 (s[1].toNat : Int) = s[1].toNat := by have := s[1].toNat_lt; unfold wrap64; omega
  have HK : Hid (∀ w, Calls Try.prog 26 #[.int .i64 s[1].toNat, .int .i64 1, .int .i64 60] w fun e w' => e = .returned (.bool true) ∧ w = w') := Lib.hid fun w => fwithin_yes _ _ _ w (by omega) (by omega)
  clear hk hm
  go_enter Try.func54, Try.ntmps54
  go_wp2_with (go_at_call 26; refine (HK.out _).mono ?_; rintro e w' ⟨rfl, rfl⟩)
  go_ret
  exact ⟨rfl, rfl⟩
set_option maxHeartbeats 400000 in
theorem fits_no (s : ByteArray) (h0 : 2 ≤ s.size) (hm : s[0].toNat = 181) (hk : s[1].toNat < 1 ∨ 60 < s[1].toNat) (w : World) :
    Calls Try.prog 54 #[.string s] w fun e w' => e = .returned (.bool false) ∧ w = w' := by
  have hb : (((s.size : Nat) : Int) == 0) = false := by rw [beq_eq_false_iff_ne]; omega
  have hc : ((s[0].toNat : Int) == 181) = true := by rw [hm]; rfl
  have hl : 0 < s.size := by omega
  have hl1 : 1 < s.size := by omega
  have hl1' : (1 : Int) < (s.size : Int) := by omega
  have hd : decide ((s.size : Int) ≤ 1) = false := by simp; omega
  have hwr : wrap64 (s[1].toNat : Int) = s[1].toNat := by have := s[1].toNat_lt; unfold wrap64; omega
  have HK : Hid (∀ w, Calls Try.prog 26 #[.int .i64 s[1].toNat, .int .i64 1, .int .i64 60] w fun e w' => e = .returned (.bool false) ∧ w = w') := Lib.hid fun w => fwithin_no _ _ _ w (by omega)
  clear hk hm
  go_enter Try.func54, Try.ntmps54
  go_wp2_with (go_at_call 26; refine (HK.out _).mono ?_; rintro e w' ⟨rfl, rfl⟩)
  go_ret
  exact ⟨rfl, rfl⟩

end Go.Proofs.Ytoechlmahckchaa

namespace Go.Proofs.Ytoechlmahckchaa
open Go.RowKit

theorem sum_step {s : ByteArray} {n X : Nat} (h : n < s.size) (HD : sumL s.data.toList = sumF X (s.data.toList.drop n)) :
    sumL s.data.toList = sumF (nxN 8 (X ^^^ s[n].toNat * 256)) (s.data.toList.drop (n + 1)) := by
  rw [HD, fdrop_at s n h]; rfl
theorem sum_end {s : ByteArray} {n X : Nat} (h : ¬ n < s.size) (HD : sumL s.data.toList = sumF X (s.data.toList.drop n)) : sumL s.data.toList = X := by
  rw [HD, List.drop_eq_nil_of_le (by simpa using h)]; rfl

set_option maxRecDepth 100000 in
set_option maxHeartbeats 1000000 in
theorem sum_any (s : ByteArray) (hs : s.size ≤ maxLen) (w : World) :
    Calls Try.prog 44 #[.string s] w fun e w' => e = .returned (.int .i64 (sumL s.data.toList)) ∧ w = w' := by
  unfold maxLen at hs
  go_enter Try.func44, Try.ntmps44
  go_wp2_with fail
  go_loop [3, 7] (fun x i => ∃ n X : Nat, n ≤ s.size ∧ X < 65536 ∧ i = .int .i64 n ∧ x = .int .u16 X ∧ Hid (sumL s.data.toList = sumF X (s.data.toList.drop n))) (fun _ i => s.size - (intOf i).toNat)
  case atStart => exact ⟨0, 65535, by omega, by omega, rfl, rfl, Lib.hid rfl⟩
  case round =>
    obtain ⟨n, X, hn, hX, rfl, rfl, HD⟩ := hrel
    by_cases hlt : n < s.size
    · have HE := Lib.hid (sum_step hlt HD.out)
      have hw := with_u16 hX s[n]
      have hY := with_lt hX s[n]
      clear HD
      go_wp2_with fail
      generalize (X ^^^ s[n].toNat * 256) = Y at hY HE ⊢
      go_loop [3, 17] (fun x j => ∃ k : Nat, k ≤ 8 ∧ j = .int .i64 k ∧ x = .int .u16 (nxN k Y)) (fun _ j => 8 - (intOf j).toNat)
      case atStart => exact ⟨0, by omega, rfl, rfl⟩
      case round =>
        obtain ⟨k, hk, rfl, rfl⟩ := hrel
        by_cases hk8 : k < 8
        · go_wp2_with (go_at_call 52; refine (fnext_any _ (nxN_lt hY k) _).mono ?_; rintro e w' ⟨rfl, rfl⟩)
          exact ⟨⟨k + 1, by omega, by go_num, rfl⟩, by simp [intOf]; omega⟩
        · obtain rfl : k = 8 := by omega
          go_wp2_with fail
          exact ⟨⟨n + 1, _, by omega, nxN_lt hY 8, by go_num, rfl, HE⟩, by simp [intOf]; omega⟩
    · have HE := Lib.hid (sum_end hlt HD.out)
      clear HD
      have hlt' : ¬ (n : Int) < (s.size : Int) := by omega
      go_wp2_with fail
      go_ret
      exact ⟨fret_v (by rw [HE.out]), rfl⟩

theorem rsum_and (x : Nat) : bits .and .i64 ((x : Int) * 2) 65535 = ((x * 2 % 65536 : Nat) : Int) := by
  have hm := mask_of ((x : Int) * 2) 16 65535 (by decide) (by decide)
  rw [hm]; omega

set_option maxRecDepth 100000 in
set_option maxHeartbeats 1000000 in
theorem rsum_any (s : ByteArray) (hs : s.size ≤ maxLen) (w : World) :
    Calls Try.prog 37 #[.string s] w fun e w' => e = .returned (.int .i64 (sumL s.data.toList)) ∧ w = w' := by
  unfold maxLen at hs
  go_enter Try.func37, Try.ntmps37
  go_wp2_with fail
  go_loop [3, 4] (fun x i => ∃ n X : Nat, n ≤ s.size ∧ X < 65536 ∧ i = .int .i64 n ∧ x = .int .i64 X ∧ Hid (sumL s.data.toList = sumF X (s.data.toList.drop n))) (fun _ i => s.size - (intOf i).toNat)
  case atStart => exact ⟨0, 65535, by omega, by omega, rfl, rfl, Lib.hid rfl⟩
  case round =>
    obtain ⟨n, X, hn, hX, rfl, rfl, HD⟩ := hrel
    by_cases hlt : n < s.size
    · have HE := Lib.hid (sum_step hlt HD.out)
      have hw := with_i64 hX s[n]
      have hY := with_lt hX s[n]
      have hwr : wrap64 (s[n].toNat : Int) = s[n].toNat := by have := s[n].toNat_lt; unfold wrap64; omega
      clear HD
      go_wp2_with fail
      generalize (X ^^^ s[n].toNat * 256) = Y at hY HE ⊢
      go_loop [3, 5] (fun x j => ∃ k : Nat, k ≤ 8 ∧ j = .int .i64 k ∧ x = .int .i64 (nxN k Y)) (fun _ j => 8 - (intOf j).toNat)
      case atStart => exact ⟨0, by omega, rfl, rfl⟩
      case round =>
        obtain ⟨k, hk, rfl, rfl⟩ := hrel
        by_cases hk8 : k < 8
        · have hZ := nxN_lt hY k
          have hN : nxN (k + 1) Y = nxt (nxN k Y) := rfl
          generalize nxN k Y = Z at hZ hN ⊢
          have ha := rsum_and Z
          by_cases hh : 32768 ≤ Z
          · have hx : bits .xor .i64 ((Z : Int) * 2 % 65536) 4129 = ((Z * 2 % 65536 ^^^ 4129 : Nat) : Int) := by simpa using i64_xor_nat (Z * 2 % 65536) 4129 (by omega) (by omega)
            have HZ := Lib.hid (hN.trans (nxt_high hh hZ))
            clear hN
            have hh' : (32768 : Int) ≤ Z := by omega
            go_wp2_with fail
            exact ⟨⟨k + 1, by omega, by go_num, by rw [HZ.out]⟩, by simp [intOf]; omega⟩
          · have HZ := Lib.hid (hN.trans (nxt_low (by omega)))
            clear hN
            have hh' : ¬ (32768 : Int) ≤ Z := by omega
            go_wp2_with fail
            exact ⟨⟨k + 1, by omega, by go_num, congrArg (Value.int .i64) (by rw [HZ.out]; omega)⟩, by simp [intOf]; omega⟩
        · obtain rfl : k = 8 := by omega
          go_wp2_with fail
          exact ⟨⟨n + 1, _, by omega, nxN_lt hY 8, by go_num, rfl, HE⟩, by simp [intOf]; omega⟩
    · have HE := Lib.hid (sum_end hlt HD.out)
      clear HD
      have hlt' : ¬ (n : Int) < (s.size : Int) := by omega
      go_wp2_with fail
      go_ret
      exact ⟨fret_v (by rw [HE.out]), rfl⟩

end Go.Proofs.Ytoechlmahckchaa

namespace Go.Proofs.Ytoechlmahckchaa
open Go.Shelf Go.RowKit

/-- The shelf's numbers, in this program. -/
def cloneRen : Ren := ⟨fun _ => 39, fun n => match n with
  | 3 => 3 | 4 => 4 | 5 => 5 | 9 => 9 | 37 => 70 | 47 => 86 | _ => 0, fun _ => 0⟩

theorem cloneLays : LaysPu.n25 Try.prog cloneRen where
  mixed := by kernel_rfl
  f25 := by kernel_rfl
  t0 := by kernel_rfl
  a0 := Try.isAgg0
  z0 := Try.sizeOf0
  v0 := Try.zeroValue0
  i0 := by kernel_rfl
  t3 := by kernel_rfl
  a3 := Try.isAgg3
  z3 := Try.sizeOf3
  v3 := Try.zeroValue3
  i3 := by kernel_rfl
  t4 := by kernel_rfl
  a4 := Try.isAgg4
  z4 := Try.sizeOf4
  v4 := Try.zeroValue4
  i4 := by kernel_rfl
  t5 := by kernel_rfl
  a5 := Try.isAgg5
  z5 := Try.sizeOf5
  v5 := Try.zeroValue5
  i5 := by kernel_rfl
  t9 := by kernel_rfl
  a9 := Try.isAgg9
  z9 := Try.sizeOf9
  v9 := Try.zeroValue9
  i9 := by kernel_rfl
  t37 := by kernel_rfl
  a37 := Try.isAgg70
  z37 := Try.sizeOf70
  v37 := Try.zeroValue70
  i37 := by kernel_rfl
  t47 := by kernel_rfl
  a47 := Try.isAgg86
  z47 := Try.sizeOf86
  v47 := Try.zeroValue86
  i47 := by kernel_rfl

theorem sclone_any (s : ByteArray) (w : World) (hs : s.size ≤ 281474976710656) :
    Calls Try.prog 39 #[.string s] w fun e w' => e = .returned (.string s) ∧ Below w.heap.size w w' :=
  AnyPu.stringslite_Clone cloneLays s w hs

set_option maxHeartbeats 400000 in
theorem clone_any (s : ByteArray) (w : World) (hs : s.size ≤ 281474976710656) :
    Calls Try.prog 28 #[.string s] w fun e w' => e = .returned (.string s) ∧ Below w.heap.size w w' := by
  go_enter Try.func28, Try.ntmps28
  go_wp2_with (go_at_call 39; refine (sclone_any _ _ hs).mono ?_; rintro e w' ⟨rfl, hb⟩)
  go_ret
  exact ⟨rfl, hb⟩

end Go.Proofs.Ytoechlmahckchaa

namespace Go.Proofs.Ytoechlmahckchaa
open Go.RowKit

/-- A text and two numbers. -/
def g3 (x : ByteArray × Int × Int) : Value := .tuple #[.string x.1, .int .i64 x.2.1, .int .i64 x.2.2]

theorem list_len (s : ByteArray) : s.data.toList.length = s.size := by simp
theorem rest_list (s : ByteArray) (a : Nat) : (s.extract a s.size).data.toList = s.data.toList.drop a := by
  rw [ByteArray.data_extract, Array.toList_extract]
  simp [List.extract]
  rw [List.take_of_length_le (by simp)]
theorem rest_size (s : ByteArray) (a : Nat) (h : a ≤ s.size) : (s.extract a s.size).size = s.size - a := by
  rw [ByteArray.size_extract]; omega
theorem two_list (s : ByteArray) (h : 2 ≤ s.size) : s.data.toList = s[0] :: s[1] :: s.data.toList.drop 2 := by
  have e0 := fdrop_at s 0 (by omega)
  have e1 := fdrop_at s 1 (by omega)
  rw [List.drop_zero] at e0
  rw [e1] at e0
  exact e0
theorem part_sum (s : ByteArray) (h : 2 ≤ s.size) (k : Nat) : (s.extract 1 (2 + k)).data.toList = s[1] :: (s.data.toList.drop 2).take k := by
  rw [ByteArray.data_extract, Array.toList_extract]
  have e1 := fdrop_at s 1 (by omega)
  simp only [List.extract]
  rw [e1, show 2 + k - 1 = k + 1 by omega, List.take_succ_cons]
theorem part_body (s : ByteArray) (k : Nat) : (s.extract 2 (2 + k)).data.toList = (s.data.toList.drop 2).take k := by
  rw [ByteArray.data_extract, Array.toList_extract]
  simp only [List.extract]
  rw [show 2 + k - 2 = k by omega]
theorem part_told (s : ByteArray) (k : Nat) : (s.extract (2 + k) s.size).data.toList = (s.data.toList.drop 2).drop k := by
  rw [rest_list, List.drop_drop]
theorem two_left {l : List UInt8} (h : 2 ≤ l.length) : ∃ a b t, l = a :: b :: t := by
  match l, h with
  | a :: b :: t, _ => exact ⟨a, b, t, rfl⟩
theorem bytes_of (s : ByteArray) : (⟨s.data.toList.toArray⟩ : ByteArray) = s := by simp
theorem byte181 {b : UInt8} (h : b.toNat = 181) : b = 181 := UInt8.toNat_inj.1 h
theorem not181 {b : UInt8} (h : ¬ b.toNat = 181) : b ≠ 181 := fun e => h (by rw [e]; rfl)

set_option maxHeartbeats 400000 in
theorem fget_none (s : ByteArray) (a : Int) (w : World) (h : a < 0 ∨ (s.size : Int) < a) :
    Calls Try.prog 47 #[.string s, .int .i64 a] w fun e w' => e = .returned (g3 (⟨#[]⟩, 0, 800)) ∧ Below w.heap.size w w' := by
  go_enter Try.func47, Try.ntmps47
  go_wp2_with (go_at_call 26; refine (fwithin_no _ _ _ _ h).mono ?_; rintro e w' ⟨rfl, rfl⟩)
  go_ret3
  exact ⟨rfl, Below.refl _ _⟩

theorem ret_g {b : ByteArray} {x y z : Int} (h : x = y) : Ending.returned (.tuple #[.string b, .int .i64 x, .int .i64 z]) = .returned (.tuple #[.string b, .int .i64 y, .int .i64 z]) := by rw [h]
set_option maxRecDepth 100000 in
set_option maxHeartbeats 400000 in
theorem get_bad (s : ByteArray) (a : Nat) (w : World) (R : ByteArray) (hR : s.extract a s.size = R) (_ : s.size ≤ 140737488355328) (ha : a ≤ s.size) (_ : R.size ≤ 140737488355328)
    (HW : Hid (∀ w, Calls Try.prog 26 #[.int .i64 a, .int .i64 0, .int .i64 s.size] w fun e w' => e = .returned (.bool true) ∧ w = w'))
    (HF : Hid (∀ w, Calls Try.prog 54 #[.string R] w fun e w' => e = .returned (.bool false) ∧ w = w')) :
    Calls Try.prog 47 #[.string s, .int .i64 a] w fun e w' => e = .returned (g3 (⟨#[]⟩, 0, 800)) ∧ Below w.heap.size w w' := by
  go_enter Try.func47, Try.ntmps47
  go_wp2_with (first
    | (go_at_call 26; refine (HW.out _).mono ?_; rintro e w' ⟨rfl, rfl⟩)
    | (go_at_call 54; refine (HF.out _).mono ?_; rintro e w' ⟨rfl, rfl⟩))
  go_ret3
  exact ⟨rfl, Below.refl _ _⟩
set_option maxRecDepth 100000 in
set_option maxHeartbeats 400000 in
theorem get_short (s : ByteArray) (a : Nat) (w : World) (R : ByteArray) (hR : s.extract a s.size = R) (_ : s.size ≤ 140737488355328) (ha : a ≤ s.size) (hrb : R.size ≤ 140737488355328)
    (HW : Hid (∀ w, Calls Try.prog 26 #[.int .i64 a, .int .i64 0, .int .i64 s.size] w fun e w' => e = .returned (.bool true) ∧ w = w'))
    (HF : Hid (∀ w, Calls Try.prog 54 #[.string R] w fun e w' => e = .returned (.bool true) ∧ w = w')) (h2 : R.size < 2) :
    Calls Try.prog 47 #[.string s, .int .i64 a] w fun e w' => e = .returned (g3 (⟨#[]⟩, 0, 801)) ∧ Below w.heap.size w w' := by
  have h2' : (R.size : Int) < 2 := by omega
  go_enter Try.func47, Try.ntmps47
  go_wp2_with (first
    | (go_at_call 26; refine (HW.out _).mono ?_; rintro e w' ⟨rfl, rfl⟩)
    | (go_at_call 54; refine (HF.out _).mono ?_; rintro e w' ⟨rfl, rfl⟩))
  go_ret3
  exact ⟨rfl, Below.refl _ _⟩
set_option maxRecDepth 100000 in
set_option maxHeartbeats 400000 in
theorem get_cut (s : ByteArray) (a : Nat) (w : World) (R : ByteArray) (hR : s.extract a s.size = R) (_ : s.size ≤ 140737488355328) (ha : a ≤ s.size) (hrb : R.size ≤ 140737488355328)
    (HW : Hid (∀ w, Calls Try.prog 26 #[.int .i64 a, .int .i64 0, .int .i64 s.size] w fun e w' => e = .returned (.bool true) ∧ w = w'))
    (HF : Hid (∀ w, Calls Try.prog 54 #[.string R] w fun e w' => e = .returned (.bool true) ∧ w = w')) (k : Nat) (h2 : 2 ≤ R.size) (hwr : wrap64 (R[1].toNat : Int) = k) (hk60 : k ≤ 60) (hc : R.size < k + 4) :
    Calls Try.prog 47 #[.string s, .int .i64 a] w fun e w' => e = .returned (g3 (⟨#[]⟩, 0, 801)) ∧ Below w.heap.size w w' := by
  have hh1 : 1 < R.size := by omega
  have hh1' : (1 : Int) < (R.size : Int) := by omega
  have h2' : decide ((R.size : Int) < 2) = false := by simp; omega
  have q0 : (0 : Int) ≤ 2 + (k : Int) := by omega
  have q3 : ((2 : Int) + (k : Int)).toNat = 2 + k := by omega
  have q1 : (1 : Int) ≤ 2 + (k : Int) := by omega
  have hc' : (R.size : Int) < 2 + (k : Int) + 2 := by omega
  go_enter Try.func47, Try.ntmps47
  go_wp2_with (first
    | (go_at_call 26; refine (HW.out _).mono ?_; rintro e w' ⟨rfl, rfl⟩)
    | (go_at_call 54; refine (HF.out _).mono ?_; rintro e w' ⟨rfl, rfl⟩))
  go_ret3
  exact ⟨rfl, Below.refl _ _⟩
set_option maxRecDepth 100000 in
set_option maxHeartbeats 400000 in
theorem get_sum (s : ByteArray) (a : Nat) (w : World) (R : ByteArray) (hR : s.extract a s.size = R) (_ : s.size ≤ 140737488355328) (ha : a ≤ s.size) (hrb : R.size ≤ 140737488355328)
    (HW : Hid (∀ w, Calls Try.prog 26 #[.int .i64 a, .int .i64 0, .int .i64 s.size] w fun e w' => e = .returned (.bool true) ∧ w = w'))
    (HF : Hid (∀ w, Calls Try.prog 54 #[.string R] w fun e w' => e = .returned (.bool true) ∧ w = w')) (k : Nat) (h2 : 2 ≤ R.size) (hwr : wrap64 (R[1].toNat : Int) = k) (hk60 : k ≤ 60) (hc : ¬ R.size < k + 4) (X T : Nat)
    (HS : Hid (∀ w, Calls Try.prog 44 #[.string (R.extract 1 (2 + k))] w fun e w' => e = .returned (.int .i64 X) ∧ w = w'))
    (HT : Hid (∀ w, Calls Try.prog 55 #[.string (R.extract (2 + k) R.size)] w fun e w' => e = .returned (.int .i64 T) ∧ ∃ m, w' = w.drewN m)) (hne : ((X : Int) != (T : Int)) = true) :
    Calls Try.prog 47 #[.string s, .int .i64 a] w fun e w' => e = .returned (g3 (⟨#[]⟩, 0, 800)) ∧ Below w.heap.size w w' := by
  have hh1 : 1 < R.size := by omega
  have hh1' : (1 : Int) < (R.size : Int) := by omega
  have h2' : decide ((R.size : Int) < 2) = false := by simp; omega
  have q0 : (0 : Int) ≤ 2 + (k : Int) := by omega
  have q3 : ((2 : Int) + (k : Int)).toNat = 2 + k := by omega
  have q1 : (1 : Int) ≤ 2 + (k : Int) := by omega
  have q2 : 2 + (k : Int) ≤ (R.size : Int) := by omega
  have hc' : decide ((R.size : Int) < 2 + (k : Int) + 2) = false := by simp; omega
  go_enter Try.func47, Try.ntmps47
  go_wp2_with (first
    | (go_at_call 26; refine (HW.out _).mono ?_; rintro e w' ⟨rfl, rfl⟩)
    | (go_at_call 54; refine (HF.out _).mono ?_; rintro e w' ⟨rfl, rfl⟩))
  go_quiet (first
    | (go_at_call 44; exact (HS.out _).mono fun e w2 h => ⟨h.1, _, h.2.symm⟩)
    | (go_at_call 55; exact Calls.quiet_of (HT.out _)))
  go_wp2_with fail
  go_ret3
  exact ⟨rfl, below_drewN (Below.refl _ _) _⟩
set_option maxRecDepth 100000 in
set_option maxHeartbeats 400000 in
theorem get_good (s : ByteArray) (a : Nat) (w : World) (R : ByteArray) (hR : s.extract a s.size = R) (hs : s.size ≤ 140737488355328) (ha : a ≤ s.size) (hrb : R.size ≤ 140737488355328)
    (HW : Hid (∀ w, Calls Try.prog 26 #[.int .i64 a, .int .i64 0, .int .i64 s.size] w fun e w' => e = .returned (.bool true) ∧ w = w'))
    (HF : Hid (∀ w, Calls Try.prog 54 #[.string R] w fun e w' => e = .returned (.bool true) ∧ w = w')) (k : Nat) (h2 : 2 ≤ R.size) (hwr : wrap64 (R[1].toNat : Int) = k) (hk60 : k ≤ 60) (hc : ¬ R.size < k + 4) (T : Nat)
    (HS : Hid (∀ w, Calls Try.prog 44 #[.string (R.extract 1 (2 + k))] w fun e w' => e = .returned (.int .i64 T) ∧ w = w'))
    (HT : Hid (∀ w, Calls Try.prog 55 #[.string (R.extract (2 + k) R.size)] w fun e w' => e = .returned (.int .i64 T) ∧ ∃ m, w' = w.drewN m))
    (HC : Hid (∀ w, Calls Try.prog 28 #[.string (R.extract 2 (2 + k))] w fun e w' => e = .returned (.string (R.extract 2 (2 + k))) ∧ Below w.heap.size w w')) :
    Calls Try.prog 47 #[.string s, .int .i64 a] w fun e w' => e = .returned (g3 (R.extract 2 (2 + k), (a : Int) + ((k + 4 : Nat) : Int), 0)) ∧ Below w.heap.size w w' := by
  have hh1 : 1 < R.size := by omega
  have hh1' : (1 : Int) < (R.size : Int) := by omega
  have h2' : decide ((R.size : Int) < 2) = false := by simp; omega
  have q0 : (0 : Int) ≤ 2 + (k : Int) := by omega
  have q3 : ((2 : Int) + (k : Int)).toNat = 2 + k := by omega
  have q1 : (1 : Int) ≤ 2 + (k : Int) := by omega
  have q2 : 2 + (k : Int) ≤ (R.size : Int) := by omega
  have hc' : decide ((R.size : Int) < 2 + (k : Int) + 2) = false := by simp; omega
  go_enter Try.func47, Try.ntmps47
  go_wp2_with (first
    | (go_at_call 26; refine (HW.out _).mono ?_; rintro e w' ⟨rfl, rfl⟩)
    | (go_at_call 54; refine (HF.out _).mono ?_; rintro e w' ⟨rfl, rfl⟩))
  go_quiet (first
    | (go_at_call 44; exact (HS.out _).mono fun e w2 h => ⟨h.1, _, h.2.symm⟩)
    | (go_at_call 55; exact Calls.quiet_of (HT.out _)))
  go_wp2_with (go_at_call 28; refine (HC.out _).mono ?_; rintro e w' ⟨rfl, hb⟩)
  go_ret3
  refine ⟨?_, (below_drewN (Below.refl _ _) _).trans hb⟩
  show _ = Ending.returned (.tuple #[.string _, .int .i64 ((a : Int) + ((k + 4 : Nat) : Int)), .int .i64 0])
  exact ret_g (by omega)

theorem k_facts {c k : Nat} (hkk : c = k) (hk : ¬ (c < 1 ∨ 60 < c)) : wrap64 (c : Int) = k ∧ k ≤ 60 ∧ 1 ≤ c ∧ c ≤ 60 := by
  subst hkk
  unfold wrap64
  omega
theorem bne_cast {a b : Nat} (h : ¬ a = b) : ((a : Int) != (b : Int)) = true := by rw [bne_iff_ne]; omega
theorem cut_fact {n len k c : Nat} (hl : len = n - 2) (h : n < k + 4) (hkk : c = k) : len < c + 2 := by omega
theorem left_fact (l : List UInt8) {n k : Nat} (hl : (l.drop 2).length = n - 2) (h : ¬ n < k + 4) : 2 ≤ ((l.drop 2).drop k).length := by
  rw [List.length_drop, hl]; omega
theorem part_small (s : ByteArray) (i k : Nat) (h : k ≤ 60) : (s.extract i (2 + k)).size ≤ 62 := by
  rw [ByteArray.size_extract]; omega
theorem fget_some (s : ByteArray) (a : Nat) (w : World) (hs : s.size ≤ 140737488355328) (ha : a ≤ s.size) :
    Calls Try.prog 47 #[.string s, .int .i64 a] w fun e w' => e = .returned (g3 (getF s.data.toList a)) ∧ Below w.heap.size w w' := by
  obtain ⟨R, hR⟩ : ∃ R, s.extract a s.size = R := ⟨_, rfl⟩
  have hRs : R.size = s.size - a := by rw [← hR]; exact rest_size s a ha
  have hRl : s.data.toList.drop a = R.data.toList := by rw [← hR]; exact (rest_list s a).symm
  have hal : a ≤ s.data.toList.length := by rw [list_len]; exact ha
  have hrb : R.size ≤ 140737488355328 := by omega
  have HW := Lib.hid (fun w : World => fwithin_yes (a : Int) 0 s.size w (by omega) (by omega))
  by_cases h0 : R.size = 0
  · rw [getF_err (e := 801) (b := []) (k := 0) hal (by decide) (by rw [hRl, List.eq_nil_of_length_eq_zero (show R.data.toList.length = 0 by rw [list_len]; exact h0)]; rfl)]
    exact get_short s a w R hR hs ha hrb HW (Lib.hid fun w => fits_nil R h0 w) (by omega)
  have e0 := fdrop_at R 0 (by omega)
  rw [List.drop_zero] at e0
  by_cases hm : R[0].toNat = 181
  · by_cases h1 : R.size = 1
    · rw [getF_err (e := 801) (b := []) (k := 0) hal (by decide) (by
        rw [hRl, e0, byte181 hm, List.drop_eq_nil_of_le (by rw [list_len]; omega)]; exact getL_one)]
      exact get_short s a w R hR hs ha hrb HW (Lib.hid fun w => fits_one R h1 hm w) (by omega)
    · have h2 : 2 ≤ R.size := by omega
      have hRl2 : s.data.toList.drop a = (181 : UInt8) :: R[1] :: R.data.toList.drop 2 := by rw [hRl, ← byte181 hm]; exact two_list R h2
      by_cases hk : R[1].toNat < 1 ∨ 60 < R[1].toNat
      · rw [getF_err (e := 800) (b := []) (k := 0) hal (by decide) (by rw [hRl2]; exact getL_len hk)]
        exact get_bad s a w R hR hs ha hrb HW (Lib.hid fun w => fits_no R h2 hm hk w)
      · have HF := Lib.hid (fun w : World => fits_yes R h2 hm (k_facts rfl hk).2.2 w)
        have hl2 : (R.data.toList.drop 2).length = R.size - 2 := by rw [List.length_drop, list_len]
        have hp1 := part_sum R h2 R[1].toNat
        have hp2 := part_body R R[1].toNat
        have hp3 := part_told R R[1].toNat
        obtain ⟨k, hkk⟩ : ∃ k, R[1].toNat = k := ⟨_, rfl⟩
        have hwr := (k_facts hkk hk).1
        have hk60 := (k_facts hkk hk).2.1
        rw [hkk] at hp1 hp2 hp3
        by_cases hc : R.size < k + 4
        · rw [getF_err (e := 801) (b := []) (k := 0) hal (by decide) (by rw [hRl2]; exact getL_cut hk (cut_fact hl2 hc hkk))]
          exact get_cut s a w R hR hs ha hrb HW HF k h2 hwr hk60 hc
        · obtain ⟨hh, ll, tt, htt⟩ := two_left (left_fact R.data.toList hl2 hc)
          have HT := Lib.hid (fun w : World => told_any (R.extract (2 + k) R.size) hh ll tt (by rw [hp3, htt]) w)
          have hxs : (R.extract 1 (2 + k)).size ≤ maxLen := Nat.le_trans (part_small R 1 k hk60) (by decide)
          have HS := Lib.hid (fun w : World => sum_any (R.extract 1 (2 + k)) hxs w)
          rw [hp1] at HS
          have HC := Lib.hid (fun w : World => clone_any (R.extract 2 (2 + k)) w (Nat.le_trans (part_small R 2 k hk60) (by decide)))
          by_cases heq : sumL (R[1] :: (R.data.toList.drop 2).take k) = hh.toNat * 256 + ll.toNat
          · have hok := getL_ok hk (by rw [hkk]; exact htt) (by rw [hkk]; exact heq)
            rw [hkk] at hok
            rw [getF_ok hal (by rw [hRl2]; exact hok), ← hp2, bytes_of]
            rw [heq] at HS
            exact get_good s a w R hR hs ha hrb HW HF k h2 hwr hk60 hc _ HS HT HC
          · rw [getF_err (e := 800) (b := []) (k := 0) hal (by decide) (by rw [hRl2]; exact getL_sum hk (by rw [hkk]; exact htt) (by rw [hkk]; exact heq))]
            exact get_sum s a w R hR hs ha hrb HW HF k h2 hwr hk60 hc _ _ HS HT (bne_cast heq)
  · rw [getF_err (e := 800) (b := []) (k := 0) hal (by decide) (by rw [hRl, e0]; exact getL_mark (not181 hm))]
    exact get_bad s a w R hR hs ha hrb HW (Lib.hid fun w => fits_mark R (by omega) hm w)

theorem fget_any (s : ByteArray) (a : Int) (w : World) (hs : s.size ≤ 140737488355328) :
    Calls Try.prog 47 #[.string s, .int .i64 a] w fun e w' => e = .returned (g3 (getF s.data.toList a)) ∧ Below w.heap.size w w' := by
  by_cases h : a < 0 ∨ (s.size : Int) < a
  · rw [getF_none (by simpa using h)]
    exact fget_none s a w h
  · obtain ⟨n, rfl⟩ := Int.eq_ofNat_of_zero_le (show 0 ≤ a by omega)
    exact fget_some s n w hs (by omega)

/-- Get, its answer by three names. -/
theorem fget_tri (s : ByteArray) (a : Int) (x : ByteArray) (y z : Int) (h : getF s.data.toList a = (x, y, z)) (hs : s.size ≤ 140737488355328) (w : World) :
    Calls Try.prog 47 #[.string s, .int .i64 a] w fun e w' => e = .returned (.tuple #[.string x, .int .i64 y, .int .i64 z]) ∧ Below w.heap.size w w' := by
  have h2 := fget_any s a w hs
  rw [h] at h2
  exact h2

end Go.Proofs.Ytoechlmahckchaa
