/-
  Walks: frame.Sum and the reference's Sum.
-/
import Derived.Test.YtbdlncfdjmgmdaaFrLeaf
import Derived.Test.YtbdlncfdjmgmdaaFMask
import Derived.Deep.CutBlock
namespace Go.Proofs.Ytbdlncfdjmgmdaa
open Go.RowKit

theorem sum_step {s : ByteArray} {n X : Nat} (h : n < s.size) (HD : sumL s.data.toList = sumF X (s.data.toList.drop n)) :
    sumL s.data.toList = sumF (nxN 8 (X ^^^ s[n].toNat * 256)) (s.data.toList.drop (n + 1)) := by
  rw [HD, drop_at s n h]; rfl
theorem sum_end {s : ByteArray} {n X : Nat} (h : ¬ n < s.size) (HD : sumL s.data.toList = sumF X (s.data.toList.drop n)) : sumL s.data.toList = X := by
  rw [HD, List.drop_eq_nil_of_le (by simpa using h)]; rfl

set_option maxRecDepth 100000 in
set_option maxHeartbeats 1000000 in
theorem sum_any (s : ByteArray) (hs : s.size ≤ maxLen) (w : World) :
    Calls Try.prog 13 #[.string s] w fun e w' => e = .returned (.int .i64 (sumL s.data.toList)) ∧ w = w' := by
  unfold maxLen at hs
  go_enter Try.func13, Try.ntmps13
  go_wp2_with fail
  go_loop [3, 7] (fun x i => ∃ n X : Nat, n ≤ s.size ∧ X < 65536 ∧ i = .int .i64 n ∧ x = .int .u16 X ∧ Hid (sumL s.data.toList = sumF X (s.data.toList.drop n))) (fun _ i => s.size - (intOf i).toNat)
  case atStart => exact ⟨0, 65535, by omega, by omega, rfl, rfl, Lib.hid rfl⟩
  case round =>
    obtain ⟨n, X, hn, hX, rfl, rfl, HD⟩ := hrel
    by_cases hlt : n < s.size
    · have HE := Lib.hid (sum_step hlt HD.out)
      have hw := with_u16 hX s[n]
      have hY := with_lt hX s[n]
      clear HD
      go_wp2_with fail
      generalize (X ^^^ s[n].toNat * 256) = Y at hY HE ⊢
      go_loop [3, 17] (fun x j => ∃ k : Nat, k ≤ 8 ∧ j = .int .i64 k ∧ x = .int .u16 (nxN k Y)) (fun _ j => 8 - (intOf j).toNat)
      case atStart => exact ⟨0, by omega, rfl, rfl⟩
      case round =>
        obtain ⟨k, hk, rfl, rfl⟩ := hrel
        by_cases hk8 : k < 8
        · go_wp2_with (go_at_call 20; refine (next_any _ (nxN_lt hY k) _).mono ?_; rintro e w' ⟨rfl, rfl⟩)
          exact ⟨⟨k + 1, by omega, by go_num, rfl⟩, by simp [intOf]; omega⟩
        · obtain rfl : k = 8 := by omega
          go_wp2_with fail
          exact ⟨⟨n + 1, _, by omega, nxN_lt hY 8, by go_num, rfl, HE⟩, by simp [intOf]; omega⟩
    · have HE := Lib.hid (sum_end hlt HD.out)
      clear HD
      have hlt' : ¬ (n : Int) < (s.size : Int) := by omega
      go_wp2_with fail
      go_ret
      exact ⟨ret_v (by rw [HE.out]), rfl⟩

theorem rsum_and (x : Nat) : bits .and .i64 ((x : Int) * 2) 65535 = ((x * 2 % 65536 : Nat) : Int) := by
  have hm := mask_of ((x : Int) * 2) 16 65535 (by decide) (by decide)
  rw [hm]; omega

set_option maxRecDepth 100000 in
set_option maxHeartbeats 1000000 in
theorem rsum_any (s : ByteArray) (hs : s.size ≤ maxLen) (w : World) :
    Calls Try.prog 14 #[.string s] w fun e w' => e = .returned (.int .i64 (sumL s.data.toList)) ∧ w = w' := by
  unfold maxLen at hs
  go_enter Try.func14, Try.ntmps14
  go_wp2_with fail
  go_loop [3, 4] (fun x i => ∃ n X : Nat, n ≤ s.size ∧ X < 65536 ∧ i = .int .i64 n ∧ x = .int .i64 X ∧ Hid (sumL s.data.toList = sumF X (s.data.toList.drop n))) (fun _ i => s.size - (intOf i).toNat)
  case atStart => exact ⟨0, 65535, by omega, by omega, rfl, rfl, Lib.hid rfl⟩
  case round =>
    obtain ⟨n, X, hn, hX, rfl, rfl, HD⟩ := hrel
    by_cases hlt : n < s.size
    · have HE := Lib.hid (sum_step hlt HD.out)
      have hw := with_i64 hX s[n]
      have hY := with_lt hX s[n]
      have hwr : wrap64 (s[n].toNat : Int) = s[n].toNat := by have := s[n].toNat_lt; unfold wrap64; omega
      clear HD
      go_wp2_with fail
      generalize (X ^^^ s[n].toNat * 256) = Y at hY HE ⊢
      go_loop [3, 5] (fun x j => ∃ k : Nat, k ≤ 8 ∧ j = .int .i64 k ∧ x = .int .i64 (nxN k Y)) (fun _ j => 8 - (intOf j).toNat)
      case atStart => exact ⟨0, by omega, rfl, rfl⟩
      case round =>
        obtain ⟨k, hk, rfl, rfl⟩ := hrel
        by_cases hk8 : k < 8
        · have hZ := nxN_lt hY k
          have hN : nxN (k + 1) Y = nxt (nxN k Y) := rfl
          generalize nxN k Y = Z at hZ hN ⊢
          have ha := rsum_and Z
          by_cases hh : 32768 ≤ Z
          · have hx : bits .xor .i64 ((Z : Int) * 2 % 65536) 4129 = ((Z * 2 % 65536 ^^^ 4129 : Nat) : Int) := by simpa using i64_xor_nat (Z * 2 % 65536) 4129 (by omega) (by omega)
            have HZ := Lib.hid (hN.trans (nxt_high hh hZ))
            clear hN
            have hh' : (32768 : Int) ≤ Z := by omega
            go_wp2_with fail
            exact ⟨⟨k + 1, by omega, by go_num, by rw [HZ.out]⟩, by simp [intOf]; omega⟩
          · have HZ := Lib.hid (hN.trans (nxt_low (by omega)))
            clear hN
            have hh' : ¬ (32768 : Int) ≤ Z := by omega
            go_wp2_with fail
            exact ⟨⟨k + 1, by omega, by go_num, congrArg (Value.int .i64) (by rw [HZ.out]; omega)⟩, by simp [intOf]; omega⟩
        · obtain rfl : k = 8 := by omega
          go_wp2_with fail
          exact ⟨⟨n + 1, _, by omega, nxN_lt hY 8, by go_num, rfl, HE⟩, by simp [intOf]; omega⟩
    · have HE := Lib.hid (sum_end hlt HD.out)
      clear HD
      have hlt' : ¬ (n : Int) < (s.size : Int) := by omega
      go_wp2_with fail
      go_ret
      exact ⟨ret_v (by rw [HE.out]), rfl⟩

end Go.Proofs.Ytbdlncfdjmgmdaa
