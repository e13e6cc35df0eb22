/-
  Walk: FrameBack: there and back, cut, with a bit turned.
-/
import Derived.Test.YtbdlncfdjmgmdaaFrSumsW
import Derived.Test.YtbdlncfdjmgmdaaFrBackP
namespace Go.Proofs.Ytbdlncfdjmgmdaa
open Go.RowKit

set_option maxRecDepth 100000 in
set_option maxHeartbeats 1000000 in
theorem back_bad (s : ByteArray) (a b : Int) (w : World) (h : s.size < 1 ∨ 60 < s.size) :
    Calls Try.prog 4 #[.string s, .int .i64 a, .int .i64 b] w fun e w' => e = .returned (.bool true) ∧ Below w.heap.size w w' := by
  have HA := Lib.hid (fun w : World => awake_any w)
  have HP := Lib.hid (fun w : World => put_pair s _ _ (putP_bad h) w)
  by_cases h1 : s.size < 1
  · have q1 : decide ((s.size : Int) < 1) = true := by simp; omega
    go_enter Try.func4, Try.ntmps4
    go_wp2_with fail
    refine (HA.out _).mono ?_; rintro e w1 ⟨rfl, b1⟩
    go_wp2_with fail
    refine (HP.out _).mono ?_; rintro e w2 ⟨rfl, b2⟩
    go_wp2_with (go_at_call 12; refine (num_any _ _).mono ?_; rintro e w' ⟨rfl, rfl⟩)
    go_ret
    exact ⟨rfl, b1.trans (b2.mono b1.size)⟩
  · have q1 : decide ((s.size : Int) < 1) = false := by simp; omega
    have q2 : (60 : Int) < (s.size : Int) := by omega
    go_enter Try.func4, Try.ntmps4
    go_wp2_with fail
    refine (HA.out _).mono ?_; rintro e w1 ⟨rfl, b1⟩
    go_wp2_with fail
    refine (HP.out _).mono ?_; rintro e w2 ⟨rfl, b2⟩
    go_wp2_with (go_at_call 12; refine (num_any _ _).mono ?_; rintro e w' ⟨rfl, rfl⟩)
    go_ret
    exact ⟨rfl, b1.trans (b2.mono b1.size)⟩

theorem pow_small {r : Nat} (h : r < 8) : 2 ^ r < 256 := Nat.pow_lt_pow_right (by decide) h
theorem pow_cast {r : Nat} (h : r < 8) : ((2 ^ r : Nat) : Int) = (2 : Int) ^ r % 256 := by
  have e : ((2 ^ r : Nat) : Int) = (2 : Int) ^ r := by simp
  rw [← e]
  exact (Int.emod_eq_of_lt (Int.natCast_nonneg _) (Int.ofNat_lt.2 (pow_small h))).symm

set_option maxRecDepth 100000 in
set_option maxHeartbeats 400000 in
theorem back_walk (s S : ByteArray) (a b : Int) (w : World) (h1 : 1 ≤ s.size) (h60 : s.size ≤ 60) (hS : S.size = s.size + 4) (n k : Nat) (hn : n < S.size) (hk : k < 8 * S.size)
    (hna : wrap64 ((IntKind.u64.wrap a).tmod (S.size : Int)) = n) (hkb : wrap64 ((IntKind.u64.wrap b).tmod (8 * (S.size : Int))) = k)
    (HP : Hid (∀ w, Calls Try.prog 8 #[.string s] w fun e w' => e = .returned (.tuple #[.string S, .int .i64 0]) ∧ Below w.heap.size w w'))
    (G1 : Hid (∀ w, Calls Try.prog 10 #[.string S, .int .i64 0] w fun e w' => e = .returned (.tuple #[.string s, .int .i64 S.size, .int .i64 0]) ∧ Below w.heap.size w w'))
    (G2 : Hid (∀ w, Calls Try.prog 10 #[.string (S.extract 0 n), .int .i64 0] w fun e w' => e = .returned (.tuple #[.string ⟨#[]⟩, .int .i64 0, .int .i64 801]) ∧ Below w.heap.size w w'))
    (G3 : Hid (∀ j, k / 8 = j → ∀ hj : j < S.data.toList.length, ∀ c, S.data.toList[j] ≠ c → ∃ x y z, (∀ w, Calls Try.prog 10 #[.string ⟨(S.data.toList.set j c).toArray⟩, .int .i64 0] w fun e w' => e = .returned (.tuple #[.string x, .int .i64 y, .int .i64 z]) ∧ Below w.heap.size w w') ∧ (z = 800 ∨ j = 1))) :
    Calls Try.prog 4 #[.string s, .int .i64 a, .int .i64 b] w fun e w' => e = .returned (.bool true) ∧ Below w.heap.size w w' := by
  have HA := Lib.hid (fun w : World => awake_any w)
  have q1 : decide ((s.size : Int) < 1) = false := by simp; omega
  have q2 : decide ((60 : Int) < (s.size : Int)) = false := by simp; omega
  have q2' : decide (60 < s.size) = false := by simp; omega
  have q3 : ((S.size : Int) != (s.size : Int) + 4) = false := by rw [bne_eq_false_iff_eq]; omega
  have hz : S.size ≤ 64 := by omega
  have hz0 : 0 < S.size := by omega
  have q4 : (n : Int) ≤ (S.size : Int) := by omega
  clear hS
  go_enter Try.func4, Try.ntmps4
  go_wp2_with fail
  refine (HA.out _).mono ?_; rintro e w1 ⟨rfl, b1⟩
  go_wp2_with fail
  refine (HP.out _).mono ?_; rintro e w2 ⟨rfl, b2⟩
  go_upto_region 8 with (go_at_call 12; refine (num_any _ _).mono ?_; rintro e w' ⟨rfl, rfl⟩)
  go_wp2_with fail
  refine (G1.out _).mono ?_; rintro e w3 ⟨rfl, b3⟩
  go_wp2_with fail
  refine (G2.out _).mono ?_; rintro e w4 ⟨rfl, b4⟩
  have b12 := b1.trans (b2.mono b1.size)
  have b13 := b12.trans (b3.mono b12.size)
  have b14 := b13.trans (b4.mono b13.size)
  clear b1 b2 b3 b4 b12 b13
  go_upto_region 12 with (refine conv_to rfl _ rfl rfl (fun g cp w5 hg hc hR b5 => ?_))
  obtain ⟨j, hj⟩ : ∃ j, k / 8 = j := ⟨_, rfl⟩
  obtain ⟨r, hr⟩ : ∃ r, k % 8 = r := ⟨_, rfl⟩
  have hjs : j < S.size := by omega
  have hjl : j < S.data.toList.length := by simpa using hjs
  have hj1 : (k : Int).tdiv 8 = (j : Int) := by rw [Int.tdiv_eq_ediv_of_nonneg (by omega)]; omega
  have hj2 : (k : Int) / 8 = (j : Int) := by omega
  have hr1 : (k : Int).tmod 8 = (r : Int) := by rw [Int.tmod_eq_emod_of_nonneg (by omega)]; omega
  have hr2 : (k : Int) % 8 = (r : Int) := by omega
  have hr8 : r < 8 := by omega
  have hcell := hR.cell j hjl
  have hfree := hR.free j hjl
  have hji : (j : Int) < (S.size : Int) := by omega
  obtain ⟨c, hbc, hx⟩ := turn_any S.data.toList[j] (2 ^ r) (Nat.two_pow_pos r) (pow_small hr8)
  rw [pow_cast hr8] at hx
  obtain ⟨x, y, z, HG, hzz⟩ := G3.out j hj hjl c hbc
  have HG := Lib.hid HG
  have hR6 := hR.set hjl c
  have hlen : (S.data.toList.set j c).length = S.size := by simp
  generalize S.data.toList.set j c = T at HG hR6 hlen
  clear hbc hR
  generalize S.data.toList[j] = b0 at hx hcell
  have b6 : Below w.heap.size w (w5.setCell ⟨g, j, none⟩ (.int .u8 c.toNat)) := (b14.trans (b5.mono b14.size)).setCell (Nat.le_trans b14.size hg) _
  go_upto_region 13 with fail
  generalize w5.setCell ⟨g, j, none⟩ (.int .u8 c.toNat) = w6 at b6 hR6 ⊢
  clear hx hcell hfree hji hr1 hr2 hr hr8 b5 b14 hc hg
  have HC : Hid (∀ i (hi : i < T.length), w6.cell? ((⟨g, 0, none⟩ : Addr).add i) = some (.int .u8 T[i].toNat)) := Lib.hid (fun i hi => by rw [Addr.add_mid, Nat.zero_add]; exact hR6.cell i hi)
  go_wp2_with (first
    | (refine conv_at rfl _ rfl rfl hlen.symm HC.out ?_)
    | (go_at_call 10; refine (HG.out _).mono ?_; rintro e w7 ⟨rfl, b7⟩))
  have b8 := b6.trans (b7.mono b6.size)
  clear HC HG hR6 b6 b7 HA HP G1 G2 G3 hna hkb
  by_cases z8 : z = 800
  · subst z8
    go_wp2_with (go_at_call 12; refine (num_any _ _).mono ?_; rintro e w' ⟨rfl, rfl⟩)
    go_ret
    exact ⟨rfl, b8⟩
  · have hje : ((j : Int) == 1) = true := by rw [hzz.resolve_left z8]; rfl
    have hz8 : (z == 800) = false := by simpa using z8
    clear hzz hj
    by_cases z9 : z = 801
    · subst z9
      go_wp2_with (go_at_call 12; refine (num_any _ _).mono ?_; rintro e w' ⟨rfl, rfl⟩)
      go_ret
      exact ⟨rfl, b8⟩
    · have hz9 : (z == 801) = false := by simpa using z9
      go_wp2_with (go_at_call 12; refine (num_any _ _).mono ?_; rintro e w' ⟨rfl, rfl⟩)
      go_ret
      exact ⟨rfl, b8⟩

theorem cutb (S : ByteArray) (n : Nat) : (S.extract 0 n).data.toList = S.data.toList.take n := by
  rw [ByteArray.data_extract, Array.toList_extract]
  simp [List.extract]
theorem place_mul (a : Int) (n : Nat) (h0 : 0 < n) (hn : n ≤ 1000) : ∃ k : Nat, k < 8 * n ∧ wrap64 ((IntKind.u64.wrap a).tmod (8 * (n : Int))) = k := by
  obtain ⟨k, h1, h2⟩ := place_any a (8 * n) (by omega) (by omega)
  exact ⟨k, h1, by rw [← h2]; simp⟩

theorem back_any (s : ByteArray) (a b : Int) (w : World) (_ : s.size ≤ 140737488351232) (_ : (Lit.int .i64 a).wf = true) (_ : (Lit.int .i64 b).wf = true) :
    Calls Try.prog 4 #[.string s, .int .i64 a, .int .i64 b] w fun e w' => e = .returned (.bool true) ∧ Below w.heap.size w w' := by
  by_cases h : s.size < 1 ∨ 60 < s.size
  · exact back_bad s a b w h
  · have hl1 : 1 ≤ s.data.toList.length := by rw [size_list]; omega
    have hl60 : s.data.toList.length ≤ 60 := by rw [size_list]; omega
    have hS := putS_size s
    have hSl : (putS s).data.toList = putL s.data.toList := rfl
    obtain ⟨n, hn, hna⟩ := place_any a (putS s).size (by omega) (by omega)
    obtain ⟨k, hk, hkb⟩ := place_mul b (putS s).size (by omega) (by omega)
    refine back_walk s (putS s) a b w (by omega) (by omega) hS n k hn hk hna hkb (Lib.hid fun w => put_pair s _ _ (putP_ok h) w) (Lib.hid fun w => get_tri _ 0 _ _ _ ?_ (by omega) w) (Lib.hid fun w => get_tri _ 0 _ _ _ ?_ (by rw [ByteArray.size_extract]; omega) w) (Lib.hid fun j hj hjl c hc => ?_)
    · have hg := getL_put hl1 hl60 []
      rw [List.append_nil] at hg
      have h2 := getF_ok (l := putL s.data.toList) (a := 0) (Nat.zero_le _) hg
      rw [bytes_of, hS, ← size_list s] at *
      rw [hSl]
      simpa using h2
    · have hg := getL_begin hl1 hl60 (n := n) (by rw [size_list]; omega)
      rw [cutb, hSl]
      exact getF_err (l := (putL s.data.toList).take n) (a := 0) (Nat.zero_le _) (by decide) hg
    · have hb : (ByteArray.mk ((putS s).data.toList.set j c).toArray).size ≤ 140737488355328 := by
        rw [← size_list]; simp; omega
      by_cases hj1 : j = 1
      · exact ⟨_, _, _, fun w => get_tri _ 0 _ _ _ rfl hb w, .inr hj1⟩
      · refine ⟨_, _, _, fun w => get_tri _ 0 ⟨#[]⟩ 0 800 ?_ hb w, .inl rfl⟩
        have hg := getL_turn hl1 hl60 (j := j) hjl hj1 hc
        have e : (ByteArray.mk ((putS s).data.toList.set j c).toArray).data.toList = (putL s.data.toList).set j c := by simp [hSl]
        rw [e]
        exact getF_err (l := (putL s.data.toList).set j c) (a := 0) (Nat.zero_le _) (by decide) hg

end Go.Proofs.Ytbdlncfdjmgmdaa
