/-
  Walk: the reference's GetFrame.
-/
import Derived.Test.YtoechlmahckchaaG11g
namespace Go.Proofs.Ytoechlmahckchaa
open Go.RowKit

set_option maxHeartbeats 400000 in
theorem frget_none (s : ByteArray) (a : Int) (w : World) (h : a < 0 ∨ (s.size : Int) < a) :
    Calls Try.prog 29 #[.string s, .int .i64 a] w fun e w' => e = .returned (g3 (⟨#[]⟩, 0, 800)) ∧ w = w' := by
  by_cases h0 : a < 0
  · go_enter Try.func29, Try.ntmps29
    go_wp2
    go_ret3
    exact ⟨rfl, rfl⟩
  · have h1 : (s.size : Int) < a := by omega
    clear h
    go_enter Try.func29, Try.ntmps29
    go_wp2
    go_ret3
    exact ⟨rfl, rfl⟩
set_option maxRecDepth 100000 in
set_option maxHeartbeats 400000 in
theorem rget_end (s : ByteArray) (a : Nat) (w : World) (_ : s.size ≤ 140737488355328) (h1 : a = s.size) :
    Calls Try.prog 29 #[.string s, .int .i64 a] w fun e w' => e = .returned (g3 (⟨#[]⟩, 0, 801)) ∧ w = w' := by
  have g0 : decide ((a : Int) < 0) = false := by simp
  have g1 : decide ((s.size : Int) < (a : Int)) = false := by simp; omega
  have g1' : decide (s.size < a) = false := by simp; omega
  have g2 : ((a : Int) == (s.size : Int)) = true := by simp; omega
  clear h1
  go_enter Try.func29, Try.ntmps29
  go_wp2_with (fail)
  go_ret3
  exact ⟨rfl, rfl⟩
set_option maxRecDepth 100000 in
set_option maxHeartbeats 400000 in
theorem rget_mark (s : ByteArray) (a : Nat) (w : World) (_ : s.size ≤ 140737488355328) (h1 : a < s.size) (hm : ¬ s[a].toNat = 181) :
    Calls Try.prog 29 #[.string s, .int .i64 a] w fun e w' => e = .returned (g3 (⟨#[]⟩, 0, 800)) ∧ w = w' := by
  have g0 : decide ((a : Int) < 0) = false := by simp
  have g1 : decide ((s.size : Int) < (a : Int)) = false := by simp; omega
  have g1' : decide (s.size < a) = false := by simp; omega
  have g2 : ((a : Int) == (s.size : Int)) = false := by rw [beq_eq_false_iff_ne]; omega
  have g3' : (a : Int) < (s.size : Int) := by omega
  have hm' : ((s[a].toNat : Int) != 181) = true := by rw [bne_iff_ne]; omega
  go_enter Try.func29, Try.ntmps29
  go_wp2_with (fail)
  go_ret3
  exact ⟨rfl, rfl⟩
set_option maxRecDepth 100000 in
set_option maxHeartbeats 400000 in
theorem rget_one (s : ByteArray) (a : Nat) (w : World) (_ : s.size ≤ 140737488355328) (h1 : a + 1 = s.size) (hm : s[a].toNat = 181) :
    Calls Try.prog 29 #[.string s, .int .i64 a] w fun e w' => e = .returned (g3 (⟨#[]⟩, 0, 801)) ∧ w = w' := by
  have g0 : decide ((a : Int) < 0) = false := by simp
  have g1 : decide ((s.size : Int) < (a : Int)) = false := by simp; omega
  have g1' : decide (s.size < a) = false := by simp; omega
  have g2 : ((a : Int) == (s.size : Int)) = false := by rw [beq_eq_false_iff_ne]; omega
  have g3' : (a : Int) < (s.size : Int) := by omega
  have g4' : ((a : Int) + 1 == (s.size : Int)) = true := by simp; omega
  have hm' : ((s[a].toNat : Int) != 181) = false := by rw [hm]; rfl
  go_enter Try.func29, Try.ntmps29
  go_wp2_with (fail)
  go_ret3
  exact ⟨rfl, rfl⟩
set_option maxRecDepth 100000 in
set_option maxHeartbeats 400000 in
theorem rget_len (s : ByteArray) (a : Nat) (w : World) (hs : s.size ≤ 140737488355328) (h1 : a + 1 < s.size) (hm : s[a].toNat = 181) (k : Nat) (hwr : wrap64 (s[a + 1].toNat : Int) = k) (hk : k < 1 ∨ 60 < k) :
    Calls Try.prog 29 #[.string s, .int .i64 a] w fun e w' => e = .returned (g3 (⟨#[]⟩, 0, 800)) ∧ w = w' := by
  have g0 : decide ((a : Int) < 0) = false := by simp
  have g1 : decide ((s.size : Int) < (a : Int)) = false := by simp; omega
  have g1' : decide (s.size < a) = false := by simp; omega
  have g2 : ((a : Int) == (s.size : Int)) = false := by rw [beq_eq_false_iff_ne]; omega
  have g3' : (a : Int) < (s.size : Int) := by omega
  have g4 : (wrap64 ((a : Int) + 1) == (s.size : Int)) = false := by rw [beq_eq_false_iff_ne]; unfold wrap64; omega
  have g4' : ((a : Int) + 1 == (s.size : Int)) = false := by rw [beq_eq_false_iff_ne]; omega
  have g5 : (a : Int) + 1 < (s.size : Int) := by omega
  have g6 : ((a : Int) + 1).toNat = a + 1 := by omega
  have hm' : ((s[a].toNat : Int) != 181) = false := by rw [hm]; rfl
  by_cases hk1 : k < 1
  · have q1 : decide ((k : Int) < 1) = true := by simp; omega
    go_enter Try.func29, Try.ntmps29
    go_wp2_with (fail)
    go_ret3
    exact ⟨rfl, rfl⟩
  · have q1 : decide ((k : Int) < 1) = false := by simp; omega
    have q2 : (60 : Int) < (k : Int) := by omega
    go_enter Try.func29, Try.ntmps29
    go_wp2_with (fail)
    go_ret3
    exact ⟨rfl, rfl⟩
set_option maxRecDepth 100000 in
set_option maxHeartbeats 400000 in
theorem rget_cut (s : ByteArray) (a : Nat) (w : World) (hs : s.size ≤ 140737488355328) (h1 : a + 1 < s.size) (hm : s[a].toNat = 181) (k : Nat) (hwr : wrap64 (s[a + 1].toNat : Int) = k) (hk1 : 1 ≤ k) (hk60 : k ≤ 60) (hc : s.size - a < k + 4) :
    Calls Try.prog 29 #[.string s, .int .i64 a] w fun e w' => e = .returned (g3 (⟨#[]⟩, 0, 801)) ∧ w = w' := by
  have g0 : decide ((a : Int) < 0) = false := by simp
  have g1 : decide ((s.size : Int) < (a : Int)) = false := by simp; omega
  have g1' : decide (s.size < a) = false := by simp; omega
  have g2 : ((a : Int) == (s.size : Int)) = false := by rw [beq_eq_false_iff_ne]; omega
  have g3' : (a : Int) < (s.size : Int) := by omega
  have g4 : (wrap64 ((a : Int) + 1) == (s.size : Int)) = false := by rw [beq_eq_false_iff_ne]; unfold wrap64; omega
  have g4' : ((a : Int) + 1 == (s.size : Int)) = false := by rw [beq_eq_false_iff_ne]; omega
  have g5 : (a : Int) + 1 < (s.size : Int) := by omega
  have g6 : ((a : Int) + 1).toNat = a + 1 := by omega
  have hm' : ((s[a].toNat : Int) != 181) = false := by rw [hm]; rfl
  have q1 : decide ((k : Int) < 1) = false := by simp; omega
  have q2 : decide ((60 : Int) < (k : Int)) = false := by simp; omega
  have q2' : decide (60 < k) = false := by simp; omega
  have d6 : (s.size : Int) - (a : Int) < (k : Int) + 4 := by omega
  go_enter Try.func29, Try.ntmps29
  go_wp2_with (fail)
  go_ret3
  exact ⟨rfl, rfl⟩
set_option maxRecDepth 100000 in
set_option maxHeartbeats 400000 in
theorem rget_sum1 (s : ByteArray) (a : Nat) (w : World) (hs : s.size ≤ 140737488355328) (h1 : a + 1 < s.size) (hm : s[a].toNat = 181) (k : Nat) (hwr : wrap64 (s[a + 1].toNat : Int) = k) (hk1 : 1 ≤ k) (hk60 : k ≤ 60) (_ : ¬ s.size - a < k + 4) (X : Nat) (_ : X < 65536)
    (HS : Hid (∀ w, Calls Try.prog 37 #[.string (s.extract (a + 1) (a + 2 + k))] w fun e w' => e = .returned (.int .i64 X) ∧ w = w'))
    (b1 : a + 2 + k < s.size) (b2 : a + 3 + k < s.size) (v1 : ¬ s[a + 2 + k].toNat = X / 256) :
    Calls Try.prog 29 #[.string s, .int .i64 a] w fun e w' => e = .returned (g3 (⟨#[]⟩, 0, 800)) ∧ w = w' := by
  have g0 : decide ((a : Int) < 0) = false := by simp
  have g1 : decide ((s.size : Int) < (a : Int)) = false := by simp; omega
  have g1' : decide (s.size < a) = false := by simp; omega
  have g2 : ((a : Int) == (s.size : Int)) = false := by rw [beq_eq_false_iff_ne]; omega
  have g3' : (a : Int) < (s.size : Int) := by omega
  have g4 : (wrap64 ((a : Int) + 1) == (s.size : Int)) = false := by rw [beq_eq_false_iff_ne]; unfold wrap64; omega
  have g4' : ((a : Int) + 1 == (s.size : Int)) = false := by rw [beq_eq_false_iff_ne]; omega
  have g5 : (a : Int) + 1 < (s.size : Int) := by omega
  have g6 : ((a : Int) + 1).toNat = a + 1 := by omega
  have hm' : ((s[a].toNat : Int) != 181) = false := by rw [hm]; rfl
  have q1 : decide ((k : Int) < 1) = false := by simp; omega
  have q2 : decide ((60 : Int) < (k : Int)) = false := by simp; omega
  have q2' : decide (60 < k) = false := by simp; omega
  have t1 : ((a : Int) + 2 + (k : Int)).toNat = a + 2 + k := by omega
  have t2 : ((a : Int) + 3 + (k : Int)).toNat = a + 3 + k := by omega
  have t3 : ((a : Int) + 2).toNat = a + 2 := by omega
  have d1 : (a : Int) + 1 ≤ (a : Int) + 2 + (k : Int) := by omega
  have d2 : (a : Int) + 2 + (k : Int) ≤ (s.size : Int) := by omega
  have d3 : (a : Int) + 2 + (k : Int) < (s.size : Int) := by omega
  have d4 : (a : Int) + 3 + (k : Int) < (s.size : Int) := by omega
  have d5 : (a : Int) + 2 ≤ (a : Int) + 2 + (k : Int) := by omega
  have d6 : decide ((s.size : Int) - (a : Int) < (k : Int) + 4) = false := by simp; omega
  have m8 : bits .and .i64 (X : Int) 255 = (X : Int) % 256 := mask255 _
  have u1 : wrap64 (s[a + 2 + k].toNat : Int) = s[a + 2 + k].toNat := by have := s[a + 2 + k].toNat_lt; unfold wrap64; omega
  have u2 : wrap64 (s[a + 3 + k].toNat : Int) = s[a + 3 + k].toNat := by have := s[a + 3 + k].toNat_lt; unfold wrap64; omega
  have v1' : ((s[a + 2 + k].toNat : Int) != (X : Int) / 256) = true := by rw [bne_iff_ne]; omega
  go_enter Try.func29, Try.ntmps29
  go_wp2_with (go_at_call 37; refine (HS.out _).mono ?_; rintro e w' ⟨rfl, rfl⟩)
  go_ret3
  exact ⟨rfl, rfl⟩
set_option maxRecDepth 100000 in
set_option maxHeartbeats 400000 in
theorem rget_sum2 (s : ByteArray) (a : Nat) (w : World) (hs : s.size ≤ 140737488355328) (h1 : a + 1 < s.size) (hm : s[a].toNat = 181) (k : Nat) (hwr : wrap64 (s[a + 1].toNat : Int) = k) (hk1 : 1 ≤ k) (hk60 : k ≤ 60) (_ : ¬ s.size - a < k + 4) (X : Nat) (_ : X < 65536)
    (HS : Hid (∀ w, Calls Try.prog 37 #[.string (s.extract (a + 1) (a + 2 + k))] w fun e w' => e = .returned (.int .i64 X) ∧ w = w'))
    (b1 : a + 2 + k < s.size) (b2 : a + 3 + k < s.size) (v1 : s[a + 2 + k].toNat = X / 256) (v2 : ¬ s[a + 3 + k].toNat = X % 256) :
    Calls Try.prog 29 #[.string s, .int .i64 a] w fun e w' => e = .returned (g3 (⟨#[]⟩, 0, 800)) ∧ w = w' := by
  have g0 : decide ((a : Int) < 0) = false := by simp
  have g1 : decide ((s.size : Int) < (a : Int)) = false := by simp; omega
  have g1' : decide (s.size < a) = false := by simp; omega
  have g2 : ((a : Int) == (s.size : Int)) = false := by rw [beq_eq_false_iff_ne]; omega
  have g3' : (a : Int) < (s.size : Int) := by omega
  have g4 : (wrap64 ((a : Int) + 1) == (s.size : Int)) = false := by rw [beq_eq_false_iff_ne]; unfold wrap64; omega
  have g4' : ((a : Int) + 1 == (s.size : Int)) = false := by rw [beq_eq_false_iff_ne]; omega
  have g5 : (a : Int) + 1 < (s.size : Int) := by omega
  have g6 : ((a : Int) + 1).toNat = a + 1 := by omega
  have hm' : ((s[a].toNat : Int) != 181) = false := by rw [hm]; rfl
  have q1 : decide ((k : Int) < 1) = false := by simp; omega
  have q2 : decide ((60 : Int) < (k : Int)) = false := by simp; omega
  have q2' : decide (60 < k) = false := by simp; omega
  have t1 : ((a : Int) + 2 + (k : Int)).toNat = a + 2 + k := by omega
  have t2 : ((a : Int) + 3 + (k : Int)).toNat = a + 3 + k := by omega
  have t3 : ((a : Int) + 2).toNat = a + 2 := by omega
  have d1 : (a : Int) + 1 ≤ (a : Int) + 2 + (k : Int) := by omega
  have d2 : (a : Int) + 2 + (k : Int) ≤ (s.size : Int) := by omega
  have d3 : (a : Int) + 2 + (k : Int) < (s.size : Int) := by omega
  have d4 : (a : Int) + 3 + (k : Int) < (s.size : Int) := by omega
  have d5 : (a : Int) + 2 ≤ (a : Int) + 2 + (k : Int) := by omega
  have d6 : decide ((s.size : Int) - (a : Int) < (k : Int) + 4) = false := by simp; omega
  have m8 : bits .and .i64 (X : Int) 255 = (X : Int) % 256 := mask255 _
  have u1 : wrap64 (s[a + 2 + k].toNat : Int) = s[a + 2 + k].toNat := by have := s[a + 2 + k].toNat_lt; unfold wrap64; omega
  have u2 : wrap64 (s[a + 3 + k].toNat : Int) = s[a + 3 + k].toNat := by have := s[a + 3 + k].toNat_lt; unfold wrap64; omega
  have v1' : ((s[a + 2 + k].toNat : Int) != (X : Int) / 256) = false := by rw [v1]; simp
  clear v1
  have v2' : ((s[a + 3 + k].toNat : Int) != (X : Int) % 256) = true := by rw [bne_iff_ne]; omega
  go_enter Try.func29, Try.ntmps29
  go_wp2_with (go_at_call 37; refine (HS.out _).mono ?_; rintro e w' ⟨rfl, rfl⟩)
  go_ret3
  exact ⟨rfl, rfl⟩
set_option maxRecDepth 100000 in
set_option maxHeartbeats 400000 in
theorem rget_good (s : ByteArray) (a : Nat) (w : World) (hs : s.size ≤ 140737488355328) (h1 : a + 1 < s.size) (hm : s[a].toNat = 181) (k : Nat) (hwr : wrap64 (s[a + 1].toNat : Int) = k) (hk1 : 1 ≤ k) (hk60 : k ≤ 60) (_ : ¬ s.size - a < k + 4) (X : Nat) (_ : X < 65536)
    (HS : Hid (∀ w, Calls Try.prog 37 #[.string (s.extract (a + 1) (a + 2 + k))] w fun e w' => e = .returned (.int .i64 X) ∧ w = w'))
    (b1 : a + 2 + k < s.size) (b2 : a + 3 + k < s.size) (v1 : s[a + 2 + k].toNat = X / 256) (v2 : s[a + 3 + k].toNat = X % 256) :
    Calls Try.prog 29 #[.string s, .int .i64 a] w fun e w' => e = .returned (g3 (s.extract (a + 2) (a + 2 + k), (a : Int) + ((k + 4 : Nat) : Int), 0)) ∧ w = w' := by
  have g0 : decide ((a : Int) < 0) = false := by simp
  have g1 : decide ((s.size : Int) < (a : Int)) = false := by simp; omega
  have g1' : decide (s.size < a) = false := by simp; omega
  have g2 : ((a : Int) == (s.size : Int)) = false := by rw [beq_eq_false_iff_ne]; omega
  have g3' : (a : Int) < (s.size : Int) := by omega
  have g4 : (wrap64 ((a : Int) + 1) == (s.size : Int)) = false := by rw [beq_eq_false_iff_ne]; unfold wrap64; omega
  have g4' : ((a : Int) + 1 == (s.size : Int)) = false := by rw [beq_eq_false_iff_ne]; omega
  have g5 : (a : Int) + 1 < (s.size : Int) := by omega
  have g6 : ((a : Int) + 1).toNat = a + 1 := by omega
  have hm' : ((s[a].toNat : Int) != 181) = false := by rw [hm]; rfl
  have q1 : decide ((k : Int) < 1) = false := by simp; omega
  have q2 : decide ((60 : Int) < (k : Int)) = false := by simp; omega
  have q2' : decide (60 < k) = false := by simp; omega
  have t1 : ((a : Int) + 2 + (k : Int)).toNat = a + 2 + k := by omega
  have t2 : ((a : Int) + 3 + (k : Int)).toNat = a + 3 + k := by omega
  have t3 : ((a : Int) + 2).toNat = a + 2 := by omega
  have d1 : (a : Int) + 1 ≤ (a : Int) + 2 + (k : Int) := by omega
  have d2 : (a : Int) + 2 + (k : Int) ≤ (s.size : Int) := by omega
  have d3 : (a : Int) + 2 + (k : Int) < (s.size : Int) := by omega
  have d4 : (a : Int) + 3 + (k : Int) < (s.size : Int) := by omega
  have d5 : (a : Int) + 2 ≤ (a : Int) + 2 + (k : Int) := by omega
  have d6 : decide ((s.size : Int) - (a : Int) < (k : Int) + 4) = false := by simp; omega
  have m8 : bits .and .i64 (X : Int) 255 = (X : Int) % 256 := mask255 _
  have u1 : wrap64 (s[a + 2 + k].toNat : Int) = s[a + 2 + k].toNat := by have := s[a + 2 + k].toNat_lt; unfold wrap64; omega
  have u2 : wrap64 (s[a + 3 + k].toNat : Int) = s[a + 3 + k].toNat := by have := s[a + 3 + k].toNat_lt; unfold wrap64; omega
  have v1' : ((s[a + 2 + k].toNat : Int) != (X : Int) / 256) = false := by rw [v1]; simp
  clear v1
  have v2' : ((s[a + 3 + k].toNat : Int) != (X : Int) % 256) = false := by rw [v2]; simp
  clear v2
  go_enter Try.func29, Try.ntmps29
  go_wp2_with (go_at_call 37; refine (HS.out _).mono ?_; rintro e w' ⟨rfl, rfl⟩)
  go_ret3
  refine ⟨?_, rfl⟩
  show _ = Ending.returned (.tuple #[.string _, .int .i64 ((a : Int) + ((k + 4 : Nat) : Int)), .int .i64 0])
  exact ret_g (by omega)

theorem far_sum (s : ByteArray) (a k : Nat) (h : a + 1 < s.size) : (s.extract (a + 1) (a + 2 + k)).data.toList = s[a + 1] :: (s.data.toList.drop (a + 2)).take k := by
  rw [ByteArray.data_extract, Array.toList_extract]
  simp only [List.extract]
  rw [fdrop_at s (a + 1) h, show a + 2 + k - (a + 1) = k + 1 by omega, List.take_succ_cons]
theorem far_body (s : ByteArray) (a k : Nat) : (s.extract (a + 2) (a + 2 + k)).data.toList = (s.data.toList.drop (a + 2)).take k := by
  rw [ByteArray.data_extract, Array.toList_extract]
  simp only [List.extract]
  rw [show a + 2 + k - (a + 2) = k by omega]
theorem far_told (s : ByteArray) (a k : Nat) (h : a + 3 + k < s.size) : (s.data.toList.drop (a + 2)).drop k = s[a + 2 + k] :: s[a + 3 + k] :: s.data.toList.drop (a + 4 + k) := by
  rw [List.drop_drop, fdrop_at s (a + 2 + k) (by omega)]
  have e := fdrop_at s (a + 3 + k) h
  rw [show a + 2 + k + 1 = a + 3 + k by omega, e, show a + 3 + k + 1 = a + 4 + k by omega]
theorem far_small (s : ByteArray) (i a k : Nat) (h : k ≤ 60) (hi : a ≤ i) : (s.extract i (a + 2 + k)).size ≤ 62 := by
  rw [ByteArray.size_extract]; omega
theorem far_len (s : ByteArray) (a : Nat) {c k : Nat} (hc : s.size - a < k + 4) (h : c = k) : (s.data.toList.drop (a + 2)).length < c + 2 := by
  rw [List.length_drop, list_len]; omega
theorem hl_part {X h l : Nat} (hl : l < 256) : X = h * 256 + l ↔ h = X / 256 ∧ l = X % 256 := by omega

theorem frget_some (s : ByteArray) (a : Nat) (w : World) (hs : s.size ≤ 140737488355328) (ha : a ≤ s.size) :
    Calls Try.prog 29 #[.string s, .int .i64 a] w fun e w' => e = .returned (g3 (getF s.data.toList a)) ∧ w = w' := by
  have hal : a ≤ s.data.toList.length := by rw [list_len]; exact ha
  by_cases h0 : a = s.size
  · rw [getF_err (e := 801) (b := []) (k := 0) hal (by decide) (by rw [List.drop_eq_nil_of_le (by rw [list_len]; omega)]; rfl)]
    exact rget_end s a w hs h0
  have e0 := fdrop_at s a (by omega)
  have hlt : a < s.size := by omega
  by_cases hm : s[a].toNat = 181
  · by_cases h1 : a + 1 = s.size
    · rw [getF_err (e := 801) (b := []) (k := 0) hal (by decide) (by
        rw [e0, byte181 hm, List.drop_eq_nil_of_le (by rw [list_len]; omega)]; exact getL_one)]
      exact rget_one s a w hs h1 hm
    · have h2 : a + 1 < s.size := by omega
      have e1 := fdrop_at s (a + 1) h2
      rw [e1, byte181 hm] at e0
      by_cases hk : s[a + 1].toNat < 1 ∨ 60 < s[a + 1].toNat
      · rw [getF_err (e := 800) (b := []) (k := 0) hal (by decide) (by rw [e0]; exact getL_len hk)]
        exact rget_len s a w hs h2 hm s[a + 1].toNat (by have := s[a + 1].toNat_lt; unfold wrap64; omega) hk
      · have hp1 := far_sum s a s[a + 1].toNat h2
        have hp2 := far_body s a s[a + 1].toNat
        obtain ⟨k, hkk⟩ : ∃ k, s[a + 1].toNat = k := ⟨_, rfl⟩
        have hwr := (k_facts hkk hk).1
        have hk60 := (k_facts hkk hk).2.1
        have hk1 : 1 ≤ k := hkk ▸ (k_facts hkk hk).2.2.1
        rw [hkk] at hp1 hp2
        by_cases hc : s.size - a < k + 4
        · rw [getF_err (e := 801) (b := []) (k := 0) hal (by decide) (by rw [e0]; exact getL_cut hk (far_len s a hc hkk))]
          exact rget_cut s a w hs h2 hm k hwr hk1 hk60 hc
        · have b1 : a + 2 + k < s.size := by omega
          have b2 : a + 3 + k < s.size := by omega
          have htt := far_told s a k b2
          have hxs : (s.extract (a + 1) (a + 2 + k)).size ≤ maxLen := Nat.le_trans (far_small s (a + 1) a k hk60 (Nat.le_succ a)) (by decide)
          have HS := Lib.hid (fun w : World => rsum_any (s.extract (a + 1) (a + 2 + k)) hxs w)
          rw [hp1] at HS
          have hX := sumL_lt (s[a + 1] :: (s.data.toList.drop (a + 2)).take k)
          by_cases heq : sumL (s[a + 1] :: (s.data.toList.drop (a + 2)).take k) = s[a + 2 + k].toNat * 256 + s[a + 3 + k].toNat
          · have hok := getL_ok hk (by rw [hkk]; exact htt) (by rw [hkk]; exact heq)
            rw [hkk] at hok
            rw [getF_ok hal (by rw [e0]; exact hok), ← hp2, bytes_of]
            have hv := (hl_part (s[a + 3 + k].toNat_lt)).1 heq
            exact rget_good s a w hs h2 hm k hwr hk1 hk60 hc _ hX HS b1 b2 hv.1 hv.2
          · rw [getF_err (e := 800) (b := []) (k := 0) hal (by decide) (by rw [e0]; exact getL_sum hk (by rw [hkk]; exact htt) (by rw [hkk]; exact heq))]
            by_cases v1 : s[a + 2 + k].toNat = sumL (s[a + 1] :: (s.data.toList.drop (a + 2)).take k) / 256
            · exact rget_sum2 s a w hs h2 hm k hwr hk1 hk60 hc _ hX HS b1 b2 v1 (fun v2 => heq ((hl_part (s[a + 3 + k].toNat_lt)).2 ⟨v1, v2⟩))
            · exact rget_sum1 s a w hs h2 hm k hwr hk1 hk60 hc _ hX HS b1 b2 v1
  · rw [getF_err (e := 800) (b := []) (k := 0) hal (by decide) (by rw [e0]; exact getL_mark (not181 hm))]
    exact rget_mark s a w hs hlt hm

theorem frget_any (s : ByteArray) (a : Int) (w : World) (hs : s.size ≤ 140737488355328) :
    Calls Try.prog 29 #[.string s, .int .i64 a] w fun e w' => e = .returned (g3 (getF s.data.toList a)) ∧ w = w' := by
  by_cases h : a < 0 ∨ (s.size : Int) < a
  · rw [getF_none (by simpa using h)]
    exact frget_none s a w h
  · obtain ⟨n, rfl⟩ := Int.eq_ofNat_of_zero_le (show 0 ≤ a by omega)
    exact frget_some s n w hs (by omega)
theorem frget_tri (s : ByteArray) (a : Int) (x : ByteArray) (y z : Int) (h : getF s.data.toList a = (x, y, z)) (hs : s.size ≤ 140737488355328) (w : World) :
    Calls Try.prog 29 #[.string s, .int .i64 a] w fun e w' => e = .returned (.tuple #[.string x, .int .i64 y, .int .i64 z]) ∧ w = w' := by
  have h2 := frget_any s a w hs
  rw [h] at h2
  exact h2

end Go.Proofs.Ytoechlmahckchaa
