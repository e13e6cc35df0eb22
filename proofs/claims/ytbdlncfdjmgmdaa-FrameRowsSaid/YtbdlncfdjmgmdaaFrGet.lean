/-
  Walk: frame.Get.
-/
import Derived.Test.YtbdlncfdjmgmdaaFrSum
import Derived.Test.YtbdlncfdjmgmdaaFrClone
namespace Go.Proofs.Ytbdlncfdjmgmdaa
open Go.RowKit

/-- A text and two numbers. -/
def g3 (x : ByteArray × Int × Int) : Value := .tuple #[.string x.1, .int .i64 x.2.1, .int .i64 x.2.2]

theorem list_len (s : ByteArray) : s.data.toList.length = s.size := by simp
theorem rest_list (s : ByteArray) (a : Nat) : (s.extract a s.size).data.toList = s.data.toList.drop a := by
  rw [ByteArray.data_extract, Array.toList_extract]
  simp [List.extract]
  rw [List.take_of_length_le (by simp)]
theorem rest_size (s : ByteArray) (a : Nat) (h : a ≤ s.size) : (s.extract a s.size).size = s.size - a := by
  rw [ByteArray.size_extract]; omega
theorem two_list (s : ByteArray) (h : 2 ≤ s.size) : s.data.toList = s[0] :: s[1] :: s.data.toList.drop 2 := by
  have e0 := drop_at s 0 (by omega)
  have e1 := drop_at s 1 (by omega)
  rw [List.drop_zero] at e0
  rw [e1] at e0
  exact e0
theorem part_sum (s : ByteArray) (h : 2 ≤ s.size) (k : Nat) : (s.extract 1 (2 + k)).data.toList = s[1] :: (s.data.toList.drop 2).take k := by
  rw [ByteArray.data_extract, Array.toList_extract]
  have e1 := drop_at s 1 (by omega)
  simp only [List.extract]
  rw [e1, show 2 + k - 1 = k + 1 by omega, List.take_succ_cons]
theorem part_body (s : ByteArray) (k : Nat) : (s.extract 2 (2 + k)).data.toList = (s.data.toList.drop 2).take k := by
  rw [ByteArray.data_extract, Array.toList_extract]
  simp only [List.extract]
  rw [show 2 + k - 2 = k by omega]
theorem part_told (s : ByteArray) (k : Nat) : (s.extract (2 + k) s.size).data.toList = (s.data.toList.drop 2).drop k := by
  rw [rest_list, List.drop_drop]
theorem two_left {l : List UInt8} (h : 2 ≤ l.length) : ∃ a b t, l = a :: b :: t := by
  match l, h with
  | a :: b :: t, _ => exact ⟨a, b, t, rfl⟩
theorem bytes_of (s : ByteArray) : (⟨s.data.toList.toArray⟩ : ByteArray) = s := by simp
theorem byte181 {b : UInt8} (h : b.toNat = 181) : b = 181 := UInt8.toNat_inj.1 h
theorem not181 {b : UInt8} (h : ¬ b.toNat = 181) : b ≠ 181 := fun e => h (by rw [e]; rfl)

set_option maxHeartbeats 400000 in
theorem get_none (s : ByteArray) (a : Int) (w : World) (h : a < 0 ∨ (s.size : Int) < a) :
    Calls Try.prog 10 #[.string s, .int .i64 a] w fun e w' => e = .returned (g3 (⟨#[]⟩, 0, 800)) ∧ Below w.heap.size w w' := by
  go_enter Try.func10, Try.ntmps10
  go_wp2_with (go_at_call 16; refine (within_no _ _ _ _ h).mono ?_; rintro e w' ⟨rfl, rfl⟩)
  go_ret3
  exact ⟨rfl, Below.refl _ _⟩

theorem ret_g {b : ByteArray} {x y z : Int} (h : x = y) : Ending.returned (.tuple #[.string b, .int .i64 x, .int .i64 z]) = .returned (.tuple #[.string b, .int .i64 y, .int .i64 z]) := by rw [h]
set_option maxRecDepth 100000 in
set_option maxHeartbeats 400000 in
theorem get_bad (s : ByteArray) (a : Nat) (w : World) (R : ByteArray) (hR : s.extract a s.size = R) (_ : s.size ≤ 140737488355328) (ha : a ≤ s.size) (_ : R.size ≤ 140737488355328)
    (HW : Hid (∀ w, Calls Try.prog 16 #[.int .i64 a, .int .i64 0, .int .i64 s.size] w fun e w' => e = .returned (.bool true) ∧ w = w'))
    (HF : Hid (∀ w, Calls Try.prog 17 #[.string R] w fun e w' => e = .returned (.bool false) ∧ w = w')) :
    Calls Try.prog 10 #[.string s, .int .i64 a] w fun e w' => e = .returned (g3 (⟨#[]⟩, 0, 800)) ∧ Below w.heap.size w w' := by
  go_enter Try.func10, Try.ntmps10
  go_wp2_with (first
    | (go_at_call 16; refine (HW.out _).mono ?_; rintro e w' ⟨rfl, rfl⟩)
    | (go_at_call 17; refine (HF.out _).mono ?_; rintro e w' ⟨rfl, rfl⟩))
  go_ret3
  exact ⟨rfl, Below.refl _ _⟩
set_option maxRecDepth 100000 in
set_option maxHeartbeats 400000 in
theorem get_short (s : ByteArray) (a : Nat) (w : World) (R : ByteArray) (hR : s.extract a s.size = R) (_ : s.size ≤ 140737488355328) (ha : a ≤ s.size) (hrb : R.size ≤ 140737488355328)
    (HW : Hid (∀ w, Calls Try.prog 16 #[.int .i64 a, .int .i64 0, .int .i64 s.size] w fun e w' => e = .returned (.bool true) ∧ w = w'))
    (HF : Hid (∀ w, Calls Try.prog 17 #[.string R] w fun e w' => e = .returned (.bool true) ∧ w = w')) (h2 : R.size < 2) :
    Calls Try.prog 10 #[.string s, .int .i64 a] w fun e w' => e = .returned (g3 (⟨#[]⟩, 0, 801)) ∧ Below w.heap.size w w' := by
  have h2' : (R.size : Int) < 2 := by omega
  go_enter Try.func10, Try.ntmps10
  go_wp2_with (first
    | (go_at_call 16; refine (HW.out _).mono ?_; rintro e w' ⟨rfl, rfl⟩)
    | (go_at_call 17; refine (HF.out _).mono ?_; rintro e w' ⟨rfl, rfl⟩))
  go_ret3
  exact ⟨rfl, Below.refl _ _⟩
set_option maxRecDepth 100000 in
set_option maxHeartbeats 400000 in
theorem get_cut (s : ByteArray) (a : Nat) (w : World) (R : ByteArray) (hR : s.extract a s.size = R) (_ : s.size ≤ 140737488355328) (ha : a ≤ s.size) (hrb : R.size ≤ 140737488355328)
    (HW : Hid (∀ w, Calls Try.prog 16 #[.int .i64 a, .int .i64 0, .int .i64 s.size] w fun e w' => e = .returned (.bool true) ∧ w = w'))
    (HF : Hid (∀ w, Calls Try.prog 17 #[.string R] w fun e w' => e = .returned (.bool true) ∧ w = w')) (k : Nat) (h2 : 2 ≤ R.size) (hwr : wrap64 (R[1].toNat : Int) = k) (hk60 : k ≤ 60) (hc : R.size < k + 4) :
    Calls Try.prog 10 #[.string s, .int .i64 a] w fun e w' => e = .returned (g3 (⟨#[]⟩, 0, 801)) ∧ Below w.heap.size w w' := by
  have hh1 : 1 < R.size := by omega
  have hh1' : (1 : Int) < (R.size : Int) := by omega
  have h2' : decide ((R.size : Int) < 2) = false := by simp; omega
  have q0 : (0 : Int) ≤ 2 + (k : Int) := by omega
  have q3 : ((2 : Int) + (k : Int)).toNat = 2 + k := by omega
  have q1 : (1 : Int) ≤ 2 + (k : Int) := by omega
  have hc' : (R.size : Int) < 2 + (k : Int) + 2 := by omega
  go_enter Try.func10, Try.ntmps10
  go_wp2_with (first
    | (go_at_call 16; refine (HW.out _).mono ?_; rintro e w' ⟨rfl, rfl⟩)
    | (go_at_call 17; refine (HF.out _).mono ?_; rintro e w' ⟨rfl, rfl⟩))
  go_ret3
  exact ⟨rfl, Below.refl _ _⟩
set_option maxRecDepth 100000 in
set_option maxHeartbeats 400000 in
theorem get_sum (s : ByteArray) (a : Nat) (w : World) (R : ByteArray) (hR : s.extract a s.size = R) (_ : s.size ≤ 140737488355328) (ha : a ≤ s.size) (hrb : R.size ≤ 140737488355328)
    (HW : Hid (∀ w, Calls Try.prog 16 #[.int .i64 a, .int .i64 0, .int .i64 s.size] w fun e w' => e = .returned (.bool true) ∧ w = w'))
    (HF : Hid (∀ w, Calls Try.prog 17 #[.string R] w fun e w' => e = .returned (.bool true) ∧ w = w')) (k : Nat) (h2 : 2 ≤ R.size) (hwr : wrap64 (R[1].toNat : Int) = k) (hk60 : k ≤ 60) (hc : ¬ R.size < k + 4) (X T : Nat)
    (HS : Hid (∀ w, Calls Try.prog 13 #[.string (R.extract 1 (2 + k))] w fun e w' => e = .returned (.int .i64 X) ∧ w = w'))
    (HT : Hid (∀ w, Calls Try.prog 18 #[.string (R.extract (2 + k) R.size)] w fun e w' => e = .returned (.int .i64 T) ∧ ∃ m, w' = w.drewN m)) (hne : ((X : Int) != (T : Int)) = true) :
    Calls Try.prog 10 #[.string s, .int .i64 a] w fun e w' => e = .returned (g3 (⟨#[]⟩, 0, 800)) ∧ Below w.heap.size w w' := by
  have hh1 : 1 < R.size := by omega
  have hh1' : (1 : Int) < (R.size : Int) := by omega
  have h2' : decide ((R.size : Int) < 2) = false := by simp; omega
  have q0 : (0 : Int) ≤ 2 + (k : Int) := by omega
  have q3 : ((2 : Int) + (k : Int)).toNat = 2 + k := by omega
  have q1 : (1 : Int) ≤ 2 + (k : Int) := by omega
  have q2 : 2 + (k : Int) ≤ (R.size : Int) := by omega
  have hc' : decide ((R.size : Int) < 2 + (k : Int) + 2) = false := by simp; omega
  go_enter Try.func10, Try.ntmps10
  go_wp2_with (first
    | (go_at_call 16; refine (HW.out _).mono ?_; rintro e w' ⟨rfl, rfl⟩)
    | (go_at_call 17; refine (HF.out _).mono ?_; rintro e w' ⟨rfl, rfl⟩))
  go_quiet (first
    | (go_at_call 13; exact (HS.out _).mono fun e w2 h => ⟨h.1, _, h.2.symm⟩)
    | (go_at_call 18; exact Calls.quiet_of (HT.out _)))
  go_wp2_with fail
  go_ret3
  exact ⟨rfl, below_drewN (Below.refl _ _) _⟩
set_option maxRecDepth 100000 in
set_option maxHeartbeats 400000 in
theorem get_good (s : ByteArray) (a : Nat) (w : World) (R : ByteArray) (hR : s.extract a s.size = R) (hs : s.size ≤ 140737488355328) (ha : a ≤ s.size) (hrb : R.size ≤ 140737488355328)
    (HW : Hid (∀ w, Calls Try.prog 16 #[.int .i64 a, .int .i64 0, .int .i64 s.size] w fun e w' => e = .returned (.bool true) ∧ w = w'))
    (HF : Hid (∀ w, Calls Try.prog 17 #[.string R] w fun e w' => e = .returned (.bool true) ∧ w = w')) (k : Nat) (h2 : 2 ≤ R.size) (hwr : wrap64 (R[1].toNat : Int) = k) (hk60 : k ≤ 60) (hc : ¬ R.size < k + 4) (T : Nat)
    (HS : Hid (∀ w, Calls Try.prog 13 #[.string (R.extract 1 (2 + k))] w fun e w' => e = .returned (.int .i64 T) ∧ w = w'))
    (HT : Hid (∀ w, Calls Try.prog 18 #[.string (R.extract (2 + k) R.size)] w fun e w' => e = .returned (.int .i64 T) ∧ ∃ m, w' = w.drewN m))
    (HC : Hid (∀ w, Calls Try.prog 19 #[.string (R.extract 2 (2 + k))] w fun e w' => e = .returned (.string (R.extract 2 (2 + k))) ∧ Below w.heap.size w w')) :
    Calls Try.prog 10 #[.string s, .int .i64 a] w fun e w' => e = .returned (g3 (R.extract 2 (2 + k), (a : Int) + ((k + 4 : Nat) : Int), 0)) ∧ Below w.heap.size w w' := by
  have hh1 : 1 < R.size := by omega
  have hh1' : (1 : Int) < (R.size : Int) := by omega
  have h2' : decide ((R.size : Int) < 2) = false := by simp; omega
  have q0 : (0 : Int) ≤ 2 + (k : Int) := by omega
  have q3 : ((2 : Int) + (k : Int)).toNat = 2 + k := by omega
  have q1 : (1 : Int) ≤ 2 + (k : Int) := by omega
  have q2 : 2 + (k : Int) ≤ (R.size : Int) := by omega
  have hc' : decide ((R.size : Int) < 2 + (k : Int) + 2) = false := by simp; omega
  go_enter Try.func10, Try.ntmps10
  go_wp2_with (first
    | (go_at_call 16; refine (HW.out _).mono ?_; rintro e w' ⟨rfl, rfl⟩)
    | (go_at_call 17; refine (HF.out _).mono ?_; rintro e w' ⟨rfl, rfl⟩))
  go_quiet (first
    | (go_at_call 13; exact (HS.out _).mono fun e w2 h => ⟨h.1, _, h.2.symm⟩)
    | (go_at_call 18; exact Calls.quiet_of (HT.out _)))
  go_wp2_with (go_at_call 19; refine (HC.out _).mono ?_; rintro e w' ⟨rfl, hb⟩)
  go_ret3
  refine ⟨?_, (below_drewN (Below.refl _ _) _).trans hb⟩
  show _ = Ending.returned (.tuple #[.string _, .int .i64 ((a : Int) + ((k + 4 : Nat) : Int)), .int .i64 0])
  exact ret_g (by omega)

theorem k_facts {c k : Nat} (hkk : c = k) (hk : ¬ (c < 1 ∨ 60 < c)) : wrap64 (c : Int) = k ∧ k ≤ 60 ∧ 1 ≤ c ∧ c ≤ 60 := by
  subst hkk
  unfold wrap64
  omega
theorem bne_cast {a b : Nat} (h : ¬ a = b) : ((a : Int) != (b : Int)) = true := by rw [bne_iff_ne]; omega
theorem cut_fact {n len k c : Nat} (hl : len = n - 2) (h : n < k + 4) (hkk : c = k) : len < c + 2 := by omega
theorem left_fact (l : List UInt8) {n k : Nat} (hl : (l.drop 2).length = n - 2) (h : ¬ n < k + 4) : 2 ≤ ((l.drop 2).drop k).length := by
  rw [List.length_drop, hl]; omega
theorem part_small (s : ByteArray) (i k : Nat) (h : k ≤ 60) : (s.extract i (2 + k)).size ≤ 62 := by
  rw [ByteArray.size_extract]; omega
theorem get_some (s : ByteArray) (a : Nat) (w : World) (hs : s.size ≤ 140737488355328) (ha : a ≤ s.size) :
    Calls Try.prog 10 #[.string s, .int .i64 a] w fun e w' => e = .returned (g3 (getF s.data.toList a)) ∧ Below w.heap.size w w' := by
  obtain ⟨R, hR⟩ : ∃ R, s.extract a s.size = R := ⟨_, rfl⟩
  have hRs : R.size = s.size - a := by rw [← hR]; exact rest_size s a ha
  have hRl : s.data.toList.drop a = R.data.toList := by rw [← hR]; exact (rest_list s a).symm
  have hal : a ≤ s.data.toList.length := by rw [list_len]; exact ha
  have hrb : R.size ≤ 140737488355328 := by omega
  have HW := Lib.hid (fun w : World => within_yes (a : Int) 0 s.size w (by omega) (by omega))
  by_cases h0 : R.size = 0
  · rw [getF_err (e := 801) (b := []) (k := 0) hal (by decide) (by rw [hRl, List.eq_nil_of_length_eq_zero (show R.data.toList.length = 0 by rw [list_len]; exact h0)]; rfl)]
    exact get_short s a w R hR hs ha hrb HW (Lib.hid fun w => fits_nil R h0 w) (by omega)
  have e0 := drop_at R 0 (by omega)
  rw [List.drop_zero] at e0
  by_cases hm : R[0].toNat = 181
  · by_cases h1 : R.size = 1
    · rw [getF_err (e := 801) (b := []) (k := 0) hal (by decide) (by
        rw [hRl, e0, byte181 hm, List.drop_eq_nil_of_le (by rw [list_len]; omega)]; exact getL_one)]
      exact get_short s a w R hR hs ha hrb HW (Lib.hid fun w => fits_one R h1 hm w) (by omega)
    · have h2 : 2 ≤ R.size := by omega
      have hRl2 : s.data.toList.drop a = (181 : UInt8) :: R[1] :: R.data.toList.drop 2 := by rw [hRl, ← byte181 hm]; exact two_list R h2
      by_cases hk : R[1].toNat < 1 ∨ 60 < R[1].toNat
      · rw [getF_err (e := 800) (b := []) (k := 0) hal (by decide) (by rw [hRl2]; exact getL_len hk)]
        exact get_bad s a w R hR hs ha hrb HW (Lib.hid fun w => fits_no R h2 hm hk w)
      · have HF := Lib.hid (fun w : World => fits_yes R h2 hm (k_facts rfl hk).2.2 w)
        have hl2 : (R.data.toList.drop 2).length = R.size - 2 := by rw [List.length_drop, list_len]
        have hp1 := part_sum R h2 R[1].toNat
        have hp2 := part_body R R[1].toNat
        have hp3 := part_told R R[1].toNat
        obtain ⟨k, hkk⟩ : ∃ k, R[1].toNat = k := ⟨_, rfl⟩
        have hwr := (k_facts hkk hk).1
        have hk60 := (k_facts hkk hk).2.1
        rw [hkk] at hp1 hp2 hp3
        by_cases hc : R.size < k + 4
        · rw [getF_err (e := 801) (b := []) (k := 0) hal (by decide) (by rw [hRl2]; exact getL_cut hk (cut_fact hl2 hc hkk))]
          exact get_cut s a w R hR hs ha hrb HW HF k h2 hwr hk60 hc
        · obtain ⟨hh, ll, tt, htt⟩ := two_left (left_fact R.data.toList hl2 hc)
          have HT := Lib.hid (fun w : World => told_any (R.extract (2 + k) R.size) hh ll tt (by rw [hp3, htt]) w)
          have hxs : (R.extract 1 (2 + k)).size ≤ maxLen := Nat.le_trans (part_small R 1 k hk60) (by decide)
          have HS := Lib.hid (fun w : World => sum_any (R.extract 1 (2 + k)) hxs w)
          rw [hp1] at HS
          have HC := Lib.hid (fun w : World => clone_any (R.extract 2 (2 + k)) w (Nat.le_trans (part_small R 2 k hk60) (by decide)))
          by_cases heq : sumL (R[1] :: (R.data.toList.drop 2).take k) = hh.toNat * 256 + ll.toNat
          · have hok := getL_ok hk (by rw [hkk]; exact htt) (by rw [hkk]; exact heq)
            rw [hkk] at hok
            rw [getF_ok hal (by rw [hRl2]; exact hok), ← hp2, bytes_of]
            rw [heq] at HS
            exact get_good s a w R hR hs ha hrb HW HF k h2 hwr hk60 hc _ HS HT HC
          · rw [getF_err (e := 800) (b := []) (k := 0) hal (by decide) (by rw [hRl2]; exact getL_sum hk (by rw [hkk]; exact htt) (by rw [hkk]; exact heq))]
            exact get_sum s a w R hR hs ha hrb HW HF k h2 hwr hk60 hc _ _ HS HT (bne_cast heq)
  · rw [getF_err (e := 800) (b := []) (k := 0) hal (by decide) (by rw [hRl, e0]; exact getL_mark (not181 hm))]
    exact get_bad s a w R hR hs ha hrb HW (Lib.hid fun w => fits_mark R (by omega) hm w)

theorem get_any (s : ByteArray) (a : Int) (w : World) (hs : s.size ≤ 140737488355328) :
    Calls Try.prog 10 #[.string s, .int .i64 a] w fun e w' => e = .returned (g3 (getF s.data.toList a)) ∧ Below w.heap.size w w' := by
  by_cases h : a < 0 ∨ (s.size : Int) < a
  · rw [getF_none (by simpa using h)]
    exact get_none s a w h
  · obtain ⟨n, rfl⟩ := Int.eq_ofNat_of_zero_le (show 0 ≤ a by omega)
    exact get_some s n w hs (by omega)

/-- Get, its answer by three names. -/
theorem get_tri (s : ByteArray) (a : Int) (x : ByteArray) (y z : Int) (h : getF s.data.toList a = (x, y, z)) (hs : s.size ≤ 140737488355328) (w : World) :
    Calls Try.prog 10 #[.string s, .int .i64 a] w fun e w' => e = .returned (.tuple #[.string x, .int .i64 y, .int .i64 z]) ∧ Below w.heap.size w w' := by
  have h2 := get_any s a w hs
  rw [h] at h2
  exact h2

end Go.Proofs.Ytbdlncfdjmgmdaa
