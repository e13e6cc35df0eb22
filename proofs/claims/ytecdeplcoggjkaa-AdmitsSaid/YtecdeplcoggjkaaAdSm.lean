/-
  Walks: wire.maySource, wire.May of a sample, admit.maySample; the reference's OpMay of a sample.
-/
import Derived.Test.YtecdeplcoggjkaaAdP
import Derived.Test.YtecdeplcoggjkaaLf
import Derived.Test.YtecdeplcoggjkaaRfB
namespace Go.Proofs.Ytecdeplcoggjkaa
open Go.RowKit

set_option maxHeartbeats 400000 in
theorem asrc_any (so : Int) (w : World) :
    Calls Try.prog 32 #[.int .i64 so] w fun e w' => e = .returned (.bool (wi so 0 7)) ∧ w = w' := by
  go_enter Try.func32, Try.ntmps32
  go_wp2_with (go_at_call 16; refine (within_any _ _ _ _).mono ?_; rintro e w' ⟨rfl, rfl⟩)
  go_ret
  exact ⟨rfl, rfl⟩

set_option maxRecDepth 100000 in
set_option maxHeartbeats 1000000 in
theorem wmay0_any (so se ti va : Int) (w : World) :
    Calls Try.prog 26 #[.agg #[.int .i64 0, .int .i64 so, .int .i64 se, .int .i64 ti, .int .i64 va]] w fun e w' => e = .returned (.bool (restB so se ti va)) ∧ Below w.heap.size w w' := by
  have hb := fun o => (Below.refl w.heap.size w).alloc (Nat.le_refl _) o
  unfold restB
  cases k1 : wi so 0 7
  · go_enter Try.func26, Try.ntmps26
    go_wp2_with (first
      | (go_at_call 32; refine (asrc_any _ _).mono ?_; rintro e w' ⟨rfl, rfl⟩)
      | (go_at_call 16; refine (within_any _ _ _ _).mono ?_; rintro e w' ⟨rfl, rfl⟩))
    go_ret
    exact ⟨rfl, hb _⟩
  · cases k2 : wi se 0 1048575
    · go_enter Try.func26, Try.ntmps26
      go_wp2_with (first
        | (go_at_call 32; refine (asrc_any _ _).mono ?_; rintro e w' ⟨rfl, rfl⟩)
        | (go_at_call 16; refine (within_any _ _ _ _).mono ?_; rintro e w' ⟨rfl, rfl⟩))
      go_ret
      exact ⟨rfl, hb _⟩
    · cases k3 : wi ti (-1099511627776) 1099511627776
      · go_enter Try.func26, Try.ntmps26
        go_wp2_with (first
          | (go_at_call 32; refine (asrc_any _ _).mono ?_; rintro e w' ⟨rfl, rfl⟩)
          | (go_at_call 16; refine (within_any _ _ _ _).mono ?_; rintro e w' ⟨rfl, rfl⟩))
        go_ret
        exact ⟨rfl, hb _⟩
      · go_enter Try.func26, Try.ntmps26
        go_wp2_with (first
          | (go_at_call 32; refine (asrc_any _ _).mono ?_; rintro e w' ⟨rfl, rfl⟩)
          | (go_at_call 16; refine (within_any _ _ _ _).mono ?_; rintro e w' ⟨rfl, rfl⟩))
        go_ret
        exact ⟨rfl, hb _⟩

set_option maxRecDepth 100000 in
set_option maxHeartbeats 1000000 in
theorem sample_any (kd so se ti va n : Int) (w : World) :
    Calls Try.prog 18 #[.agg #[.int .i64 kd, .int .i64 so, .int .i64 se, .int .i64 ti, .int .i64 va], .int .i64 n] w fun e w' => e = .returned (.bool (smB kd so se ti va n)) ∧ Below w.heap.size w w' := by
  have HB := Lib.hid (fun o => (Below.refl w.heap.size w).alloc (Nat.le_refl _) o)
  by_cases h0 : kd = 0
  · subst h0
    have HV : Hid (smB 0 so se ti va n = (restB so se ti va && decide (so < n))) := by unfold smB; rfl
    go_enter Try.func18, Try.ntmps18
    go_wp2_with fail
    refine (wmay0_any so se ti va _).mono ?_
    rintro e w1 ⟨rfl, b1⟩
    have HB1 : Hid (Below w.heap.size w w1) := (HB.out _).trans (b1.mono (by simp))
    have hc1 : ∀ b o, b < w.heap.size + 1 → w1.cell? ⟨b, o, none⟩ = _ := fun b o h => oldCells b1 (Nat.le_refl _) b o (by simpa using h)
    clear b1
    cases hr : restB so se ti va
    · go_wp2_with fail
      go_ret
      exact ⟨ret_bool (by rw [HV.out, hr]; rfl), HB1.out⟩
    · go_wp2_with fail
      go_ret
      exact ⟨ret_bool (by rw [HV.out, hr]; rfl), HB1.out⟩
  · have h1 : (kd == 0) = false := by simp [h0]
    have HV : Hid (smB kd so se ti va n = false) := by unfold smB; rw [decide_eq_false h0]; rfl
    clear h0
    go_enter Try.func18, Try.ntmps18
    go_wp2_with fail
    go_ret
    exact ⟨ret_bool HV.out.symm, HB.out _⟩

set_option maxRecDepth 100000 in
set_option maxHeartbeats 2000000 in
theorem opmay0_any (so se ti va : Int) (w : World) :
    Calls Try.prog 22 #[.agg #[.int .i64 0, .int .i64 so, .int .i64 se, .int .i64 ti, .int .i64 va]] w fun e w' => e = .returned (.bool (restB so se ti va)) ∧ Below w.heap.size w w' := by
  have HB := Lib.hid (fun o => (Below.refl w.heap.size w).alloc (Nat.le_refl _) o)
  by_cases h1 : 0 ≤ so
  · by_cases h1b : so < 8
    · by_cases h2 : 0 ≤ se
      · by_cases h2b : se ≤ 1048575
        · have HV : Hid (restB so se ti va = (wi ti (-1099511627776) 1099511627776 && wi va (-1099511627776) 1099511627776)) := by
            unfold restB; rw [wi_mk (show 0 ≤ so ∧ so ≤ 7 by omega), wi_mk (show 0 ≤ se ∧ se ≤ 1048575 by omega)]; rfl
          cases k3 : wi ti (-1099511627776) 1099511627776
          · go_enter Try.func22, Try.ntmps22
            go_wp2_with (go_at_call 27; refine (rwithin_any _ 1099511627776 _ (by omega) (by omega)).mono ?_; rintro e w' ⟨rfl, rfl⟩)
            go_ret
            exact ⟨ret_bool (by rw [HV.out, k3]; rfl), HB.out _⟩
          · go_enter Try.func22, Try.ntmps22
            go_wp2_with (go_at_call 27; refine (rwithin_any _ 1099511627776 _ (by omega) (by omega)).mono ?_; rintro e w' ⟨rfl, rfl⟩)
            go_ret
            exact ⟨ret_bool (by rw [HV.out, k3]; rfl), HB.out _⟩
        · have HV : Hid (restB so se ti va = false) := by unfold restB; rw [wi_false (show ¬ (0 ≤ se ∧ se ≤ 1048575) by omega), Bool.false_and, Bool.and_false]; rfl
          go_enter Try.func22, Try.ntmps22
          go_wp2_with fail
          go_ret
          exact ⟨ret_bool HV.out.symm, HB.out _⟩
      · have HV : Hid (restB so se ti va = false) := by unfold restB; rw [wi_false (show ¬ (0 ≤ se ∧ se ≤ 1048575) by omega), Bool.false_and, Bool.and_false]; rfl
        go_enter Try.func22, Try.ntmps22
        go_wp2_with fail
        go_ret
        exact ⟨ret_bool HV.out.symm, HB.out _⟩
    · have HV : Hid (restB so se ti va = false) := by unfold restB; rw [wi_false (show ¬ (0 ≤ so ∧ so ≤ 7) by omega)]; rfl
      have q : decide (so < 8) = false := by simpa using h1b
      go_enter Try.func22, Try.ntmps22
      go_wp2_with fail
      go_ret
      exact ⟨ret_bool HV.out.symm, HB.out _⟩
  · have HV : Hid (restB so se ti va = false) := by unfold restB; rw [wi_false (show ¬ (0 ≤ so ∧ so ≤ 7) by omega)]; rfl
    have q : decide (0 ≤ so) = false := by simpa using h1
    go_enter Try.func22, Try.ntmps22
    go_wp2_with fail
    go_ret
    exact ⟨ret_bool HV.out.symm, HB.out _⟩

end Go.Proofs.Ytecdeplcoggjkaa
