/-
  Walk: FloorParts: a number is its quotient's part and its rest.
-/
import Derived.Test.YtdpjmkpgphgleabFAwake
namespace Go.Proofs.Ytdpjmkpgphgleab
open Go.RowKit

set_option maxHeartbeats 1000000 in
theorem parts_any (a0 a1 : Int) (w0 : (Lit.int .i64 a0).wf = true) (w1 : (Lit.int .i64 a1).wf = true) (w : World) :
    Calls Try.prog 5 #[.int .i64 a0, .int .i64 a1] w fun e w' => e = .returned (.bool true) ∧ Below w.heap.size w w' := by
  have b0 := bounds_i64 w0
  have b1 := bounds_i64 w1
  obtain ⟨Y0, y1, y2, y3⟩ : ∃ Y : Int, bits .and .i64 a1 1048575 = Y ∧ 0 ≤ Y ∧ Y ≤ 1048575 := ⟨_, mask20 a1, by omega, by omega⟩
  obtain ⟨X, x1, x2, x3⟩ : ∃ X : Int, a0.tmod 1099511627776 = X ∧ -1099511627776 ≤ X ∧ X ≤ 1099511627776 := ⟨_, rfl, by have := Int.lt_tmod_of_pos a0 (show (0 : Int) < 1099511627776 by decide); omega, by have := Int.tmod_lt_of_pos a0 (show (0 : Int) < 1099511627776 by decide); omega⟩
  go_enter Try.func5, Try.ntmps5
  go_wp2_with fail
  refine (awake_any _).mono ?_
  rintro e w' ⟨rfl, k, rfl⟩
  go_wp2_with fail
  clear x1 y1
  obtain ⟨q, hq⟩ : ∃ q, X / (1 + Y0) = q := ⟨_, rfl⟩
  obtain ⟨r, hr⟩ : ∃ r, X % (1 + Y0) = r := ⟨_, rfl⟩
  have hp : (X + (1 + Y0)) / (1 + Y0) = q + 1 := by rw [Int.add_ediv_of_dvd_right (Int.dvd_refl _), Int.ediv_self (by omega), hq]
  have hX : q * (1 + Y0) + r = X := by rw [← hq, ← hr]; exact Int.ediv_mul_add_emod X (1 + Y0)
  have r1 : 0 ≤ r := hr ▸ Int.emod_nonneg X (by omega)
  have r2 : r < 1 + Y0 := hr ▸ Int.emod_lt_of_pos X (by omega)
  have q1 := div_bd X (1 + Y0) (by omega) (by omega) (by omega)
  have q2 : -1099511627776 ≤ q ∧ q ≤ 1099511627776 := by
    subst hq
    constructor
    · exact Int.le_ediv_of_mul_le (by omega) (by have := Int.mul_le_mul_of_nonneg_left (show 1 ≤ 1 + Y0 by omega) (show (0 : Int) ≤ 1099511627776 by decide); omega)
    · apply Int.ediv_le_of_le_mul (by omega)
      have := Int.mul_le_mul_of_nonneg_left (show 1 ≤ 1 + Y0 by omega) (show (0 : Int) ≤ 1099511627776 by decide)
      omega
  have m1 : -1099511627776 - 1048576 ≤ q * (1 + Y0) ∧ q * (1 + Y0) ≤ 1099511627776 := by omega
  refine (div_ok _ _ q (by omega) (by omega) (by omega) hq _).mono ?_
  rintro e w' ⟨rfl, rfl⟩
  have HQ := Lib.hid hq; clear hq q1
  have HR := Lib.hid hr; clear hr
  have HP := Lib.hid hp; clear hp
  go_wp2_with fail
  refine (mod_ok _ _ r (by omega) (by omega) HR.out _).mono ?_
  rintro e w' ⟨rfl, rfl⟩
  go_wp2_with fail
  refine (div_ok _ _ (q + 1) (by omega) (by omega) (by omega) HP.out _).mono ?_
  rintro e w' ⟨rfl, rfl⟩
  go_wp2_with (go_at_call 14; refine (num_any _ _).mono ?_; rintro e w' ⟨rfl, rfl⟩)
  go_ret
  exact ⟨rfl, below_drewN (Below.refl _ _) _⟩

end Go.Proofs.Ytdpjmkpgphgleab
