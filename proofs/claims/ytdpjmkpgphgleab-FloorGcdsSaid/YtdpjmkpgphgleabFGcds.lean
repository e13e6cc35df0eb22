/-
  Walk: FloorGcds: the greatest number that divides both.
-/
import Derived.Test.YtdpjmkpgphgleabFAwake
namespace Go.Proofs.Ytdpjmkpgphgleab
open Go.RowKit

set_option maxHeartbeats 1000000 in
theorem gcds_any (a0 a1 a2 : Int) (w0 : (Lit.int .i64 a0).wf = true) (w1 : (Lit.int .i64 a1).wf = true) (w2 : (Lit.int .i64 a2).wf = true) (w : World) :
    Calls Try.prog 6 #[.int .i64 a0, .int .i64 a1, .int .i64 a2] w fun e w' => e = .returned (.bool true) ∧ Below w.heap.size w w' := by
  have b0 := bounds_i64 w0
  have b1 := bounds_i64 w1
  have b2 := bounds_i64 w2
  obtain ⟨X, x1, x2, x3⟩ : ∃ X : Int, bits .and .i64 a0 1023 = X ∧ 0 ≤ X ∧ X ≤ 1023 := ⟨_, mask1023 a0, by omega, by omega⟩
  obtain ⟨Y, y1, y2, y3⟩ : ∃ Y : Int, bits .and .i64 a1 1023 = Y ∧ 0 ≤ Y ∧ Y ≤ 1023 := ⟨_, mask1023 a1, by omega, by omega⟩
  obtain ⟨K, k1, k2, k3⟩ : ∃ K : Int, bits .and .i64 a2 255 = K ∧ 0 ≤ K ∧ K ≤ 255 := ⟨_, mask255 a2, by omega, by omega⟩
  go_enter Try.func6, Try.ntmps6
  go_wp2_with fail
  refine (awake_any _).mono ?_
  rintro e w' ⟨rfl, k, rfl⟩
  go_wp2_with fail
  clear x1 y1 k1
  have x4 : 1 ≤ 1 + X := by omega
  have y4 : 1 ≤ 1 + Y := by omega
  have k4 : 1 ≤ 1 + K := by omega
  have x5 : 1 + X ≤ 1024 := by omega
  have y5 : 1 + Y ≤ 1024 := by omega
  have k5 : 1 + K ≤ 256 := by omega
  generalize 1 + X = x at *
  generalize 1 + Y = y at *
  generalize 1 + K = z at *
  clear x2 x3 y2 y3 k2 k3
  have p1 : x ≤ x * z ∧ x * z ≤ 262144 := ⟨by have := Int.mul_le_mul_of_nonneg_left k4 (show 0 ≤ x by omega); omega, by have h1 := Int.mul_le_mul_of_nonneg_left k5 (show 0 ≤ x by omega); omega⟩
  have p2 : y ≤ y * z ∧ y * z ≤ 262144 := ⟨by have := Int.mul_le_mul_of_nonneg_left k4 (show 0 ≤ y by omega); omega, by have h1 := Int.mul_le_mul_of_nonneg_left k5 (show 0 ≤ y by omega); omega⟩
  have g1 := gcd_pos x y x4
  have g2 := gcd_le x y x4
  have d1 := mod_of_dvd (gcd_left x y)
  have d2 := mod_of_dvd (gcd_right x y)
  have c1 := gcd_ok x y _ x4 (by omega) y4 (by omega) rfl
  have c2 := gcd_ok (x * z) (y * z) _ (by omega) (by omega) (by omega) (by omega) (gcd_mul x y z (by omega))
  have c3 := gcd_ok y x _ y4 (by omega) x4 (by omega) (gcd_swap x y)
  have hmost : ∀ d, 1 ≤ d → x % d = 0 → y % d = 0 → d ≤ gcdI x y := fun d h1 h2 h3 => gcd_most x y d x4 h1 h2 h3
  generalize gcdI x y = g at *
  have p3 : 1 ≤ g * z ∧ g * z ≤ 262144 := ⟨by have := Int.mul_le_mul_of_nonneg_left k4 (show 0 ≤ g by omega); omega, by have h1 := Int.mul_le_mul_of_nonneg_left k5 (show 0 ≤ g by omega); omega⟩
  have C1 := Lib.hid c1; clear c1
  have C2 := Lib.hid c2; clear c2
  have C3 := Lib.hid c3; clear c3
  have HM := Lib.hid hmost; clear hmost
  refine (C1.out _).mono ?_
  rintro e w' ⟨rfl, k1, rfl⟩
  go_wp2_with fail
  refine (C2.out _).mono ?_
  rintro e w' ⟨rfl, k2, rfl⟩
  go_wp2_with fail
  refine (C3.out _).mono ?_
  rintro e w' ⟨rfl, k3, rfl⟩
  clear C1 C2 C3
  go_wp2_with (go_at_call 14; refine (num_any _ _).mono ?_; rintro e w' ⟨rfl, rfl⟩)
  have HB0 : ∀ n, Below w.heap.size w (w.drewN n) := fun n => below_drewN (Below.refl _ _) _
  have HB := Lib.hid HB0; clear HB0
  clear d1 d2 p1 p2 p3
  go_loop [16] (fun i => ∃ d : Int, g < d ∧ d ≤ 1025 ∧ i = .int .i64 d) (fun i => (1025 - intOf i).toNat)
  case atStart => exact ⟨g + 1, by omega, by omega, rfl⟩
  case round =>
    obtain ⟨d, e1, e2, rfl⟩ := hrel
    have hnd : ¬ x % d = 0 ∨ (x % d = 0 ∧ ¬ y % d = 0) := by
      by_cases h1 : x % d = 0
      · exact Or.inr ⟨h1, fun h2 => by have := HM.out d (by omega) h1 h2; omega⟩
      · exact Or.inl h1
    rcases hnd with hy | ⟨hy, hz⟩
    all_goals
      by_cases hx : x ≤ y
      · by_cases hlt : d ≤ x
        · have hlt2 : d ≤ y := by omega
          go_wp2
          go_round
          case rel => exact ⟨d + 1, by omega, by omega, rfl⟩
          case measure => simp [intOf]; omega
        · go_wp2
          go_ret
          exact ⟨rfl, HB.out _⟩
      · by_cases hlt : d ≤ y
        · have hlt2 : d ≤ x := by omega
          go_wp2
          go_round
          case rel => exact ⟨d + 1, by omega, by omega, rfl⟩
          case measure => simp [intOf]; omega
        · go_wp2
          go_ret
          exact ⟨rfl, HB.out _⟩

end Go.Proofs.Ytdpjmkpgphgleab
