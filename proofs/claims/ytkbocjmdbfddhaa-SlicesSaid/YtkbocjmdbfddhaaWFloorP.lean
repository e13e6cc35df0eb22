/-
  Plain facts of division down and of the greatest number that divides two. No program here.
-/
import Derived.WalkKit
import Derived.IntWalk
namespace Go.Proofs.Ytkbocjmdbfddhaa

theorem down_parts (a b : Int) (hb : 1 ≤ b) : (a.tmod b < 0 → a / b = a.tdiv b - 1 ∧ a % b = a.tmod b + b) ∧ (¬ a.tmod b < 0 → a / b = a.tdiv b ∧ a % b = a.tmod b) := by
  have h1 := Int.mul_tdiv_add_tmod a b
  have h2 := Int.tmod_lt_of_pos a (show 0 < b by omega)
  have h3 := Int.lt_tmod_of_pos a (show 0 < b by omega)
  constructor
  · intro h
    refine (Int.ediv_emod_unique (show 0 < b by omega)).2 ⟨?_, by omega, by omega⟩
    rw [Int.mul_sub]; omega
  · intro h
    refine (Int.ediv_emod_unique (show 0 < b by omega)).2 ⟨?_, by omega, by omega⟩
    omega
theorem div_bd (a b : Int) (h1 : -9223372036854775808 ≤ a) (h2 : a ≤ 9223372036854775807) (hb : 1 ≤ b) : -9223372036854775808 ≤ a / b ∧ a / b ≤ 9223372036854775807 := by
  constructor
  · exact Int.le_ediv_of_mul_le (by omega) (by
      have := Int.mul_le_mul_of_nonneg_left hb (show (0 : Int) ≤ 9223372036854775808 by decide)
      omega)
  · apply Int.ediv_le_of_le_mul (by omega)
    have := Int.mul_le_mul_of_nonneg_left hb (show (0 : Int) ≤ 9223372036854775807 by decide)
    omega
theorem tdiv_bd (a b : Int) (h1 : -9223372036854775808 ≤ a) (h2 : a ≤ 9223372036854775807) (hb : 1 ≤ b) : -9223372036854775808 ≤ a.tdiv b ∧ a.tdiv b ≤ 9223372036854775807 := by
  have h := div_bd a b h1 h2 hb
  have p := down_parts a b hb
  by_cases e : a.tmod b < 0
  · have := (p.1 e).1
    have hz : a < 0 := by
      apply Int.not_le.1; intro h0
      have := Int.tmod_nonneg b h0; omega
    have : a.tdiv b ≤ 0 := by
      have := Int.ediv_le_ediv (show 0 < b by omega) (show a ≤ -1 by omega)
      have : (-1 : Int) / b = -1 := by
        rw [Int.ediv_eq_iff_of_pos (by omega)]; omega
      omega
    omega
  · have := (p.2 e).1; omega

/-- The greatest number that divides both. -/
def gcdI (a b : Int) : Int := (Int.gcd a b : Nat)
theorem gcd_step (x y : Int) (hx : 0 ≤ x) (hy : 0 ≤ y) : gcdI y (x % y) = gcdI x y := by
  obtain ⟨m, rfl⟩ := Int.eq_ofNat_of_zero_le hx
  obtain ⟨n, rfl⟩ := Int.eq_ofNat_of_zero_le hy
  unfold gcdI
  rw [← Int.natCast_emod, Int.gcd_natCast_natCast, Int.gcd_natCast_natCast, Nat.gcd_comm m n, Nat.gcd_rec n m, Nat.gcd_comm]
theorem gcd_zero (x : Int) (hx : 0 ≤ x) : gcdI x 0 = x := by
  unfold gcdI; rw [Int.gcd_zero_right]; omega
theorem gcd_pos (x y : Int) (hx : 1 ≤ x) : 1 ≤ gcdI x y := by
  unfold gcdI
  have := Int.gcd_pos_of_ne_zero_left y (show x ≠ 0 by omega)
  omega
theorem gcd_le (x y : Int) (hx : 1 ≤ x) : gcdI x y ≤ x := Int.le_of_dvd (by omega) (Int.gcd_dvd_left x y)
theorem gcd_left (x y : Int) : gcdI x y ∣ x := Int.gcd_dvd_left x y
theorem gcd_right (x y : Int) : gcdI x y ∣ y := Int.gcd_dvd_right x y
theorem gcd_mul (x y k : Int) (hk : 0 ≤ k) : gcdI (x * k) (y * k) = gcdI x y * k := by
  unfold gcdI; rw [Int.gcd_mul_right, Int.natCast_mul, Int.natAbs_of_nonneg hk]
theorem gcd_swap (x y : Int) : gcdI y x = gcdI x y := by unfold gcdI; rw [Int.gcd_comm]
theorem gcd_self (x : Int) (hx : 0 ≤ x) : gcdI x x = x := by unfold gcdI; rw [Int.gcd_self]; omega
theorem gcd_most (x y d : Int) (hx : 1 ≤ x) (hd : 1 ≤ d) (h1 : x % d = 0) (h2 : y % d = 0) : d ≤ gcdI x y := by
  obtain ⟨n, rfl⟩ := Int.eq_ofNat_of_zero_le (show 0 ≤ d by omega)
  have h := Int.dvd_gcd (Int.dvd_of_emod_eq_zero h1) (Int.dvd_of_emod_eq_zero h2)
  have hp := Int.gcd_pos_of_ne_zero_left y (show x ≠ 0 by omega)
  have := Nat.le_of_dvd hp h
  unfold gcdI; omega
theorem mod_of_dvd {x g : Int} (h : g ∣ x) : x % g = 0 := Int.emod_eq_zero_of_dvd h

end Go.Proofs.Ytkbocjmdbfddhaa
