/-
  Walk: the reference's Gcd of two that it takes. (Out of XWFRef.)
-/
import Derived.Test.YtkbocjmdbfddhaaWFloor
namespace Go.Proofs.Ytkbocjmdbfddhaa
open Go.RowKit

set_option maxHeartbeats 1000000 in
theorem rgcd_ok (a b g : Int) (ha : 1 ≤ a) (ham : a ≤ 9223372036854775807) (hb : 1 ≤ b) (hbm : b ≤ 9223372036854775807) (hg : gcdI a b = g) (w : World) :
    Calls Try.prog 52 #[.int .i64 a, .int .i64 b] w fun e w' => e = .returned (.tuple #[.int .i64 g, .int .i64 0]) ∧ ∃ k, w' = w.drewN k := by
  have HG := Lib.hid hg; clear hg
  go_enter Try.func52, Try.ntmps52
  go_wp2
  go_loopw [0, 1] (fun x y wr => ∃ (u v : Int) (k : Nat), x = .int .i64 u ∧ y = .int .i64 v ∧ 1 ≤ u ∧ u ≤ 9223372036854775807 ∧ 0 ≤ v ∧ v ≤ 9223372036854775807 ∧ Hid (gcdI u v = g) ∧ wr = w.drewN k) (fun _ y _ => (intOf y).toNat)
  case atStart => exact ⟨a, b, 0, rfl, rfl, ha, ham, by omega, hbm, HG, rfl⟩
  case round =>
    obtain ⟨u, v, k, rfl, rfl, u1, u2, v1, v2, HUV, rfl⟩ := hrel
    clear HG
    by_cases hv : 0 < v
    · have hm1 := Int.emod_nonneg u (show v ≠ 0 by omega)
      have hm2 := Int.emod_lt_of_pos u hv
      have HS : Hid (gcdI v (u % v) = g) := (gcd_step u v (by omega) v1).trans HUV.out
      have htm : u.tmod v = u % v := Int.tmod_eq_emod_of_nonneg (by omega)
      go_wp2_with fail
      exact ⟨⟨v, u % v, k, rfl, rfl, by omega, v2, hm1, by omega, HS, rfl⟩, by simp [intOf]; omega⟩
    · obtain rfl : v = 0 := by omega
      have hu := (gcd_zero u (by omega)).symm.trans HUV.out
      subst hu
      go_wp2
      go_ret2
      exact ⟨rfl, k, rfl⟩

end Go.Proofs.Ytkbocjmdbfddhaa
