/-
  Walk: FloorForms: divisors that are none.
-/
import Derived.Test.YtdpjmkpgphgleabFAwake
namespace Go.Proofs.Ytdpjmkpgphgleab
open Go.RowKit

set_option maxHeartbeats 1000000 in
theorem forms_any (a0 a1 : Int) (w0 : (Lit.int .i64 a0).wf = true) (w1 : (Lit.int .i64 a1).wf = true) (w : World) :
    Calls Try.prog 7 #[.int .i64 a0, .int .i64 a1] w fun e w' => e = .returned (.bool true) ∧ Below w.heap.size w w' := by
  have b0 := bounds_i64 w0
  have b1 := bounds_i64 w1
  obtain ⟨Y, y1, y2, y3⟩ : ∃ Y : Int, bits .and .i64 a1 1099511627775 = Y ∧ 0 ≤ Y ∧ Y ≤ 1099511627775 := ⟨_, mask40 a1, by omega, by omega⟩
  obtain ⟨X, x1, x2, x3⟩ : ∃ X : Int, bits .and .i64 a0 1099511627775 = X ∧ 0 ≤ X ∧ X ≤ 1099511627775 := ⟨_, mask40 a0, by omega, by omega⟩
  go_enter Try.func7, Try.ntmps7
  go_wp2_with fail
  refine (awake_any _).mono ?_
  rintro e w' ⟨rfl, k, rfl⟩
  go_wp2_with fail
  refine (div_bad _ _ (by omega) _).mono ?_
  rintro e w' ⟨rfl, rfl⟩
  go_wp2_with fail
  refine (mod_bad _ _ (by omega) _).mono ?_
  rintro e w' ⟨rfl, rfl⟩
  go_wp2_with fail
  refine (gcd_bad2 _ _ (by omega) _).mono ?_
  rintro e w' ⟨rfl, rfl⟩
  go_wp2_with fail
  refine (gcd_bad1 _ _ (by omega) _).mono ?_
  rintro e w' ⟨rfl, rfl⟩
  go_wp2_with fail
  refine (gcd_ok _ _ (1 + X) (by omega) (by omega) (by omega) (by omega) (gcd_self _ (by omega)) _).mono ?_
  rintro e w' ⟨rfl, k2, rfl⟩
  go_wp2_with (go_at_call 14; refine (num_any _ _).mono ?_; rintro e w' ⟨rfl, rfl⟩)
  go_ret
  exact ⟨rfl, below_drewN (Below.refl _ _) _⟩

end Go.Proofs.Ytdpjmkpgphgleab
