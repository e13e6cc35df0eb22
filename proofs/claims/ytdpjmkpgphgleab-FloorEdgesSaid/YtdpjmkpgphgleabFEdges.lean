/-
  Walk: FloorEdges: at the greatest and the least number nothing goes round.
-/
import Derived.Test.YtdpjmkpgphgleabFAwake
namespace Go.Proofs.Ytdpjmkpgphgleab
open Go.RowKit

set_option maxRecDepth 100000 in
set_option maxHeartbeats 4000000 in
theorem edges_any (a0 : Int) (w0 : (Lit.int .i64 a0).wf = true) (w : World) :
    Calls Try.prog 9 #[.int .i64 a0] w fun e w' => e = .returned (.bool true) ∧ Below w.heap.size w w' := by
  have b0 := bounds_i64 w0
  obtain ⟨Y, y1, y2, y3⟩ : ∃ Y : Int, bits .and .i64 a0 1099511627775 = Y ∧ 0 ≤ Y ∧ Y ≤ 1099511627775 := ⟨_, mask40 a0, by omega, by omega⟩
  go_enter Try.func9, Try.ntmps9
  go_wp2_with fail
  refine (awake_any _).mono ?_
  rintro e w' ⟨rfl, k, rfl⟩
  go_wp2_with fail
  clear y1
  have c1 := div_ok 9223372036854775807 (2 + Y) _ (by omega) (by omega) (by omega) rfl
  have c2 := mod_ok 9223372036854775807 (2 + Y) _ (by omega) (by omega) rfl
  have c3 := div_ok (-9223372036854775808) (2 + Y) _ (by omega) (by omega) (by omega) rfl
  have c4 := mod_ok (-9223372036854775808) (2 + Y) _ (by omega) (by omega) rfl
  have e1 := Int.ediv_mul_add_emod 9223372036854775807 (2 + Y)
  have e2 := Int.ediv_mul_add_emod (-9223372036854775808) (2 + Y)
  have m1 := Int.emod_lt_of_pos 9223372036854775807 (show 0 < 2 + Y by omega)
  have m2 := Int.emod_nonneg 9223372036854775807 (show 2 + Y ≠ 0 by omega)
  have m3 := Int.emod_lt_of_pos (-9223372036854775808) (show 0 < 2 + Y by omega)
  have m4 := Int.emod_nonneg (-9223372036854775808) (show 2 + Y ≠ 0 by omega)
  have n1 : 0 ≤ 9223372036854775807 / (2 + Y) := Int.ediv_nonneg (by decide) (by omega)
  have n2 := Int.ediv_neg_of_neg_of_pos (show (-9223372036854775808 : Int) < 0 by decide) (show 0 < 2 + Y by omega)
  have n3 := div_bd (-9223372036854775808) (2 + Y) (by omega) (by omega) (by omega)
  have n4 := div_bd (9223372036854775807) (2 + Y) (by omega) (by omega) (by omega)
  generalize 9223372036854775807 / (2 + Y) = p at *
  generalize 9223372036854775807 % (2 + Y) = q at *
  generalize (-9223372036854775808) / (2 + Y) = r at *
  generalize (-9223372036854775808) % (2 + Y) = s at *
  have k1 : (r + 1) * (2 + Y) - (2 + Y - s) = -9223372036854775808 := by rw [Int.add_mul]; omega
  have k2 : -9223372036854775808 ≤ (r + 1) * (2 + Y) ∧ (r + 1) * (2 + Y) ≤ 9223372036854775807 := by omega
  have k3 : -9223372036854775808 ≤ p * (2 + Y) ∧ p * (2 + Y) ≤ 9223372036854775807 := by omega
  have C1 := Lib.hid c1; clear c1
  have C2 := Lib.hid c2; clear c2
  have C3 := Lib.hid c3; clear c3
  have C4 := Lib.hid c4; clear c4
  have E2 := Lib.hid e2; clear e2
  refine (C1.out _).mono ?_
  rintro e w' ⟨rfl, rfl⟩
  go_wp2_with fail
  refine (C2.out _).mono ?_
  rintro e w' ⟨rfl, rfl⟩
  go_wp2_with fail
  refine (C3.out _).mono ?_
  rintro e w' ⟨rfl, rfl⟩
  go_wp2_with fail
  refine (C4.out _).mono ?_
  rintro e w' ⟨rfl, rfl⟩
  go_wp2_with fail
  refine (div_ok (-9223372036854775808) 1 (-9223372036854775808) (by omega) (by omega) (by omega) (by decide) _).mono ?_
  rintro e w' ⟨rfl, rfl⟩
  go_wp2_with fail
  refine (mod_ok (-9223372036854775808) 1 0 (by omega) (by omega) (by decide) _).mono ?_
  rintro e w' ⟨rfl, rfl⟩
  go_wp2_with fail
  refine (div_ok (-9223372036854775808) 9223372036854775807 (-2) (by omega) (by omega) (by omega) (by decide) _).mono ?_
  rintro e w' ⟨rfl, rfl⟩
  go_wp2_with (go_at_call 14; refine (num_any _ _).mono ?_; rintro e w' ⟨rfl, rfl⟩)
  go_ret
  exact ⟨rfl, below_drewN (Below.refl _ _) _⟩

end Go.Proofs.Ytdpjmkpgphgleab
