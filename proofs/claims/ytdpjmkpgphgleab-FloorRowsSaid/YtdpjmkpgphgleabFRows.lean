/-
  Walk: FloorRows: a greater number's quotient is never less.
-/
import Derived.Test.YtdpjmkpgphgleabFAwake
namespace Go.Proofs.Ytdpjmkpgphgleab
open Go.RowKit

theorem rows_le (X Y d : Int) (hY : 1 ≤ Y) (hd : 0 ≤ d) : X / Y ≤ (X + d) / Y ∧ (X + d) / Y - X / Y ≤ d / Y + 1 := by
  have h1 := Int.ediv_le_ediv (show 0 < Y by omega) (show X ≤ X + d by omega)
  refine ⟨h1, ?_⟩
  have e1 := Int.ediv_mul_add_emod X Y
  have e2 := Int.ediv_mul_add_emod d Y
  have r1 := Int.emod_lt_of_pos X (show 0 < Y by omega)
  have r2 := Int.emod_lt_of_pos d (show 0 < Y by omega)
  have : (X + d) / Y < X / Y + d / Y + 2 := by
    rw [Int.ediv_lt_iff_lt_mul (by omega), Int.add_mul, Int.add_mul]; omega
  omega
theorem rows_step (X Y : Int) (hY : 1 ≤ Y) : ((X + 1) / Y = X / Y + 1 ∧ (X + 1) % Y = 0) ∨ ((X + 1) / Y = X / Y ∧ 1 ≤ (X + 1) % Y) := by
  have e1 := Int.ediv_mul_add_emod X Y
  have r0 := Int.emod_nonneg X (show Y ≠ 0 by omega)
  have r1 := Int.emod_lt_of_pos X (show 0 < Y by omega)
  by_cases h : X % Y + 1 = Y
  · left
    refine (Int.ediv_emod_unique (show 0 < Y by omega)).2 ⟨?_, by omega, by omega⟩
    rw [Int.mul_add, Int.mul_comm Y (X / Y)]; omega
  · right
    have := (Int.ediv_emod_unique (a := X + 1) (b := Y) (r := X % Y + 1) (q := X / Y) (show 0 < Y by omega)).2 ⟨by rw [Int.mul_comm Y (X / Y)]; omega, by omega, by omega⟩
    omega

set_option maxHeartbeats 1000000 in
theorem rows_any (a0 a1 a2 : Int) (w0 : (Lit.int .i64 a0).wf = true) (w1 : (Lit.int .i64 a1).wf = true) (w2 : (Lit.int .i64 a2).wf = true) (w : World) :
    Calls Try.prog 8 #[.int .i64 a0, .int .i64 a1, .int .i64 a2] w fun e w' => e = .returned (.bool true) ∧ Below w.heap.size w w' := by
  have b0 := bounds_i64 w0
  have b1 := bounds_i64 w1
  have b2 := bounds_i64 w2
  obtain ⟨Y, y1, y2, y3⟩ : ∃ Y : Int, bits .and .i64 a1 1023 = Y ∧ 0 ≤ Y ∧ Y ≤ 1023 := ⟨_, mask1023 a1, by omega, by omega⟩
  obtain ⟨D, d1, d2, d3⟩ : ∃ D : Int, bits .and .i64 a2 4095 = D ∧ 0 ≤ D ∧ D ≤ 4095 := ⟨_, mask12 a2, by omega, by omega⟩
  obtain ⟨X, x1, x2, x3⟩ : ∃ X : Int, a0.tmod 1099511627776 = X ∧ -1099511627776 ≤ X ∧ X ≤ 1099511627776 := ⟨_, rfl, by have := Int.lt_tmod_of_pos a0 (show (0 : Int) < 1099511627776 by decide); omega, by have := Int.tmod_lt_of_pos a0 (show (0 : Int) < 1099511627776 by decide); omega⟩
  go_enter Try.func8, Try.ntmps8
  go_wp2_with fail
  refine (awake_any _).mono ?_
  rintro e w' ⟨rfl, k, rfl⟩
  go_wp2_with fail
  clear x1 y1 d1
  obtain ⟨t1, t2⟩ := rows_le X (1 + Y) D (by omega) d2
  have t3 := rows_step X (1 + Y) (by omega)
  have t4 := Int.ediv_nonneg d2 (show 0 ≤ 1 + Y by omega)
  have t5 : D / (1 + Y) ≤ D := Int.ediv_le_self _ d2
  have t8 : -1099511627776 ≤ X / (1 + Y) ∧ X / (1 + Y) ≤ 1099511627776 := by
    constructor
    · exact Int.le_ediv_of_mul_le (by omega) (by have := Int.mul_le_mul_of_nonneg_left (show 1 ≤ 1 + Y by omega) (show (0 : Int) ≤ 1099511627776 by decide); omega)
    · apply Int.ediv_le_of_le_mul (by omega)
      have := Int.mul_le_mul_of_nonneg_left (show 1 ≤ 1 + Y by omega) (show (0 : Int) ≤ 1099511627776 by decide)
      omega
  have c1 := div_ok X (1 + Y) _ (by omega) (by omega) (by omega) rfl
  have c2 := div_ok (X + D) (1 + Y) _ (by omega) (by omega) (by omega) rfl
  have c3 := div_ok (X + 1) (1 + Y) _ (by omega) (by omega) (by omega) rfl
  have c4 := mod_ok (X + 1) (1 + Y) _ (by omega) (by omega) rfl
  obtain ⟨E, e1⟩ : ∃ E, D / (1 + Y) = E := ⟨_, rfl⟩
  rw [e1] at t2 t4 t5
  generalize X / (1 + Y) = p at *
  generalize (X + D) / (1 + Y) = q at *
  generalize (X + 1) / (1 + Y) = r at *
  generalize (X + 1) % (1 + Y) = m at *
  have C1 := Lib.hid c1; clear c1
  have C2 := Lib.hid c2; clear c2
  have C3 := Lib.hid c3; clear c3
  have C4 := Lib.hid c4; clear c4
  have t9 : (r = p + 1 ∧ m = 0) ∨ (r = p ∧ 1 ≤ m ∧ (p == p + 1) = false ∧ (m == 0) = false) := by
    rcases t3 with h | h
    · exact Or.inl h
    · exact Or.inr ⟨h.1, h.2, beq_eq_false_iff_ne.2 (by omega), beq_eq_false_iff_ne.2 (by omega)⟩
  clear t3
  rcases t9 with ⟨rfl, rfl⟩ | ⟨rfl, t3, t10, t11⟩
  all_goals
    refine (C1.out _).mono ?_
    rintro e w' ⟨rfl, rfl⟩
    go_wp2_with fail
    refine (C2.out _).mono ?_
    rintro e w' ⟨rfl, rfl⟩
    go_wp2_with fail
    refine (C3.out _).mono ?_
    rintro e w' ⟨rfl, rfl⟩
    go_wp2_with fail
    refine (C4.out _).mono ?_
    rintro e w' ⟨rfl, rfl⟩
    go_wp2_with (go_at_call 14; refine (num_any _ _).mono ?_; rintro e w' ⟨rfl, rfl⟩)
    go_ret
    exact ⟨rfl, below_drewN (Below.refl _ _) _⟩

end Go.Proofs.Ytdpjmkpgphgleab
