/-
  Walk: WindowTimes: times beyond the greatest one have no windows; at it they have.
-/
import Derived.Test.YtkbocjmdbfddhaaWAwake
import Derived.Test.YtkbocjmdbfddhaaWMask
namespace Go.Proofs.Ytkbocjmdbfddhaa
open Go.RowKit

set_option maxRecDepth 100000 in
set_option maxHeartbeats 2000000 in
theorem times_any (a0 a1 : Int) (w : World) (_ : (Lit.int .i64 a0).wf = true) (_ : (Lit.int .i64 a1).wf = true) :
    Calls Try.prog 6 #[.int .i64 a0, .int .i64 a1] w fun e w' => e = .returned (.bool true) ∧ Below w.heap.size w w' := by
  obtain ⟨X, x1, x2, x3⟩ : ∃ X : Int, bits .and .i64 a0 1023 = X ∧ 0 ≤ X ∧ X ≤ 1023 := ⟨_, mask1023 a0, by omega, by omega⟩
  obtain ⟨Y, y1, y2, y3⟩ : ∃ Y : Int, bits .and .i64 a1 1023 = Y ∧ 0 ≤ Y ∧ Y ≤ 1023 := ⟨_, mask1023 a1, by omega, by omega⟩
  have C1 : Hid (∀ W : World, Calls Try.prog 14 #[.agg #[.int .i64 0, .int .i64 0, .int .i64 (1 + Y), .int .i64 0, .slice none 0 0, .int .i64 0], .int .i64 (1099511627776 + (1 + X))] W (NoSpans W)) :=
    fun W => of_bad 0 0 (1 + Y) 0 0 _ none 0 0 [] W Ints.nil (Nat.zero_le _) (by rw [wi_false (by omega), Bool.and_false, Bool.and_false])
  have C2 : Hid (∀ W : World, Calls Try.prog 14 #[.agg #[.int .i64 0, .int .i64 0, .int .i64 (1 + Y), .int .i64 0, .slice none 0 0, .int .i64 0], .int .i64 (-1099511627776 - (1 + X))] W (NoSpans W)) :=
    fun W => of_bad 0 0 (1 + Y) 0 0 _ none 0 0 [] W Ints.nil (Nat.zero_le _) (by rw [wi_false (by omega), Bool.and_false, Bool.and_false])
  have c3 := fun W => tumble_any (1 + Y) 1099511627776 W (by omega) (by omega) (by decide)
  have c4 := fun W => tumble_any (1 + Y) (-1099511627776) W (by omega) (by omega) (by decide)
  have p1 := Int.ediv_mul_add_emod 1099511627776 (1 + Y)
  have p2 := Int.emod_nonneg 1099511627776 (show 1 + Y ≠ 0 by omega)
  have p3 := Int.emod_lt_of_pos 1099511627776 (show 0 < 1 + Y by omega)
  have q1 := Int.ediv_mul_add_emod (-1099511627776) (1 + Y)
  have q2 := Int.emod_nonneg (-1099511627776) (show 1 + Y ≠ 0 by omega)
  have q3 := Int.emod_lt_of_pos (-1099511627776) (show 0 < 1 + Y by omega)
  generalize 1099511627776 / (1 + Y) * (1 + Y) = S at *
  generalize -1099511627776 / (1 + Y) * (1 + Y) = T at *
  have s1 : S ≤ 1099511627776 := by omega
  have s2 : 1099511627776 < S + (1 + Y) := by omega
  have t1 : T ≤ -1099511627776 := by omega
  have t2 : -1099511627776 < T + (1 + Y) := by omega
  clear p1 p2 p3 q1 q2 q3
  have C3 := Lib.hid c3; clear c3
  have C4 := Lib.hid c4; clear c4
  go_enter Try.func6, Try.ntmps6
  go_wp2_with fail
  refine (wawake_any _).mono ?_
  rintro e w0 ⟨rfl, b0⟩
  have HM : Hid (∀ o, Has (w0.alloc (.cells o 24)) w0.heap.size 24 o) := fun o => Has.made _ _ _
  have HB0 : Hid (∀ o, Below w0.heap.size w0 (w0.alloc o)) := fun o => (Below.refl _ _).alloc (Nat.le_refl _) o
  have HW := Lib.hid b0; clear b0
  go_wp2_with fail
  clear x1 y1
  refine (C1.out _).mono ?_
  rintro e w1 ⟨rfl, b1⟩
  have HQ1 := Lib.hid ((HM.out _).below b1 (by simp))
  have HK1 : Hid (Below w0.heap.size w0 w1) := (HB0.out _).trans (b1.mono (by simp))
  have hc1 : ∀ i, w1.cell? ⟨w0.heap.size, i, none⟩ = _ := fun i => HQ1.out.cell i
  clear b1 HM HB0
  go_wp2_with fail
  refine (C2.out _).mono ?_
  rintro e w2 ⟨rfl, b2⟩
  have HQ2 := Lib.hid (HQ1.out.below b2 HQ1.out.lt)
  have HK2 := Lib.hid (HK1.out.trans (b2.mono HK1.out.size))
  have hc2 : ∀ i, w2.cell? ⟨w0.heap.size, i, none⟩ = _ := fun i => HQ2.out.cell i
  clear b2 hc1 HQ1 HK1
  go_wp2_with fail
  refine (C3.out _).mono ?_
  rintro e w3 ⟨A3, c3, rfl, o3, b3⟩
  have HQ3 := Lib.hid (HQ2.out.below b3 HQ2.out.lt)
  have HK3 := Lib.hid (HK2.out.trans (b3.mono HK2.out.size))
  have HO3 := Lib.hid o3
  have hc3 : ∀ i, w3.cell? ⟨w0.heap.size, i, none⟩ = _ := fun i => HQ3.out.cell i
  clear b3 o3 hc2 HQ2 HK2
  go_wp2_with fail
  refine (C4.out _).mono ?_
  rintro e w4 ⟨A4, c4, rfl, o4, b4⟩
  have HK4 := Lib.hid (HK3.out.trans (b4.mono HK3.out.size))
  obtain ⟨g3, f3, rfl, d1, d2⟩ := one_span (HO3.out.below b4).spans
  obtain ⟨g4, f4, rfl, d3, d4⟩ := one_span o4.spans
  clear b4 o4 hc3 HQ3 HK3 HO3
  go_wp2_with (go_at_call 17; refine (wnum_any _ _).mono ?_; rintro e w' ⟨rfl, rfl⟩)
  go_ret
  exact ⟨rfl, HW.out.trans (HK4.out.mono HW.out.size)⟩

end Go.Proofs.Ytkbocjmdbfddhaa
