/-
  Walk: the window laws' first look.
-/
import Derived.Test.YtkbocjmdbfddhaaWLit
namespace Go.Proofs.Ytkbocjmdbfddhaa
open Go.RowKit

structure AwS (w : World) (g : Nat) (wr : World) : Prop where
  box : Has wr g 24 #[.int .i64 1, .int .i64 0, .int .i64 5, .int .i64 2, .slice none 0 0, .int .i64 0]
  keep : Below w.heap.size w wr
theorem AwS.below {w : World} {g : Nat} {wr wy : World} (h : AwS w g wr) (hb : Below wr.heap.size wr wy) : AwS w g wy := ⟨h.box.below hb h.box.lt, h.keep.trans (hb.mono h.keep.size)⟩

set_option maxRecDepth 100000 in
set_option maxHeartbeats 2000000 in
theorem wawake_any (w : World) :
    Calls Try.prog 21 #[] w fun e w' => e = .returned (.bool true) ∧ Below w.heap.size w w' := by
  have C1 : Hid (∀ W : World, Calls Try.prog 14 #[.agg #[.int .i64 1, .int .i64 0, .int .i64 5, .int .i64 2, .slice none 0 0, .int .i64 0], .int .i64 4] W
      fun e w' => ∃ A c, e = .returned (.tuple #[.slice A 3 c, .int .i64 0]) ∧ OwnS w' W.heap.size (.slice A 3 c) [(0, 5), (2, 7), (4, 9)] ∧ Below W.heap.size W w') :=
    fun W => of_lit 1 0 5 2 0 4 none 0 0 [] [(0, 5), (2, 7), (4, 9)] 3 W Ints.nil (Nat.zero_le _) (by decide) (by decide) (by decide) (by decide) rfl
  have C2 : Hid (∀ W : World, Calls Try.prog 14 #[.agg #[.int .i64 2, .int .i64 0, .int .i64 5, .int .i64 0, .slice none 0 0, .int .i64 0], .int .i64 4] W (NoSpans W)) :=
    fun W => of_bad 2 0 5 0 0 4 none 0 0 [] W Ints.nil (Nat.zero_le _) (by decide)
  have C3 : Hid (∀ W : World, Calls Try.prog 14 #[.agg #[.int .i64 0, .int .i64 0, .int .i64 10, .int .i64 0, .slice none 0 0, .int .i64 0], .int .i64 (-1)] W
      fun e w' => ∃ A c, e = .returned (.tuple #[.slice A 1 c, .int .i64 0]) ∧ OwnS w' W.heap.size (.slice A 1 c) [(-10, 0)] ∧ Below W.heap.size W w') :=
    fun W => of_lit 0 0 10 0 0 (-1) none 0 0 [] [(-10, 0)] 1 W Ints.nil (Nat.zero_le _) (by decide) (by decide) (by decide) (by decide) rfl
  have C4 : Hid (∀ W : World, Calls Try.prog 19 #[.agg #[.int .i64 1, .int .i64 0, .int .i64 5, .int .i64 2, .slice none 0 0, .int .i64 0]] W fun e w' => e = .returned (.bool true) ∧ Below W.heap.size W w') :=
    fun W => may4_any 1 0 5 2 0 none 0 0 [] W Ints.nil (Nat.zero_le _)
  have C5 : Hid (∀ W : World, Calls Try.prog 19 #[.agg #[.int .i64 0, .int .i64 0, .int .i64 0, .int .i64 0, .slice none 0 0, .int .i64 0]] W fun e w' => e = .returned (.bool false) ∧ Below W.heap.size W w') :=
    fun W => may4_any 0 0 0 0 0 none 0 0 [] W Ints.nil (Nat.zero_le _)
  have HM : Hid (Has (w.alloc (.cells #[.int .i64 1, .int .i64 0, .int .i64 5, .int .i64 2, .slice none 0 0, .int .i64 0] 24)) w.heap.size 24 #[.int .i64 1, .int .i64 0, .int .i64 5, .int .i64 2, .slice none 0 0, .int .i64 0]) := Has.made _ _ _
  have HB0 : Hid (∀ o, Below w.heap.size w (w.alloc o)) := fun o => (Below.refl _ _).alloc (Nat.le_refl _) o
  go_enter Try.func21, Try.ntmps21
  go_wp2_with fail
  refine (C1.out _).mono ?_
  rintro e w1 ⟨A1, c1, rfl, o1, b1⟩
  have HS1 : Hid (AwS w w.heap.size w1) := ⟨HM.out.below b1 (by simp), (HB0.out _).trans (b1.mono (by simp))⟩
  have HO1 : Hid (OwnS w1 0 (.slice A1 3 c1) [(0, 5), (2, 7), (4, 9)]) := o1.mono (Nat.zero_le _)
  clear o1 b1 HM HB0 C1
  go_wp2_with fail
  refine (C2.out _).mono ?_
  rintro e w2 ⟨rfl, b2⟩
  have HS2 := Lib.hid (HS1.out.below b2)
  have HO2 := Lib.hid (HO1.out.below b2)
  clear b2 HS1 HO1 C2
  go_wp2_with fail
  refine (C3.out _).mono ?_
  rintro e w3 ⟨A3, c3, rfl, o3, b3⟩
  have HS3 := Lib.hid (HS2.out.below b3)
  have HO3 := Lib.hid (HO2.out.below b3)
  have HV3 : Hid (OwnS w3 0 (.slice A3 1 c3) [(-10, 0)]) := o3.mono (Nat.zero_le _)
  clear o3 b3 HS2 HO2 C3
  go_wp2_with fail
  refine (sameSpans_true A1 _ 3 c1 3 [(0, 5), (2, 7), (4, 9)] _ (own_keep HO3.out ((Below.refl _ _).alloc (Nat.le_refl _) _)) (spans_lit [(0, 5), (2, 7), (4, 9)] (Has.made _ _ _) rfl rfl) (by decide)).mono ?_
  rintro e w4 ⟨rfl, k4, hw4⟩
  have hB4 : Below w3.heap.size w3 w4 := by rw [hw4]; exact below_drewN ((Below.refl _ _).alloc (Nat.le_refl _) _) k4
  have HS4 := Lib.hid (HS3.out.below hB4)
  have HV4 := Lib.hid (HV3.out.below hB4)
  clear HO3 hB4 HS3 HV3 hw4
  go_wp2_with (go_at_call 17; refine (wnum_any _ _).mono ?_; rintro e w' ⟨rfl, rfl⟩)
  refine (sameSpans_true A3 _ 1 c3 1 [(-10, 0)] _ (own_keep HV4.out ((Below.refl _ _).alloc (Nat.le_refl _) _)) (spans_lit [(-10, 0)] (Has.made _ _ _) rfl rfl) (by decide)).mono ?_
  rintro e w5 ⟨rfl, k5, hw5⟩
  have hB5 : Below w4.heap.size w4 w5 := by rw [hw5]; exact below_drewN ((Below.refl _ _).alloc (Nat.le_refl _) _) k5
  have HS5 := Lib.hid (HS4.out.below hB5)
  have hc5 : ∀ i, w5.cell? ⟨w.heap.size, i, none⟩ = _ := fun i => HS5.out.box.cell i
  clear hB5 HS4 HV4 hw5
  go_wp2_with (go_at_call 17; refine (wnum_any _ _).mono ?_; rintro e w' ⟨rfl, rfl⟩)
  refine (C4.out _).mono ?_
  rintro e w6 ⟨rfl, b6⟩
  have HS6 := Lib.hid (HS5.out.below b6)
  clear hc5 HS5 b6
  go_wp2_with fail
  refine (C5.out _).mono ?_
  rintro e w7 ⟨rfl, b7⟩
  have HS7 := Lib.hid (HS6.out.below b7)
  clear HS6 b7
  go_wp2_with fail
  go_ret
  exact ⟨rfl, HS7.out.keep⟩

end Go.Proofs.Ytkbocjmdbfddhaa
