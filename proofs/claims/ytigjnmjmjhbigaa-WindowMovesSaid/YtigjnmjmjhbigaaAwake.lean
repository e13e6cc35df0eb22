/-
  Walk: awake: the program's answers at a few fixed inputs, call by call.
-/
import Derived.Test.YtigjnmjmjhbigaaVars
import Derived.Test.YtigjnmjmjhbigaaEnd
namespace Go.Proofs.Ytigjnmjmjhbigaa
open Go.RowKit

theorem hm_made (w W : World) (g : Nat) (e : W = w.alloc (.cells #[.int .i64 1, .int .i64 1, .int .i64 0] 3)) (e2 : g = w.heap.size) : Has W g 3 (ints [1, 1, 0]) := by
  subst e; subst e2; exact Has.made _ _ _
theorem hm_drew (w W : World) (g : Nat) (e : W = (w.alloc (.cells #[.int .i64 1, .int .i64 1, .int .i64 0] 3)).drew) (e2 : g = w.heap.size) : Has W g 3 (ints [1, 1, 0]) := by
  subst e; subst e2; exact Has.drew (Has.made _ _ _)
/-- What stands while the answer is put together: the two aggregates, the bounds. -/
structure Aw (w0 : World) (b gz yz gu yu : Nat) (z u : Ac) (w : World) : Prop where
  z : V w gz yz z
  u : V w gu yu u
  b : Has w b 3 (ints [0, 5])
  keep : Below w0.heap.size w0 w
section
variable {w0 : World} {b gz yz gu yu : Nat} {z u : Ac} {w w' : World}
theorem Aw.below (h : Aw w0 b gz yz gu yu z u w) (hb : Below w.heap.size w w') : Aw w0 b gz yz gu yu z u w' := ⟨h.z.below hb, h.u.below hb, has_below h.b hb, h.keep.trans (hb.mono h.keep.size)⟩
theorem Aw.drew (h : Aw w0 b gz yz gu yu z u w) : Aw w0 b gz yz gu yu z u w.drew := ⟨⟨h.z.cells, h.z.hist⟩, ⟨h.u.cells, h.u.hist⟩, h.b, h.keep.drew⟩
theorem Aw.alloc (h : Aw w0 b gz yz gu yu z u w) (o : Obj) : Aw w0 b gz yz gu yu z u (w.alloc o) := h.below ((Below.refl _ _).alloc (Nat.le_refl _) o)
theorem Aw.full (h : Aw w0 b gz yz gu yu z u w) : Aw w0 b gz yz gu yu z u w ∧ (∀ i, w.cell? ⟨gz, i, none⟩ = (accC z (some ⟨yz, 0, none⟩) z.h.length z.h.length)[i]?) ∧ (∀ i, w.cell? ⟨gu, i, none⟩ = (accC u (some ⟨yu, 0, none⟩) u.h.length u.h.length)[i]?) :=
  ⟨h, fun i => h.z.cells.cell i, fun i => h.u.cells.cell i⟩
theorem Aw.next (h : Aw w0 b gz yz gu yu z u w ∧ (∀ i, w.cell? ⟨gz, i, none⟩ = (accC z (some ⟨yz, 0, none⟩) z.h.length z.h.length)[i]?) ∧ (∀ i, w.cell? ⟨gu, i, none⟩ = (accC u (some ⟨yu, 0, none⟩) u.h.length u.h.length)[i]?)) (hb : Below w.heap.size w w') :
    Aw w0 b gz yz gu yu z u w' ∧ (∀ i, w'.cell? ⟨gz, i, none⟩ = (accC z (some ⟨yz, 0, none⟩) z.h.length z.h.length)[i]?) ∧ (∀ i, w'.cell? ⟨gu, i, none⟩ = (accC u (some ⟨yu, 0, none⟩) u.h.length u.h.length)[i]?) := (h.1.below hb).full
theorem Aw.zi (h : Aw w0 b gz yz gu yu z u w ∧ (∀ i, w.cell? ⟨gz, i, none⟩ = (accC z (some ⟨yz, 0, none⟩) z.h.length z.h.length)[i]?) ∧ (∀ i, w.cell? ⟨gu, i, none⟩ = (accC u (some ⟨yu, 0, none⟩) u.h.length u.h.length)[i]?)) : Ints w (some ⟨yz, 0, none⟩) z.h.length z.h := h.1.z.ints
theorem Aw.ui (h : Aw w0 b gz yz gu yu z u w ∧ (∀ i, w.cell? ⟨gz, i, none⟩ = (accC z (some ⟨yz, 0, none⟩) z.h.length z.h.length)[i]?) ∧ (∀ i, w.cell? ⟨gu, i, none⟩ = (accC u (some ⟨yu, 0, none⟩) u.h.length u.h.length)[i]?)) : Ints w (some ⟨yu, 0, none⟩) u.h.length u.h := h.1.u.ints
theorem Aw.bi (h : Aw w0 b gz yz gu yu z u w ∧ (∀ i, w.cell? ⟨gz, i, none⟩ = (accC z (some ⟨yz, 0, none⟩) z.h.length z.h.length)[i]?) ∧ (∀ i, w.cell? ⟨gu, i, none⟩ = (accC u (some ⟨yu, 0, none⟩) u.h.length u.h.length)[i]?)) : Ints w (some ⟨b, 0, none⟩) 2 [0, 5] := ints_of_has h.1.b rfl
theorem Aw.kept (h : Aw w0 b gz yz gu yu z u w ∧ (∀ i, w.cell? ⟨gz, i, none⟩ = (accC z (some ⟨yz, 0, none⟩) z.h.length z.h.length)[i]?) ∧ (∀ i, w.cell? ⟨gu, i, none⟩ = (accC u (some ⟨yu, 0, none⟩) u.h.length u.h.length)[i]?)) : Below w0.heap.size w0 w := h.1.keep
theorem Aw.made (h : Aw w0 b gz yz gu yu z u w ∧ (∀ i, w.cell? ⟨gz, i, none⟩ = (accC z (some ⟨yz, 0, none⟩) z.h.length z.h.length)[i]?) ∧ (∀ i, w.cell? ⟨gu, i, none⟩ = (accC u (some ⟨yu, 0, none⟩) u.h.length u.h.length)[i]?)) (o : Obj) :
    Aw w0 b gz yz gu yu z u (w.alloc o) ∧ (∀ i, (w.alloc o).cell? ⟨gz, i, none⟩ = (accC z (some ⟨yz, 0, none⟩) z.h.length z.h.length)[i]?) ∧ (∀ i, (w.alloc o).cell? ⟨gu, i, none⟩ = (accC u (some ⟨yu, 0, none⟩) u.h.length u.h.length)[i]?) := (h.1.alloc o).full
end

set_option maxRecDepth 100000 in
set_option maxHeartbeats 20000000 in
theorem awake_any (w : World) : Calls Try.prog 25 #[] w fun e w' => e = .returned (.bool true) ∧ Below w.heap.size w w' := by
  go_enter Try.func25, Try.ntmps25
  go_wp2_with fail
  have HB0 : Has (w.alloc (.cells #[.int .i64 0, .int .i64 5] 3)) w.heap.size 3 (ints [0, 5]) := Has.made _ _ _
  have hB0 : Below w.heap.size w (w.alloc (.cells #[.int .i64 0, .int .i64 5] 3)) := (Below.refl _ _).alloc (Nat.le_refl _) _

  go_wp2_with fail
  refine (mkItem_any _ _ _ _ _).mono ?_
  rintro e w1 ⟨rfl, hb1⟩
  replace HB0 := has_below HB0 hb1
  replace hB0 := hB0.trans (hb1.mono hB0.size)
  clear hb1
  go_wp2_with fail
  obtain ⟨X, hX⟩ : ∃ a, oneAc ⟨1, 4, 2, 5⟩ [0, 5] = a := ⟨_, rfl⟩
  have hC := one_ok ⟨1, 4, 2, 5⟩ _ 2 2 [0, 5] _ (ints_of_has HB0 rfl) (by decide) (by decide)
  rw [hX] at hC
  have HX := Lib.hid hX; clear hX
  refine hC.mono ?_
  clear hC
  rintro e w2 ⟨yX, hyX, rfl, hhX, hb2⟩
  replace HB0 := has_below HB0 hb2
  replace hB0 := hB0.trans (hb2.mono hB0.size)
  clear hb2
  clear hyX
  go_upto_region 3 with (first | (refine store_new rfl _ _ rfl rfl rfl rfl ?_; intro wn hbn hvn) | (refine lit2 rfl _ _ rfl rfl rfl ?_; intro wn hbn hvn) | (refine lit1 rfl _ rfl rfl ?_; intro wn hbn hvn))
  replace HB0 := has_below HB0 hbn
  replace hhX := has_below hhX hbn
  replace hB0 := hB0.trans (hbn.mono hB0.size)
  clear hbn
  generalize w2.heap.size = gX at hvn ⊢
  have VX : V wn gX yX X := ⟨hvn, hhX⟩
  clear hvn
  clear hhX
  go_wp2_with fail
  refine (mkItem_any _ _ _ _ _).mono ?_
  rintro e w1 ⟨rfl, hb1⟩
  replace HB0 := has_below HB0 hb1
  replace VX := VX.below hb1
  replace hB0 := hB0.trans (hb1.mono hB0.size)
  clear hb1
  go_wp2_with fail
  obtain ⟨Y, hY⟩ : ∃ a, oneAc ⟨1, 3, 9, -7⟩ [0, 5] = a := ⟨_, rfl⟩
  have hC := one_ok ⟨1, 3, 9, -7⟩ _ 2 2 [0, 5] _ (ints_of_has HB0 rfl) (by decide) (by decide)
  rw [hY] at hC
  have HY := Lib.hid hY; clear hY
  refine hC.mono ?_
  clear hC
  rintro e w2 ⟨yY, hyY, rfl, hhY, hb2⟩
  replace HB0 := has_below HB0 hb2
  replace VX := VX.below hb2
  replace hB0 := hB0.trans (hb2.mono hB0.size)
  clear hb2
  clear hyY
  go_upto_region 4 with (first | (refine store_new rfl _ _ rfl rfl rfl rfl ?_; intro wn hbn hvn) | (refine load_has rfl _ rfl _ rfl VX.cells ?_) | (refine lit2 rfl _ _ rfl rfl rfl ?_; intro wn hbn hvn) | (refine lit1 rfl _ rfl rfl ?_; intro wn hbn hvn))
  replace HB0 := has_below HB0 hbn
  replace VX := VX.below hbn
  replace hhY := has_below hhY hbn
  replace hB0 := hB0.trans (hbn.mono hB0.size)
  clear hbn
  generalize w2.heap.size = gY at hvn ⊢
  have VY : V wn gY yY Y := ⟨hvn, hhY⟩
  clear hvn
  clear hhY
  go_wp2_with (first | (refine store_new rfl _ _ rfl rfl rfl rfl ?_; intro wn hbn hvn) | (refine load_has rfl _ rfl _ rfl VX.cells ?_) | (refine load_has rfl _ rfl _ rfl VY.cells ?_) | (refine lit2 rfl _ _ rfl rfl rfl ?_; intro wn hbn hvn) | (refine lit1 rfl _ rfl rfl ?_; intro wn hbn hvn))
  replace HB0 := has_below HB0 hbn
  replace VX := VX.below hbn
  replace VY := VY.below hbn
  replace hB0 := hB0.trans (hbn.mono hB0.size)
  have hL := accs_two hvn rfl VX.ints VY.ints ⟨Nat.le_refl _, by rw [HX.out.symm]; decide⟩ ⟨Nat.le_refl _, by rw [HY.out.symm]; decide⟩
  clear hvn hbn
  have hZ : joinAc [0, 5] [X, Y] = ⟨2, -2, -7, 5, ⟨1, 3, 9, -7⟩, ⟨1, 4, 2, 5⟩, [1, 1, 0]⟩ := by rw [← HX.out, ← HY.out]; rfl
  obtain ⟨Z, hz⟩ : ∃ a : Ac, ⟨2, -2, -7, 5, ⟨1, 3, 9, -7⟩, ⟨1, 4, 2, 5⟩, [1, 1, 0]⟩ = a := ⟨_, rfl⟩
  have hC := join_ok _ 2 2 [0, 5] _ 2 2 [X, Y] _ (ints_of_has HB0 rfl) hL (by omega) (by decide) (by rw [← HX.out, ← HY.out]; decide +kernel) (by rw [← HX.out, ← HY.out]; decide +kernel)
  rw [hZ, hz] at hC
  have HZ := Lib.hid hz; clear hz hZ hL
  refine hC.mono ?_
  clear hC
  rintro e w2 ⟨yZ, hyZ, rfl, hhZ, hb2⟩
  replace HB0 := has_below HB0 hb2
  replace VX := VX.below hb2
  replace VY := VY.below hb2
  replace hB0 := hB0.trans (hb2.mono hB0.size)
  clear hb2
  clear hyZ
  go_upto_region 5 with (first | (refine store_new rfl _ _ rfl rfl rfl rfl ?_; intro wn hbn hvn) | (refine load_has rfl _ rfl _ rfl VX.cells ?_) | (refine load_has rfl _ rfl _ rfl VY.cells ?_) | (refine lit2 rfl _ _ rfl rfl rfl ?_; intro wn hbn hvn) | (refine lit1 rfl _ rfl rfl ?_; intro wn hbn hvn))
  replace HB0 := has_below HB0 hbn
  replace VX := VX.below hbn
  replace VY := VY.below hbn
  replace hhZ := has_below hhZ hbn
  replace hB0 := hB0.trans (hbn.mono hB0.size)
  clear hbn
  generalize w2.heap.size = gZ at hvn ⊢
  have VZ : V wn gZ yZ Z := ⟨hvn, hhZ⟩
  clear hvn
  clear hhZ
  go_wp2_with fail
  refine (one_bad zeroIt _ 2 2 [0, 5] _ (ints_of_has HB0 rfl) (by unfold maxLen; omega) (by decide)).mono ?_
  rintro e w2 ⟨rfl, hb2⟩
  replace HB0 := has_below HB0 hb2
  replace VX := VX.below hb2
  replace VY := VY.below hb2
  replace VZ := VZ.below hb2
  replace hB0 := hB0.trans (hb2.mono hB0.size)
  clear hb2
  go_upto_region 6 with (first | (refine store_new rfl _ _ rfl rfl rfl rfl ?_; intro wn hbn hvn) | (refine load_has rfl _ rfl _ rfl VX.cells ?_) | (refine load_has rfl _ rfl _ rfl VY.cells ?_) | (refine load_has rfl _ rfl _ rfl VZ.cells ?_) | (refine lit2 rfl _ _ rfl rfl rfl ?_; intro wn hbn hvn) | (refine lit1 rfl _ rfl rfl ?_; intro wn hbn hvn))
  replace HB0 := has_below HB0 hbn
  replace VX := VX.below hbn
  replace VY := VY.below hbn
  replace VZ := VZ.below hbn
  replace hB0 := hB0.trans (hbn.mono hB0.size)
  clear hbn hvn
  go_wp2_with fail
  have hZ : joinAc [0, 5] [] = ⟨0, 0, 0, 0, zeroIt, zeroIt, [0, 0, 0]⟩ := by rfl
  obtain ⟨U, hz⟩ : ∃ a : Ac, ⟨0, 0, 0, 0, zeroIt, zeroIt, [0, 0, 0]⟩ = a := ⟨_, rfl⟩
  have hC := join_ok _ 2 2 [0, 5] _ 0 0 [] _ (ints_of_has HB0 rfl) (Accs.nil _ none) (by omega) (by decide) (by decide +kernel) (by decide +kernel)
  rw [hZ, hz] at hC
  have HU := Lib.hid hz; clear hz hZ
  refine hC.mono ?_
  clear hC
  rintro e w2 ⟨yU, hyZ, rfl, hhU, hb2⟩
  replace HB0 := has_below HB0 hb2
  replace VX := VX.below hb2
  replace VY := VY.below hb2
  replace VZ := VZ.below hb2
  replace hB0 := hB0.trans (hb2.mono hB0.size)
  clear hb2
  clear hyZ
  go_upto_region 7 with (first | (refine store_new rfl _ _ rfl rfl rfl rfl ?_; intro wn hbn hvn) | (refine load_has rfl _ rfl _ rfl VX.cells ?_) | (refine load_has rfl _ rfl _ rfl VY.cells ?_) | (refine load_has rfl _ rfl _ rfl VZ.cells ?_) | (refine lit2 rfl _ _ rfl rfl rfl ?_; intro wn hbn hvn) | (refine lit1 rfl _ rfl rfl ?_; intro wn hbn hvn))
  replace HB0 := has_below HB0 hbn
  replace VX := VX.below hbn
  replace VY := VY.below hbn
  replace VZ := VZ.below hbn
  replace hhU := has_below hhU hbn
  replace hB0 := hB0.trans (hbn.mono hB0.size)
  clear hbn
  generalize w2.heap.size = gU at hvn ⊢
  have VU : V wn gU yU U := ⟨hvn, hhU⟩
  clear hvn
  clear hhU
  go_wp2_with fail
  refine (mkItem_any _ _ _ _ _).mono ?_
  rintro e w1 ⟨rfl, hb1⟩
  replace HB0 := has_below HB0 hb1
  replace VX := VX.below hb1
  replace VY := VY.below hb1
  replace VZ := VZ.below hb1
  replace VU := VU.below hb1
  replace hB0 := hB0.trans (hb1.mono hB0.size)
  clear hb1
  go_wp2_with fail
  obtain ⟨T, hT⟩ : ∃ a, oneAc ⟨2, 3, 9, -7⟩ [0, 5] = a := ⟨_, rfl⟩
  have hC := one_ok ⟨2, 3, 9, -7⟩ _ 2 2 [0, 5] _ (ints_of_has HB0 rfl) (by decide) (by decide)
  rw [hT] at hC
  have HT := Lib.hid hT; clear hT
  refine hC.mono ?_
  clear hC
  rintro e w2 ⟨yT, hyT, rfl, hhT, hb2⟩
  replace HB0 := has_below HB0 hb2
  replace VX := VX.below hb2
  replace VY := VY.below hb2
  replace VZ := VZ.below hb2
  replace VU := VU.below hb2
  replace hB0 := hB0.trans (hb2.mono hB0.size)
  clear hb2
  clear hyT
  go_upto_region 8 with (first | (refine store_new rfl _ _ rfl rfl rfl rfl ?_; intro wn hbn hvn) | (refine load_has rfl _ rfl _ rfl VX.cells ?_) | (refine load_has rfl _ rfl _ rfl VY.cells ?_) | (refine load_has rfl _ rfl _ rfl VZ.cells ?_) | (refine load_has rfl _ rfl _ rfl VU.cells ?_) | (refine lit2 rfl _ _ rfl rfl rfl ?_; intro wn hbn hvn) | (refine lit1 rfl _ rfl rfl ?_; intro wn hbn hvn))
  replace HB0 := has_below HB0 hbn
  replace VX := VX.below hbn
  replace VY := VY.below hbn
  replace VZ := VZ.below hbn
  replace VU := VU.below hbn
  replace hhT := has_below hhT hbn
  replace hB0 := hB0.trans (hbn.mono hB0.size)
  clear hbn
  generalize w2.heap.size = gT at hvn ⊢
  have VT : V wn gT yT T := ⟨hvn, hhT⟩
  clear hvn
  clear hhT
  go_upto_region 8 with fail
  go_cut [14, 15] (fun p q wx => (∃ g, p = .pointer (some ⟨g, 0, none⟩)) ∧ q = .int .i64 100 ∧ Hid (Aw w w.heap.size gZ yZ gU yU ⟨2, -2, -7, 5, ⟨1, 3, 9, -7⟩, ⟨1, 4, 2, 5⟩, [1, 1, 0]⟩ ⟨0, 0, 0, 0, zeroIt, zeroIt, [0, 0, 0]⟩ wx))
  case first =>
    go_wp2_with (first | (refine store_new rfl _ _ rfl rfl rfl rfl ?_; intro wn hbn hvn) | (refine load_has rfl _ rfl _ rfl VX.cells ?_) | (refine load_has rfl _ rfl _ rfl VY.cells ?_) | (refine load_has rfl _ rfl _ rfl VZ.cells ?_) | (refine load_has rfl _ rfl _ rfl VU.cells ?_) | (refine load_has rfl _ rfl _ rfl VT.cells ?_) | (refine lit2 rfl _ _ rfl rfl rfl ?_; intro wn hbn hvn) | (refine lit1 rfl _ rfl rfl ?_; intro wn hbn hvn))
    replace HB0 := has_below HB0 hbn
    replace VX := VX.below hbn
    replace VY := VY.below hbn
    replace VZ := VZ.below hbn
    replace VU := VU.below hbn
    replace VT := VT.below hbn
    replace hB0 := hB0.trans (hbn.mono hB0.size)
    have hL := accs_two hvn rfl VX.ints VT.ints ⟨Nat.le_refl _, by rw [HX.out.symm]; decide⟩ ⟨Nat.le_refl _, by rw [HT.out.symm]; decide⟩
    clear hvn hbn
    refine (join_form _ 2 2 [0, 5] _ 2 2 [X, T] _ (ints_of_has HB0 rfl) (by unfold maxLen; omega) hL (by omega) (by rw [← HX.out, ← HT.out]; decide +kernel)).mono ?_
    rintro e w2 ⟨rfl, hb2⟩
    replace HB0 := has_below HB0 hb2
    replace VX := VX.below hb2
    replace VY := VY.below hb2
    replace VZ := VZ.below hb2
    replace VU := VU.below hb2
    replace VT := VT.below hb2
    replace hB0 := hB0.trans (hb2.mono hB0.size)
    clear hb2
    go_upto_region 9 with (first | (refine store_new rfl _ _ rfl rfl rfl rfl ?_; intro wn hbn hvn) | (refine load_has rfl _ rfl _ rfl VX.cells ?_) | (refine load_has rfl _ rfl _ rfl VY.cells ?_) | (refine load_has rfl _ rfl _ rfl VZ.cells ?_) | (refine load_has rfl _ rfl _ rfl VU.cells ?_) | (refine load_has rfl _ rfl _ rfl VT.cells ?_) | (refine lit2 rfl _ _ rfl rfl rfl ?_; intro wn hbn hvn) | (refine lit1 rfl _ rfl rfl ?_; intro wn hbn hvn))
    replace HB0 := has_below HB0 hbn
    replace VX := VX.below hbn
    replace VY := VY.below hbn
    replace VZ := VZ.below hbn
    replace VU := VU.below hbn
    replace VT := VT.below hbn
    replace hB0 := hB0.trans (hbn.mono hB0.size)
    clear hbn hvn
    go_meet
    have hA : Aw w w.heap.size gZ yZ gU yU Z U wn := ⟨VZ, VU, HB0, hB0⟩
    rw [← HZ.out, ← HU.out] at hA
    exact ⟨⟨_, rfl⟩, rfl, hA⟩
  case rest =>
    obtain ⟨⟨g14, rfl⟩, rfl, hcut⟩ := hcut
    clear VZ VU VX VY HB0 hB0 HX HY HZ HU
    clear Z U X Y
    have hA := hcut.out
    clear hcut
    go_upto_region 9 with fail
    refine end_any (b := w.heap.size) (yZ := yZ) (yU := yU) (gZ := gZ) (gU := gU) ⟨rfl, hA.z, hA.u, hA.b, rfl, rfl, rfl, rfl, rfl, rfl, rfl, rfl, rfl, rfl⟩ ?_
    intro ax wx2 hbx hdx hvx
    go_wp2_with fail
    have hv2 : ax.tmps[0]?.getD undef = .bool true := by simpa using hvx
    exact bodyPost_ret (v := .bool true) (by simp [results, Try.results25, hv2, go_sem]) hdx ⟨rfl, hA.keep.trans (hbx.mono hA.keep.size)⟩

end Go.Proofs.Ytigjnmjmjhbigaa
