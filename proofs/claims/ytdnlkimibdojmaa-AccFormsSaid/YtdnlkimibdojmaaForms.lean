/-
  Walk: AccForms: items, bounds, aggregates that are none.
-/
import Derived.Test.YtdnlkimibdojmaaLaw
import Derived.Test.YtdnlkimibdojmaaFormsP
import Derived.Test.YtdnlkimibdojmaaMask
import Derived.Deep.DeepCutAuto
import Derived.Deep.CutBlock
namespace Go.Proofs.Ytdnlkimibdojmaa
open Go.RowKit

set_option maxRecDepth 100000 in
set_option maxHeartbeats 20000000 in
theorem forms_any (a0 a1 : Int) (w0 : (Lit.int .i64 a0).wf = true) (w1 : (Lit.int .i64 a1).wf = true) (w : World) :
    Calls Try.prog 5 #[.int .i64 a0, .int .i64 a1] w fun e w' => e = .returned (.bool true) ∧ Below w.heap.size w w' := by
  have b0 := bounds_i64 w0
  have b1 := bounds_i64 w1
  go_enter Try.func5, Try.ntmps5
  go_wp2_with fail
  refine (awake_any _).mono ?_
  rintro e w1 ⟨rfl, hB0⟩
  obtain ⟨d, hd5, hd3, hd4⟩ : ∃ d : Int, bits .and .i64 a1 1023 = d ∧ 0 ≤ d ∧ d ≤ 1023 := ⟨a1 % 1024, mask1023 a1, by omega, by omega⟩
  go_upto_region 5 with fail

  have HB0 : Has (w1.alloc (.cells #[.int .i64 0, .int .i64 5] 3)) w1.heap.size 3 (ints [0, 5]) := Has.made _ _ _
  replace hB0 := below_alloc hB0 (Nat.le_refl _) (.cells #[.int .i64 0, .int .i64 5] 3)
  go_wp2_with fail
  refine (mkItem_any _ _ _ _ _).mono ?_
  rintro e w2 ⟨rfl, hb2⟩
  replace HB0 := has_below HB0 hb2
  replace hB0 := hB0.trans (hb2.mono hB0.size)
  clear hb2
  generalize w1.heap.size = gb at HB0 ⊢
  go_wp2_with fail
  refine (mkItem_any _ _ _ _ _).mono ?_
  rintro e w3 ⟨rfl, hb3⟩
  replace HB0 := has_below HB0 hb3
  replace hB0 := hB0.trans (hb3.mono hB0.size)
  clear hb3
  go_upto_region 5 with fail
  have HI : Has ((w3.alloc (.cells #[.int .i64 1, .int .i64 4, .int .i64 2, .int .i64 3] 23)).alloc (.cells #[.int .i64 1, .int .i64 5, .int .i64 3, .int .i64 9] 23)) w3.heap.size 23 #[.int .i64 1, .int .i64 4, .int .i64 2, .int .i64 3] := heap_alloc2_old _ _ _
  have HJ : Has ((w3.alloc (.cells #[.int .i64 1, .int .i64 4, .int .i64 2, .int .i64 3] 23)).alloc (.cells #[.int .i64 1, .int .i64 5, .int .i64 3, .int .i64 9] 23)) (w3.heap.size + 1) 23 #[.int .i64 1, .int .i64 5, .int .i64 3, .int .i64 9] := heap_alloc2_new _ _ _
  replace HB0 := (HB0.alloc (.cells #[.int .i64 1, .int .i64 4, .int .i64 2, .int .i64 3] 23)).alloc (.cells #[.int .i64 1, .int .i64 5, .int .i64 3, .int .i64 9] 23)
  replace hB0 := below_alloc (below_alloc hB0 (Nat.le_refl _) (.cells #[.int .i64 1, .int .i64 4, .int .i64 2, .int .i64 3] 23)) (Nat.le_refl _) (.cells #[.int .i64 1, .int .i64 5, .int .i64 3, .int .i64 9] 23)
  obtain ⟨P, hP⟩ : ∃ a, oneAc ⟨1, 4, 2, 3⟩ [0, 5] = a := ⟨_, rfl⟩
  have hC := one_ok ⟨1, 4, 2, 3⟩ _ 2 2 [0, 5] _ (ints_of_has HB0 rfl) (by decide) (by decide)
  rw [hP] at hC
  have HP := Lib.hid hP; clear hP
  refine hC.mono ?_
  clear hC
  rintro e w2 ⟨yP, hyP, rfl, hhP, hb2⟩
  replace HB0 := has_below HB0 hb2
  replace HI := has_below HI hb2
  replace HJ := has_below HJ hb2
  replace hB0 := hB0.trans (hb2.mono hB0.size)
  clear hb2
  clear hyP
  go_upto_region 7 with (first | (refine store_new rfl _ _ rfl rfl rfl rfl ?_; intro wn hbn hvn) | (refine lit2 rfl _ _ rfl rfl rfl ?_; intro wn hbn hvn) | (refine lit1 rfl _ rfl rfl ?_; intro wn hbn hvn))
  replace HB0 := has_below HB0 hbn
  replace HI := has_below HI hbn
  replace HJ := has_below HJ hbn
  replace hhP := has_below hhP hbn
  replace hB0 := hB0.trans (hbn.mono hB0.size)
  clear hbn
  generalize w2.heap.size = gP at hvn ⊢
  have VP : V wn gP yP P := ⟨hvn, hhP⟩
  clear hvn
  clear hhP
  generalize w3.heap.size = gi at HI HJ ⊢
  clear w3 w2
  have cj : ∀ i, _ = _ := fun i => HJ.cell i
  go_wp2_with fail
  clear cj
  clear HJ
  obtain ⟨Q, hQ⟩ : ∃ a, oneAc ⟨1, 5, 3, 9⟩ [0, 5] = a := ⟨_, rfl⟩
  have hC := one_ok ⟨1, 5, 3, 9⟩ _ 2 2 [0, 5] _ (ints_of_has HB0 rfl) (by decide) (by decide)
  rw [hQ] at hC
  have HQ := Lib.hid hQ; clear hQ
  refine hC.mono ?_
  clear hC
  rintro e w2 ⟨yQ, hyQ, rfl, hhQ, hb2⟩
  replace HB0 := has_below HB0 hb2
  replace HI := has_below HI hb2
  replace VP := VP.below hb2
  replace hB0 := hB0.trans (hb2.mono hB0.size)
  clear hb2
  clear hyQ
  go_upto_region 8 with (first | (refine store_new rfl _ _ rfl rfl rfl rfl ?_; intro wn hbn hvn) | (refine load_has rfl _ rfl _ rfl VP.cells ?_) | (refine lit2 rfl _ _ rfl rfl rfl ?_; intro wn hbn hvn) | (refine lit1 rfl _ rfl rfl ?_; intro wn hbn hvn))
  replace HB0 := has_below HB0 hbn
  replace HI := has_below HI hbn
  replace VP := VP.below hbn
  replace hhQ := has_below hhQ hbn
  replace hB0 := hB0.trans (hbn.mono hB0.size)
  clear hbn
  generalize w2.heap.size = gQ at hvn ⊢
  have VQ : V wn gQ yQ Q := ⟨hvn, hhQ⟩
  clear hvn
  clear hhQ
  go_wp2_with (first | (refine store_new rfl _ _ rfl rfl rfl rfl ?_; intro wn hbn hvn) | (refine load_has rfl _ rfl _ rfl VP.cells ?_) | (refine load_has rfl _ rfl _ rfl VQ.cells ?_) | (refine lit2 rfl _ _ rfl rfl rfl ?_; intro wn hbn hvn) | (refine lit1 rfl _ rfl rfl ?_; intro wn hbn hvn))
  replace HB0 := has_below HB0 hbn
  replace HI := has_below HI hbn
  replace VP := VP.below hbn
  replace VQ := VQ.below hbn
  replace hB0 := hB0.trans (hbn.mono hB0.size)
  have hL := accs_two hvn rfl VP.ints VQ.ints ⟨Nat.le_refl _, by rw [HP.out.symm]; decide⟩ ⟨Nat.le_refl _, by rw [HQ.out.symm]; decide⟩
  clear hvn hbn
  have hZ : joinAc [0, 5] [P, Q] = fmA := by rw [← HP.out, ← HQ.out]; rfl
  have hC := join_ok _ 2 2 [0, 5] _ 2 2 [P, Q] _ (ints_of_has HB0 rfl) hL (by omega) (by decide) (by rw [← HP.out, ← HQ.out]; decide +kernel) (by rw [← HP.out, ← HQ.out]; decide +kernel)
  rw [hZ] at hC
  clear hZ hL
  refine hC.mono ?_
  clear hC
  rintro e w2 ⟨yA, hyA, rfl, hhA, hb2⟩
  have hyb : gb < yA := Nat.lt_of_lt_of_le HB0.lt hyA
  have hyp : yP < yA := Nat.lt_of_lt_of_le VP.hist.lt hyA
  have hyw : w.heap.size ≤ yA := Nat.le_trans hB0.size hyA
  replace HB0 := has_below HB0 hb2
  replace HI := has_below HI hb2
  replace VP := VP.below hb2
  replace VQ := VQ.below hb2
  replace hB0 := hB0.trans (hb2.mono hB0.size)
  clear hb2
  clear hyA
  clear VQ HQ
  go_upto_region 9 with (first | (refine store_new rfl _ _ rfl rfl rfl rfl ?_; intro wn hbn hvn) | (refine load_has rfl _ rfl _ rfl VP.cells ?_) | (refine lit2 rfl _ _ rfl rfl rfl ?_; intro wn hbn hvn) | (refine lit1 rfl _ rfl rfl ?_; intro wn hbn hvn))
  have hpa : gP < w2.heap.size := VP.cells.lt
  have hgw : w.heap.size ≤ w2.heap.size := hB0.size
  replace HB0 := has_below HB0 hbn
  replace HI := has_below HI hbn
  replace VP := VP.below hbn
  replace hhA := has_below hhA hbn
  replace hB0 := hB0.trans (hbn.mono hB0.size)
  clear hbn
  generalize w2.heap.size = gA at hvn hpa hgw ⊢
  have VA : V wn gA yA fmA := ⟨hvn, hhA⟩
  clear hvn hhA
  have c12 : wn.cell? ⟨gA, 12, none⟩ = some (.slice (some ⟨yA, 0, none⟩) 3 3) := VA.cells.cell 12
  go_wp2_with (first | (go_at_call 22; refine (num_any _ _).mono ?_; rintro e w' ⟨rfl, rfl⟩) | (refine load_hasG rfl _ rfl _ rfl VA.cells ?_))
  clear c12
  refine (may_any fmA _ 3 3 _ 2 2 [0, 5] _ VA.ints (ints_of_has HB0 rfl) (by unfold maxLen; omega) (by unfold maxLen; omega)).mono ?_
  rintro e w2 ⟨rfl, hb2⟩
  rw [show accB fmA [0, 5] = true by decide]
  replace HB0 := has_below HB0 hb2
  replace HI := has_below HI hb2
  replace VP := VP.below hb2
  replace VA := VA.below hb2
  replace hB0 := hB0.trans (hb2.mono hB0.size)
  clear hb2
  go_upto_block 0 with fail
  obtain ⟨k, hk, ek⟩ : ∃ k : Nat, k < 18 ∧ (IntKind.u64.wrap a0).tmod 18 = k := by
    have h : 0 ≤ IntKind.u64.wrap a0 := by simp [IntKind.wrap, IntKind.bits, IntKind.signed]; omega
    have e : (IntKind.u64.wrap a0).tmod 18 = IntKind.u64.wrap a0 % 18 := Int.tmod_eq_emod_of_nonneg h
    exact ⟨(IntKind.u64.wrap a0 % 18).toNat, by omega, by omega⟩
  rw [ek]
  clear ek
  go_cut [] (fun wx => Hid (FmS w gA gb gP yP P wx))
  case first =>
    have S : FmB w gA yA gb gP yP P w2 := ⟨VA, HB0, VP, hB0, hpa, hyb, hyp, hgw, hyw⟩
    have cA : ∀ i, w2.cell? ⟨gA, i, none⟩ = (accC fmA (some ⟨yA, 0, none⟩) 3 3)[i]? := fun i => VA.cells.cell i
    have mA : ∀ i, w2.frozen? ⟨gA, i, none⟩ = false := fun i => VA.cells.mark i
    have cY : w2.cell? ⟨yA, 0, none⟩ = some (.int .i64 0) := VA.hist.cell 0
    have mY : w2.frozen? ⟨yA, 0, none⟩ = false := VA.hist.mark 0
    have cI : ∀ o i, (w2.alloc o).cell? ⟨gi, i, none⟩ = #[Value.int .i64 1, .int .i64 4, .int .i64 2, .int .i64 3][i]? := fun o i => (HI.alloc o).cell i
    clear VA HB0 VP hB0 hpa hyb hyp hgw hyw HP HI
    have hk18 : k = 0 ∨ k = 1 ∨ k = 2 ∨ k = 3 ∨ k = 4 ∨ k = 5 ∨ k = 6 ∨ k = 7 ∨ k = 8 ∨ k = 9 ∨ k = 10 ∨ k = 11 ∨ k = 12 ∨ k = 13 ∨ k = 14 ∨ k = 15 ∨ k = 16 ∨ k = 17 := by omega
    clear hk
    rcases hk18 with rfl | rfl | rfl | rfl | rfl | rfl | rfl | rfl | rfl | rfl | rfl | rfl | rfl | rfl | rfl | rfl | rfl | rfl
    · go_wp2_with fail
      go_meet
      case rel => exact (fm_put S { fmA with n := 2 + (1 + d) } 0 _ rfl rfl (fm0 (show 1 ≤ 1 + d by omega)))
    · go_wp2_with fail
      go_meet
      case rel => exact (fm_put S { fmA with n := 1 } 0 _ rfl rfl fm1)
    · go_wp2_with fail
      go_meet
      case rel => exact (fm_put S { fmA with s := 18 + (1 + d) } 1 _ rfl rfl (fm2 (show 1 ≤ 1 + d by omega)))
    · go_wp2_with fail
      go_meet
      case rel => exact (fm_put S { fmA with s := 6 - (1 + d) } 1 _ rfl rfl (fm3 (show 1 ≤ 1 + d by omega)))
    · go_wp2_with fail
      go_meet
      case rel => exact (fm_put S { fmA with mn := 3 + (1 + d) } 2 _ rfl rfl (fm4 (show 1 ≤ 1 + d by omega)))
    · go_wp2_with fail
      go_meet
      case rel => exact (fm_put S { fmA with mx := 9 - (1 + d) } 3 _ rfl rfl (fm5 (show 1 ≤ 1 + d by omega)))
    · go_wp2_with fail
      go_meet
      case rel => exact (fm_put S { fmA with mx := 1099511627776 + (1 + d) } 3 _ rfl rfl (fm6 (show 1 ≤ 1 + d by omega)))
    · go_wp2_with fail
      go_meet
      case rel => exact (fm_put S { fmA with f := { fmI with s := 2 } } 4 _ rfl rfl fm7)
    · go_wp2_with fail
      go_meet
      case rel => exact (fm_put S { fmA with f := { fmI with t := 5 + (1 + d) } } 5 _ rfl rfl (fm8 (show 1 ≤ 1 + d by omega)))
    · go_wp2_with fail
      go_meet
      case rel => exact (fm_put S { fmA with l := { fmJ with q := 0 } } 10 _ rfl rfl fm9)
    · go_wp2_with fail
      go_meet
      case rel => exact (fm_put S { fmA with l := { fmJ with v := 9 + (1 + d) } } 11 _ rfl rfl (fm10 (show 1 ≤ 1 + d by omega)))
    · go_wp2_with fail
      go_meet
      case rel => exact (fm_putH S _ (fm11 (show 1 ≤ 1 + d by omega)))
    · go_wp2_with fail
      go_meet
      case rel => exact (fm_putH S _ fm12)
    · go_wp2_with fail
      go_meet
      case rel => exact (fm_cut S)
    · go_wp2_with (refine store_has rfl _ _ rfl gA (ac := ⟨0, 1 + d, 0, 0, zeroIt, zeroIt, [0, 0, 0]⟩) (A := some ⟨w2.heap.size, 0, none⟩) (k := 3) (c := 3) rfl rfl (S.a.cells.alloc _) rfl ?_)
      go_meet
      case rel => exact (fm_row S _ rfl (fm14 (show 1 ≤ 1 + d by omega)))
    · go_wp2_with (refine store_has rfl _ _ rfl gA (ac := ⟨0, 0, 0, 0, fmI, zeroIt, [0, 0, 0]⟩) (A := some ⟨w2.heap.size, 0, none⟩) (k := 3) (c := 3) rfl rfl (S.a.cells.alloc _) rfl ?_)
      go_meet
      case rel => exact (fm_row S _ rfl fm15)
    · go_wp2_with fail
      go_meet
      case rel => exact (fm_put S { fmA with f := { fmI with t := -1099511627776 - (1 + d) } } 5 _ rfl rfl (fm16 (show 1 ≤ 1 + d by omega)))
    · go_wp2_with fail
      go_meet
      case rel => exact (fm_put S { fmA with n := -(1 + d) } 0 _ rfl rfl (fm17 (show 1 ≤ 1 + d by omega)))
  case rest =>
    clear VA HB0 VP hB0 HI
    have ⟨a', B, kk, c, hA, hI, hkc, hcm, hf, hb, hp, hB0⟩ := hcut.out
    clear hcut
    clear hpa hyb hyp hyw hgw
    go_wp2_with (first | (refine load_has rfl _ rfl _ rfl hA ?_) | (refine lit1 rfl _ rfl rfl ?_; intro wn hbn hvn))
    have hL := accs_one hvn (hI.below hbn) ⟨hkc, hcm⟩
    clear hvn
    replace hA := has_below hA hbn
    replace hI := hI.below hbn
    replace hb := has_below hb hbn
    replace hp := hp.below hbn
    replace hB0 := hB0.trans (hbn.mono hB0.size)
    clear hbn
    refine (join_form _ 2 2 [0, 5] _ 1 1 [a'] _ (ints_of_has hb rfl) (by unfold maxLen; omega) hL (by omega) (by rw [show boundsB [0, 5] = true by decide]; exact tog_no hf)).mono ?_
    clear hL
    rintro e w2 ⟨rfl, hb2⟩
    replace hA := has_below hA hb2
    replace hI := hI.below hb2
    replace hb := has_below hb hb2
    replace hp := hp.below hb2
    replace hB0 := hB0.trans (hb2.mono hB0.size)
    clear hb2
    go_upto_region 48 with (first | (refine store_new rfl _ _ rfl rfl rfl rfl ?_; intro wn hbn hvn) | (refine lit2 rfl _ _ rfl rfl rfl ?_; intro wn hbn hvn) | (refine lit1 rfl _ rfl rfl ?_; intro wn hbn hvn))
    replace hA := has_below hA hbn
    replace hI := hI.below hbn
    replace hb := has_below hb hbn
    replace hp := hp.below hbn
    replace hB0 := hB0.trans (hbn.mono hB0.size)
    clear hbn
    clear hvn
    have H5 : ∀ w : World, Has (w.alloc (.cells #[.int .i64 5, .int .i64 5] 3)) w.heap.size 3 (ints [5, 5]) := fun w => Has.made _ _ _
    go_wp2_with (first | (refine load_has rfl _ rfl _ rfl (hp.cells.alloc _) ?_) | (refine lit1 rfl _ rfl rfl ?_; intro wl hbl hvl))

    rw [show (wn.alloc (.cells #[.int .i64 5, .int .i64 5] 3)).heap.size = wn.heap.size + 1 from by simp] at hvl
    have hL := accs_one hvl (((hp.alloc _).below hbl).ints) ⟨Nat.le_refl _, by rw [HP.out.symm]; decide⟩
    have h5 := has_below (H5 wn) hbl
    have hbn : Below wn.heap.size wn wl := ((Below.refl _ _).alloc (Nat.le_refl _) _).trans (hbl.mono (by simp))
    clear H5 hvl hbl
    replace hA := has_below hA hbn
    replace hI := hI.below hbn
    replace hb := has_below hb hbn
    replace hp := hp.below hbn
    replace hB0 := hB0.trans (hbn.mono hB0.size)
    clear hbn
    refine (join_form _ 2 2 [5, 5] _ 1 1 [P] _ (ints_of_has h5 rfl) (by unfold maxLen; omega) hL (by omega) (by rw [show boundsB [5, 5] = false by decide]; rfl)).mono ?_
    clear hL h5
    rintro e w3 ⟨rfl, hb2⟩
    replace hA := has_below hA hb2
    replace hI := hI.below hb2
    replace hb := has_below hb hb2
    replace hp := hp.below hb2
    replace hB0 := hB0.trans (hb2.mono hB0.size)
    clear hb2
    go_upto_region 49 with (first | (refine store_new rfl _ _ rfl rfl rfl rfl ?_; intro wn hbn hvn))
    replace hA := has_below hA hbn
    replace hI := hI.below hbn
    replace hb := has_below hb hbn
    replace hp := hp.below hbn
    replace hB0 := hB0.trans (hbn.mono hB0.size)
    clear hbn
    clear hvn hp HP
    go_wp2_with fail
    refine (mkItem_any _ _ _ _ _).mono ?_
    rintro e w4 ⟨rfl, hb2⟩
    replace hA := has_below hA hb2
    replace hI := hI.below hb2
    replace hb := has_below hb hb2
    replace hB0 := hB0.trans (hb2.mono hB0.size)
    clear hb2
    go_wp2_with fail
    refine (one_bad ⟨-(1 + d), 0, 1, 0⟩ _ 2 2 [0, 5] _ (ints_of_has hb rfl) (by unfold maxLen; omega) (by rw [show itemB ⟨-(1 + d), 0, 1, 0⟩ = false from itemB_false (by simp only; omega)]; rfl)).mono ?_
    rintro e w5 ⟨rfl, hb2⟩
    replace hA := has_below hA hb2
    replace hI := hI.below hb2
    replace hb := has_below hb hb2
    replace hB0 := hB0.trans (hb2.mono hB0.size)
    clear hb2
    go_upto_region 50 with (first | (refine store_new rfl _ _ rfl rfl rfl rfl ?_; intro wn hbn hvn) | (refine lit2 rfl _ _ rfl rfl rfl ?_; intro wn hbn hvn) | (refine lit1 rfl _ rfl rfl ?_; intro wn hbn hvn))
    replace hA := has_below hA hbn
    replace hI := hI.below hbn
    replace hb := has_below hb hbn
    replace hB0 := hB0.trans (hbn.mono hB0.size)
    clear hbn
    clear hvn
    go_wp2_with fail
    refine (mkItem_any _ _ _ _ _).mono ?_
    rintro e w4 ⟨rfl, hb2⟩
    replace hA := has_below hA hb2
    replace hI := hI.below hb2
    replace hb := has_below hb hb2
    replace hB0 := hB0.trans (hb2.mono hB0.size)
    clear hb2
    go_wp2_with fail
    refine (one_bad ⟨0, 0, 1 - (1 + d), 0⟩ _ 2 2 [0, 5] _ (ints_of_has hb rfl) (by unfold maxLen; omega) (by rw [show itemB ⟨0, 0, 1 - (1 + d), 0⟩ = false from itemB_false (by simp only; omega)]; rfl)).mono ?_
    rintro e w5 ⟨rfl, hb2⟩
    replace hA := has_below hA hb2
    replace hI := hI.below hb2
    replace hb := has_below hb hb2
    replace hB0 := hB0.trans (hb2.mono hB0.size)
    clear hb2
    go_upto_region 51 with (first | (refine store_new rfl _ _ rfl rfl rfl rfl ?_; intro wn hbn hvn) | (refine lit2 rfl _ _ rfl rfl rfl ?_; intro wn hbn hvn) | (refine lit1 rfl _ rfl rfl ?_; intro wn hbn hvn))
    replace hA := has_below hA hbn
    replace hI := hI.below hbn
    replace hb := has_below hb hbn
    replace hB0 := hB0.trans (hbn.mono hB0.size)
    clear hbn
    clear hvn
    go_wp2_with (refine load_has rfl _ rfl _ rfl hA ?_)
    refine (may_any a' B kk c _ 2 2 [0, 5] _ hI (ints_of_has hb rfl) (by omega) (by unfold maxLen; omega)).mono ?_
    rintro e w6 ⟨rfl, hb2⟩
    rw [show accB a' [0, 5] = false by unfold accB; rw [show boundsB [0, 5] = true by decide]; exact hf]
    replace hA := has_below hA hb2
    replace hI := hI.below hb2
    replace hb := has_below hb hb2
    replace hB0 := hB0.trans (hb2.mono hB0.size)
    clear hb2
    go_wp2_with (go_at_call 22; refine (num_any _ _).mono ?_; rintro e w' ⟨rfl, rfl⟩)
    go_ret
    exact ⟨rfl, hB0⟩

end Go.Proofs.Ytdnlkimibdojmaa
