/-
  Walk: the second awake: what low tells of a few fixed items.
-/
import Derived.Test.YtigjnmjmjhbigaaLow2
import Derived.Deep.DeepCutAuto
namespace Go.Proofs.Ytigjnmjmjhbigaa
open Go.RowKit

def lowX : List It := [⟨1, 1, 1, 4⟩, ⟨1, 2, 2, 9⟩, ⟨1, 3, 3, -2⟩]
def lowA : Ac := ⟨3, 11, -2, 9, ⟨1, 1, 1, 4⟩, ⟨1, 3, 3, -2⟩, [3]⟩
def lowB : Ac := ⟨3, 11, -2, 9, ⟨1, 1, 1, 4⟩, ⟨1, 3, 3, -2⟩, [1, 1, 1]⟩
theorem lowA_is : foldA [] lowX = lowA := by rfl
theorem lowB_is : foldA [0, 5] lowX = lowB := by rfl
theorem lowX_ok : ∀ i, i < 3 → itemB (nthI lowX i) = true := by decide
theorem has_alloc_size {w : World} {o : Obj} {t : TypeId} {cs : Array Value} {g : Nat} (h : Has w g t cs) : Has (w.alloc o) g t cs := h.alloc o

set_option maxRecDepth 100000 in
set_option maxHeartbeats 20000000 in
theorem awake2_any (w : World) : Calls Try.prog 26 #[] w fun e w' => e = .returned (.bool true) ∧ Below w.heap.size w w' := by
  have hB0 : Below w.heap.size w w := Below.refl _ _
  go_enter Try.func26, Try.ntmps26

  go_wp2_with fail
  refine (mkItem2_any _ _ _ _ _).mono ?_
  rintro e wa ⟨rfl, hb1⟩
  replace hB0 := hB0.trans (hb1.mono hB0.size)
  clear hb1
  go_wp2_with fail
  refine (mkItem2_any _ _ _ _ _).mono ?_
  rintro e wa ⟨rfl, hb1⟩
  replace hB0 := hB0.trans (hb1.mono hB0.size)
  clear hb1
  go_wp2_with fail
  refine (mkItem2_any _ _ _ _ _).mono ?_
  rintro e wa ⟨rfl, hb1⟩
  replace hB0 := hB0.trans (hb1.mono hB0.size)
  clear hb1
  go_wp2_with fail
  have hX := items_has (xs := lowX) (Has.made wa 23 #[.int .i64 1, .int .i64 1, .int .i64 1, .int .i64 4, .int .i64 1, .int .i64 2, .int .i64 2, .int .i64 9, .int .i64 1, .int .i64 3, .int .i64 3, .int .i64 (-2)]) rfl
  have hbn : Below wa.heap.size wa (wa.alloc (.cells #[.int .i64 1, .int .i64 1, .int .i64 1, .int .i64 4, .int .i64 1, .int .i64 2, .int .i64 2, .int .i64 9, .int .i64 1, .int .i64 3, .int .i64 3, .int .i64 (-2)] 23)) := (Below.refl _ _).alloc (Nat.le_refl _) _
  replace hB0 := hB0.trans (hbn.mono hB0.size)
  clear hbn
  refine (lfold_any _ 3 3 lowX none 0 0 [] _ hX Ints.nil (by decide) lowX_ok (by omega)).mono ?_
  rw [lowA_is]
  rintro e wf ⟨AA, nA, cA, rfl, hin, hb2⟩
  clear hX
  replace hB0 := hB0.trans (hb2.mono hB0.size)
  clear hb2
  have hIA := hin.hist
  have hCA := hin.cap
  have hMA := hin.most
  clear hin
  go_upto_region 2 with (refine store_new rfl _ _ rfl rfl rfl rfl ?_; intro wn hbn hvn)
  replace hIA := hIA.below hbn
  replace hB0 := hB0.trans (hbn.mono hB0.size)
  clear hbn
  generalize wf.heap.size = gA at hvn ⊢
  have VA : Vg wn gA lowA AA nA cA := ⟨hvn, hIA, hCA, hMA⟩
  clear hvn hIA hCA hMA
  go_wp2_with fail
  refine (mkItem2_any _ _ _ _ _).mono ?_
  rintro e wa ⟨rfl, hb1⟩
  replace VA := VA.below hb1
  replace hB0 := hB0.trans (hb1.mono hB0.size)
  clear hb1
  go_wp2_with fail
  refine (mkItem2_any _ _ _ _ _).mono ?_
  rintro e wa ⟨rfl, hb1⟩
  replace VA := VA.below hb1
  replace hB0 := hB0.trans (hb1.mono hB0.size)
  clear hb1
  go_wp2_with fail
  refine (mkItem2_any _ _ _ _ _).mono ?_
  rintro e wa ⟨rfl, hb1⟩
  replace VA := VA.below hb1
  replace hB0 := hB0.trans (hb1.mono hB0.size)
  clear hb1
  go_wp2_with fail
  have hX := items_has (xs := lowX) ((Has.made wa 23 #[.int .i64 1, .int .i64 1, .int .i64 1, .int .i64 4, .int .i64 1, .int .i64 2, .int .i64 2, .int .i64 9, .int .i64 1, .int .i64 3, .int .i64 3, .int .i64 (-2)]).alloc (.cells #[.int .i64 0, .int .i64 5] 3)) rfl
  have h05 : Has ((wa.alloc (.cells #[.int .i64 1, .int .i64 1, .int .i64 1, .int .i64 4, .int .i64 1, .int .i64 2, .int .i64 2, .int .i64 9, .int .i64 1, .int .i64 3, .int .i64 3, .int .i64 (-2)] 23)).alloc (.cells #[.int .i64 0, .int .i64 5] 3)) (wa.heap.size + 1) 3 (ints [0, 5]) := heap_alloc2_new wa _ _
  have hbn : Below wa.heap.size wa ((wa.alloc (.cells #[.int .i64 1, .int .i64 1, .int .i64 1, .int .i64 4, .int .i64 1, .int .i64 2, .int .i64 2, .int .i64 9, .int .i64 1, .int .i64 3, .int .i64 3, .int .i64 (-2)] 23)).alloc (.cells #[.int .i64 0, .int .i64 5] 3)) := below_alloc (below_alloc (Below.refl _ _) (Nat.le_refl _) _) (Nat.le_refl _) _
  replace VA := VA.below hbn
  replace hB0 := hB0.trans (hbn.mono hB0.size)
  clear hbn
  refine (lfold_any _ 3 3 lowX _ 2 2 [0, 5] _ hX (ints_of_has h05 rfl) (by decide) lowX_ok (by omega)).mono ?_
  rw [lowB_is]
  rintro e wf ⟨AB, nB, cB, rfl, hin, hb2⟩
  clear hX h05
  replace VA := VA.below hb2
  replace hB0 := hB0.trans (hb2.mono hB0.size)
  clear hb2
  have hIB := hin.hist
  have hCB := hin.cap
  have hMB := hin.most
  clear hin
  go_upto_region 3 with (refine store_new rfl _ _ rfl rfl rfl rfl ?_; intro wn hbn hvn)
  replace VA := VA.below hbn
  replace hIB := hIB.below hbn
  replace hB0 := hB0.trans (hbn.mono hB0.size)
  clear hbn
  generalize wf.heap.size = gB at hvn ⊢
  have VB : Vg wn gB lowB AB nB cB := ⟨hvn, hIB, hCB, hMB⟩
  clear hvn hIB hCB hMB
  go_wp2_with (refine load_has rfl _ rfl _ rfl VA.cells ?_)
  have hC := value_sum ⟨0, 1, 0, 0, [], 0⟩ none 0 0 lowA AA nA cA _ Ints.nil (Nat.zero_le _) VA.hist (by have := VA.cap; have := VA.most; omega) (by decide) rfl
  rw [show (if wi lowA.s (-1125899906842624) 1125899906842624 then lowA.s else 0) = 11 by decide, show (!wi lowA.s (-1125899906842624) 1125899906842624) = false by decide] at hC
  refine hC.mono ?_
  clear hC
  rintro e wf ⟨AX, nX, cX, rfl, hIX, hcap, hmost, hnew, hb2⟩
  replace VA := VA.below hb2
  replace VB := VB.below hb2
  replace hB0 := hB0.trans (hb2.mono hB0.size)
  clear hb2
  clear hnew hcap hmost
  go_upto_region 4 with (refine store_newO rfl _ _ rfl rfl rfl rfl ?_; intro wn hbn hvn)
  replace VA := VA.below hbn
  replace VB := VB.below hbn
  replace hIX := hIX.below hbn
  replace hB0 := hB0.trans (hbn.mono hB0.size)
  clear hbn
  generalize wf.heap.size = gX at hvn ⊢
  have VOX : Vo wn gX 11 false [] AX nX cX := ⟨hvn, hIX⟩
  clear hvn hIX
  go_wp2_with (refine load_has rfl _ rfl _ rfl (VB.cells.alloc _) ?_)
  have h05 : Has (wn.alloc (.cells #[.int .i64 0, .int .i64 5] 3)) wn.heap.size 3 (ints [0, 5]) := Has.made _ _ _
  have hbn : Below wn.heap.size wn (wn.alloc (.cells #[.int .i64 0, .int .i64 5] 3)) := (Below.refl _ _).alloc (Nat.le_refl _) _
  replace VA := VA.below hbn
  replace VB := VB.below hbn
  replace VOX := VOX.below hbn
  replace hB0 := hB0.trans (hbn.mono hB0.size)
  clear hbn
  have hC := value_rank ⟨0, 7, 0, 0, [0, 5], 500⟩ _ 2 2 lowB AB nB cB _ (ints_of_has h05 rfl) (by unfold maxLen; omega) VB.hist (by have := VB.cap; have := VB.most; omega) (by decide) rfl
  rw [show rankV [0, 5] lowB.h (place 500 lowB.n) lowB.mx = 5 by decide] at hC
  refine hC.mono ?_
  clear hC h05
  rintro e wf ⟨AY, nY, cY, rfl, hIY, hcap, hmost, hnew, hb2⟩
  replace VA := VA.below hb2
  replace VB := VB.below hb2
  replace VOX := VOX.below hb2
  replace hB0 := hB0.trans (hb2.mono hB0.size)
  clear hb2
  clear hnew hcap hmost
  go_upto_region 5 with (refine store_newO rfl _ _ rfl rfl rfl rfl ?_; intro wn hbn hvn)
  replace VA := VA.below hbn
  replace VB := VB.below hbn
  replace VOX := VOX.below hbn
  replace hIY := hIY.below hbn
  replace hB0 := hB0.trans (hbn.mono hB0.size)
  clear hbn
  generalize wf.heap.size = gY at hvn ⊢
  have VOY : Vo wn gY 5 false [] AY nY cY := ⟨hvn, hIY⟩
  clear hvn hIY
  go_wp2_with (refine load_has rfl _ rfl _ rfl (VB.cells.alloc _) ?_)
  have h05 : Has (wn.alloc (.cells #[.int .i64 0, .int .i64 5] 3)) wn.heap.size 3 (ints [0, 5]) := Has.made _ _ _
  have hbn : Below wn.heap.size wn (wn.alloc (.cells #[.int .i64 0, .int .i64 5] 3)) := (Below.refl _ _).alloc (Nat.le_refl _) _
  replace VA := VA.below hbn
  replace VB := VB.below hbn
  replace VOX := VOX.below hbn
  replace VOY := VOY.below hbn
  replace hB0 := hB0.trans (hbn.mono hB0.size)
  clear hbn
  have hC := value_rank ⟨0, 7, 0, 0, [0, 5], 1000⟩ _ 2 2 lowB AB nB cB _ (ints_of_has h05 rfl) (by unfold maxLen; omega) VB.hist (by have := VB.cap; have := VB.most; omega) (by decide) rfl
  rw [show rankV [0, 5] lowB.h (place 1000 lowB.n) lowB.mx = 9 by decide] at hC
  refine hC.mono ?_
  clear hC h05
  rintro e wf ⟨AZ, nZ, cZ, rfl, hIZ, hcap, hmost, hnew, hb2⟩
  replace VA := VA.below hb2
  replace VB := VB.below hb2
  replace VOX := VOX.below hb2
  replace VOY := VOY.below hb2
  replace hB0 := hB0.trans (hb2.mono hB0.size)
  clear hb2
  clear hnew hcap hmost
  go_upto_region 6 with (refine store_newO rfl _ _ rfl rfl rfl rfl ?_; intro wn hbn hvn)
  replace VA := VA.below hbn
  replace VB := VB.below hbn
  replace VOX := VOX.below hbn
  replace VOY := VOY.below hbn
  replace hIZ := hIZ.below hbn
  replace hB0 := hB0.trans (hbn.mono hB0.size)
  clear hbn
  generalize wf.heap.size = gZ at hvn ⊢
  have VOZ : Vo wn gZ 9 false [] AZ nZ cZ := ⟨hvn, hIZ⟩
  clear hvn hIZ
  go_wp2_with fail
  refine (lfold_any none 0 0 [] none 0 0 [] _ (Items.nil _ _) Ints.nil (by decide) (fun i hi => absurd hi (Nat.not_lt_zero _)) (by omega)).mono ?_
  rintro e wf ⟨AN, nN, cN, rfl, hin, hb2⟩
  replace VA := VA.below hb2
  replace VB := VB.below hb2
  replace VOX := VOX.below hb2
  replace VOY := VOY.below hb2
  replace VOZ := VOZ.below hb2
  replace hB0 := hB0.trans (hb2.mono hB0.size)
  clear hb2
  go_wp2_with fail
  refine (value_bad ⟨0, 0, 0, 0, [], 0⟩ none 0 0 (foldA [] []) AN nN cN _ Ints.nil (Nat.zero_le _) hin.hist (by have := hin.cap; have := hin.most; omega) (by decide)).mono ?_
  rintro e wf ⟨rfl, hb2⟩
  clear hin
  replace VA := VA.below hb2
  replace VB := VB.below hb2
  replace VOX := VOX.below hb2
  replace VOY := VOY.below hb2
  replace VOZ := VOZ.below hb2
  replace hB0 := hB0.trans (hb2.mono hB0.size)
  clear hb2
  go_upto_region 7 with (refine store_newO rfl _ _ rfl (v := 0) (o := false) (A := none) (n := 0) (c := 0) rfl rfl rfl ?_; intro wn hbn hvn)
  replace VA := VA.below hbn
  replace VB := VB.below hbn
  replace VOX := VOX.below hbn
  replace VOY := VOY.below hbn
  replace VOZ := VOZ.below hbn
  replace hB0 := hB0.trans (hbn.mono hB0.size)
  clear hbn
  generalize wf.heap.size = gN at hvn ⊢
  clear hvn
  go_wp2_with (refine load_has rfl _ rfl _ rfl (VB.cells.alloc _) ?_)
  have h05 : Has (wn.alloc (.cells #[.int .i64 0, .int .i64 5] 3)) wn.heap.size 3 (ints [0, 5]) := Has.made _ _ _
  have hbn : Below wn.heap.size wn (wn.alloc (.cells #[.int .i64 0, .int .i64 5] 3)) := (Below.refl _ _).alloc (Nat.le_refl _) _
  replace VA := VA.below hbn
  replace VB := VB.below hbn
  replace VOX := VOX.below hbn
  replace VOY := VOY.below hbn
  replace VOZ := VOZ.below hbn
  replace hB0 := hB0.trans (hbn.mono hB0.size)
  clear hbn
  have hC := value_hist ⟨0, 6, 0, 0, [0, 5], 0⟩ _ 2 2 lowB AB nB cB _ (ints_of_has h05 rfl) (by unfold maxLen; omega) VB.hist (by have := VB.cap; have := VB.most; omega) (by decide) rfl
  refine hC.mono ?_
  clear hC h05
  rintro e wf ⟨AW, nW, cW, rfl, hIW, hcap, hmost, hnew, hb2⟩
  replace VA := VA.below hb2
  replace VB := VB.below hb2
  replace VOX := VOX.below hb2
  replace VOY := VOY.below hb2
  replace VOZ := VOZ.below hb2
  replace hB0 := hB0.trans (hb2.mono hB0.size)
  clear hb2
  clear hnew hcap hmost
  go_upto_region 8 with (refine store_newO rfl _ _ rfl rfl rfl rfl ?_; intro wn hbn hvn)
  replace VA := VA.below hbn
  replace VB := VB.below hbn
  replace VOX := VOX.below hbn
  replace VOY := VOY.below hbn
  replace VOZ := VOZ.below hbn
  replace hIW := hIW.below hbn
  replace hB0 := hB0.trans (hbn.mono hB0.size)
  clear hbn
  generalize wf.heap.size = gW at hvn ⊢
  have VOW : Vo wn gW 0 false [1, 1, 1] AW nW cW := ⟨hvn, hIW⟩
  clear hvn hIW
  go_upto_region 8 with fail
  have cX0 : wn.cell? ⟨gX, 0, none⟩ = some (.int .i64 11) := VOX.cells.cell 0
  have cY0 : wn.cell? ⟨gY, 0, none⟩ = some (.int .i64 5) := VOY.cells.cell 0
  have cZ0 : wn.cell? ⟨gZ, 0, none⟩ = some (.int .i64 9) := VOZ.cells.cell 0
  have cW2 : wn.cell? ⟨gW, 2, none⟩ = some (.slice AW nW cW) := VOW.cells.cell 2
  obtain rfl : nW = 3 := VOW.hist.1.symm
  have HW3 : ∀ o, Ints (wn.alloc o) AW 3 [1, 1, 1] := fun o => VOW.hist.below ((Below.refl _ _).alloc (Nat.le_refl _) _)
  have H111 : Ints (wn.alloc (.cells #[.int .i64 1, .int .i64 1, .int .i64 1] 3)) (some ⟨wn.heap.size, 0, none⟩) 3 [1, 1, 1] := ints_of_has (xs := [1, 1, 1]) (Has.made _ _ _) rfl
  go_wp2_with (first | (go_at_call 19; refine (num_any _ _).mono ?_; rintro e w' ⟨rfl, rfl⟩) | (go_at_call 51; refine (sameInts_true _ _ 3 _ _ [1, 1, 1] _ (HW3 _) H111 (by unfold maxLen; omega)).mono ?_; rintro e w' ⟨rfl, kk, rfl⟩))
  go_ret
  exact ⟨rfl, below_drewN (below_alloc hB0 (Nat.le_refl _) _) _⟩

end Go.Proofs.Ytigjnmjmjhbigaa
