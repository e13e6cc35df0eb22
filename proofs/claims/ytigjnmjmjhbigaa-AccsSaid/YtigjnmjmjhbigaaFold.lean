/-
  Walk: the reference's Fold: what is known of some items.
-/
import Derived.Test.YtigjnmjmjhbigaaTwo
import Derived.Test.YtigjnmjmjhbigaaROne
import Derived.Test.YtigjnmjmjhbigaaOneP
namespace Go.Proofs.Ytigjnmjmjhbigaa
open Go.RowKit

/-- The slice value '.slice A n _' reads as the items xs. -/
def Items (w : World) (A : Option Addr) (n : Nat) (xs : List It) : Prop :=
  xs.length = n ∧ (0 < n → ∃ b o : Nat, A = some ⟨b, o, none⟩ ∧ ∀ i, i < n → w.rangeAt b (o + i * 4) (itemL (nthI xs i)))
theorem rangeAt_keep {w w' : World} {b o : Nat} {l : List Value} (h : w.rangeAt b o l) (hl : 0 < l.length) (hk : ∀ p : Addr, p.block < w.heap.size → w'.cell? p = w.cell? p) : w'.rangeAt b o l := fun j v hv => by
  have h0 := h 0 (l[0]) (by simp)
  have hb : b < w.heap.size := block_lt_of_cell h0
  exact (hk ⟨b, o + j, none⟩ hb).trans (h j v hv)
theorem Items.keep {w w' : World} {A : Option Addr} {n : Nat} {xs : List It} (h : Items w A n xs) (hk : ∀ p : Addr, p.block < w.heap.size → w'.cell? p = w.cell? p) : Items w' A n xs :=
  ⟨h.1, fun hn => by
    obtain ⟨b, o, e, hi⟩ := h.2 hn
    exact ⟨b, o, e, fun i hlt => rangeAt_keep (hi i hlt) (by simp [itemL]) hk⟩⟩
theorem Items.below {w w' : World} {A : Option Addr} {n : Nat} {xs : List It} (h : Items w A n xs) (hb : Below w.heap.size w w') : Items w' A n xs := h.keep fun _ hp => hb.cell hp
theorem Items.at_ {w : World} {A : Option Addr} {n : Nat} {xs : List It} (h : Items w A n xs) (hn : 0 < n) : ∃ b o : Nat, A = some ⟨b, o, none⟩ ∧ ∀ i, i < n → w.rangeAt b (o + i * 4) (itemL (nthI xs i)) := h.2 hn
theorem Items.nil (w : World) (A : Option Addr) : Items w A 0 [] := ⟨rfl, fun h => absurd h (by omega)⟩
/-- The load of a whole item out of a row. -/
theorem load_item {ops : Array Oper} {rest : List Oper} {op : Oper} {a : Act} {w : World} {Q : Exit → Act → World → Prop} (hgd : op.guard = none) (x : Operand) (ho : op.op = .load 23 x)
    (b o : Nat) (hx : a.eval x = .pointer (some ⟨b, o, none⟩)) {y : It} (hc : w.rangeAt b o (itemL y))
    (h : wpList Try.prog ops Q rest (a.put op.dst (.agg #[.int .i64 y.s, .int .i64 y.t, .int .i64 y.q, .int .i64 y.v])) w) : wpList Try.prog ops Q (op :: rest) a w :=
  wpList_load_mid hgd 23 x ho b o hx _ _ hc Try.underlying23 rfl Try.sizeItem (by simpa [itemL] using h)

/-- What stands at the head of each round. -/
structure FoldS (w : World) (O : Ac) (D : Option Addr) (k c : Nat) (wr : World) : Prop where
  res : Has wr w.heap.size 29 (accC zeroAc none 0 0)
  out : Has wr (w.heap.size + 2) 29 (accC O D k c)
  hist : AccIn wr w.heap.size O D k c
  far : ∀ ad, D = some ad → ad.block ≠ w.heap.size ∧ ad.block ≠ w.heap.size + 2
  keep : Below w.heap.size w wr
theorem FoldS.below {w : World} {O : Ac} {D : Option Addr} {k c : Nat} {wr wy : World} (h : FoldS w O D k c wr) (hb : Below wr.heap.size wr wy) : FoldS w O D k c wy :=
  ⟨has_below h.res hb, has_below h.out hb, h.hist.below hb, h.far, h.keep.trans (hb.mono h.keep.size)⟩
theorem FoldS.turn {w : World} {O O' : Ac} {D D' : Option Addr} {k c k' c' : Nat} {wr : World} (h : FoldS w O D k c wr) (hN : AccIn wr w.heap.size O' D' k' c') (hf : ∀ ad, D' = some ad → ad.block ≠ w.heap.size ∧ ad.block ≠ w.heap.size + 2) : FoldS w O' D' k' c' (wr.setRow (w.heap.size + 2) (accC O' D' k' c')) :=
  ⟨h.res.rowFar (by omega) _, h.out.row _, ⟨hN.hist.row (fun ad e => (hf ad e).2) _, hN.cap, hN.most, hN.new⟩, hf, below_row h.keep (by omega) _⟩

set_option maxRecDepth 100000 in
set_option maxHeartbeats 4000000 in
theorem fold_any (X : Option Addr) (n cx : Nat) (xs : List It) (B : Option Addr) (m d : Nat) (bs : List Int) (w : World) (hX : Items w X n xs) (hbs : Ints w B m bs) (hb : boundsB bs = true) (hx : ∀ i, i < n → itemB (nthI xs i) = true) (hn : n ≤ 8192) :
    Calls Try.prog 57 #[.slice X n cx, .slice B m d] w (FoldAcc (foldA bs xs) w) := by
  have HLX := Lib.hid hX.1
  have HLB := Lib.hid hbs.1
  have hm8 : m ≤ 8 := by have := (boundsB_true hb).1; rw [hbs.1] at this; exact this
  have HFT : Hid (∀ j, j ≤ n → Fit (m + 1) (foldTo bs xs j)) := fun j hj => by
    have := foldTo_fit bs xs (fun i hi => hx i (by rw [hX.1] at hi; exact hi)) (by rw [hX.1]; exact hn) (j := j) (by rw [hX.1]; exact hj)
    rw [hbs.1] at this; exact this
  have HN : Hid (∀ j, j ≤ n → (foldTo bs xs j).n = j) := fun j hj => foldTo_n bs xs (by rw [hX.1]; exact hj)
  have HS : Hid (∀ j, j < n → foldTo bs xs (j + 1) = addAc (foldTo bs xs j) (oneAc (nthI xs j) bs)) := fun j hj => foldTo_succ bs xs (by rw [hX.1]; exact hj)
  have HS1 : Hid (0 < n → foldTo bs xs 1 = oneAc (nthI xs 0) bs) := fun h => foldTo_one bs xs (by rw [hX.1]; exact h)
  have HALL : Hid (foldTo bs xs n = foldA bs xs) := foldTo_all bs xs (by rw [hX.1]; exact Nat.le_refl _)
  have HX := Lib.hid hX; clear hX
  have HBS := Lib.hid hbs; clear hbs
  have HIT := Lib.hid hx; clear hx
  obtain ⟨i0, hi0, hz0, hs0, hy0⟩ := info_parts Try.infoInt
  have hmk := fun W => make_ints (P := Try.prog) 25 3 i0 Try.underlying25 hi0 hz0 hs0 hy0 m (by omega) W
  clear hi0 hz0 hs0 hy0
  go_enter Try.func57, Try.ntmps57
  go_wp2_with (refine store_made rfl _ _ rfl (ac := startJ bs) (A := some ⟨w.heap.size + 1, 0, none⟩) (k := m + 1) (c := m + 1) rfl rfl rfl ?_)
  clear hmk
  have HI : Hid (FoldS w (foldTo bs xs 0) (some ⟨w.heap.size + 1, 0, none⟩) (m + 1) (m + 1) (((w.alloc (.cells (accC zeroAc none 0 0) 29)).alloc (.cells (zeros (m + 1)) 3)).alloc (.cells (accC (startJ bs) (some ⟨w.heap.size + 1, 0, none⟩) (m + 1) (m + 1)) 29))) := by
    have e1 : ∀ x, (w.alloc x).heap.size = w.heap.size + 1 := fun x => by simp
    have e2 : ∀ x y, ((w.alloc x).alloc y).heap.size = w.heap.size + 2 := fun x y => by simp
    have hz : Has (((w.alloc (.cells (accC zeroAc none 0 0) 29)).alloc (.cells (zeros (m + 1)) 3)).alloc (.cells (accC (startJ bs) (some ⟨w.heap.size + 1, 0, none⟩) (m + 1) (m + 1)) 29)) (w.heap.size + 1) 3 (ints (startJ bs).h) := by
      have h := (Has.made (w.alloc (.cells (accC zeroAc none 0 0) 29)) 3 (zeros (m + 1))).alloc (.cells (accC (startJ bs) (some ⟨w.heap.size + 1, 0, none⟩) (m + 1) (m + 1)) 29)
      rw [e1, zeros_ints] at h
      have e : (startJ bs).h = List.replicate (m + 1) 0 := by simp only [startJ]; rw [HLB.out]
      rw [e, zeros_ints]
      exact h
    refine ⟨((Has.made w _ _).alloc _).alloc _, ?_, ⟨ints_of_has hz (by rw [foldTo_zero, start_hlen, HLB.out]), Nat.le_refl _, by unfold maxLen; omega, fun ad e => by injection e with e; subst e; simp⟩, fun ad e => by injection e with e; subst e; simp, below_alloc (below_alloc (below_alloc (Below.refl _ _) (Nat.le_refl _) _) (Nat.le_refl _) _) (Nat.le_refl _) _⟩
    have h := Has.made ((w.alloc (.cells (accC zeroAc none 0 0) 29)).alloc (.cells (zeros (m + 1)) 3)) 29 (accC (startJ bs) (some ⟨w.heap.size + 1, 0, none⟩) (m + 1) (m + 1))
    rw [e2] at h
    exact h
  go_loopw [6] (fun i wr => ∃ (j : Nat) (D : Option Addr) (k c : Nat), j ≤ n ∧ i = .int .i64 j ∧ Hid (FoldS w (foldTo bs xs j) D k c wr)) (fun i _ => n - (intOf i).toNat)
  case atStart => exact ⟨0, _, _, _, Nat.zero_le _, rfl, HI⟩
  case round =>
    clear HI
    obtain ⟨j, D, k, c, hj, rfl, HT⟩ := hrel
    by_cases hlt : j < n
    · obtain ⟨b, o, rfl, hi⟩ := HX.out.at_ (by omega)
      have HXJ : Hid (wr.rangeAt b (o + j * 4) (itemL (nthI xs j))) := rangeAt_keep (hi j hlt) (by simp [itemL]) fun _ hp => HT.out.keep.cell hp
      clear hi
      have hixj := HIT.out j hlt
      have hsj := HS.out j hlt
      have hnj := HN.out j hj
      have hfj := HFT.out j hj
      have HZF := one_Fit (bs := bs) hixj
      rw [HLB.out] at HZF
      have HZN : (oneAc (nthI xs j) bs).n = 1 := rfl
      have hlt2 : (j : Int) < (n : Int) := by omega
      have HSJ := Lib.hid hsj
      have HNJ := Lib.hid hnj
      have HFJ := Lib.hid hfj
      have HZFH := Lib.hid HZF
      have HZNH := Lib.hid HZN
      clear hsj hnj hfj HZF HZN
      go_wp2_with (refine load_item rfl _ rfl b (o + j * 4) rfl HXJ.out ?_)
      refine (rone_ok (nthI xs j) B m d bs _ (HBS.out.below HT.out.keep) hixj hb).mono ?_
      rintro e w2 ⟨y, hy, rfl, hh, hb2⟩
      have HT2 := Lib.hid (HT.out.below hb2)
      have hyN : w.heap.size + 2 < y := by have := HT.out.out.lt; omega
      clear hb2 HT HXJ hy
      go_upto_region 6 with (refine store_new rfl _ _ rfl rfl rfl rfl ?_; intro wn hbn hvn)
      have hgN : w.heap.size + 2 < w2.heap.size := HT2.out.out.lt
      have HT3 := Lib.hid (HT2.out.below hbn)
      have hh3 := has_below hh hbn
      clear hbn HT2 hh
      generalize w2.heap.size = g at hvn hgN ⊢
      have VZ : V wn g y (oneAc (nthI xs j) bs) := ⟨hvn, hh3⟩
      clear hvn hh3
      have c0 : wn.cell? ⟨w.heap.size + 2, 0, none⟩ = some (.int .i64 (j : Int)) := by rw [← HNJ.out]; exact HT3.out.out.cell 0
      have hyF : ∀ ad : Addr, some (⟨y, 0, none⟩ : Addr) = some ad → ad.block ≠ w.heap.size ∧ ad.block ≠ w.heap.size + 2 := fun ad e => by injection e with e; subst e; exact ⟨show y ≠ _ by omega, show y ≠ _ by omega⟩
      by_cases hj0 : j = 0
      · subst hj0
        have HT5 : Hid (FoldS w (foldTo bs xs 1) (some ⟨y, 0, none⟩) (oneAc (nthI xs 0) bs).h.length (oneAc (nthI xs 0) bs).h.length (wn.setRow (w.heap.size + 2) (accC (oneAc (nthI xs 0) bs) (some ⟨y, 0, none⟩) (oneAc (nthI xs 0) bs).h.length (oneAc (nthI xs 0) bs).h.length))) := by
          rw [Hid, HS1.out hlt]
          exact HT3.out.turn ⟨VZ.ints, Nat.le_refl _, by rw [HZFH.out.len]; unfold maxLen; omega, fun ad e => by injection e with e; subst e; exact (show w.heap.size ≤ y by omega)⟩ hyF
        go_wp2_with (first | (refine load_has rfl _ rfl g rfl VZ.cells ?_) | (refine store_has rfl _ _ rfl (w.heap.size + 2) rfl rfl HT3.out.out rfl ?_))
        go_roundw
        case rel => exact ⟨1, _, _, _, by omega, rfl, HT5⟩
        case measure => simp [intOf]; omega
      · have hj1 : ((j : Int) == 0) = false := by simp; omega
        have hjn0 : ¬ (foldTo bs xs j).n = 0 := by rw [HNJ.out]; omega
        have hj5 : (foldTo bs xs j).n ≤ 8192 := by rw [HNJ.out]; omega
        have VC : Has wn g 29 (accC (oneAc (nthI xs j) bs) (some ⟨y, 0, none⟩) (m + 1) (m + 1)) := by have := VZ.cells; rw [HZFH.out.len] at this; exact this
        have VI : Ints wn (some ⟨y, 0, none⟩) (m + 1) (oneAc (nthI xs j) bs).h := by have := VZ.ints; rw [HZFH.out.len] at this; exact this
        obtain rfl : k = m + 1 := by have h1 := HT3.out.hist.hist.1; rw [HFJ.out.len] at h1; exact h1.symm
        go_wp2_with (first | (refine load_has rfl _ rfl (w.heap.size + 2) rfl HT3.out.out ?_) | (refine load_has rfl _ rfl g rfl VC ?_))
        have hf := HFJ.out
        have hz := HZFH.out
        have hz1 := HZNH.out
        refine (two_any (foldTo bs xs j) (oneAc (nthI xs j) bs) D (some ⟨y, 0, none⟩) (m + 1) c (m + 1) wn HT3.out.hist.hist VI (by omega) hjn0 ⟨hf.n0, hf.n1⟩ ⟨hz.n0, hz.n1⟩
          ⟨by have := hf.s0; have := hf.n1; omega, by have := hf.s1; have := hf.n1; omega⟩ ⟨by have := hz.s0; have := hz.n1; omega, by have := hz.s1; have := hz.n1; omega⟩
          (fun i hi => ⟨hf.low i hi, by have := hf.top i hi; omega, hz.low i hi, by have := hz.top i hi; omega⟩)).mono ?_
        rintro e w5 ⟨A5, k5, c5, rfl, h5, hb5⟩
        rw [← HSJ.out] at h5 ⊢
        have HT5 := Lib.hid (HT3.out.below hb5)
        have hg5 : w.heap.size + 2 < wn.heap.size := HT3.out.out.lt
        have HT6 : Hid (FoldS w (foldTo bs xs (j + 1)) A5 k5 c5 (w5.setRow (w.heap.size + 2) (accC (foldTo bs xs (j + 1)) A5 k5 c5))) := HT5.out.turn (h5.mono (by omega)) (fun ad e => by have := h5.new ad e; omega)
        clear hf hz hz1 hb5 h5 HT3 VC VI VZ c0
        go_wp2_with (refine store_has rfl _ _ rfl (w.heap.size + 2) rfl rfl HT5.out.out rfl ?_)
        go_roundw
        case rel => exact ⟨j + 1, _, _, _, by omega, by go_num, HT6⟩
        case measure => simp [intOf]; omega
    · have hjn : j = n := by omega
      subst hjn
      have HTR := HT
      rw [HALL.out] at HTR
      go_wp2_with (first | (refine load_has rfl _ rfl (w.heap.size + 2) rfl HTR.out.out ?_) | (refine store_has rfl _ _ rfl w.heap.size rfl rfl HTR.out.res rfl ?_))
      refine bodyPost_ret (ret_row1 rfl _ _ _ 29 (accC (foldA bs xs) D k c) _ rfl (HTR.out.res.row _) Try.underlying29 rfl (by exact Try.sizeAcc)) rfl ?_
      exact ⟨D, k, c, rfl, ⟨HTR.out.hist.hist.row (fun ad e => (HTR.out.far ad e).1) _, HTR.out.hist.cap, HTR.out.hist.most, HTR.out.hist.new⟩, below_row HTR.out.keep (Nat.le_refl _) _⟩

end Go.Proofs.Ytigjnmjmjhbigaa
