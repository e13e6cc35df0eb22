/-
  Walk: ScanFalse: a frame whose body is no operation is none, byte by byte; what stands within it comes.
-/
import Derived.Test.YtoechlmahckchaaScFaP
import Derived.Test.YtoechlmahckchaaScFaR
import Derived.Test.YtoechlmahckchaaScAwake
import Derived.Test.YtoechlmahckchaaFMask
namespace Go.Proofs.Ytoechlmahckchaa
open Go.RowKit

/-- Two scanners, an operation in its box. -/
structure TwoS (w0 : World) (gb x y : Nat) (o : Po) (lx : List UInt8) (bx : Nat) (ly : List UInt8) (bY : Nat) (w : World) : Prop where
  keep : Below w0.heap.size w0 w
  sz : w0.heap.size ≤ w.heap.size
  ob : Has w gb 49 (opC o)
  sx : Has w x 58 (scC lx bx)
  sy : Has w y 58 (scC ly bY)
  ne : x ≠ y
  nx : w0.heap.size ≤ x
  ny : w0.heap.size ≤ y
section
variable {w0 : World} {gb x y : Nat} {o : Po} {lx : List UInt8} {bx : Nat} {ly : List UInt8} {bY : Nat} {w w' : World}
theorem TwoS.below (h : TwoS w0 gb x y o lx bx ly bY w) (hb : Below w.heap.size w w') : TwoS w0 gb x y o lx bx ly bY w' :=
  ⟨h.keep.trans (hb.mono h.sz), Nat.le_trans h.sz hb.size, h.ob.below hb h.ob.lt, h.sx.below hb h.sx.lt, h.sy.below hb h.sy.lt, h.ne, h.nx, h.ny⟩
theorem TwoS.obx (h : TwoS w0 gb x y o lx bx ly bY w) : (some x : Option Nat) ≠ some gb := fun e => by injection e with e; subst e; exact has_types h.sx h.ob (by decide)
theorem TwoS.oby (h : TwoS w0 gb x y o lx bx ly bY w) : gb ≠ y := fun e => by subst e; exact has_types h.ob h.sy (by decide)
theorem TwoS.wroteX (h : TwoS w0 gb x y o lx bx ly bY w) {l : List UInt8} {b : Nat} (hs : Has w' x 58 (scC l b)) (hg : w.grownBy w' (some x)) : TwoS w0 gb x y o l b ly bY w' :=
  ⟨below_wrote h.keep hg h.sz (fun k hk => by injection hk with hk; subst hk; exact h.nx), Nat.le_trans h.sz hg.size, h.ob.grow hg h.obx, hs, h.sy.grow hg (fun e => h.ne (by injection e)), h.ne, h.nx, h.ny⟩
theorem TwoS.grown (h : TwoS w0 gb x y o lx bx ly bY w) {v : Value} {os : List Po} (ho : OwnO w w0.heap.size v os) (hb : v.ownBlock ≠ some gb) (hg : w.grownBy w' v.ownBlock) : TwoS w0 gb x y o lx bx ly bY w' :=
  ⟨below_wrote h.keep hg h.sz (fun _ hk => (ho.lt hk).2), Nat.le_trans h.sz hg.size, h.ob.grow hg hb, h.sx.grow hg (ho.apart h.sx (by decide)), h.sy.grow hg (ho.apart h.sy (by decide)), h.ne, h.nx, h.ny⟩
end

set_option maxRecDepth 100000 in
set_option maxHeartbeats 4000000 in
theorem scanfalse_no (o : Po) (ah : Int) (F : ByteArray) (hF : txt (frameO o) = F) (hc : F.toList.isEmpty = true ∨ (F.toList.isEmpty = false ∧ 40 < F.size)) (w : World) :
    Calls Try.prog 7 #[.agg #[.int .i64 o.k, .int .i64 o.so, .int .i64 o.se, .int .i64 o.ti, .int .i64 o.va], .int .i64 ah] w fun e w' => e = .returned (.bool true) ∧ Below w.heap.size w w' := by
  have HF := Lib.hid (fun w : World => framed_any o w)
  rw [hF] at HF
  have HA := Lib.hid (fun w : World => sawake_any w)
  have h0 : Has (w.alloc (.cells (opC o) 49)) w.heap.size 49 (opC o) := Has.made w _ _
  clear hF
  have hd : F.toList.isEmpty = false → decide ((40 : Int) < (F.size : Int)) = true ∧ decide (40 < F.size) = true := fun e => by
    rcases hc with h | ⟨_, h⟩
    · rw [h] at e; cases e
    · exact ⟨by simp; omega, by simpa using h⟩
  go_enter Try.func7, Try.ntmps7
  go_wp2_with fail
  refine (HA.out _).mono ?_; rintro e w1 ⟨rfl, b1⟩
  have o1 := h0.below b1 h0.lt
  have k1 : Below w.heap.size w w1 := ((Below.refl _ _).alloc (Nat.le_refl _) _).trans (b1.mono (by simp))
  have s1 := k1.size
  clear h0 b1
  go_wp2_with fail
  refine (new_any _).mono ?_; rintro e w2 ⟨rfl, x2, b2⟩
  have o2 := o1.below b2 o1.lt
  have k2 := k1.trans (b2.mono s1)
  have s2 := k2.size
  clear o1 k1 s1 b2
  go_wp2_with fail
  refine (new_any _).mono ?_; rintro e w3 ⟨rfl, y3, b3⟩
  have o3 := o2.below b3 o2.lt
  have k3 := k2.trans (b3.mono s2)
  have s3 := k3.size
  clear o2 k2 s2 b3 x2 y3
  go_wp2_with (refine load_op rfl _ rfl _ rfl o3 ?_)
  refine (HF.out _).mono ?_; rintro e w4 ⟨rfl, b4⟩
  have k4 := k3.trans (b4.mono s3)
  clear o3 k3 s3 b4 HF HA
  rcases hc with hc | ⟨hc, _⟩
  · clear hd
    go_wp2_with fail
    go_ret
    exact ⟨rfl, k4⟩
  · obtain ⟨hd1, hd2⟩ := hd hc
    clear hd
    go_wp2_with fail
    go_ret
    exact ⟨rfl, k4⟩

theorem zeros_step (j : Nat) : txt (99 :: List.replicate j 0) ++ (⟨#[0]⟩ : ByteArray) = txt (99 :: List.replicate (j + 1) 0) := by
  rw [txt_cat]
  show txt ((99 :: List.replicate j 0) ++ [0]) = _
  rw [List.cons_append, ← List.replicate_succ']
set_option maxRecDepth 100000 in
set_option maxHeartbeats 4000000 in
theorem scanfalse_ok (o : Po) (ah : Int) (F : ByteArray) (hM : MayP o) (hF : txt (frameO o) = F) (hl : (frameO o).length ≤ 40) (w : World) :
    Calls Try.prog 7 #[.agg #[.int .i64 o.k, .int .i64 o.so, .int .i64 o.se, .int .i64 o.ti, .int .i64 o.va], .int .i64 ah] w fun e w' => e = .returned (.bool true) ∧ Below w.heap.size w w' := by
  have HF : Hid (∀ w : World, Calls Try.prog 24 #[.agg #[.int .i64 o.k, .int .i64 o.so, .int .i64 o.se, .int .i64 o.ti, .int .i64 o.va]] w fun e w' => e = .returned (.string F) ∧ Below w.heap.size w w') := Lib.hid (fun w => by rw [← hF]; exact framed_any o w)
  have HA := Lib.hid (fun w : World => sawake_any w)
  have h5 := frameO_len hM
  have hFs : F.size = (frameO o).length := by rw [← hF, txt_size]
  have hc : F.toList.isEmpty = false := by
    cases e : F.toList with
    | nil =>
      rw [toList_nil_iff_emptyBytes] at e
      have : F.size = 0 := by rw [e]; rfl
      omega
    | cons => rfl
  have hd1 : decide ((40 : Int) < (F.size : Int)) = false := by simp; omega
  have hd2 : decide (40 < F.size) = false := by simp; omega
  have hFz : F.size ≤ 40 := by omega
  obtain ⟨k, hk⟩ : ∃ k : Nat, ah % 8 = k := ⟨(ah % 8).toNat, by omega⟩
  have hk7 : k ≤ 7 := by omega
  have hm : bits .and .i64 ah 7 = (k : Int) := by rw [mask_of ah 3 7 (by decide) (by decide), ← hk]; rfl
  clear hk
  -- the frame around it
  obtain ⟨T, hT⟩ : ∃ T : ByteArray, putS (txt (99 :: List.replicate k 0) ++ F) = T := ⟨_, rfl⟩
  have hbody : (txt (99 :: List.replicate k 0) ++ F).data.toList = bodyF k (frameO o) := by rw [txt_cat, ← hF]; rfl
  have hsz : (txt (99 :: List.replicate k 0) ++ F).size = 1 + k + F.size := by rw [ByteArray.size_append, txt_size]; simp; omega
  have hTl : T.data.toList = putL (bodyF k (frameO o)) := by rw [← hT, putS_list, hbody]
  have hTs : T.size ≤ 60 := by
    have : T.size = T.data.toList.length := by simp
    rw [this, hTl, putL_len, bodyF_len]; omega
  have HP : Hid (∀ w : World, Calls Try.prog 25 #[.string (txt (99 :: List.replicate k 0) ++ F)] w fun e w' => e = .returned (.tuple #[.string T, .int .i64 0]) ∧ Below w.heap.size w w') := Lib.hid (fun w => by rw [← hT]; exact rput_ok _ w (by omega) (by omega))
  obtain ⟨os1, r1, b1, hr1⟩ : ∃ os1 r1 b1, runL false T.data.toList 0 = (os1, r1, b1) := ⟨_, _, _, rfl⟩
  have hf := runL_fits false T.data.toList.length T.data.toList 0 (Nat.le_refl _) (by omega)
  rw [hr1] at hf
  have hrl : r1.length ≤ 63 := (look_two hf.1).2
  have hall : os1 ++ allL r1 b1 = [badP (3 + k), o, badP 2] := by
    have h := allL_close T.data.toList 0
    rw [hr1, hTl, all_false hM hl hk7] at h
    exact h.symm
  have HW : Hid (∀ (g : Nat) (w : World), Has w g 58 (scC [] 0) → Calls Try.prog 13 #[.pointer (some ⟨g, 0, none⟩), .string T] w fun e w' => WroteO g 58 os1 r1 b1 e w w') := Lib.hid (fun g w h => swrite_any g [] 0 T w h (by simp; omega) (by decide) os1 r1 b1 hr1)
  have HC := Lib.hid (fun (g : Nat) (w : World) h => sclose_any g r1 b1 w h (by omega) hf.2.2.1 _ rfl)
  have HY : Hid (∀ (g : Nat) (w : World), Has w g 58 (scC [] 0) → Calls Try.prog 13 #[.pointer (some ⟨g, 0, none⟩), .string F] w fun e w' => WroteO g 58 [o] [] 0 e w w') := Lib.hid (fun g w h => swrite_any g [] 0 F w h (by simp; omega) (by decide) [o] [] 0 (by rw [← hF]; exact run_frame hM))
  obtain ⟨os2, he2⟩ : ∃ os2, allL r1 b1 = os2 := ⟨_, rfl⟩
  rw [he2] at hall HC
  have hn : os1.length + os2.length = 3 := by rw [← List.length_append, hall]; rfl
  have HALL := Lib.hid (And.intro hall hn)
  clear hall hn he2 hf hr1 hrl hTl hT hbody hsz hF hM h5 hl hFs
  have h0 : Has (w.alloc (.cells (opC o) 49)) w.heap.size 49 (opC o) := Has.made w _ _
  go_enter Try.func7, Try.ntmps7
  go_wp2_with fail
  refine (HA.out _).mono ?_; rintro e w1 ⟨rfl, b1⟩
  have o1 := h0.below b1 h0.lt
  have k1 : Below w.heap.size w w1 := ((Below.refl _ _).alloc (Nat.le_refl _) _).trans (b1.mono (by simp))
  have s1 := k1.size
  clear h0 b1
  go_wp2_with fail
  refine (new_any _).mono ?_; rintro e w2 ⟨rfl, x2, b2⟩
  have o2 := o1.below b2 o1.lt
  have k2 := k1.trans (b2.mono s1)
  have s2 := k2.size
  clear o1 k1 b2
  go_wp2_with fail
  refine (new_any _).mono ?_; rintro e w3 ⟨rfl, y3, b3⟩
  have hlt := x2.lt
  have S3 : TwoS w w.heap.size w1.heap.size w2.heap.size o [] 0 [] 0 w3 := ⟨k2.trans (b3.mono s2), Nat.le_trans s2 b3.size, o2.below b3 o2.lt, x2.below b3 hlt, y3, by omega, s1, s2⟩
  clear o2 k2 x2 y3 b3
  have H3 := Lib.hid S3; clear S3
  go_wp2_with (refine load_op rfl _ rfl _ rfl H3.out.ob ?_)
  refine (HF.out _).mono ?_; rintro e w4 ⟨rfl, b4⟩
  have H4 := Lib.hid (H3.out.below b4)
  clear H3 b4 HF HA
  go_wp2_with fail
  go_loopw [9, 10] (fun s i wr => ∃ j : Nat, j ≤ k ∧ i = .int .i64 j ∧ s = .string (txt (99 :: List.replicate j 0)) ∧ Hid (TwoS w w.heap.size w1.heap.size w2.heap.size o [] 0 [] 0 wr)) (fun _ i _ => k - (intOf i).toNat)
  case atStart => exact ⟨0, by omega, rfl, rfl, H4⟩
  case round =>
    clear H4
    obtain ⟨j, hj, rfl, rfl, H4⟩ := hrel
    have hz : (txt (99 :: List.replicate j 0)).size ≤ 9 := by rw [txt_size]; simp; omega
    by_cases hlt : j < k
    · have hjk : (j : Int) < (k : Int) := by omega
      have hstep := Lib.hid (zeros_step j)
      generalize txt (99 :: List.replicate j 0) = T1 at hz hstep ⊢
      go_wp2_with fail
      go_roundw
      case rel => exact ⟨j + 1, by omega, by go_num, by rw [← hstep.out], H4⟩
      case measure => simp [intOf]; omega
    · obtain rfl : j = k := by omega
      generalize txt (99 :: List.replicate j 0) = T1 at hz HP ⊢
      go_wp2_with fail
      refine (HP.out _).mono ?_; rintro e w5 ⟨rfl, b5⟩
      have H5 := Lib.hid (H4.out.below b5)
      clear H4 b5 HP
      go_wp2_with fail
      refine (HW.out _ _ H5.out.sx).mono ?_; rintro e w6 ⟨A1, c1, rfl, p1, x6, g6⟩
      have S6 := H5.out.wroteX x6 g6
      have hob : ∀ kk, (Value.slice A1 os1.length c1).ownBlock = some kk → w5.heap.size ≤ kk := fun kk hkk => (p1.lt hkk).2
      have hgb : w.heap.size < w5.heap.size := H5.out.ob.lt
      have H6 := Lib.hid (And.intro S6 (And.intro (p1.mono H5.out.sz) (show (Value.slice A1 os1.length c1).ownBlock ≠ some w.heap.size from fun e => by have := hob _ e; omega)))
      clear S6 hob hgb p1 x6 g6 H5 HW
      go_wp2_with fail
      refine (HC.out _ _ H6.out.1.sx).mono ?_; rintro e w7 ⟨A2, c2, rfl, p2, x7, g7⟩
      have S7 := H6.out.1.wroteX x7 g7
      have q1 := H6.out.2.1.grow g7 (.inr (H6.out.2.1.apart H6.out.1.sx (by decide)))
      have H7 := Lib.hid (And.intro S7 (And.intro q1 (And.intro H6.out.2.2 (And.intro p2.ops p2.slice.2.2))))
      clear S7 q1 p2 x7 g7 H6 HC
      have hbs : w.heap.size ≤ w7.heap.size := H7.out.1.sz
      have HQ : Hid (∀ (w8 : World) (A3 : Option Addr) (c3 : Nat), OwnO w8 w.heap.size (.slice A3 (os1.length + os2.length) c3) (os1 ++ os2) → w7.grownBy w8 (Value.slice A1 os1.length c1).ownBlock → ((Value.slice A3 (os1.length + os2.length) c3).ownBlock = (Value.slice A1 os1.length c1).ownBlock ∨ (Value.slice A3 (os1.length + os2.length) c3).ownBlock = some w7.heap.size) →
          TwoS w w.heap.size w1.heap.size w2.heap.size o [] 0 [] 0 w8 ∧ OwnO w8 w.heap.size (.slice A3 3 c3) [badP (3 + j), o, badP 2]) := Lib.hid (fun w8 A3 c3 g1 g2 _ => by
        rw [HALL.out.2, HALL.out.1] at g1
        exact ⟨H7.out.1.grown H7.out.2.1 H7.out.2.2.1 g2, g1⟩)
      go_upto_region 21 with (first
        | (refine app_ops rfl _ _ rfl rfl H7.out.2.1 rfl H7.out.2.2.2.1 H7.out.2.2.2.2 (by have := HALL.out.2; omega) hbs (fun A3 c3 w8 g1 g2 g3 => ?_); rw [HALL.out.2]; have H8 := Lib.hid (HQ.out w8 A3 c3 g1 g2 g3); clear g1 g2 g3)
        | (refine load_op rfl _ rfl _ rfl H8.out.1.ob ?_))
      have b9 : Below w8.heap.size w8 (w8.alloc (.cells #[.int .i64 3, .int .i64 0, .int .i64 0, .int .i64 0, .int .i64 (3 + (j : Int)), .int .i64 o.k, .int .i64 o.so, .int .i64 o.se, .int .i64 o.ti, .int .i64 o.va, .int .i64 3, .int .i64 0, .int .i64 0, .int .i64 0, .int .i64 2] 49)) := (Below.refl _ _).alloc (Nat.le_refl _) _
      have H9 := H8.out.1.below b9
      have O9 := H8.out.2.below b9
      have L9 := ops_made w8 [badP (3 + j), o, badP 2] (by simp) (cs := #[.int .i64 3, .int .i64 0, .int .i64 0, .int .i64 0, .int .i64 (3 + (j : Int)), .int .i64 o.k, .int .i64 o.so, .int .i64 o.se, .int .i64 o.ti, .int .i64 o.va, .int .i64 3, .int .i64 0, .int .i64 0, .int .i64 0, .int .i64 2]) (by simp [opL, badP])
      have hy8 := H8.out.1.sy.lt
      refine sf21_any (z := o) (xs := [badP (3 + j), o, badP 2]) (F := F) (A := A3) (B := (w8.alloc (.cells #[.int .i64 3, .int .i64 0, .int .i64 0, .int .i64 0, .int .i64 (3 + (j : Int)), .int .i64 o.k, .int .i64 o.so, .int .i64 o.se, .int .i64 o.ti, .int .i64 o.va, .int .i64 3, .int .i64 0, .int .i64 0, .int .i64 0, .int .i64 2] 49)).heap.size) (c := c3) (gl := w8.heap.size) (g := w.heap.size) (y := w2.heap.size)
        ⟨rfl, rfl, rfl, rfl, rfl, rfl, rfl, by simp; omega, O9.ops, fun ad he e => O9.apart H9.sy (by decide) (by rw [he]; exact congrArg some e), L9, by omega, H9.ob, H9.oby, H9.sy, fun w h => HY.out _ w h⟩ (by kernel_rfl) ?_
      intro A71 c71 g73 w20 hI _ _
      have HB := Lib.hid (hI.gr.below H9.keep H9.sz (fun g hg => by
        obtain rfl : g = w2.heap.size := by simpa using hg
        exact s2))
      clear hI b9 H9 O9 L9
      simp only [putAll, Act.put, List.setIfInBounds_toArray, List.set_cons_succ, List.set_cons_zero, List.drop_succ_cons, List.drop_zero]
      go_wp2_with fail
      go_ret
      exact ⟨rfl, HB.out⟩

theorem scanfalse_any (k so se ti va ah : Int) (w : World) (_ : (Lit.int .i64 k).wf = true ∧ (Lit.int .i64 so).wf = true ∧ (Lit.int .i64 se).wf = true ∧ (Lit.int .i64 ti).wf = true ∧ (Lit.int .i64 va).wf = true) (_ : (Lit.int .i64 ah).wf = true) :
    Calls Try.prog 7 #[.agg #[.int .i64 k, .int .i64 so, .int .i64 se, .int .i64 ti, .int .i64 va], .int .i64 ah] w fun e w' => e = .returned (.bool true) ∧ Below w.heap.size w w' := by
  by_cases hM : MayP ⟨k, so, se, ti, va⟩
  · by_cases hl : (frameO ⟨k, so, se, ti, va⟩).length ≤ 40
    · exact scanfalse_ok ⟨k, so, se, ti, va⟩ ah _ hM rfl hl w
    · refine scanfalse_no ⟨k, so, se, ti, va⟩ ah _ rfl (.inr ⟨?_, by rw [txt_size]; omega⟩) w
      cases e : (txt (frameO ⟨k, so, se, ti, va⟩)).toList with
      | nil =>
        rw [toList_nil_iff_emptyBytes] at e
        have : (txt (frameO ⟨k, so, se, ti, va⟩)).size = 0 := by rw [e]; rfl
        rw [txt_size] at this
        omega
      | cons => rfl
  · refine scanfalse_no ⟨k, so, se, ti, va⟩ ah _ rfl (.inl ?_) w
    rw [frameO_no hM, ByteArray.toList_eq]; rfl

end Go.Proofs.Ytoechlmahckchaa
