/-
  Walk: Scans: a scanner under any bytes, closed now and then.
-/
import Derived.Test.YtoechlmahckchaaScSaR
import Derived.Test.YtoechlmahckchaaScDuo
import Derived.Test.YtoechlmahckchaaScOpen
namespace Go.Proofs.Ytoechlmahckchaa
open Go.RowKit

/-- What a part does to a scanner. -/
structure StepF (J : ByteArray) (l : List UInt8) (b : Nat) (os : List Po) (l' : List UInt8) (b' : Nat) : Prop where
  run : runL false (l ++ J.data.toList) b = (os, l', b')
  l63 : l.length ≤ 63
  bm : b ≤ 1073741823
  js : J.size ≤ 1048576
  len : os.length ≤ 10000000
  l63' : l'.length ≤ 63
  bm' : b' ≤ 1073741823
theorem stepF_of {J : ByteArray} {l : List UInt8} {b : Nat} (hJ : J.size ≤ 1048576) (hl : l.length ≤ 63) (hb : b ≤ 1073741823) : ∃ os l' b', StepF J l b os l' b' := by
  obtain ⟨os, r, n, h⟩ : ∃ os r n, runL false (l ++ J.data.toList) b = (os, r, n) := ⟨_, _, _, rfl⟩
  have f := runL_fits false _ (l ++ J.data.toList) b (Nat.le_refl _) hb
  rw [h] at f
  have hl2 := f.2.2.2.1
  have e : J.data.toList.length = J.size := by simp
  rw [List.length_append, e] at hl2
  exact ⟨os, r, n, h, hl, hb, hJ, by simp only at hl2; omega, (look_two f.1).2, f.2.2.1⟩
section
variable {J : ByteArray} {l : List UInt8} {b : Nat} {os : List Po} {l' : List UInt8} {b' : Nat} (h : StepF J l b os l' b')
include h
theorem StepF.scan (g : Nat) (w : World) (hs : Has w g 58 (scC l b)) : Calls Try.prog 13 #[.pointer (some ⟨g, 0, none⟩), .string J] w fun e w' => WroteO g 58 os l' b' e w w' :=
  swrite_any g l b J w hs (by have := h.l63; have := h.js; omega) h.bm os l' b' h.run
theorem StepF.ref (g : Nat) (w : World) (hs : Has w g 27 (scC l b)) : Calls Try.prog 14 #[.pointer (some ⟨g, 0, none⟩), .string J] w fun e w' => WroteO g 27 os l' b' e w w' :=
  rwrite_any g l b J w hs (by have := h.l63; have := h.js; omega) h.bm os l' b' h.run
end
section
variable {w0 : World} {x : Nat} {X : TypeId} {lx : List UInt8} {bx : Nat} {y : Nat} {Y : TypeId} {ly : List UInt8} {bY : Nat} {w w' : World}
theorem DuoS.butFar (h : DuoS w0 x X lx bx y Y ly bY w) {gs : List Nat} (hb : ButS gs w w') (hg : ∀ g ∈ gs, w0.heap.size ≤ g) (hx : x ∉ gs) (hy : y ∉ gs) : DuoS w0 x X lx bx y Y ly bY w' :=
  ⟨hb.below h.keep h.sz hg, Nat.le_trans h.sz hb.size, h.sx.butS hb hx, h.sy.butS hb hy, h.ne, h.nx, h.ny⟩
theorem DuoS.far (h : DuoS w0 x X lx bx y Y ly bY w) {g : Nat} (hg : w.grownBy w' (some g)) (hw : w0.heap.size ≤ g) (hx : g ≠ x) (hy : g ≠ y) : DuoS w0 x X lx bx y Y ly bY w' :=
  ⟨below_wrote h.keep hg h.sz (fun k hk => by injection hk with hk; subst hk; exact hw), Nat.le_trans h.sz hg.size, h.sx.grow hg (fun e => hx (by injection e)), h.sy.grow hg (fun e => hy (by injection e)), h.ne, h.nx, h.ny⟩
end
theorem allL_len' (l : List UInt8) (b : Nat) (hb : b ≤ 1073741823) : (allL l b).length ≤ 2 * l.length + 1 := by
  have h := (runL_fits true l.length l b (Nat.le_refl _) hb).2.2.2.1
  have h1 : (tellB (runL true l b).2.2).length ≤ 1 := by unfold tellB; split <;> simp
  unfold allL
  rw [List.length_append]
  omega
theorem waits_none (g b : Nat) (w : World) (h : Has w g 58 (scC [] b)) :
    Calls Try.prog 16 #[.pointer (some ⟨g, 0, none⟩)] w fun e w' => e = .returned (.string ⟨#[]⟩) ∧ Below w.heap.size w w' := waits_any g [] b w h (by decide)
theorem pair_in {x r w : Nat} (hx : w ≤ x) (hr : w ≤ r) : ∀ g ∈ [x, r], w ≤ g := fun g hg => by
  simp only [List.mem_cons, List.not_mem_nil, or_false] at hg
  rcases hg with rfl | rfl
  · exact hx
  · exact hr

set_option maxRecDepth 100000 in
set_option maxHeartbeats 2000000 in
theorem scans_ok (A0 : Option Addr) (n0 c0 : Nat) (Sx : Nat → ByteArray) (cl : Int) (S : ByteArray) (bad : Nat) (w : World) (hT : Txts w A0 n0 Sx) (hn0 : n0 ≤ 1048576) (hz : ∀ i, i < n0 → (Sx i).size ≤ 1048576) (_ : (Lit.int .i64 cl).wf = true) (hS : S.size ≤ 1048576) (hL : LoadOk S bad) :
    Calls Try.prog 3 #[.slice A0 n0 c0, .int .i64 cl, .string S, .int .i64 bad] w fun e w' => e = .returned (.bool true) ∧ Below w.heap.size w w' := by
  have HT := Lib.hid hT
  have HZ := Lib.hid hz
  have HL1 := Lib.hid (fun w : World => sload_ok S bad w (by omega) hL)
  have HL2 := Lib.hid (fun w : World => rload_ok S bad w (by omega) hL)
  have HS63 := Lib.hid (show S.data.toList.length ≤ 63 ∧ bad ≤ 1073741823 from ⟨(look_two hL.2).2, by have := hL.1.2; omega⟩)
  clear hT hz hL
  go_enter Try.func3, Try.ntmps3
  go_wp2_with fail
  refine (new_any _).mono ?_; rintro e w1 ⟨rfl, x1, b1⟩
  have s1 := b1.size
  have l1 := x1.lt
  have r2 : Has (w1.alloc (.cells #[.string ⟨#[]⟩, .int .i64 0] 27)) w1.heap.size 27 (scC [] 0) := Has.made w1 _ _
  have D2 : DuoS w w.heap.size 58 [] 0 w1.heap.size 27 [] 0 (w1.alloc (.cells #[.string ⟨#[]⟩, .int .i64 0] 27)) := ⟨b1.alloc s1 _, by simp; omega, x1.alloc _, r2, by omega, Nat.le_refl _, s1⟩
  have H2 := Lib.hid D2
  clear b1 x1 r2 D2
  go_wp2_with fail
  refine (HL1.out _).mono ?_; rintro e w3 ⟨y, rfl, y3, hy, b3⟩
  have H3 := Lib.hid (And.intro (H2.out.below b3) (show Has w3 y 58 (scC S.data.toList bad) from y3))
  have hy' : w1.heap.size < y := by simp at hy; omega
  clear H2 y3 hy b3 HL1
  go_wp2_with fail
  refine (HL2.out _).mono ?_; rintro e w4 ⟨s, rfl, s4, hs, b4⟩
  have hys : y < s := by have := H3.out.2.lt; omega
  have H4 : Hid (DuoS w w.heap.size 58 [] 0 w1.heap.size 27 [] 0 w4 ∧ DuoS w y 58 S.data.toList bad s 27 S.data.toList bad w4) := Lib.hid (by
    have D := H3.out.1.below b4
    exact ⟨D, D.keep, D.sz, H3.out.2.below b4 H3.out.2.lt, s4, by omega, by omega, by omega⟩)
  clear H3 s4 hs b4 HL2
  go_wp2_with (go_at_call 12; refine (num_any _ _).mono ?_; rintro e w' ⟨rfl, rfl⟩)
  go_loopw [15] (fun i_ wr => ∃ (i : Nat) (lx : List UInt8) (bx : Nat) (ly : List UInt8) (b_ : Nat), i ≤ n0 ∧ i ≤ 30 ∧ i_ = .int .i64 i ∧ Hid (lx.length ≤ 63 ∧ bx ≤ 1073741823 ∧ ly.length ≤ 63 ∧ b_ ≤ 1073741823) ∧ Hid (DuoS w w.heap.size 58 lx bx w1.heap.size 27 lx bx wr ∧ DuoS w y 58 ly b_ s 27 ly b_ wr)) (fun i_ _ => n0 - (intOf i_).toNat)
  case atStart => exact ⟨0, [], 0, S.data.toList, bad, by omega, by omega, rfl, Lib.hid ⟨by simp, by omega, HS63.out.1, HS63.out.2⟩, H4⟩
  case round =>
    clear H4
    obtain ⟨i, lx, bx, ly, b_, hi, hi30, rfl, HF, H4⟩ := hrel
    by_cases hgo : i < n0 ∧ i < 30
    · obtain ⟨hin, hi3⟩ := hgo
      have q1 : (i : Int) < (n0 : Int) := by omega
      have q2 : (i : Int) < 30 := by omega
      have HTi : Hid (∀ wz : World, Below w.heap.size w wz → ∃ b o, A0 = some ⟨b, o, none⟩ ∧ wz.cell? ⟨b, o + i, none⟩ = some (.string (Sx i))) := Lib.hid (fun wz hb => by
        obtain ⟨b, o, e, hh⟩ := (HT.out.below hb) (by omega)
        exact ⟨b, o, e, hh i hin⟩)
      have hJ := HZ.out i hin
      obtain ⟨bp, po, hA0, hcell⟩ := HTi.out w (Below.refl _ _)
      have hbp : bp < w.heap.size := block_lt_of_cell hcell
      subst hA0
      have HTj : Hid (∀ wz : World, Below w.heap.size w wz → wz.cell? ⟨bp, po + i, none⟩ = some (.string (Sx i))) := Lib.hid (fun wz hb => by
        obtain ⟨b', o', e', hh⟩ := HTi.out wz hb
        injection e' with e'
        injection e' with e1 e2
        subst e1 e2
        exact hh)
      clear HTi hcell
      generalize Sx i = J at HTj hJ
      obtain ⟨os, lx', bx', hFx⟩ := stepF_of hJ HF.out.1 HF.out.2.1
      obtain ⟨os2, ly', b_', hFy⟩ := stepF_of hJ HF.out.2.2.1 HF.out.2.2.2
      have HFx := Lib.hid hFx
      have HFy := Lib.hid hFy
      clear hFx hFy
      go_upto_region 12 with fail
      refine sc12_any (J := J) (os := os) (q1 := lx) (q2 := lx') (n1 := bx) (n2 := bx') (B := wr.heap.size) (x := w.heap.size) (r := w1.heap.size) (bp := bp) (po := po) (n := n0) (c := c0) (i := i)
        ⟨rfl, rfl, rfl, rfl, rfl, rfl, H4.out.1.sx.lt, H4.out.1.sy.lt, H4.out.1.ne, ⟨by omega, by omega⟩, HTj.out _ H4.out.1.keep, hin, H4.out.1.sx, H4.out.1.sy, fun w h => HFx.out.scan _ w h, fun w h => HFx.out.ref _ w h⟩ (by kernel_rfl) ?_
      intro A61 c61 A67 c67 w5 hI p61 p67
      have H5 : Hid ((DuoS w w.heap.size 58 lx' bx' w1.heap.size 27 lx' bx' w5 ∧ DuoS w y 58 ly b_ s 27 ly b_ w5) ∧ OwnO w5 wr.heap.size (.slice A61 os.length c61) os ∧ Ops w5 A67 os.length os) := Lib.hid
        ⟨⟨H4.out.1.but hI.gr (pair_in (Nat.le_refl _) s1) hI.st.1 hI.st.2, H4.out.2.butFar hI.gr (pair_in (Nat.le_refl _) s1) (by simp; omega) (by simp; omega)⟩, p61, p67.ops⟩
      have hsz4 := H4.out.1.sz
      clear hI p61 p67 H4
      simp only [putAll, Act.put, List.setIfInBounds_toArray, List.set_cons_succ, List.set_cons_zero, List.drop_succ_cons, List.drop_zero]
      go_upto_region 13 with fail
      refine sc13_any (os := os) (q2 := lx') (A1 := A61) (A2 := A67) (n2 := bx') (c1 := c61) (c2 := c67) (x := w.heap.size) (r := w1.heap.size) (n := os.length) ⟨rfl, rfl, rfl, rfl, rfl, H5.out.2.1.ops, H5.out.2.2, by have := HFx.out.len; omega, by have := HFx.out.l63'; omega, H5.out.1.1.sx, H5.out.1.1.sy⟩ (by kernel_rfl) ?_
      intro w6 b6
      have H6 := Lib.hid (And.intro (And.intro (H5.out.1.1.below b6) (H5.out.1.2.below b6)) (H5.out.2.1.below b6))
      clear b6 H5
      simp only [putAll, Act.put, List.setIfInBounds_toArray, List.set_cons_succ, List.set_cons_zero]
      go_wp2_with fail
      refine (spoilops_any A61 os.length c61 os wr.heap.size w6 H6.out.2 (by have := HFx.out.len; omega)).mono ?_; rintro e w7 ⟨rfl, g7⟩
      have H7 : Hid (DuoS w w.heap.size 58 lx' bx' w1.heap.size 27 lx' bx' w7 ∧ DuoS w y 58 ly b_ s 27 ly b_ w7) := Lib.hid ⟨H6.out.1.1.grown (by decide) (by decide) (H6.out.2.mono hsz4) g7, H6.out.1.2.grown (by decide) (by decide) (H6.out.2.mono hsz4) g7⟩
      clear H6 g7
      go_upto_region 16 with fail
      refine sc16_any (J := J) (os := os2) (q1 := ly) (q2 := ly') (n1 := b_) (n2 := b_') (B := w7.heap.size) (x := y) (r := s) (bp := bp) (po := po) (n := n0) (c := c0) (i := i)
        ⟨rfl, rfl, rfl, rfl, rfl, rfl, rfl, H7.out.2.sx.lt, H7.out.2.sy.lt, H7.out.2.ne, ⟨by omega, by omega⟩, HTj.out _ H7.out.1.keep, hin, H7.out.2.sx, H7.out.2.sy, fun w h => HFy.out.scan _ w h, fun w h => HFy.out.ref _ w h, by have := HFy.out.len; omega, by have := HFy.out.l63'; omega⟩ (by kernel_rfl) ?_
      intro A100 c100 A106 c106 w8 hI _ _
      have H8 : Hid (DuoS w w.heap.size 58 lx' bx' w1.heap.size 27 lx' bx' w8 ∧ DuoS w y 58 ly' b_' s 27 ly' b_' w8) := Lib.hid
        ⟨H7.out.1.butFar hI.gr (pair_in (by omega) (by omega)) (by simp; omega) (by simp; omega), H7.out.2.but hI.gr (pair_in (by omega) (by omega)) hI.st.1 hI.st.2⟩
      clear hI H7
      simp only [putAll, Act.put, List.setIfInBounds_toArray, List.set_cons_succ, List.set_cons_zero, List.drop_succ_cons, List.drop_zero]
      obtain ⟨os3, he3⟩ : ∃ os3, allL lx' bx' = os3 := ⟨_, rfl⟩
      have ho3 : os3.length ≤ 1000 := by
        have h1 := allL_len' lx' bx' HFx.out.bm'
        have := HFx.out.l63'
        rw [he3] at h1
        omega
      have HC1 := Lib.hid (sclose_any w.heap.size lx' bx' w8 H8.out.1.sx (by have := HFx.out.l63'; omega) HFx.out.bm' os3 he3)
      have HC2 := Lib.hid (fun (w : World) h => rclose_any w1.heap.size lx' bx' w h (by have := HFx.out.l63'; omega) HFx.out.bm' os3 he3)
      have HF2 := Lib.hid (And.intro HFx.out.l63' (And.intro HFx.out.bm' (And.intro HFy.out.l63' HFy.out.bm')))
      clear he3 HFx HFy HTj HF
      cases hbit : (bits .and .i64 (cl / 2 ^ i) 1 == 1)
      · go_wp2_with fail
        go_roundw
        case rel => exact ⟨i + 1, lx', bx', ly', b_', by omega, by omega, by go_num, HF2, H8⟩
        case measure => simp [intOf]; omega
      · go_wp2_with fail
        refine (HC1.out).mono ?_; rintro e w9 ⟨A9, c9, rfl, p9, x9, g9⟩
        have H9 : Hid ((DuoS w w.heap.size 58 [] 0 w1.heap.size 27 lx' bx' w9 ∧ DuoS w y 58 ly' b_' s 27 ly' b_' w9) ∧ OwnO w9 w8.heap.size (.slice A9 os3.length c9) os3) := Lib.hid ⟨⟨H8.out.1.wroteX x9 g9, H8.out.2.far g9 (Nat.le_refl _) (by omega) (by omega)⟩, p9⟩
        clear p9 x9 g9 H8 HC1
        go_wp2_with fail
        refine (HC2.out _ H9.out.1.1.sy).mono ?_; rintro e w10 ⟨A10, c10, rfl, p10, x10, g10⟩
        have H10 : Hid ((DuoS w w.heap.size 58 [] 0 w1.heap.size 27 [] 0 w10 ∧ DuoS w y 58 ly' b_' s 27 ly' b_' w10) ∧ Ops w10 A9 os3.length os3 ∧ Ops w10 A10 os3.length os3) := Lib.hid ⟨⟨H9.out.1.1.wroteY x10 g10, H9.out.1.2.far g10 s1 (by omega) (by omega)⟩, (H9.out.2.grow g10 (.inr (H9.out.2.apart H9.out.1.1.sy (by decide)))).ops, p10.ops⟩
        clear p10 x10 g10 H9 HC2
        go_wp2_with fail
        refine (sameops_any _ _ _ _ _ os3 _ H10.out.2.1 H10.out.2.2 (by omega)).mono ?_; rintro e w11 ⟨rfl, b11⟩
        have H11 := Lib.hid (And.intro (H10.out.1.1.below b11) (H10.out.1.2.below b11))
        clear b11 H10
        go_wp2_with fail
        refine (waits_none w.heap.size 0 w11 H11.out.1.sx).mono ?_; rintro e w12 ⟨rfl, b12⟩
        have H12 := Lib.hid (And.intro (H11.out.1.below b12) (H11.out.2.below b12))
        clear b12 H11
        go_wp2_with fail
        refine (badn_any w.heap.size [] 0 w12 H12.out.1.sx).mono ?_; rintro e w13 ⟨rfl, rfl⟩
        go_wp2_with fail
        go_roundw
        case rel => exact ⟨i + 1, [], 0, ly', b_', by omega, by omega, by go_num, Lib.hid ⟨by simp, by omega, HF2.out.2.2.1, HF2.out.2.2.2⟩, H12⟩
        case measure => simp [intOf]; omega
    · have hgo2 : (¬ (i : Int) < (n0 : Int)) ∨ ((i : Int) < (n0 : Int) ∧ ¬ (i : Int) < 30) := by omega
      have HA := Lib.hid (fun w : World => sawake_any w)
      have HE := Lib.hid H4.out.1
      clear H4 HT HZ hgo
      rcases hgo2 with q1 | ⟨q1, q2⟩
      all_goals
        go_wp2_with fail
        refine (HA.out _).mono ?_; rintro e w9 ⟨rfl, b9⟩
        have HX := Lib.hid (HE.out.below b9).keep
        clear b9 HE
        go_wp2_with fail
        go_ret
        exact ⟨rfl, HX.out⟩

set_option maxRecDepth 100000 in
set_option maxHeartbeats 2000000 in
theorem scans_no (A0 : Option Addr) (n0 c0 : Nat) (Sx : Nat → ByteArray) (cl : Int) (S : ByteArray) (bad : Int) (w : World) (hT : Txts w A0 n0 Sx) (hn0 : n0 ≤ 1048576) (hz : ∀ i, i < n0 → (Sx i).size ≤ 1048576) (_ : (Lit.int .i64 cl).wf = true) (hS : S.size ≤ 1048576) (hL : ¬ LoadOk S bad) :
    Calls Try.prog 3 #[.slice A0 n0 c0, .int .i64 cl, .string S, .int .i64 bad] w fun e w' => e = .returned (.bool true) ∧ Below w.heap.size w w' := by
  have HT := Lib.hid hT
  have HZ := Lib.hid hz
  have HL1 := Lib.hid (fun w : World => sload_bad S bad w (by omega) hL)
  have HL2 := Lib.hid (fun w : World => rload_bad S bad w (by omega) hL)
  clear hT hz hL
  go_enter Try.func3, Try.ntmps3
  go_wp2_with fail
  refine (new_any _).mono ?_; rintro e w1 ⟨rfl, x1, b1⟩
  have s1 := b1.size
  have l1 := x1.lt
  have r2 : Has (w1.alloc (.cells #[.string ⟨#[]⟩, .int .i64 0] 27)) w1.heap.size 27 (scC [] 0) := Has.made w1 _ _
  have D2 : DuoS w w.heap.size 58 [] 0 w1.heap.size 27 [] 0 (w1.alloc (.cells #[.string ⟨#[]⟩, .int .i64 0] 27)) := ⟨b1.alloc s1 _, by simp; omega, x1.alloc _, r2, by omega, Nat.le_refl _, s1⟩
  have H2 := Lib.hid D2
  clear b1 x1 r2 D2
  go_wp2_with fail
  refine (HL1.out _).mono ?_; rintro e w3 ⟨rfl, b3⟩
  have H4 := Lib.hid (H2.out.below b3)
  clear H2 b3 HL1
  go_wp2_with fail
  refine (HL2.out _).mono ?_; rintro e w4 ⟨rfl, rfl⟩
  clear HL2
  go_wp2_with (go_at_call 12; refine (num_any _ _).mono ?_; rintro e w' ⟨rfl, rfl⟩)
  go_loopw [15] (fun i_ wr => ∃ (i : Nat) (lx : List UInt8) (bx : Nat), i ≤ n0 ∧ i ≤ 30 ∧ i_ = .int .i64 i ∧ Hid (lx.length ≤ 63 ∧ bx ≤ 1073741823) ∧ Hid (DuoS w w.heap.size 58 lx bx w1.heap.size 27 lx bx wr)) (fun i_ _ => n0 - (intOf i_).toNat)
  case atStart => exact ⟨0, [], 0, by omega, by omega, rfl, Lib.hid ⟨by simp, by omega⟩, H4⟩
  case round =>
    clear H4
    obtain ⟨i, lx, bx, hi, hi30, rfl, HF, H4⟩ := hrel
    by_cases hgo : i < n0 ∧ i < 30
    · obtain ⟨hin, hi3⟩ := hgo
      have q1 : (i : Int) < (n0 : Int) := by omega
      have q2 : (i : Int) < 30 := by omega
      have HTi : Hid (∀ wz : World, Below w.heap.size w wz → ∃ b o, A0 = some ⟨b, o, none⟩ ∧ wz.cell? ⟨b, o + i, none⟩ = some (.string (Sx i))) := Lib.hid (fun wz hb => by
        obtain ⟨b, o, e, hh⟩ := (HT.out.below hb) (by omega)
        exact ⟨b, o, e, hh i hin⟩)
      have hJ := HZ.out i hin
      obtain ⟨bp, po, hA0, hcell⟩ := HTi.out w (Below.refl _ _)
      have hbp : bp < w.heap.size := block_lt_of_cell hcell
      subst hA0
      have HTj : Hid (∀ wz : World, Below w.heap.size w wz → wz.cell? ⟨bp, po + i, none⟩ = some (.string (Sx i))) := Lib.hid (fun wz hb => by
        obtain ⟨b', o', e', hh⟩ := HTi.out wz hb
        injection e' with e'
        injection e' with e1 e2
        subst e1 e2
        exact hh)
      clear HTi hcell
      generalize Sx i = J at HTj hJ
      obtain ⟨os, lx', bx', hFx⟩ := stepF_of hJ HF.out.1 HF.out.2
      have HFx := Lib.hid hFx
      clear hFx
      go_upto_region 12 with fail
      refine sc12_any (J := J) (os := os) (q1 := lx) (q2 := lx') (n1 := bx) (n2 := bx') (B := wr.heap.size) (x := w.heap.size) (r := w1.heap.size) (bp := bp) (po := po) (n := n0) (c := c0) (i := i)
        ⟨rfl, rfl, rfl, rfl, rfl, rfl, H4.out.sx.lt, H4.out.sy.lt, H4.out.ne, ⟨by omega, by omega⟩, HTj.out _ H4.out.keep, hin, H4.out.sx, H4.out.sy, fun w h => HFx.out.scan _ w h, fun w h => HFx.out.ref _ w h⟩ (by kernel_rfl) ?_
      intro A61 c61 A67 c67 w5 hI p61 p67
      have H5 : Hid (DuoS w w.heap.size 58 lx' bx' w1.heap.size 27 lx' bx' w5 ∧ OwnO w5 wr.heap.size (.slice A61 os.length c61) os ∧ Ops w5 A67 os.length os) := Lib.hid
        ⟨H4.out.but hI.gr (pair_in (Nat.le_refl _) s1) hI.st.1 hI.st.2, p61, p67.ops⟩
      have hsz4 := H4.out.sz
      clear hI p61 p67 H4
      simp only [putAll, Act.put, List.setIfInBounds_toArray, List.set_cons_succ, List.set_cons_zero, List.drop_succ_cons, List.drop_zero]
      go_upto_region 13 with fail
      refine sc13_any (os := os) (q2 := lx') (A1 := A61) (A2 := A67) (n2 := bx') (c1 := c61) (c2 := c67) (x := w.heap.size) (r := w1.heap.size) (n := os.length) ⟨rfl, rfl, rfl, rfl, rfl, H5.out.2.1.ops, H5.out.2.2, by have := HFx.out.len; omega, by have := HFx.out.l63'; omega, H5.out.1.sx, H5.out.1.sy⟩ (by kernel_rfl) ?_
      intro w6 b6
      have H6 := Lib.hid (And.intro (H5.out.1.below b6) (H5.out.2.1.below b6))
      clear b6 H5
      simp only [putAll, Act.put, List.setIfInBounds_toArray, List.set_cons_succ, List.set_cons_zero]
      go_wp2_with fail
      refine (spoilops_any A61 os.length c61 os wr.heap.size w6 H6.out.2 (by have := HFx.out.len; omega)).mono ?_; rintro e w7 ⟨rfl, g7⟩
      have H7 := Lib.hid (H6.out.1.grown (by decide) (by decide) (H6.out.2.mono hsz4) g7)
      clear H6 g7
      go_upto_region 16 with fail
      refine sn16_any ⟨rfl, rfl⟩ (by kernel_rfl) ?_
      intro w8 b8
      have H8 := Lib.hid (H7.out.below b8)
      clear b8 H7
      simp only [putAll, Act.put, List.setIfInBounds_toArray, List.set_cons_succ, List.set_cons_zero]
      obtain ⟨os3, he3⟩ : ∃ os3, allL lx' bx' = os3 := ⟨_, rfl⟩
      have ho3 : os3.length ≤ 1000 := by
        have h1 := allL_len' lx' bx' HFx.out.bm'
        have := HFx.out.l63'
        rw [he3] at h1
        omega
      have HC1 := Lib.hid (sclose_any w.heap.size lx' bx' w8 H8.out.sx (by have := HFx.out.l63'; omega) HFx.out.bm' os3 he3)
      have HC2 := Lib.hid (fun (w : World) h => rclose_any w1.heap.size lx' bx' w h (by have := HFx.out.l63'; omega) HFx.out.bm' os3 he3)
      have HF2 := Lib.hid (And.intro HFx.out.l63' HFx.out.bm')
      clear he3 HFx HTj HF
      cases hbit : (bits .and .i64 (cl / 2 ^ i) 1 == 1)
      · go_wp2_with fail
        go_roundw
        case rel => exact ⟨i + 1, lx', bx', by omega, by omega, by go_num, HF2, H8⟩
        case measure => simp [intOf]; omega
      · go_wp2_with fail
        refine (HC1.out).mono ?_; rintro e w9 ⟨A9, c9, rfl, p9, x9, g9⟩
        have H9 := Lib.hid (And.intro (H8.out.wroteX x9 g9) p9)
        clear p9 x9 g9 H8 HC1
        go_wp2_with fail
        refine (HC2.out _ H9.out.1.sy).mono ?_; rintro e w10 ⟨A10, c10, rfl, p10, x10, g10⟩
        have H10 := Lib.hid (And.intro (H9.out.1.wroteY x10 g10) (And.intro (H9.out.2.grow g10 (.inr (H9.out.2.apart H9.out.1.sy (by decide)))).ops p10.ops))
        clear p10 x10 g10 H9 HC2
        go_wp2_with fail
        refine (sameops_any _ _ _ _ _ os3 _ H10.out.2.1 H10.out.2.2 (by omega)).mono ?_; rintro e w11 ⟨rfl, b11⟩
        have H11 := Lib.hid (H10.out.1.below b11)
        clear b11 H10
        go_wp2_with fail
        refine (waits_none w.heap.size 0 w11 H11.out.sx).mono ?_; rintro e w12 ⟨rfl, b12⟩
        have H12 := Lib.hid (H11.out.below b12)
        clear b12 H11
        go_wp2_with fail
        refine (badn_any w.heap.size [] 0 w12 H12.out.sx).mono ?_; rintro e w13 ⟨rfl, rfl⟩
        go_wp2_with fail
        go_roundw
        case rel => exact ⟨i + 1, [], 0, by omega, by omega, by go_num, Lib.hid ⟨by simp, by omega⟩, H12⟩
        case measure => simp [intOf]; omega
    · have hgo2 : (¬ (i : Int) < (n0 : Int)) ∨ ((i : Int) < (n0 : Int) ∧ ¬ (i : Int) < 30) := by omega
      have HA := Lib.hid (fun w : World => sawake_any w)
      have HE := H4
      clear H4 HT HZ hgo
      rcases hgo2 with q1 | ⟨q1, q2⟩
      all_goals
        go_wp2_with fail
        refine (HA.out _).mono ?_; rintro e w9 ⟨rfl, b9⟩
        have HX := Lib.hid (HE.out.below b9).keep
        clear b9 HE
        go_wp2_with fail
        go_ret
        exact ⟨rfl, HX.out⟩

theorem scans_any (A0 : Option Addr) (n0 c0 : Nat) (Sx : Nat → ByteArray) (cl : Int) (S : ByteArray) (bad : Int) (w : World) (hT : Txts w A0 n0 Sx) (hn0 : n0 ≤ 1048576) (hz : ∀ i, i < n0 → (Sx i).size ≤ 1048576) (hcl : (Lit.int .i64 cl).wf = true) (hS : S.size ≤ 1048576) (_ : (Lit.int .i64 bad).wf = true) :
    Calls Try.prog 3 #[.slice A0 n0 c0, .int .i64 cl, .string S, .int .i64 bad] w fun e w' => e = .returned (.bool true) ∧ Below w.heap.size w w' := by
  by_cases hL : LoadOk S bad
  · obtain ⟨n, rfl⟩ := Int.eq_ofNat_of_zero_le hL.1.1
    exact scans_ok A0 n0 c0 Sx cl S n w hT hn0 hz hcl hS hL
  · exact scans_no A0 n0 c0 Sx cl S bad w hT hn0 hz hcl hS hL

end Go.Proofs.Ytoechlmahckchaa
