/-
  Walk: Accs: any item, aggregates, bounds: the program answers as the document; what is handed in stays.
-/
import Derived.Test.YtigjnmjmjhbigaaAccsP
import Derived.Test.YtigjnmjmjhbigaaAwake
import Derived.Deep.DeepCutAuto
import Derived.Deep.Onto
import Derived.Test.YtigjnmjmjhbigaaRAcc
namespace Go.Proofs.Ytigjnmjmjhbigaa
open Go.RowKit

/-- What came in, and the copies of it. -/
structure AcS (w : World) (x : It) (B : Option Addr) (m : Nat) (bs : List Int) (A : Option Addr) (n : Nat) (xs : List Ac) (L : Option Addr) (lc : Nat) (C : Option Addr) (cc : Nat) (rs : List Rw) (wr : World) : Prop where
  it : Has wr w.heap.size 23 #[.int .i64 x.s, .int .i64 x.t, .int .i64 x.q, .int .i64 x.v]
  bnd : Ints wr B m bs
  row : Accs wr A n xs
  lent : OwnI wr w.heap.size (.slice L (m + 2) lc) (bs ++ [-7777, -8888])
  cop : OwnG wr w.heap.size (.slice C n cc) rs
  keep : Below w.heap.size w wr
theorem AcS.below {w : World} {x : It} {B : Option Addr} {m : Nat} {bs : List Int} {A : Option Addr} {n : Nat} {xs : List Ac} {L : Option Addr} {lc : Nat} {C : Option Addr} {cc : Nat} {rs : List Rw} {wr wy : World} (h : AcS w x B m bs A n xs L lc C cc rs wr) (hb : Below wr.heap.size wr wy) : AcS w x B m bs A n xs L lc C cc rs wy :=
  ⟨h.it.below hb h.it.lt, h.bnd.below hb, h.row.below hb, h.lent.below hb, h.cop.below hb, h.keep.trans (hb.mono h.keep.size)⟩

/-- Both results, each in a variable, their buckets the calls' own. -/
structure AcL (g1 g3 b1 b3 : Nat) (V1 : Ac) (A1 : Option Addr) (c1 : Nat) (V2 : Ac) (A3 : Option Addr) (c3 : Nat) (wr : World) : Prop where
  h1 : Has wr g1 29 (accC V1 A1 V1.h.length c1)
  h3 : Has wr g3 29 (accC V2 A3 V2.h.length c3)
  o1 : OwnI wr b1 (.slice A1 V1.h.length c1) V1.h
  o3 : OwnI wr b3 (.slice A3 V2.h.length c3) V2.h
theorem AcL.below {g1 g3 b1 b3 : Nat} {V1 : Ac} {A1 : Option Addr} {c1 : Nat} {V2 : Ac} {A3 : Option Addr} {c3 : Nat} {wr wy : World} (h : AcL g1 g3 b1 b3 V1 A1 c1 V2 A3 c3 wr) (hb : Below wr.heap.size wr wy) : AcL g1 g3 b1 b3 V1 A1 c1 V2 A3 c3 wy :=
  ⟨h.h1.below hb h.h1.lt, h.h3.below hb h.h3.lt, h.o1.below hb, h.o3.below hb⟩
theorem OwnI.far {w w' : World} {base : Nat} {v : Value} {xs : List Int} (h : OwnI w base v xs) (hk : ∀ k, v.ownBlock = some k → w'.heap[k]? = w.heap[k]?) : OwnI w' base v xs := by
  refine ⟨h.1, ?_⟩
  rcases h.2 with h0 | ⟨g, cap, cur, e, hg, hh, r⟩
  · exact .inl h0
  · exact .inr ⟨g, cap, cur, e, hg, (hk g (by rw [e]; rfl)).trans hh, r⟩
/-- The block of a row of integers is no aggregate's. -/
theorem OwnI.other {w : World} {base g : Nat} {A : Option Addr} {n c : Nat} {xs : List Int} {cs : Array Value} (h : OwnI w base (.slice A n c) xs) (hg : Has w g 29 cs) : ∀ ad, A = some ad → g ≠ ad.block := by
  intro ad e he
  rcases h.2 with ⟨e0, _⟩ | ⟨g0, cap, cur, e0, _, hh, _⟩
  · injection e0 with e1; rw [e1] at e; cases e
  · injection e0 with e1
    rw [e1] at e
    injection e with e
    subst e
    subst he
    exact has_types (show Has w _ 3 cur from hh) hg (by decide)

set_option maxRecDepth 100000 in
set_option maxHeartbeats 4000000 in
theorem accs_any (x : It) (A : Option Addr) (n c : Nat) (xs : List Ac) (B : Option Addr) (m d : Nat) (bs : List Int) (w : World) (hr : AccsR w A n xs) (hn : n * 120 ≤ 140737488351232) (hbs : Ints w B m bs) (hm : m * 8 ≤ 140737488351232) (hnil : B = none → d = 0) :
    Calls Try.prog 3 #[.agg #[.int .i64 x.s, .int .i64 x.t, .int .i64 x.q, .int .i64 x.v], .slice A n c, .slice B m d] w fun e w' => e = .returned (.bool true) ∧ Below w.heap.size w w' := by
  have hm63 : m ≤ maxLen := by unfold maxLen; omega
  have hn63 : n ≤ 17592186044416 := by omega
  have HLB := Lib.hid hbs.1
  obtain ⟨V1, code1, cP1, cR1⟩ := both_one x bs m hm63
  obtain ⟨V2, code2, cP2, cR2⟩ := both_join bs xs m n hm63 hn63
  have CP1 := Lib.hid cP1; clear cP1
  have CR1 := Lib.hid cR1; clear cR1
  have CP2 := Lib.hid cP2; clear cP2
  have CR2 := Lib.hid cR2; clear cR2
  have hb0 : ∀ o, Below w.heap.size w (w.alloc o) := fun o => (Below.refl _ _).alloc (Nat.le_refl _) o
  have HB0 := Lib.hid hb0; clear hb0
  have HIT : Hid (∀ o, o = Obj.cells #[.int .i64 x.s, .int .i64 x.t, .int .i64 x.q, .int .i64 x.v] 23 → Has (w.alloc o) w.heap.size 23 #[.int .i64 x.s, .int .i64 x.t, .int .i64 x.q, .int .i64 x.v]) := fun o e => by subst e; exact Has.made _ _ _
  have HBS := Lib.hid hbs; clear hbs
  have HROW := Lib.hid hr; clear hr
  go_enter Try.func3, Try.ntmps3
  go_wp2_with fail
  refine (lendints_any B m d bs _ (HBS.out.below (HB0.out _)) hm hnil).mono ?_
  rintro e w1 ⟨L, lc, rfl, hlo, hb⟩
  have HIT1 := Lib.hid ((HIT.out _ rfl).below hb (by simp))
  have HK1 := Lib.hid ((HB0.out _).trans (hb.mono (by simp)))
  have HLO := Lib.hid (hlo.mono (show w.heap.size ≤ _ by simp))
  clear hb hlo HIT
  go_wp2_with fail
  refine (copyaccs_any A n c xs _ (HROW.out.below HK1.out) hn).mono ?_
  rintro e w2 ⟨C, cc, rs, rfl, hco, hrs, hb⟩
  have HCO : Hid (OwnG w2 w.heap.size (.slice C n cc) rs) := ⟨hco.row.mono HK1.out.size, hco.hist⟩
  have HS : Hid (AcS w x B m bs A n xs L lc C cc rs w2) := ⟨HIT1.out.below hb HIT1.out.lt, HBS.out.below (HK1.out.trans (hb.mono HK1.out.size)), HROW.out.accs.below (HK1.out.trans (hb.mono HK1.out.size)), HLO.out.below hb, HCO.out, HK1.out.trans (hb.mono HK1.out.size)⟩
  have HRS := Lib.hid hrs
  clear hb hco hrs HCO HLO HIT1 HK1 HB0 HBS HROW
  go_wp2_with (refine load_itG rfl _ rfl _ rfl HS.out.it ?_)
  refine (CP1.out _ _ _ (lent_ints HS.out.lent HLB.out)).mono ?_
  rintro e w3 ⟨A1, n1, c1, rfl, ho1, hb1⟩
  have HO1 := Lib.hid ho1
  have HB1 := Lib.hid hb1
  clear ho1 hb1
  go_upto_region 3 with (refine store_new rfl _ _ rfl rfl rfl rfl ?_; intro wn hbn hvn)
  have HV1 := Lib.hid hvn
  replace HO1 := Lib.hid (HO1.out.below hbn)
  replace HB1 := Lib.hid (HB1.out.trans (hbn.mono HB1.out.size))
  clear hbn hvn
  go_wp2_with (refine load_itG rfl _ rfl _ rfl (HS.out.below HB1.out).it ?_)
  refine (CR1.out _ _ _ (HS.out.below HB1.out).bnd).mono ?_
  rintro e w4 ⟨A2, n2, c2, rfl, ho2, hn2, hb2⟩
  replace HV1 := Lib.hid (HV1.out.below hb2 HV1.out.lt)
  replace HO1 := Lib.hid (HO1.out.below hb2)
  replace HB1 := Lib.hid (HB1.out.trans (hb2.mono HB1.out.size))
  have HO2 := Lib.hid ho2
  clear ho2 hb2
  go_upto_region 4 with (refine store_new rfl _ _ rfl rfl rfl rfl ?_; intro wn2 hbn hvn)
  have HV2 := Lib.hid hvn
  replace HO2 := Lib.hid (HO2.out.below hbn)
  replace HO1 := Lib.hid (HO1.out.below hbn)
  replace HV1 := Lib.hid (HV1.out.below hbn HV1.out.lt)
  replace HB1 := Lib.hid (HB1.out.trans (hbn.mono HB1.out.size))
  clear hbn hvn
  go_wp2_with fail
  have HLT1 : Hid (∀ ad, A1 = some ad → ad.block < wn2.heap.size) := fun ad e => (World.ownsRow.lt HO1.out ad.block (by rw [e]; rfl)).2
  have HSZ2 : Hid (w2.heap.size ≤ wn2.heap.size) := HB1.out.size
  refine (CP2.out _ _ _ _ _ (lent_ints (HS.out.below HB1.out).lent HLB.out) (by have := (HS.out.below HB1.out).cop.accs; rw [HRS.out] at this; exact this)).mono ?_
  rintro e w5 ⟨A3, n3, c3, rfl, ho3, hb3⟩
  replace HV1 := Lib.hid (HV1.out.below hb3 HV1.out.lt)
  replace HV2 := Lib.hid (HV2.out.below hb3 HV2.out.lt)
  replace HO1 := Lib.hid (HO1.out.below hb3)
  replace HO2 := Lib.hid (HO2.out.below hb3)
  replace HB1 := Lib.hid (HB1.out.trans (hb3.mono HB1.out.size))
  have HO3 := Lib.hid ho3
  clear ho3 hb3
  go_upto_region 5 with (refine store_new rfl _ _ rfl rfl rfl rfl ?_; intro wn3 hbn hvn)
  have HV3 := Lib.hid hvn
  replace HV1 := Lib.hid (HV1.out.below hbn HV1.out.lt)
  replace HV2 := Lib.hid (HV2.out.below hbn HV2.out.lt)
  replace HO1 := Lib.hid (HO1.out.below hbn)
  replace HO2 := Lib.hid (HO2.out.below hbn)
  replace HO3 := Lib.hid (HO3.out.below hbn)
  replace HB1 := Lib.hid (HB1.out.trans (hbn.mono HB1.out.size))
  clear hbn hvn
  go_wp2_with fail
  refine (CR2.out _ _ _ _ _ (HS.out.below HB1.out).bnd (HS.out.below HB1.out).row).mono ?_
  rintro e w6 ⟨A4, n4, c4, rfl, ho4, hn4, hb4⟩
  replace HV1 := Lib.hid (HV1.out.below hb4 HV1.out.lt)
  replace HV2 := Lib.hid (HV2.out.below hb4 HV2.out.lt)
  replace HV3 := Lib.hid (HV3.out.below hb4 HV3.out.lt)
  replace HO1 := Lib.hid (HO1.out.below hb4)
  replace HO2 := Lib.hid (HO2.out.below hb4)
  replace HO3 := Lib.hid (HO3.out.below hb4)
  replace HB1 := Lib.hid (HB1.out.trans (hb4.mono HB1.out.size))
  have HO4 := Lib.hid ho4
  clear ho4 hb4
  go_upto_region 6 with (refine store_new rfl _ _ rfl rfl rfl rfl ?_; intro wn4 hbn hvn)
  have HV4 := Lib.hid hvn
  replace HV1 := Lib.hid (HV1.out.below hbn HV1.out.lt)
  replace HV2 := Lib.hid (HV2.out.below hbn HV2.out.lt)
  replace HV3 := Lib.hid (HV3.out.below hbn HV3.out.lt)
  replace HO1 := Lib.hid (HO1.out.below hbn)
  replace HO2 := Lib.hid (HO2.out.below hbn)
  replace HO3 := Lib.hid (HO3.out.below hbn)
  replace HO4 := Lib.hid (HO4.out.below hbn)
  replace HB1 := Lib.hid (HB1.out.trans (hbn.mono HB1.out.size))
  clear hbn hvn
  go_wp2_with (first | (refine load_has rfl _ rfl _ rfl HV1.out ?_) | (refine load_has rfl _ rfl _ rfl HV2.out ?_))
  have e1 : n1 = V1.h.length := HO1.out.ints.1.symm
  have e2 : n2 = V1.h.length := HO2.out.1.symm
  subst e1
  subst e2
  refine (sameAcc_true V1 _ _ _ _ _ _ HO1.out.ints HO2.out hn2).mono ?_
  rintro e w7 ⟨rfl, hb7⟩
  replace HV1 := Lib.hid (HV1.out.below hb7 HV1.out.lt)
  replace HV3 := Lib.hid (HV3.out.below hb7 HV3.out.lt)
  replace HV4 := Lib.hid (HV4.out.below hb7 HV4.out.lt)
  replace HO1 := Lib.hid (HO1.out.below hb7)
  replace HO3 := Lib.hid (HO3.out.below hb7)
  replace HO4 := Lib.hid (HO4.out.below hb7)
  replace HB1 := Lib.hid (HB1.out.trans (hb7.mono HB1.out.size))
  clear hb7
  have e3 : n3 = V2.h.length := HO3.out.ints.1.symm
  have e4 : n4 = V2.h.length := HO4.out.1.symm
  subst e3
  subst e4
  go_wp2_with (first | (refine load_hasG rfl _ rfl _ rfl HV3.out ?_) | (refine load_hasG rfl _ rfl _ rfl HV4.out ?_) | (go_at_call 19; refine (num_any _ _).mono ?_; rintro e w' ⟨rfl, rfl⟩))
  refine (sameAcc_true V2 _ _ _ _ _ _ HO3.out.ints HO4.out hn4).mono ?_
  rintro e w8 ⟨rfl, hb8⟩
  replace HV1 := Lib.hid (HV1.out.below hb8 HV1.out.lt)
  replace HV3 := Lib.hid (HV3.out.below hb8 HV3.out.lt)
  replace HO1 := Lib.hid (HO1.out.below hb8)
  replace HO3 := Lib.hid (HO3.out.below hb8)
  replace HB1 := Lib.hid (HB1.out.trans (hb8.mono HB1.out.size))
  clear hb8
  go_wp2_with (go_at_call 19; refine (num_any _ _).mono ?_; rintro e w' ⟨rfl, rfl⟩)
  have HL : Hid (AcL w3.heap.size w5.heap.size w2.heap.size wn2.heap.size V1 A1 c1 V2 A3 c3 w8) := ⟨HV1.out, HV3.out, HO1.out, HO3.out⟩
  clear HV1 HV2 HV3 HV4 HO1 HO2 HO3 HO4 CP1 CR1 CP2 CR2
  go_loopw [17] (fun i wr => ∃ j : Nat, j ≤ n ∧ i = .int .i64 j ∧ Hid (Below w2.heap.size w2 wr) ∧ Hid (AcL w3.heap.size w5.heap.size w2.heap.size wn2.heap.size V1 A1 c1 V2 A3 c3 wr)) (fun i _ => n - (intOf i).toNat)
  case atStart => exact ⟨0, Nat.zero_le _, rfl, HB1, HL⟩
  case round =>
    clear HB1 HL
    obtain ⟨j, hj, rfl, HB, HL⟩ := hrel
    by_cases hlt : j < n
    · have hcp := (HS.out.below HB.out).cop.accs
      rw [HRS.out] at hcp
      obtain ⟨b1, o1, rfl, h1⟩ := hcp.2 (by omega)
      obtain ⟨D1, k1, e1, r1⟩ := h1 j hlt
      obtain ⟨b2, o2, rfl, h2⟩ := (HS.out.below HB.out).row.2 (by omega)
      obtain ⟨D2, k2, e2, r2⟩ := h2 j hlt
      obtain rfl : k2 = k1 := r2.2.1.1.symm.trans r1.2.1.1
      have R1 := Lib.hid r1
      have R2 := Lib.hid r2
      clear h1 h2 r1 r2 hcp
      have hjn : (j : Int) < (n : Int) := by omega
      go_upto_region 11 with fail
      refine ac11_any (b1 := b1) (o1 := o1) (b2 := b2) (o2 := o2) (n := n) (c := cc) (d := c) (j := j) (Z := nthA xs j) (A1 := D1) (A2 := D2) (k := k2) (c1 := e1) (c2 := e2) (B1 := L) (B2 := B) (m := m) (d1 := lc) (d2 := d) (V := accB (nthA xs j) bs) (bs := bs) ⟨rfl, rfl, rfl, rfl, rfl, rfl, R1.out, R2.out, lent_ints (HS.out.below HB.out).lent HLB.out, (HS.out.below HB.out).bnd, hm63, hlt, rfl⟩ (by kernel_rfl) ?_
      intro w9 hB9
      have HB9 := Lib.hid (HB.out.trans (hB9.mono HB.out.size))
      have HL9 := Lib.hid (HL.out.below hB9)
      clear hB9 R1 R2 HB HL
      simp only [putAll, Act.put, List.setIfInBounds_toArray, List.set_cons_succ, List.set_cons_zero]
      go_wp2_with fail
      go_roundw
      case rel => exact ⟨j + 1, by omega, by go_num, HB9, HL9⟩
      case measure => simp [intOf]; omega
    · have hjm : n = j := by omega
      subst hjm
      have hc1 : wr.cell? ⟨w3.heap.size, 12, none⟩ = some (.slice A1 V1.h.length c1) := HL.out.h1.cell 12
      go_wp2_with fail
      refine (spoil_own A1 V1.h.length c1 V1.h w2.heap.size _ HL.out.o1 hn2).mono ?_
      rintro e w9 ⟨rfl, hb9, ho9⟩
      have H3 : Hid (Has w9 w5.heap.size 29 (accC V2 A3 V2.h.length c3)) := (ho9 _ (HL.out.o1.other HL.out.h3)).trans HL.out.h3
      have HO3 : Hid (OwnI w9 wn2.heap.size (.slice A3 V2.h.length c3) V2.h) := HL.out.o3.far fun k hk => ho9 k fun ad e => by
        have h1 := (World.ownsRow.lt HL.out.o3 k hk).1
        have h2 := HLT1.out ad e
        omega
      have HB9 := Lib.hid (HB.out.trans hb9)
      clear hb9 ho9 hc1 HB HL
      have hc3 : w9.cell? ⟨w5.heap.size, 12, none⟩ = some (.slice A3 V2.h.length c3) := H3.out.cell 12
      go_wp2_with fail
      refine (spoil_own A3 V2.h.length c3 V2.h wn2.heap.size _ HO3.out hn4).mono ?_
      rintro e w10 ⟨rfl, hb10, _⟩
      have HBT := Lib.hid (HB9.out.trans (hb10.mono HSZ2.out))
      clear hb10 hc3 HB9 H3 HO3
      go_wp2_with fail
      have hcp := (HS.out.below HBT.out).cop.accs
      rw [HRS.out] at hcp
      refine (sameaccs_any C A n cc c xs _ hcp (HS.out.below HBT.out).row hn63).mono ?_
      rintro e w11 ⟨rfl, hb11⟩
      have HBU := Lib.hid (HBT.out.trans (hb11.mono HBT.out.size))
      clear hb11 hcp HBT
      go_wp2_with fail
      refine (keptints_any L B m lc d bs w.heap.size _ (HS.out.below HBU.out).lent HLB.out (HS.out.below HBU.out).bnd hm).mono ?_
      rintro e w12 ⟨rfl, k, rfl⟩
      go_wp2_with fail
      refine (awake_any _).mono ?_
      rintro e w13 ⟨rfl, hb13⟩
      go_wp2_with fail
      go_ret
      exact ⟨rfl, HS.out.keep.trans (((below_drewN HBU.out k).trans (hb13.mono (below_drewN HBU.out k).size)).mono HS.out.keep.size)⟩

end Go.Proofs.Ytigjnmjmjhbigaa
