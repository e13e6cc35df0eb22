/-
  Walk: Queues.
-/
import Derived.Test.YtjmaeiilkbfnaaaQ15
import Derived.Test.YtjmaeiilkbfnaaaFMask
import Derived.IntWalk
import Derived.Deep.DeepCutAuto
import Derived.Deep.CutBlock
import Derived.OpenShut
namespace Go.Proofs.Ytjmaeiilkbfnaaa
open Go.RowKit

set_option maxRecDepth 100000 in
set_option maxHeartbeats 2000000 in
theorem queues_no (B : Option Addr) (m d : Nat) (bs : List Int) (va vs : Value) (w : World) (hbs : Ints w B m bs) (hm : m * 8 ≤ 140737488351232) (h : boundsB bs = false) :
    Calls Try.prog 4 #[.slice B m d, va, vs] w fun e w' => e = .returned (.bool true) ∧ Below w.heap.size w w' := by
  have HBS := Lib.hid hbs
  have HB := Lib.hid h
  have hml : m ≤ maxLen := by unfold maxLen; omega
  clear hbs h
  go_enter Try.func4, Try.ntmps4
  go_wp2_with fail
  refine (qnew_no B m d bs w HBS.out hml HB.out).mono ?_
  rintro e w1 ⟨rfl, hb⟩
  have B1 := Lib.hid hb
  clear hb
  go_wp2_with fail
  refine (rqnew_no B m d bs w1 (HBS.out.below B1.out) hml HB.out).mono ?_
  rintro e w2 ⟨rfl, hb⟩
  have B2 := Lib.hid (B1.out.trans (hb.mono B1.out.size))
  clear hb B1
  go_wp2_with (go_at_call 14; refine (num_any _ _).mono ?_; rintro e w' ⟨rfl, rfl⟩)
  refine (aw17_any w2).mono ?_
  rintro e w3 ⟨rfl, hb⟩
  have B3 := Lib.hid (B2.out.trans (hb.mono B2.out.size))
  clear hb B2
  go_wp2_with fail
  go_ret
  exact ⟨rfl, B3.out⟩

theorem own_caps2 {w : World} {base n c : Nat} {A : Option Addr} {l : List Int} (ho : OwnI w base (.slice A n c) l) : n ≤ c ∧ c ≤ maxLen := ho.caps.2
set_option maxRecDepth 100000 in
set_option maxHeartbeats 8000000 in
theorem queues_ok (B : Option Addr) (m d : Nat) (bs : List Int) (A : Option Addr) (n c : Nat) (ax : List Ac) (S : Option Addr) (sn sc : Nat) (st : List Int) (w : World) (hbs : Ints w B m bs) (hnil : B = none → d = 0) (has : AccsR w A n ax) (hn : n * 120 ≤ 140737488351232) (hst : Ints w S sn st) (hsn : sn * 8 ≤ 140737488351232) (h : boundsB bs = true) :
    Calls Try.prog 4 #[.slice B m d, .slice A n c, .slice S sn sc] w fun e w' => e = .returned (.bool true) ∧ Below w.heap.size w w' := by
  have HBS := Lib.hid hbs
  have HB := Lib.hid h
  have HNIL := Lib.hid hnil
  have HAS := Lib.hid has
  have HST := Lib.hid hst
  have HNA := Lib.hid has.1
  clear hbs h hnil has hst
  go_enter Try.func4, Try.ntmps4
  go_wp2_with fail
  refine (qnew_ok B m d bs w HBS.out HNIL.out HB.out).mono ?_
  intro e w1 hnew
  obtain ⟨g, rfl, hq, hb⟩ := pq_new hnew
  have L1 := Lib.hid (lq_new (Below.refl _ w) hq hb)
  clear hnew hq hb
  go_wp2_with fail
  refine (rqnew_ok B m d bs w1 (HBS.out.below L1.out.keep) HNIL.out HB.out).mono ?_
  intro e w2 hnew
  obtain ⟨r, rfl, hq, hb⟩ := lr_new (w0 := w) L1.out.size hnew
  have HQQ := Lib.hid (show QQ w g r bs [] w2 from ⟨_, _, L1.out.below hb, hq, fun k h1 h2 => by omega, RowJ.nil HB.out⟩)
  clear hnew hq hb L1
  go_wp2_with (go_at_call 14; refine (num_any _ _).mono ?_; rintro e w' ⟨rfl, rfl⟩)
  go_loopw [11, 12] (fun a i wr => ∃ (j t : Nat) (xs : List Ac), j ≤ 60 ∧ j ≤ sn ∧ t ≤ n ∧ t ≤ j ∧ a = .int .i64 t ∧ i = .int .i64 j ∧ Hid (xs.length ≤ j) ∧ Hid (QQ w g r bs xs wr)) (fun _ i _ => 61 - (intOf i).toNat)
  case atStart => exact ⟨0, 0, [], by omega, by omega, by omega, by omega, rfl, rfl, Nat.le_refl _, HQQ⟩
  case round =>
    clear HQQ
    obtain ⟨j, t, xs, hj60, hjs, htn, htj, rfl, rfl, HXL, HQQ⟩ := hrel
    have HQK := Lib.hid (show Below w.heap.size w wr by obtain ⟨OP, OR, h, _⟩ := HQQ.out; exact h.keep)
    by_cases hgo : j < sn ∧ j < 60
    · obtain ⟨hlt, hlt60⟩ := hgo
      have hz1 : (j : Int) < (sn : Int) := by omega
      have hz2 : (j : Int) < 60 := by omega
      obtain ⟨sb, sf, rfl, hsc⟩ := (HST.out.below HQK.out).at_ hlt
      have hcj := hsc j hlt
      have hvb : bits .and .i64 (nth st j) 3 = nth st j % 4 := mask3 _
      clear hsc
      obtain ⟨bk, hbk⟩ : ∃ bk : Bool, decide (nth st j % 4 = 0 ∨ n ≤ t) = bk := ⟨_, rfl⟩
      have HBK := Lib.hid hbk
      clear hbk
      go_upto_region 11 with fail
      go_cut [71] (fun v wx => v = .bool bk ∧ wx = wr)
      case first =>
        by_cases hr3 : nth st j % 4 = 0
        · have e : bk = true := by rw [← HBK.out]; exact decide_eq_true (.inl hr3)
          subst e
          go_wp2_with fail
          go_meet
          exact ⟨rfl, rfl⟩
        · have hr4 : (nth st j % 4 == 0) = false := by simpa using hr3
          by_cases hl0 : n ≤ t
          · have hl1 : (n : Int) ≤ (t : Int) := by omega
            have e : bk = true := by rw [← HBK.out]; exact decide_eq_true (.inr hl0)
            subst e
            clear hr3
            go_wp2_with fail
            go_meet
            exact ⟨rfl, rfl⟩
          · have hl1 : ¬ (n : Int) ≤ (t : Int) := by omega
            have e : bk = false := by rw [← HBK.out]; exact decide_eq_false (fun h => by rcases h with h | h; exact hr3 h; exact hl0 h)
            subst e
            clear hr3
            go_wp2_with fail
            go_meet
            exact ⟨rfl, rfl⟩
      case rest =>
        obtain ⟨rfl, rfl⟩ := hcut
        obtain ⟨wA, hwA⟩ : ∃ u, u = wc := ⟨_, rfl⟩
        subst hwA
        clear hcj hvb
        go_upto_if 71 with fail
        go_cut [11, 13, 14, 15, 16, 17, 18] (fun v _ _ _ _ _ _ wx => ∃ (t2 : Nat) (xs2 : List Ac), v = .int .i64 t2 ∧ t2 ≤ n ∧ t2 ≤ j + 1 ∧ Hid (xs2.length ≤ j + 1) ∧ Hid (QQ w g r bs xs2 wx))
        case first =>
          cases bk with
          | true =>
            obtain ⟨OP, OR, h1, h2, h3, h4⟩ := HQQ.out
            cases xs with
            | nil =>
              have H1 := Lib.hid h1
              have H2 := Lib.hid h2
              have H3 := Lib.hid h3
              have H4 := Lib.hid h4
              clear h1 h2 h3 h4 HQQ
              go_wp2_with fail
              refine H1.out.q.popNone.mono ?_
              rintro e w3 ⟨rfl, hb⟩
              have hb2 := below_alloc hb (Nat.le_refl _) (.cells (accC zeroAc none 0 0) 29)
              have K1 := Lib.hid (H1.out.below hb2)
              have K2 := Lib.hid (H2.out.below hb2)
              have X1 := Lib.hid (Has.made w3 29 (accC zeroAc none 0 0))
              clear hb hb2 H1 H2
              go_wp2_with (refine store_made rfl _ _ rfl (ac := zeroAc) (A := none) (k := 0) (c := 0) rfl rfl rfl ?_)
              refine K2.out.popNone.mono ?_
              rintro e w4 ⟨rfl, hb⟩
              have hb2 := below_alloc hb (Nat.le_refl _) (.cells (accC zeroAc none 0 0) 29)
              have M1 := Lib.hid (K1.out.below hb2)
              have M2 := Lib.hid (K2.out.below hb2)
              have Y1 := Lib.hid (X1.out.below hb2 X1.out.lt)
              clear hb hb2 K1 K2 X1
              have Y2 := Lib.hid (Has.made w4 29 (accC zeroAc none 0 0))
              go_upto_region 14 with (refine store_made rfl _ _ rfl (ac := zeroAc) (A := none) (k := 0) (c := 0) rfl rfl rfl ?_)
              generalize w4.alloc _ = w5 at M1 M2 Y1 Y2 ⊢
              generalize w4.heap.size = y2 at Y2 ⊢
              generalize w3.heap.size = y1 at Y1 ⊢
              go_wp2_with (first | (refine load_has rfl _ rfl y1 rfl Y1.out ?_) | (refine load_has rfl _ rfl y2 rfl Y2.out ?_))
              refine (sameAcc_true zeroAc none none 0 0 0 w5 Ints.nil Ints.nil (by unfold maxLen; omega)).mono ?_
              rintro e w6 ⟨rfl, hb⟩
              have N1 := Lib.hid (M1.out.below hb)
              have N2 := Lib.hid (M2.out.below hb)
              have hc12 : w6.cell? ⟨y1, 12, none⟩ = some (.slice none 0 0) := (Y1.out.below hb Y1.out.lt).cell 12
              clear hb M1 M2 Y1 Y2
              go_wp2_with (go_at_call 14; refine (num_any _ _).mono ?_; rintro e w' ⟨rfl, rfl⟩)
              refine (spoil17 none 0 0 [] w6 (OwnI.nil _ _) (by unfold maxLen; omega)).mono ?_
              rintro e w7 ⟨rfl, hb⟩
              have HF := Lib.hid (QQ.spoiled N1.out N2.out H3.out H4.out hb (fun k e => by simp [Value.ownBlock] at e))
              clear hb N1 N2 hc12
              go_wp2_with fail
              go_meet
              case rel => exact ⟨t, [], rfl, by omega, by omega, Lib.hid (by simp), HF⟩
            | cons a ys =>
              have H4 := Lib.hid h4
              have hlt3 : ∀ k, OR k → k < wA.heap.size := h2.hi
              have HLN := Lib.hid (show (a :: ys).length ≤ 65535 by have := HXL.out; omega)
              have HPOP := Lib.hid (h1.pop h4 HLN.out)
              have H2 := Lib.hid h2
              have H3 := Lib.hid h3
              have HLT := Lib.hid hlt3
              have HS0 := Lib.hid h1.size
              clear h1 h2 h3 h4 hlt3 HQQ
              go_wp2_with fail
              refine HPOP.out.mono ?_
              rintro e w3 ⟨h, cc, rfl, ho, hb, l1, hlo, hhi, hg⟩
              have hal := (Below.refl w3.heap.size w3).alloc (Nat.le_refl _) (.cells (accC a (some ⟨h, 0, none⟩) a.h.length cc) 29)
              have hs3 := hb.size
              have hD3 : ∀ k, PopdO OP h wA w3 k → ¬ OR k := fun k hk hk2 => by
                rcases hk.1 with hk3 | hk3
                · exact H3.out k hk3 hk2
                · have := HLT.out k hk2; omega
              have hHH : ¬ OR h := fun hk2 => by
                rcases hg with hk3 | hk3
                · exact H3.out h hk3 hk2
                · have := HLT.out h hk2; omega
              have K1 := Lib.hid (l1.below hal)
              have K2 := Lib.hid ((H2.out.butO hb fun k ho hk => H3.out k hk ho).below hal)
              have KI := Lib.hid (show ∀ k, PopdO OP h wA w3 k → k < w3.heap.size ∧ ¬ OR k from fun k hk => ⟨l1.hi k hk, hD3 k hk⟩)
              have KO := Lib.hid (ho.below hal)
              have X1 := Lib.hid (show Has (w3.alloc (.cells (accC a (some ⟨h, 0, none⟩) a.h.length cc) 29)) w3.heap.size 29 (accC a (some ⟨h, 0, none⟩) a.h.length cc) ∧ ¬ OR w3.heap.size from ⟨Has.made _ _ _, fun e => by have := HLT.out _ e; omega⟩)
              have XH := Lib.hid (show w.heap.size ≤ h ∧ h < w3.heap.size ∧ ¬ OR h ∧ ¬ PopdO OP h wA w3 h from ⟨hlo, hhi, hHH, fun e => e.2 rfl⟩)
              clear ho hb l1 hlo hhi hg hal hD3 hHH HPOP H2 H3 HLT
              generalize PopdO OP h wA w3 = OP1 at K1 KI XH
              go_wp2_with (refine store_made rfl _ _ rfl rfl rfl rfl ?_)
              refine (K2.out.pop K1.out.size (by have := HLN.out; rw [List.length_cons] at this; omega)).mono ?_
              rintro e w5 ⟨A2, k2, c2, rfl, ho2, l2, hb2⟩
              obtain rfl : a.h.length = k2 := ho2.ints.1
              have hs4 : (w3.alloc (.cells (accC a (some ⟨h, 0, none⟩) a.h.length cc) 29)).heap.size = w3.heap.size + 1 := by simp
              have hal := (Below.refl w5.heap.size w5).alloc (Nat.le_refl _) (.cells (accC a A2 a.h.length c2) 29)
              have M1 := Lib.hid ((K1.out.butO hb2 K2.out.lo fun k hk => (KI.out k hk).2).below hal)
              have M2 := Lib.hid (l2.below hal)
              have MO := Lib.hid ((KO.out.butO hb2 fun k e => by have e2 : some h = some k := e; injection e2 with e3; exact e3 ▸ XH.out.2.2.1).below hal)
              have MR := Lib.hid (ho2.below hal)
              have Y1 := Lib.hid ((X1.out.1.butO hb2 X1.out.2).alloc (.cells (accC a A2 a.h.length c2) 29))
              have Y2 := Lib.hid (Has.made w5 29 (accC a A2 a.h.length c2))
              have MD := Lib.hid (show (∀ k, OP1 k → ¬ GrowO OR (w3.alloc (.cells (accC a (some ⟨h, 0, none⟩) a.h.length cc) 29)) w5 k) ∧ w.heap.size ≤ h ∧ ¬ OP1 h ∧ ¬ GrowO OR (w3.alloc (.cells (accC a (some ⟨h, 0, none⟩) a.h.length cc) 29)) w5 h from
                ⟨fun k hk hk2 => by
                  rcases hk2 with hk2 | hk2
                  · exact (KI.out k hk).2 hk2
                  · have := (KI.out k hk).1; omega, XH.out.1, XH.out.2.2.2, fun hk2 => by
                  rcases hk2 with hk2 | hk2
                  · exact XH.out.2.2.1 hk2
                  · have := XH.out.2.1; omega⟩)
              clear ho2 l2 hb2 hal hs4 hs3 K1 K2 KI KO X1 XH
              generalize GrowO OR _ w5 = OR1 at M2 MD
              go_upto_region 14 with (refine store_made rfl _ _ rfl rfl rfl rfl ?_)
              generalize w5.alloc _ = w6 at M1 M2 MO MR Y1 Y2 ⊢
              generalize w5.heap.size = y2 at Y2 ⊢
              generalize w3.heap.size = y1 at Y1 ⊢
              have hcap := own_caps MO.out
              go_wp2_with (first | (refine load_has rfl _ rfl y1 rfl Y1.out ?_) | (refine load_has rfl _ rfl y2 rfl Y2.out ?_))
              refine (sameAcc_true a (some ⟨h, 0, none⟩) A2 a.h.length cc c2 w6 MO.out.ints MR.out.ints (by omega)).mono ?_
              rintro e w7 ⟨rfl, hb⟩
              have N1 := Lib.hid (M1.out.below hb)
              have N2 := Lib.hid (M2.out.below hb)
              have NO := Lib.hid (MO.out.below hb)
              have hc12 : w7.cell? ⟨y1, 12, none⟩ = some (.slice (some ⟨h, 0, none⟩) a.h.length cc) := (Y1.out.below hb Y1.out.lt).cell 12
              clear hb M1 M2 MO MR Y1 Y2
              go_wp2_with (go_at_call 14; refine (num_any _ _).mono ?_; rintro e w' ⟨rfl, rfl⟩)
              refine (spoil17 (some ⟨h, 0, none⟩) a.h.length cc a.h w7 NO.out (by omega)).mono ?_
              rintro e w8 ⟨rfl, hb⟩
              have HF := Lib.hid (QQ.spoiled N1.out N2.out MD.out.1 (RowJ.tail H4.out) hb (fun k e => by have e2 : some h = some k := e; injection e2 with e3; exact e3 ▸ MD.out.2))
              have HLY := Lib.hid (show ys.length ≤ j + 1 by have := HXL.out; rw [List.length_cons] at this; omega)
              clear hb N1 N2 NO hc12 MD
              go_wp2_with fail
              go_meet
              case rel => exact ⟨t, ys, rfl, by omega, by omega, HLY, HF⟩
          | false =>
            have hbf : ¬ (nth st j % 4 = 0 ∨ n ≤ t) := of_decide_eq_false HBK.out
            have htn2 : t < n := by omega
            have htn3 : (t : Int) < (n : Int) := by omega
            clear hbf HBK
            obtain ⟨b, f, rfl, hax⟩ := HAS.out.2 (by omega)
            obtain ⟨B1, k1, c1, hat, hn1, hk8⟩ := hax t htn2
            generalize nthA ax t = a at hat
            have HAT := Lib.hid (show ∀ w', Below w.heap.size w w' → AccAt w' b (f + t * 13) a B1 k1 c1 from fun w' hb => hat.belowW hb)
            have HN1 := Lib.hid hn1
            obtain ⟨OP, OR, h1, h2, h3, h4⟩ := HQQ.out
            obtain ⟨code, xs2, hJ2, hl2, hpP, hpR⟩ := both_push w g r a h4 (by have := HXL.out; omega)
            have HPP := Lib.hid hpP
            have HPR := Lib.hid hpR
            have HJ2 := Lib.hid hJ2
            have HL2 := Lib.hid (show xs2.length ≤ j + 1 by have := HXL.out; omega)
            have H1 := Lib.hid h1
            have H2 := Lib.hid h2
            have H3 := Lib.hid h3
            have hatr := HAT.out wA HQK.out
            have HIR := Lib.hid hatr
            clear hax hat hn1 h1 h2 h3 h4 hpP hpR hJ2 hl2 HQQ hatr
            go_wp2_with (refine load_acc rfl _ rfl b (f + t * 13) (by simp [go_sem]) HIR.out ?_)
            refine (copyown_any a B1 k1 c1 wA HIR.out.2.1 hk8 HN1.out).mono ?_
            rintro e w3 ⟨D, q, x, rfl, ho, hb⟩
            obtain rfl : a.h.length = q := ho.ints.1
            obtain rfl : a.h.length = k1 := HIR.out.2.1.1
            have hs3 := hb.size
            have hcap := own_caps2 ho
            have hal := (Below.refl w3.heap.size w3).alloc (Nat.le_refl _) (.cells (accC a D a.h.length x) 29)
            have hs4 : (w3.alloc (.cells (accC a D a.h.length x) 29)).heap.size = w3.heap.size + 1 := by simp
            have K1 := Lib.hid ((H1.out.below hb).below hal)
            have K2 := Lib.hid ((H2.out.below hb).below hal)
            have KO := Lib.hid (ho.below hal)
            have X1 := Lib.hid (Has.made w3 29 (accC a D a.h.length x))
            have KL := Lib.hid (show (∀ k, OP k → k < wA.heap.size) ∧ (∀ k, OR k → k < wA.heap.size) ∧ wA.heap.size ≤ w3.heap.size ∧ w.heap.size ≤ wA.heap.size from ⟨H1.out.hi, H2.out.hi, hs3, HQK.out.size⟩)
            have hkc := HIR.out.2.2
            clear ho hb hal H1 H2 HIR hs3
            go_upto_region 18 with (refine store_made rfl _ _ rfl rfl rfl rfl ?_)
            generalize w3.alloc _ = w4 at K1 K2 KO X1 hs4 ⊢
            generalize w3.heap.size = y at X1 hs4 KL ⊢
            go_wp2_with (refine load_has rfl _ rfl y rfl X1.out ?_)
            refine (HPP.out OP w4 D a.h.length x K1.out KO.out.ints hcap.1 hcap.2).mono ?_
            rintro e w5 ⟨rfl, hb5, OP2, l1, hOP2⟩
            have hs5 := hb5.size
            have L1 := Lib.hid l1
            have L2 := Lib.hid (K2.out.butO hb5 fun k ho hk => H3.out k hk ho)
            have LO := Lib.hid (KO.out.butO hb5 fun k e hk => by have := KO.out.newB k e; have := KL.out.1 k hk; omega)
            have LX := Lib.hid (X1.out.butO hb5 fun hk => by have := KL.out.1 y hk; have := KL.out.2.2.1; omega)
            have LW := Lib.hid (show (∀ k, OP2 k → OP k ∨ w4.heap.size ≤ k) ∧ w4.heap.size ≤ w5.heap.size ∧ ∀ k, (Value.slice D a.h.length x).ownBlock = some k → k < w4.heap.size from ⟨hOP2, hs5, fun k e => by obtain ⟨cu, hh⟩ := KO.out.has e; exact hh.lt⟩)
            clear l1 hb5 hOP2 hs5 K1 K2 X1 HPP
            go_upto_region 19 with fail
            have hyg : y ∉ gsOf OR w5.heap.size := fun e => by have := KL.out.2.1 y (mem_gsOf.1 e).2; have := KL.out.2.2.1; omega
            have hog : ∀ k, (Value.slice D a.h.length x).ownBlock = some k → k ∉ gsOf OR w5.heap.size := fun k e e2 => by have := LO.out.newB k e; have := KL.out.2.1 k (mem_gsOf.1 e2).2; omega
            have har : ∀ w', ButS (gsOf OR w5.heap.size) w5 w' → AccAt w' b (f + t * 13) a B1 a.h.length c1 := fun w' hb => HAT.out w' (hb.below L1.out.keep L1.out.size fun k hk => L2.out.lo k (mem_gsOf.1 hk).2)
            refine sqs19_any (g := r) (y := y) (b := b) (f := f) (n := n) (c := c) (t := t) (k := a.h.length) (d := c1) (q := a.h.length) (x := x) (X := w5.heap.size) (B := B1) (D := D) (u := a) (code := code) (gs := gsOf OR w5.heap.size) (Post := PostR w w5 OR r bs xs2)
              ⟨rfl, rfl, rfl, rfl, rfl, rfl, htn2, har, fun w' hb => LX.out.butS hb hyg, fun w' hb => ?_, fun w' hb => sameAcc_true a D B1 a.h.length x c1 w' (LO.out.butS hb hog).ints (har w' hb).2.1 (by omega), fun k hk => (mem_gsOf.1 hk).1, fun _ _ h hb => h.below hb⟩ (by kernel_rfl) ?_
            · refine (HPR.out OR w' B1 a.h.length c1 (L2.out.below hb) (by have := L1.out.size; have := hb.size; omega) (HAT.out w' (L1.out.keep.trans (hb.mono L1.out.size))).2.1 hkc.1 hkc.2 HN1.out hk8).mono ?_
              rintro e w8 ⟨rfl, hb6, OR2, l2, hOR2⟩
              exact ⟨rfl, butO_butS hb6 L2.out.hi, OR2, l2, fun k hk => by
                rcases hOR2 k hk with h | h
                · exact .inl h
                · exact .inr (Nat.le_trans hb.size h)⟩
            intro w6 hMI
            have hgr : ButS (gsOf OR w5.heap.size) w5 w6 := hMI.gr
            obtain ⟨OR2, l2, hOR2⟩ : PostR w w5 OR r bs xs2 w6 := hMI.st
            have N1 := Lib.hid (L1.out.butO (butS_butO (O := fun k => k ∈ gsOf OR w5.heap.size) hgr fun k hk => hk) (fun k hk => L2.out.lo k (mem_gsOf.1 hk).2) fun k hk hk2 => by
              have hor := (mem_gsOf.1 hk2).2
              rcases LW.out.1 k hk with h | h
              · exact H3.out k h hor
              · have := KL.out.2.1 k hor; have := KL.out.2.2.1; omega)
            have N2 := Lib.hid l2
            have NO := Lib.hid (LO.out.butS hgr hog)
            have hc12 : w6.cell? ⟨y, 12, none⟩ = some (.slice D a.h.length x) := (LX.out.butS hgr hyg).cell 12
            have ND := Lib.hid (show ∀ k, OP2 k → ¬ OR2 k from fun k hk hk2 => by
              rcases hOR2 k hk2 with h | h
              · rcases LW.out.1 k hk with h' | h'
                · exact H3.out k h' h
                · have := KL.out.2.1 k h; have := KL.out.2.2.1; omega
              · have := L1.out.hi k hk; omega)
            have NV := Lib.hid (show ∀ k, (Value.slice D a.h.length x).ownBlock = some k → w.heap.size ≤ k ∧ ¬ OP2 k ∧ ¬ OR2 k from fun k e => by
              have h9 := LO.out.newB k e
              have h10 := LW.out.2.2 k e
              have h11 := KL.out.2.2.2
              refine ⟨by omega, fun hk => ?_, fun hk => ?_⟩
              · rcases LW.out.1 k hk with h | h
                · have := KL.out.1 k h; omega
                · omega
              · rcases hOR2 k hk with h | h
                · have := KL.out.2.1 k h; omega
                · have := LW.out.2.1; omega)
            clear hMI hgr l2 hOR2 L1 L2 LO LX LW KO HPR har hog hyg HAT
            simp only [putAll, Act.put, List.setIfInBounds_toArray, List.set_cons_succ, List.set_cons_zero, List.drop_succ_cons, List.drop_zero]
            go_wp2_with fail
            refine (spoil17 D a.h.length x a.h w6 (NO.out.mono (Nat.zero_le _)) (by omega)).mono ?_
            rintro e w7 ⟨rfl, hb⟩
            have HF := Lib.hid (QQ.spoiled N1.out N2.out ND.out HJ2.out hb NV.out)
            clear hb N1 N2 ND NV NO hc12
            go_wp2_with fail
            go_meet
            case rel => exact ⟨t + 1, xs2, by go_num, by omega, by omega, HL2, HF⟩
        case rest =>
          obtain ⟨t2, xs2, rfl, ht2, ht3, HL2, HQ2⟩ := hcut
          obtain ⟨OP, OR, h1, h2, h3, h4⟩ := HQ2.out
          have HTOT := Lib.hid (h1.q.total h4 (by have := HL2.out; omega))
          have HJL := Lib.hid (joinAc_hl h4)
          have HLN := Lib.hid (show ∀ w', Below wc.heap.size wc w' → Calls Try.prog 31 #[.pointer (some ⟨g, 0, none⟩)] w' fun e w2 => e = .returned (.int .i64 (xs2.length : Nat)) ∧ ∃ k, w2 = w'.drewN k from fun w' hb => (h1.q.below hb).len (by have := HL2.out; omega))
          have HRT := Lib.hid (show ∀ w', Below wc.heap.size wc w' → Calls Try.prog 30 #[.pointer (some ⟨r, 0, none⟩)] w' (OutJ (joinAc bs xs2) w') from fun w' hb => (h2.below hb).total h4 (by have := HL2.out; omega))
          have H1 := Lib.hid h1
          have H2 := Lib.hid h2
          have H3 := Lib.hid h3
          have H4 := Lib.hid h4
          clear h1 h2 h3 h4 HQ2 HQQ
          generalize joinAc bs xs2 = V at HTOT HRT HJL
          go_wp2_with fail
          refine HTOT.out.mono ?_
          rintro e w3 ⟨Hh, hlo, rfl, hh, hb⟩
          have hal := below_alloc hb (Nat.le_refl _) (.cells (accC V (some ⟨Hh, 0, none⟩) V.h.length V.h.length) 29)
          have hlt3 := hh.lt
          have K1 := Lib.hid (H1.out.below hal)
          have K2 := Lib.hid (H2.out.below hal)
          have KX := Lib.hid (Has.made w3 29 (accC V (some ⟨Hh, 0, none⟩) V.h.length V.h.length))
          have KH := Lib.hid (hh.alloc (.cells (accC V (some ⟨Hh, 0, none⟩) V.h.length V.h.length) 29))
          have KB := Lib.hid hal
          have KN := Lib.hid (show w.heap.size ≤ Hh ∧ ¬ OP Hh ∧ ¬ OR Hh from ⟨by have := H1.out.size; omega, fun e => by have := H1.out.hi _ e; omega, fun e => by have := H2.out.hi _ e; omega⟩)
          clear hh hb hal hlo hlt3 H1 H2 HTOT
          go_upto_region 24 with (refine store_made rfl _ _ rfl rfl rfl rfl ?_)
          generalize w3.alloc _ = w5 at K1 K2 KX KH KB ⊢
          generalize w3.heap.size = y at KX ⊢
          obtain ⟨LA, lc, hcr⟩ := K2.out.field
          refine sqs24_any (g := g) (r := r) (y := y) (H := Hh) (ln := xs2.length) (lc := lc) (LA := LA) (V := V) ⟨rfl, rfl, rfl, rfl, KX.out, ints_of_has KH.out rfl, HJL.out.2, hcr, fun w' hb => HRT.out w' (KB.out.trans (hb.mono KB.out.size)), fun w' hb => HLN.out w' (KB.out.trans (hb.mono KB.out.size))⟩ (by kernel_rfl) ?_
          intro A130 n130 c130 w6 hB6 _
          have N1 := Lib.hid (K1.out.below hB6)
          have N2 := Lib.hid (K2.out.below hB6)
          have NH := Lib.hid (KH.out.below hB6 KH.out.lt)
          have hc12 : w6.cell? ⟨y, 12, none⟩ = some (.slice (some ⟨Hh, 0, none⟩) V.h.length V.h.length) := (KX.out.below hB6 KX.out.lt).cell 12
          clear hB6 K1 K2 KX KH KB hcr HRT HLN
          simp only [putAll, Act.put, List.setIfInBounds_toArray, List.set_cons_succ, List.set_cons_zero]
          go_wp2_with fail
          refine (spoil17 (some ⟨Hh, 0, none⟩) V.h.length V.h.length V.h w6 (own_of_has NH.out HJL.out.2) HJL.out.2).mono ?_
          rintro e w7 ⟨rfl, hb⟩
          have HF := Lib.hid (QQ.spoiled N1.out N2.out H3.out H4.out hb (fun k e => by have e2 : some Hh = some k := e; injection e2 with e3; exact e3 ▸ KN.out))
          clear hb N1 N2 NH hc12
          go_wp2_with fail
          go_roundw
          case rel => exact ⟨j + 1, t2, xs2, by omega, by omega, ht2, ht3, rfl, by go_num, HL2, HF⟩
          case measure => simp [intOf]; omega
    · have hx : ¬ (j : Int) < (sn : Int) ∨ ((j : Int) < (sn : Int) ∧ ¬ (j : Int) < 60) := by omega
      clear HQQ
      rcases hx with hx | ⟨hx, hy⟩
      · go_wp2_with fail
        refine (aw17_any wr).mono ?_
        rintro e w3 ⟨rfl, hb⟩
        have HF := Lib.hid (HQK.out.trans (hb.mono HQK.out.size))
        clear hb HQK
        go_wp2_with fail
        go_ret
        exact ⟨rfl, HF.out⟩
      · go_wp2_with fail
        refine (aw17_any wr).mono ?_
        rintro e w3 ⟨rfl, hb⟩
        have HF := Lib.hid (HQK.out.trans (hb.mono HQK.out.size))
        clear hb HQK
        go_wp2_with fail
        go_ret
        exact ⟨rfl, HF.out⟩

theorem queues_any (B : Option Addr) (m d : Nat) (bs : List Int) (A : Option Addr) (n c : Nat) (ax : List Ac) (S : Option Addr) (sn sc : Nat) (st : List Int) (w : World) (hbs : Ints w B m bs) (hm : m * 8 ≤ 140737488351232) (hnil : B = none → d = 0) (has : AccsR w A n ax) (hn : n * 120 ≤ 140737488351232) (hst : Ints w S sn st) (hsn : sn * 8 ≤ 140737488351232) (_ : S = none → sc = 0) :
    Calls Try.prog 4 #[.slice B m d, .slice A n c, .slice S sn sc] w fun e w' => e = .returned (.bool true) ∧ Below w.heap.size w w' := by
  cases h : boundsB bs with
  | false => exact queues_no B m d bs _ _ w hbs hm h
  | true => exact queues_ok B m d bs A n c ax S sn sc st w hbs hnil has hn hst hsn h

end Go.Proofs.Ytjmaeiilkbfnaaa
