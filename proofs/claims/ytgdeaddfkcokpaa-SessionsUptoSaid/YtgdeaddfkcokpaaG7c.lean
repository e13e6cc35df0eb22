/-
  Walk: the reference's AddSessions (written by gen/sesra.py).
  SameItems' drawn region (written by gen/sesi.py).
  Walks: the laws' helpers SameItems of like ones, CopyItems, LendItems, KeptItems, SpoilSessions.
  Walk: the laws' helper SpoilSessions: nothing that is older than the row is turned.
  Walk: Sessions: any sessions, items, gap, bounds: the program answers as the document; what is handed in stays.
-/
import Derived.Test.YtgdeaddfkcokpaaG7a
import Derived.Test.YtgdeaddfkcokpaaG7b
import Derived.Test.YtgdeaddfkcokpaaG6i
import Derived.Deep.MidRow
import Derived.Test.YtgdeaddfkcokpaaG7h
import Derived.Test.YtgdeaddfkcokpaaG7e
import Derived.Test.YtgdeaddfkcokpaaG6e
import Derived.Test.YtgdeaddfkcokpaaG7j
import Derived.Great.Walk
import Derived.Test.YtgdeaddfkcokpaaG6f
import Derived.Test.YtgdeaddfkcokpaaG6d
namespace Go.Proofs.Ytgdeaddfkcokpaa
open Go.RowKit

/-- What the reference hands out. -/
def AddR (g : Int) (bs : List Int) (ss : List Se) (xs : List It) (w : World) (e : Ending) (w' : World) : Prop :=
  ((sesB g bs ss && itsB ss xs) = false ∧ BadS 600 w e w') ∨
  ((sesB g bs ss && itsB ss xs) = true ∧ ((addT g bs xs ss = none ∧ BadS 101 w e w') ∨ ∃ T, addT g bs xs ss = some T ∧ GoodR T w e w'))
def GoodI (ss : List Se) (xs : List It) (i : Nat) : Prop := itemB (nthI xs i) = true ∧ (nthI xs i).s = (nthI xs 0).s ∧ (0 < ss.length → (nthI xs i).s = (nthE ss 0).a.f.s)
theorem goodI_of {ss : List Se} {xs : List It} (h : itsB ss xs = true) {i : Nat} (hi : i < xs.length) : GoodI ss xs i := by
  have h := of_decide_eq_true h
  refine ⟨(h i hi).1, by rw [(h i hi).2, (h 0 (by omega)).2], fun h0 => ?_⟩
  rw [(h i hi).2, serS, if_neg (by omega)]
theorem its_of {ss : List Se} {xs : List It} (h : ∀ i, i < xs.length → GoodI ss xs i) : itsB ss xs = true := by
  refine decide_eq_true fun i hi => ⟨(h i hi).1, ?_⟩
  by_cases h0 : ss.length = 0
  · rw [serS, if_pos h0]; exact (h i hi).2.1
  · rw [serS, if_neg h0]; exact (h i hi).2.2 (by omega)
theorem not_its {ss : List Se} {xs : List It} {i : Nat} (hi : i < xs.length) (h : ¬ GoodI ss xs i) : itsB ss xs = false := by
  cases hs : itsB ss xs with
  | false => rfl
  | true => exact absurd (goodI_of hs hi) h
theorem sesF_ser {g : Int} {bs : List Int} {ss : List Se} (xs : List It) (h : sesB g bs ss = true) : SesF bs (serS ss xs) ss := by
  by_cases h0 : ss.length = 0
  · rw [List.eq_nil_of_length_eq_zero h0]; exact fun s hs => by cases hs
  · rw [serS, if_neg h0]; exact sesF_of (ses_ok h).1
theorem ints_cells {w : World} {A : Option Addr} {k : Nat} {xs : List Int} (h : Ints w A k xs) {gv o : Nat} {cs : List Value} (hne : 0 < k → ∀ ad, A = some ad → ad.block ≠ gv) : Ints (w.setCells gv o cs) A k xs :=
  ⟨h.1, fun hk => by
    obtain ⟨b, p, e, hc⟩ := h.2 hk
    refine ⟨b, p, e, fun i hi => ?_⟩
    have hr : w.rangeAt b (p + i) [.int .i64 (nth xs i)] := fun j v hv => by
      match j, hv with
      | 0, hv => rw [Nat.add_zero, hc i hi]; simpa using hv
      | j + 1, hv => simp at hv
    have := World.rangeAt_setCells_apart hr gv o cs (.inl (hne hk _ e)) 0 _ rfl
    simpa using this⟩
theorem ses_store {w : World} {gv : Nat} {s : Se} {A A' : Option Addr} {k c k' c' : Nat} (h : Has w gv 60 (sesC s A k c)) (hI : Ints w A' k' s.a.h) (hne : 0 < k' → ∀ ad, A' = some ad → ad.block ≠ gv) (hk : k' ≤ c' ∧ c' ≤ maxLen) :
    SesAt (w.setCells gv 2 (accC s.a A' k' c').toList) gv 0 s A' k' c' := by
  have ht : w.there gv 2 (accC s.a A' k' c').toList.length := there_row h (by rw [accC_len, sesC_size]; omega)
  refine ⟨fun j v hv => ?_, ints_cells hI hne, hk⟩
  have hj : j < 15 := by have := (List.getElem?_eq_some_iff.1 hv).1; rwa [sesC_len] at this
  rw [Nat.zero_add]
  by_cases h2 : j < 2
  · have hr : w.rangeAt gv 0 [.int .i64 s.f, .int .i64 s.l] := rf_two (h.cell 0) (h.cell 1)
    have := World.rangeAt_setCells_apart hr gv 2 (accC s.a A' k' c').toList (.inr (.inl (by simp))) j v (by
      match j, h2, hv with
      | 0, _, hv => exact hv
      | 1, _, hv => exact hv)
    simpa using this
  · have := World.rangeAt_setCells_same w gv 2 _ ht (j - 2) v (by
      have e : (accC s.a A' k' c')[j - 2]? = (sesC s A' k' c')[j - 2 + 2]? := (sesC_acc s A' k' c' (j - 2)).symm
      rw [show j - 2 + 2 = j by omega] at e
      simpa using e.trans (by simpa using hv))
    rwa [show 2 + (j - 2) = j by omega] at this
theorem accC_size13 (a : Ac) (A : Option Addr) (k c : Nat) : (accC a A k c).size = 13 := rfl
theorem two_filters (p q : Se → Bool) : ∀ ss : List Se, (ss.filter p).length + (ss.filter fun s => !p s && q s).length ≤ ss.length
  | [] => by simp
  | s :: ss => by
    have h := two_filters p q ss
    simp only [List.filter_cons, List.length_cons]
    cases p s <;> cases q s <;> simp <;> omega
theorem addE_len (g : Int) (bs : List Int) (x : It) (ss : List Se) : (addE g bs x ss).length ≤ ss.length + 1 := by
  have h := two_filters (outE g x) (behE g x) ss
  unfold addE
  simp only [List.length_append, List.length_cons, List.length_nil]
  omega
theorem drop_it {xs : List It} {j : Nat} (h : j < xs.length) : xs.drop j = nthI xs j :: xs.drop (j + 1) := by
  rw [List.drop_eq_getElem_cons h]
  simp [nthI, h]
theorem addT_step {g : Int} {bs : List Int} {xs : List It} {ss T : List Se} {j : Nat} (h : addT g bs (xs.drop j) T = addT g bs xs ss) (hj : j < xs.length) :
    (8192 < (oneE g bs (nthI xs j) T).n → addT g bs xs ss = none) ∧ ((oneE g bs (nthI xs j) T).n ≤ 8192 → addT g bs (xs.drop (j + 1)) (addE g bs (nthI xs j) T) = addT g bs xs ss) := by
  rw [drop_it hj, addT] at h
  exact ⟨fun hb => by rw [← h, if_pos hb], fun hb => by rw [← h, if_neg (by omega)]⟩
structure TqS (g : Int) (bs : List Int) (ss : List Se) (xs : List It) (w : World) (j : Nat) (O : Option Addr) (no : Nat) (T : List Se) (wr : World) : Prop where
  ses : Sess wr O no T
  fit : SesF bs (serS ss xs) T
  add : addT g bs (xs.drop j) T = addT g bs xs ss
  keep : Below w.heap.size w wr
structure CqS (w : World) (ss : List Se) (j : Nat) (v : Value) (rs : List Rs) (wr : World) : Prop where
  row : RowE wr w.heap.size v rs
  ses : rs.map (·.s) = ss.take j
  keep : Below w.heap.size w wr

set_option maxRecDepth 100000 in
set_option maxHeartbeats 1000000 in
theorem raddall_any (A : Option Addr) (n c : Nat) (ss : List Se) (g : Int) (B : Option Addr) (m d : Nat) (bs : List Int) (X : Option Addr) (k cx : Nat) (xs : List It) (w : World) (hs : SessR w A n ss) (hn : n + k ≤ 100000000) (hbs : Ints w B m bs) (hm : m ≤ maxLen) (hx : Items w X k xs) :
    Calls Try.prog 27 #[.slice A n c, .int .i64 g, .slice B m d, .slice X k cx] w (AddR g bs ss xs w) := by
  have HL := Lib.hid hs.1
  have HXL := Lib.hid hx.1
  have HS := Lib.hid hs; clear hs
  have HBS := Lib.hid hbs; clear hbs
  have HX := Lib.hid hx; clear hx
  have HAL : Hid (∀ (W : World) o, Below W.heap.size W (W.alloc o)) := fun W o => (Below.refl _ _).alloc (Nat.le_refl _) o
  cases h1 : sesB g bs ss
  · go_enter Try.func27, Try.ntmps27
    go_wp2_with (go_at_call 31; refine (rsesmay_any A n c ss g B m d bs _ HS.out.sess (by omega) HBS.out hm).mono ?_; rintro e w1 ⟨rfl, hb1⟩; rw [h1]; have HB1 := Lib.hid hb1; clear hb1)
    go_ret2
    exact .inl ⟨by rw [h1]; rfl, rfl, HB1.out⟩
  · have H1 := Lib.hid h1
    go_enter Try.func27, Try.ntmps27
    go_wp2_with (go_at_call 31; refine (rsesmay_any A n c ss g B m d bs _ HS.out.sess (by omega) HBS.out hm).mono ?_; rintro e w1 ⟨rfl, hb1⟩; rw [h1]; have HB1 := Lib.hid hb1; clear hb1)
    clear h1
    go_loopw [10] (fun i wr => ∃ j : Nat, j ≤ k ∧ i = .int .i64 j ∧ Hid (∀ i, i < j → GoodI ss xs i) ∧ Hid (Below w.heap.size w wr)) (fun i _ => k - (intOf i).toNat)
    case atStart => exact ⟨0, Nat.zero_le _, rfl, fun i hi => by omega, HB1⟩
    case round =>
      clear HB1
      obtain ⟨j, hj, rfl, HJ, HW⟩ := hrel
      by_cases hlt : j < k
      · obtain ⟨b, fo, rfl, hi⟩ := (HX.out.below HW.out).2 (by omega)
        have hxq := hi j hlt
        have hx00 := hi 0 (by omega) 0 _ rfl
        rw [Nat.zero_mul, Nat.add_zero] at hx00
        have hxs : wr.cell? ⟨b, fo + j * 4, none⟩ = some (.int .i64 (nthI xs j).s) := hxq 0 _ rfl
        have hjl : j < xs.length := by rw [HXL.out]; exact hlt
        clear hi
        go_upto_region 6 with fail
        cases hi1 : itemB (nthI xs j)
        · skip
          refine ri0_any (x := nthI xs j) (C := A) (z0 := (nthI xs 0).s) (y0 := 0) (b := b) (fo := fo) (n := k) (r := cx) (q := j) (sb := 0) (so := 0) (ns := n) (rs := c) ⟨rfl, rfl, rfl, hxq, hxs, hx00, hlt, hi1⟩ (by kernel_rfl) ?_
          intro w2 b2
          simp only [putAll, Act.put, List.setIfInBounds_toArray, List.set_cons_succ, List.set_cons_zero]
          go_wp2_with fail
          go_ret2
          exact .inl ⟨by rw [not_its hjl (fun hg => by rw [hg.1] at hi1; cases hi1), Bool.and_false], rfl, HW.out.trans (b2.mono HW.out.size)⟩
        · by_cases hi2 : (nthI xs j).s = (nthI xs 0).s
          · by_cases hn0 : n = 0
            · skip
              refine ri2_any (x := nthI xs j) (C := A) (z0 := (nthI xs 0).s) (y0 := 0) (b := b) (fo := fo) (n := k) (r := cx) (q := j) (sb := 0) (so := 0) (ns := n) (rs := c) ⟨rfl, rfl, rfl, rfl, hxq, hxs, hx00, hlt, hi1, by simp [hi2], hn0⟩ (by kernel_rfl) ?_
              intro w2 b2
              have HJ2 : Hid (∀ i, i < j + 1 → GoodI ss xs i) := fun i hi => by
                by_cases e : i = j
                · subst e
                  exact ⟨hi1, hi2, fun h => by rw [HL.out] at h; omega⟩
                · exact HJ.out i (by omega)
              have HW2 : Hid (Below w.heap.size w w2) := HW.out.trans (b2.mono HW.out.size)
              clear HJ HW b2 hxq hx00 hxs
              simp only [putAll, Act.put, List.setIfInBounds_toArray, List.set_cons_succ, List.set_cons_zero]
              go_wp2_with fail
              go_roundw
              case rel => exact ⟨j + 1, by omega, by go_num, HJ2, HW2⟩
              case measure => simp [intOf]; omega
            · obtain ⟨sb, so, rfl, hsi⟩ := (HS.out.sess.below HW.out).2 (by omega)
              obtain ⟨_, _, _, hz⟩ := hsi 0 (by omega)
              have hs0 : wr.cell? ⟨sb, so + 2 + 4, none⟩ = some (.int .i64 (nthE ss 0).a.f.s) := by have h := hz.at_ 6 (sesC_6 _ _ _ _); rw [Nat.zero_mul, Nat.add_zero] at h; exact h
              clear hsi hz
              by_cases hi3 : (nthI xs j).s = (nthE ss 0).a.f.s
              · skip
                refine ri4_any (x := nthI xs j) (C := none) (z0 := (nthI xs 0).s) (y0 := (nthE ss 0).a.f.s) (b := b) (fo := fo) (n := k) (r := cx) (q := j) (sb := sb) (so := so) (ns := n) (rs := c) ⟨rfl, rfl, rfl, rfl, hxq, hxs, hx00, hlt, hi1, by simp [hi2], by omega, hs0, by simp [hi3]⟩ (by kernel_rfl) ?_
                intro w2 b2
                have HJ2 : Hid (∀ i, i < j + 1 → GoodI ss xs i) := fun i hi => by
                  by_cases e : i = j
                  · subst e
                    exact ⟨hi1, hi2, fun _ => hi3⟩
                  · exact HJ.out i (by omega)
                have HW2 : Hid (Below w.heap.size w w2) := HW.out.trans (b2.mono HW.out.size)
                clear HJ HW b2 hxq hx00 hxs
                simp only [putAll, Act.put, List.setIfInBounds_toArray, List.set_cons_succ, List.set_cons_zero]
                go_wp2_with fail
                go_roundw
                case rel => exact ⟨j + 1, by omega, by go_num, HJ2, HW2⟩
                case measure => simp [intOf]; omega
              · skip
                refine ri3_any (x := nthI xs j) (C := none) (z0 := (nthI xs 0).s) (y0 := (nthE ss 0).a.f.s) (b := b) (fo := fo) (n := k) (r := cx) (q := j) (sb := sb) (so := so) (ns := n) (rs := c) ⟨rfl, rfl, rfl, rfl, hxq, hxs, hx00, hlt, hi1, by simp [hi2], by omega, hs0, by simp [hi3]⟩ (by kernel_rfl) ?_
                intro w2 b2
                simp only [putAll, Act.put, List.setIfInBounds_toArray, List.set_cons_succ, List.set_cons_zero]
                go_wp2_with fail
                go_ret2
                exact .inl ⟨by rw [not_its hjl (fun hg => hi3 (hg.2.2 (by rw [HL.out]; omega))), Bool.and_false], rfl, HW.out.trans (b2.mono HW.out.size)⟩
          · skip
            refine ri1_any (x := nthI xs j) (C := A) (z0 := (nthI xs 0).s) (y0 := 0) (b := b) (fo := fo) (n := k) (r := cx) (q := j) (sb := 0) (so := 0) (ns := n) (rs := c) ⟨rfl, rfl, rfl, hxq, hxs, hx00, hlt, hi1, by simp [hi2]⟩ (by kernel_rfl) ?_
            intro w2 b2
            simp only [putAll, Act.put, List.setIfInBounds_toArray, List.set_cons_succ, List.set_cons_zero]
            go_wp2_with fail
            go_ret2
            exact .inl ⟨by rw [not_its hjl (fun hg => hi2 hg.2.1), Bool.and_false], rfl, HW.out.trans (b2.mono HW.out.size)⟩
      · obtain rfl : j = k := by omega
        have HI : Hid (itsB ss xs = true) := its_of fun i hi => HJ.out i (by rw [HXL.out] at hi; exact hi)
        clear HJ hlt
        obtain ⟨wa, hwa⟩ : ∃ wa, wa = wr := ⟨_, rfl⟩
        rw [← hwa] at HW ⊢
        clear hwa
        have HP0 : Hid (CqS wa ss 0 (.slice none 0 0) [] wa) := ⟨RowE.nil _ _, rfl, Below.refl _ _⟩
        go_wp2_with fail
        go_loopw [11, 12] (fun ov iv w' => ∃ (i : Nat) (O : Option Addr) (co : Nat) (rs : List Rs), i ≤ n ∧ ov = .slice O i co ∧ iv = .int .i64 i ∧ Hid (CqS wa ss i (.slice O i co) rs w')) (fun _ iv _ => n - (intOf iv).toNat)
        case atStart => exact ⟨0, none, 0, [], Nat.zero_le _, rfl, rfl, HP0⟩
        case round =>
          clear HP0
          obtain ⟨i, O, co, rs, hi, rfl, rfl, HP⟩ := hrel
          by_cases hlti : i < n
          · obtain ⟨b, fo, rfl, hsi⟩ := (HS.out.below (HW.out.trans (HP.out.keep.mono HW.out.size))).2 (by omega)
            obtain ⟨Ai, ki, ci, hAt, hnil, hk8⟩ := hsi i hlti
            clear hsi
            have HTK : Hid (ss.take (i + 1) = ss.take i ++ [nthE ss i]) := by
              have hjl : i < ss.length := by rw [HL.out]; exact hlti
              rw [Hid, List.take_succ_eq_append_getElem hjl]
              simp [nthE, hjl]
            generalize nthE ss i = s at hAt HTK
            have HAT := Lib.hid hAt; clear hAt
            have HNIL := Lib.hid hnil; clear hnil
            have HRL : Hid (rs.length = i) := HP.out.row.cap.2
            go_upto_region 13 with (first
              | (refine load_ses rfl _ rfl b (fo + i * 15) rfl HAT.out ?_)
              | (refine store_newS rfl _ _ rfl rfl rfl rfl ?_; intro w3 hb3 hs3; have HV3 := Lib.hid hs3; have HB3 := Lib.hid hb3; have HA3 := Lib.hid (HAT.out.below hb3); clear hb3 hs3))
            obtain ⟨gv, hgv⟩ : ∃ gv, wr.heap.size = gv := ⟨_, rfl⟩
            have HVG : Hid (Has w3 gv 60 (sesC s Ai ki ci)) := by rw [← hgv]; exact HV3
            have HAC : Hid (AccAt w3 gv 2 s.a Ai ki ci) := by
              have h := (has_ses HVG.out HA3.out.2.1 HA3.out.2.2).acc
              rwa [Nat.zero_add] at h
            have hgl : gv < w3.heap.size := HVG.out.lt
            have HBG : Hid (Below gv wr w3) := by rw [← hgv]; exact HB3
            clear HV3 HB3
            go_upto_region 14 with (first
              | (refine load_acc rfl _ rfl gv 2 rfl HAC.out ?_)
              | (go_at_call 46; refine (rcopyacc_any s.a Ai ki ci _ HA3.out.2.1 hk8 HNIL.out).mono ?_; rintro e w4 ⟨A4, k4, c4, rfl, hin, hb4⟩; have HIN := Lib.hid hin; have HB4 := Lib.hid (HBG.out.trans (hb4.mono (Nat.le_of_lt hgl))); have HV4 := Lib.hid (has_below HVG.out hb4); clear hin hb4)
              | (refine wpList_store_mid rfl 29 _ _ rfl gv 2 (accC s.a A4 k4 c4) rfl rfl (there_row HV4.out (by rw [accC_size13, sesC_size]; decide)) Try.sizeAcc (accC_one _ _ _ _) ?_))
            have hb5 : Below gv wr (w4.setCells gv 2 (accC s.a A4 k4 c4).toList) := below_cells (Nat.le_refl _) _ _ _ HB4.out
            have hs5 : SesAt (w4.setCells gv 2 (accC s.a A4 k4 c4).toList) gv 0 s A4 k4 c4 := ses_store HV4.out HIN.out.hist (fun _ ad ea e => by have h := HIN.out.new ad ea; rw [e] at h; omega) ⟨HIN.out.cap, HIN.out.most⟩
            have hne : 0 < k4 → ∀ ad, A4 = some ad → (Value.slice O i co).ownBlock ≠ some ad.block := fun _ ad ea e => by
              have h1 := HIN.out.new ad ea
              have h2 := (World.ownsRow.lt HP.out.row.row _ e).2
              omega
            have hcap : k4 ≤ c4 ∧ c4 ≤ maxLen := ⟨HIN.out.cap, HIN.out.most⟩
            clear HIN HV4 HB4 HAC HA3 HVG HBG
            generalize w4.setCells gv 2 (accC s.a A4 k4 c4).toList = w5 at hb5 hs5 ⊢
            rw [← hgv] at hb5
            have HP5 : Hid (CqS wa ss i (.slice O i co) rs w5) := ⟨HP.out.row.below hb5, HP.out.ses, HP.out.keep.trans (hb5.mono HP.out.keep.size)⟩
            have HS5 := Lib.hid hs5
            have HNE := Lib.hid hne
            have HCAP := Lib.hid hcap
            clear hb5 hs5 hne hcap HP
            go_wp2_with (first
              | (refine load_ses rfl _ rfl gv 0 rfl HS5.out ?_)
              | (refine lit1s rfl _ rfl rfl ?_; intro w8 hb8 hv8; have HV8 := Lib.hid hv8; have HP8 : Hid (CqS wa ss i (.slice O i co) rs w8) := ⟨HP5.out.row.below hb8, HP5.out.ses, HP5.out.keep.trans (hb8.mono HP5.out.keep.size)⟩; have HX8 : Hid (Ints w8 A4 k4 s.a.h) := (HS5.out.below hb8).2.1; clear hv8 hb8)
              | (refine app_rowE rfl _ _ rfl rfl HP8.out.row rfl (r := ⟨s, A4, k4, c4⟩) HV8.out HX8.out HCAP.out HNE.out (by rw [HRL.out]; omega) (by exact HP8.out.keep.size) ?_; intro v' w' hown hgr; obtain ⟨V2, c2, rfl, _⟩ := hown.form; have HPN : Hid (CqS wa ss (i + 1) _ _ w') := ⟨hown, by rw [List.map_append, HP8.out.ses, HTK.out]; rfl, HP8.out.keep.trans hgr.below⟩; clear hown hgr))
            rw [show (rs ++ [(⟨s, A4, k4, c4⟩ : Rs)]).length = i + 1 by rw [List.length_append, HRL.out]; rfl] at HPN
            have HLQ : Hid ((rs ++ [(⟨s, A4, k4, c4⟩ : Rs)]).length = i + 1) := by rw [Hid, List.length_append, HRL.out]; rfl
            clear HP5 HP8 HS5 HX8 HV8
            go_roundw
            case rel => exact ⟨i + 1, V2, c2, _, by omega, by rw [HRL.out], by go_num, HPN⟩
            case measure => simp [intOf]; omega
          · obtain rfl : i = n := by omega
            have HT0 : Hid (TqS g bs ss xs w 0 O i ss wr) := ⟨by have h := HP.out.row.reads; rw [HP.out.ses, List.take_of_length_le (by rw [HL.out]; exact Nat.le_refl _)] at h; exact h, sesF_ser xs H1.out, by rw [List.drop_zero], HW.out.trans (HP.out.keep.mono HW.out.size)⟩
            have HN0 : Hid (i ≤ i + 0) := Nat.le_refl _
            obtain ⟨wc, hwc⟩ : ∃ wc, wc = wr := ⟨_, rfl⟩
            rw [← hwc] at HT0 ⊢
            clear hwc HP HW hlti
            go_wp2_with fail
            go_loopw [11, 14] (fun ov jv w' => ∃ (q : Nat) (O : Option Addr) (no co : Nat) (T : List Se), q ≤ j ∧ no ≤ i + q ∧ ov = .slice O no co ∧ jv = .int .i64 q ∧ Hid (TqS g bs ss xs w q O no T w')) (fun _ jv _ => j - (intOf jv).toNat)
            case atStart => exact ⟨0, O, i, co, ss, Nat.zero_le _, Nat.le_refl _, rfl, rfl, HT0⟩
            case round =>
              clear HT0
              obtain ⟨q, O2, no, co2, T, hq, hno, rfl, rfl, HT⟩ := hrel
              by_cases hltq : q < j
              · obtain ⟨b, fo, rfl, hxi⟩ := (HX.out.below HT.out.keep).2 (by omega)
                have HXQ := Lib.hid (hxi q hltq); clear hxi
                have HG := Lib.hid (goodI_of HI.out (i := q) (by rw [HXL.out]; exact hltq))
                have HSE : Hid ((nthI xs q).s = serS ss xs) := (of_decide_eq_true HI.out q (by rw [HXL.out]; exact hltq)).2
                have HST := Lib.hid (addT_step HT.out.add (by rw [HXL.out]; exact hltq))
                have HXI : Hid (itemB (nthI xs q) = true) := HG.out.1
                have HC := Lib.hid (raddses_any O2 no co2 T g B m d bs (nthI xs q) _ wr HT.out.ses (by omega) (HBS.out.below HT.out.keep) hm (ses_ok H1.out).2.2 (wi_true (ses_ok H1.out).2.1) HT.out.fit HXI.out HSE.out)
                have HNX : Hid (T.length = no) := HT.out.ses.1
                have HLE := Lib.hid (addE_len g bs (nthI xs q) T)
                clear HG
                by_cases h8 : 8192 < (oneE g bs (nthI xs q) T).n
                · have HBAD : Hid (Calls Try.prog 58 #[.slice O2 no co2, .int .i64 g, .slice B m d, .agg #[.int .i64 (nthI xs q).s, .int .i64 (nthI xs q).t, .int .i64 (nthI xs q).q, .int .i64 (nthI xs q).v]] wr (BadS 101 wr)) := HC.out.mono fun e w2 h => h.elim (fun h => h.2) (fun h => absurd h8 (Int.not_lt.2 h.1))
                  have HNO : Hid (addT g bs xs ss = none) := HST.out.1 h8
                  clear HC HLE HSE HST HXI h8
                  generalize nthI xs q = x at HXQ HBAD
                  go_wp2_with (first
                    | (refine load_item rfl _ rfl b (fo + q * 4) rfl HXQ.out ?_)
                    | (go_at_call 58; refine HBAD.out.mono ?_; rintro e w2 ⟨rfl, hb2⟩; have HB2 := Lib.hid (HT.out.keep.trans (hb2.mono HT.out.keep.size)); clear hb2))
                  go_ret2
                  exact .inr ⟨by rw [H1.out, HI.out]; rfl, .inl ⟨HNO.out, rfl, HB2.out⟩⟩
                · have HGOOD : Hid (Calls Try.prog 58 #[.slice O2 no co2, .int .i64 g, .slice B m d, .agg #[.int .i64 (nthI xs q).s, .int .i64 (nthI xs q).t, .int .i64 (nthI xs q).q, .int .i64 (nthI xs q).v]] wr (GoodR (addE g bs (nthI xs q) T) wr)) := HC.out.mono fun e w2 h => h.elim (fun h => absurd h.1 h8) (fun h => h.2)
                  have HADD := Lib.hid (HST.out.2 (Int.not_lt.1 h8))
                  have HFIT : Hid (SesF bs (serS ss xs) (addE g bs (nthI xs q) T)) := sesF_add HT.out.fit HXI.out HSE.out (Int.not_lt.1 h8)
                  clear HC HSE HST HXI h8
                  generalize nthI xs q = x at HXQ HGOOD HADD HFIT HLE
                  generalize addE g bs x T = T2 at HGOOD HADD HFIT HLE
                  go_wp2_with (first
                    | (refine load_item rfl _ rfl b (fo + q * 4) rfl HXQ.out ?_)
                    | (go_at_call 58; refine HGOOD.out.mono ?_; rintro e w2 ⟨A2, c2, rfl, hse, hb2⟩; have HT2 : Hid (TqS g bs ss xs w (q + 1) A2 T2.length T2 w2) := ⟨hse, HFIT.out, HADD.out, HT.out.keep.trans (hb2.mono HT.out.keep.size)⟩; clear hb2 hse))
                  have hle := HLE.out
                  have hnx := HNX.out
                  go_roundw
                  case rel => exact ⟨q + 1, A2, T2.length, c2, T2, by omega, by omega, rfl, by go_num, HT2⟩
                  case measure => simp [intOf]; omega
              · obtain rfl : q = j := by omega
                go_wp2_with fail
                go_ret2
                have hT : addT g bs xs ss = some T := by
                  have h := HT.out.add
                  rw [List.drop_of_length_le (by rw [HXL.out]; exact Nat.le_refl _)] at h
                  exact h.symm
                have hl := HT.out.ses.1
                subst hl
                exact .inr ⟨by rw [H1.out, HI.out]; rfl, .inr ⟨T, hT, O2, co2, rfl, HT.out.ses, HT.out.keep⟩⟩

end Go.Proofs.Ytgdeaddfkcokpaa

namespace Go.Proofs.Ytgdeaddfkcokpaa
open Go.RowKit

theorem rf_neqI {D : List (Option Tmp)} {Φ : Fact} {o : Oper} {a : Act} {w : World} (hw : Region.wanted o (yieldD D a.tmps) = true) {t : Tmp} (hd : o.dst = some t) (x y : Operand) (ho : o.op = .binOp .neq 23 x y 23) (z : It) (hx : a.eval x = .agg #[.int .i64 z.s, .int .i64 z.t, .int .i64 z.q, .int .i64 z.v]) (hy : a.eval y = .agg #[.int .i64 z.s, .int .i64 z.t, .int .i64 z.q, .int .i64 z.v]) (h : Φ (.bool false) w) : StepD Try.prog D Φ o a w :=
  step_val hw hd _ _ (by unfold execOp; rw [ho]; simp only [hx, hy]; simp [go_sem]) (Below.refl _ _) h
def sitD : List (Option Tmp) := [some 17, some 18, some 19, some 20, some 21, some 22, some 23, some 24, some 25]
def sitF (x : It) (b1 o1 b2 o2 n e1 e2 q : Nat) : List Fact := [isV (.slice (some ⟨b1, o1, none⟩) n e1), isV (.int .i64 q), isV (.pointer (some ⟨b1, o1 + q * 4, none⟩)), isV (.agg #[.int .i64 x.s, .int .i64 x.t, .int .i64 x.q, .int .i64 x.v]), isV (.slice (some ⟨b2, o2, none⟩) n e2), isV (.int .i64 q), isV (.pointer (some ⟨b2, o2 + q * 4, none⟩)), isV (.agg #[.int .i64 x.s, .int .i64 x.t, .int .i64 x.q, .int .i64 x.v]), isV (.bool false)]
theorem sitF_mono (x : It) (b1 o1 b2 o2 n e1 e2 q : Nat) : ∀ φ ∈ sitF x b1 o1 b2 o2 n e1 e2 q, Mono φ := by
  unfold sitF
  repeat (first | exact monos_nil | (refine monos_cons (mono_isV _) ?_))
structure sitS (x : It) (b1 o1 b2 o2 n e1 e2 q : Nat) (a0 : Act) (w0 : World) : Prop where
  size : a0.tmps.size = 26
  v0 : a0.tmps.getD 0 undef = .slice (some ⟨b1, o1, none⟩) n e1
  v1 : a0.tmps.getD 1 undef = .slice (some ⟨b2, o2, none⟩) n e2
  v5 : a0.tmps.getD 5 undef = .int .i64 q
  x1 : w0.rangeAt b1 (o1 + q * 4) (itemL x)
  x2 : w0.rangeAt b2 (o2 + q * 4) (itemL x)
  hq : q < n
section
variable {x : It} {b1 o1 b2 o2 n e1 e2 q : Nat} {a0 : Act} {w0 : World} (S : sitS x b1 o1 b2 o2 n e1 e2 q a0 w0)
include S
set_option maxRecDepth 100000 in
set_option maxHeartbeats 8000000 in
theorem sit_ok : AllOps (fun j o => ∀ (a : Act) (w : World), Below w0.heap.size w0 w → FrD sitD a0 a → needs sitD (sitF x b1 o1 b2 o2 n e1 e2 q) a w o.after.toList → StepD Try.prog sitD (factAt (sitF x b1 o1 b2 o2 n e1 e2 q) j) o a w) 0 (opsOf 6 Try.f62) := by
  simp only [opsOf, Try.f62, opsAt, Option.bind, Option.or, Option.getD, reduceCtorEq, if_true, if_false, Nat.reduceEqDiff]
  refine ⟨?_, ?_⟩
  · intro _a _w _hB hF _hd
    exact step_move (guard_none rfl) rfl _ rfl ((hF.other 0 rfl).trans S.v0)
  refine ⟨?_, ?_⟩
  · intro _a _w _hB hF _hd
    exact step_move (guard_none rfl) rfl _ rfl ((hF.other 5 rfl).trans S.v5)
  refine ⟨?_, ?_⟩
  · intro a _w _hB _hF hd
    have h17 : a.tmps.getD 17 undef = .slice (some ⟨b1, o1, none⟩) n e1 := hd.1 rfl
    have h18 : a.tmps.getD 18 undef = .int .i64 q := hd.2.1 rfl
    exact rf_index (guard_none rfl) rfl _ _ _ rfl Try.underlying46 4 (fun _ => by kernel_rfl) _ _ _ _ q _ h17 h18 rfl S.hq rfl
  refine ⟨?_, ?_⟩
  · intro a _w hB _hF hd
    have h19 : a.tmps.getD 19 undef = .pointer (some ⟨b1, o1 + q * 4, none⟩) := hd.1 rfl
    exact rf_loadS (guard_none rfl) rfl _ _ rfl _ _ h19 _ (rangeAt_keep S.x1 (by simp [itemL]) fun _ hp => hB.cell hp) Try.underlying23 rfl Try.sizeItem rfl
  refine ⟨?_, ?_⟩
  · intro _a _w _hB hF _hd
    exact step_move (guard_none rfl) rfl _ rfl ((hF.other 1 rfl).trans S.v1)
  refine ⟨?_, ?_⟩
  · intro _a _w _hB hF _hd
    exact step_move (guard_none rfl) rfl _ rfl ((hF.other 5 rfl).trans S.v5)
  refine ⟨?_, ?_⟩
  · intro a _w _hB _hF hd
    have h21 : a.tmps.getD 21 undef = .slice (some ⟨b2, o2, none⟩) n e2 := hd.1 rfl
    have h22 : a.tmps.getD 22 undef = .int .i64 q := hd.2.1 rfl
    exact rf_index (guard_none rfl) rfl _ _ _ rfl Try.underlying46 4 (fun _ => by kernel_rfl) _ _ _ _ q _ h21 h22 rfl S.hq rfl
  refine ⟨?_, ?_⟩
  · intro a _w hB _hF hd
    have h23 : a.tmps.getD 23 undef = .pointer (some ⟨b2, o2 + q * 4, none⟩) := hd.1 rfl
    exact rf_loadS (guard_none rfl) rfl _ _ rfl _ _ h23 _ (rangeAt_keep S.x2 (by simp [itemL]) fun _ hp => hB.cell hp) Try.underlying23 rfl Try.sizeItem rfl
  refine ⟨?_, ?_⟩
  · intro a _w _hB _hF hd
    have h20 : a.tmps.getD 20 undef = .agg #[.int .i64 x.s, .int .i64 x.t, .int .i64 x.q, .int .i64 x.v] := hd.1 rfl
    have h24 : a.tmps.getD 24 undef = .agg #[.int .i64 x.s, .int .i64 x.t, .int .i64 x.q, .int .i64 x.v] := hd.2.1 rfl
    exact rf_neqI (guard_none rfl) rfl _ _ rfl x h20 h24 rfl
  trivial
theorem sit_any {Q : Exit → Act → World → Prop} {l : List Oper} (hl : opsOf 6 Try.f62 = l) (hend : ∀ w : World, Below w0.heap.size w0 w → Q .normal (putAll a0 [(17, .slice (some ⟨b1, o1, none⟩) n e1), (18, .int .i64 q), (19, .pointer (some ⟨b1, o1 + q * 4, none⟩)), (20, .agg #[.int .i64 x.s, .int .i64 x.t, .int .i64 x.q, .int .i64 x.v]), (21, .slice (some ⟨b2, o2, none⟩) n e2), (22, .int .i64 q), (23, .pointer (some ⟨b2, o2 + q * 4, none⟩)), (24, .agg #[.int .i64 x.s, .int .i64 x.t, .int .i64 x.q, .int .i64 x.v]), (25, .bool false)]) w) :
    (Code.region 6 l.toArray true).wp Try.prog Q a0 w0 := by
  subst hl
  refine region_facts2 (sitF x b1 o1 b2 o2 n e1 e2 q) sitD 26 S.size rfl (by kernel_rfl) (by kernel_rfl) (sitF_mono _ _ _ _ _ _ _ _ _) (sit_ok S) fun a w hB hF h => ?_
  have hv : valsAre a [(17, .slice (some ⟨b1, o1, none⟩) n e1), (18, .int .i64 q), (19, .pointer (some ⟨b1, o1 + q * 4, none⟩)), (20, .agg #[.int .i64 x.s, .int .i64 x.t, .int .i64 x.q, .int .i64 x.v]), (21, .slice (some ⟨b2, o2, none⟩) n e2), (22, .int .i64 q), (23, .pointer (some ⟨b2, o2 + q * 4, none⟩)), (24, .agg #[.int .i64 x.s, .int .i64 x.t, .int .i64 x.q, .int .i64 x.v]), (25, .bool false)] := by
    refine ⟨?_, ?_, ?_, ?_, ?_, ?_, ?_, ?_, ?_, trivial⟩
    · exact h 0 (some 17) rfl
    · exact h 1 (some 18) rfl
    · exact h 2 (some 19) rfl
    · exact h 3 (some 20) rfl
    · exact h 4 (some 21) rfl
    · exact h 5 (some 22) rfl
    · exact h 6 (some 23) rfl
    · exact h 7 (some 24) rfl
    · exact h 8 (some 25) rfl
  rw [frame_is hF _ hv (by rfl) (by rfl)]
  exact hend w hB
end

end Go.Proofs.Ytgdeaddfkcokpaa

namespace Go.Proofs.Ytgdeaddfkcokpaa
open Go.RowKit

set_option maxRecDepth 100000 in
set_option maxHeartbeats 2000000 in
theorem sameitems_any (A B : Option Addr) (n c d : Nat) (xs : List It) (w : World) (h1 : Items w A n xs) (h2 : Items w B n xs) (hn : n ≤ 17592186044416) :
    Calls Try.prog 62 #[.slice A n c, .slice B n d] w fun e w' => e = .returned (.bool true) ∧ Below w.heap.size w w' := by
  have H1 := Lib.hid h1; clear h1
  have H2 := Lib.hid h2; clear h2
  go_enter Try.func62, Try.ntmps62
  go_wp2_with fail
  go_loopw [5] (fun i wr => ∃ j : Nat, j ≤ n ∧ i = .int .i64 j ∧ Hid (Below w.heap.size w wr)) (fun i _ => n - (intOf i).toNat)
  case atStart => exact ⟨0, Nat.zero_le _, rfl, Below.refl _ _⟩
  case round =>
    obtain ⟨j, hj, rfl, HW⟩ := hrel
    by_cases hlt : j < n
    · obtain ⟨b1, o1, rfl, i1⟩ := (H1.out.below HW.out).2 (by omega)
      obtain ⟨b2, o2, rfl, i2⟩ := (H2.out.below HW.out).2 (by omega)
      have X1 := Lib.hid (i1 j hlt)
      have X2 := Lib.hid (i2 j hlt)
      clear i1 i2
      go_upto_region 6 with fail
      refine sit_any (x := nthI xs j) (b1 := b1) (o1 := o1) (b2 := b2) (o2 := o2) (n := n) (e1 := c) (e2 := d) (q := j) ⟨rfl, rfl, rfl, rfl, X1.out, X2.out, hlt⟩ (by kernel_rfl) ?_
      intro w9 hB9
      have HB9 := Lib.hid (HW.out.trans (hB9.mono HW.out.size))
      clear hB9 X1 X2 HW
      simp only [putAll, Act.put, List.setIfInBounds_toArray, List.set_cons_succ, List.set_cons_zero]
      go_wp2_with fail
      go_roundw
      case rel => exact ⟨j + 1, by omega, by go_num, HB9⟩
      case measure => simp [intOf]; omega
    · have hjn : j = n := by omega
      subst hjn
      go_wp2_with fail
      go_ret
      exact ⟨rfl, HW.out⟩

set_option maxRecDepth 100000 in
set_option maxHeartbeats 2000000 in
theorem copyitems_any (A : Option Addr) (n c : Nat) (xs : List It) (w : World) (hr : Items w A n xs) (hn : n * 32 ≤ 140737488355328) (hnil : A = none → c = 0 ∧ n = 0) :
    Calls Try.prog 54 #[.slice A n c] w fun e w' => ∃ A' c', e = .returned (.slice A' n c') ∧ OwnIt w' w.heap.size (.slice A' n c') xs ∧ Below w.heap.size w w' := by
  cases A with
  | none =>
    obtain ⟨rfl, rfl⟩ := hnil rfl
    obtain rfl : xs = [] := List.eq_nil_of_length_eq_zero hr.1
    obtain ⟨i0, hi, _, _, _⟩ := info_parts Try.infoItem
    go_enter Try.func54, Try.ntmps54
    go_wp2_with (refine wpList_append_own_none rfl _ _ 46 rfl w.heap.size 23 i0 4 Try.underlying46 hi _ 0 [] rfl (it_empty w) rfl ?_)
    go_ret
    exact ⟨some ⟨w.heap.size, 0, none⟩, 0, rfl, it_empty w, (Below.refl _ _).alloc (Nat.le_refl _) _⟩
  | some ad =>
    go_enter Try.func54, Try.ntmps54
    go_wp2_with (refine app_items rfl _ _ rfl rfl (it_empty w) rfl (hr.below ((Below.refl _ _).alloc (Nat.le_refl _) _)) hn (by simp) ?_; intro A2 c2 wn hwn hbn)
    go_ret
    exact ⟨some A2, c2, rfl, hwn, ((Below.refl _ _).alloc (Nat.le_refl _) _).trans hbn⟩

theorem size_itE (w : World) : (sizeOf (Try.prog.elem 46)).run Try.prog w = .ok 4 w := by kernel_rfl
theorem elem_it : Try.prog.underlying 46 = some (.slice (Try.prog.elem 46)) := by kernel_rfl
/-- 'xs[:u]' of items. -/
theorem cut_toIt {ops : Array Oper} {rest : List Oper} {op : Oper} {p : Act} {w : World} {Q : Exit → Act → World → Prop} (hgd : op.guard = none) (x y : Operand) (ho : op.op = .slice 46 x none (some y) none)
    {D : Option Addr} {n e u : Nat} {z : Int} (hx : p.eval x = .slice D n e) (hy : p.eval y = .int .i64 z) (hz : z = (u : Int)) (hu : u ≤ e)
    (h : wpList Try.prog ops Q rest (p.put op.dst (.slice D u e)) w) : wpList Try.prog ops Q (op :: rest) p w :=
  wpList_plain hgd fun _ hK => by
    subst hz
    have hd : D.map (·.add (0 * 4)) = D := by
      cases D with
      | none => rfl
      | some a => cases a; simp [Addr.add]
    have hs : (Instr.sliceAt 46 (.slice D n e) none (some (.int .i64 (u : Int))) none).run Try.prog w = .ok (.slice D u e) w := by
      rw [run_sliceAt_slice w _ _ _ _ _ elem_it, run_slice_h w _ D n e elem_it .i64 (u : Int) (by omega) (by omega), size_itE]
      simp only [Result.andThen_ok, sliced, hd, ite_self, Int.toNat_natCast, Nat.sub_zero]
    unfold Oper.wp execOp
    simp only [ho, Option.map_some, Option.map_none, hx, hy, Sem.run_bind, hs, Result.andThen_ok]
    exact hK _ _ h
theorem OwnIt.capI {w : World} {base : Nat} {A : Option Addr} {n c : Nat} {xs : List It} (h : OwnIt w base (.slice A n c) xs) : xs.length = n ∧ n ≤ c := by
  rcases h.2 with ⟨e, h0⟩ | ⟨g', cap, cur, e, _, _, hc, _⟩
  · injection e with _ e2 e3; omega
  · injection e with _ e2 e3; omega
abbrev markIt : It := ⟨0, 0, 77777, 0⟩
/-- 's = append(s, y, z)' of items in a walk. -/
theorem app_twoIt {ops : Array Oper} {rest : List Oper} {op : Oper} {p : Act} {w : World} {Q : Exit → Act → World → Prop} (hgd : op.guard = none) (s x : Operand)
    (ho : op.op = .call { callee := .builtin .append, args := #[s, x], argTypes := #[46, 46] })
    {base g n c : Nat} {A : Option Addr} {xs : List It} {y z : It} (hs : p.eval s = .slice A n c) (hown : OwnIt w base (.slice A n c) xs) (hx : p.eval x = .slice (some ⟨g, 0, none⟩) 2 2) (hg : Has w g 23 (([y, z] : List It).flatMap itemL).toArray)
    (hn : n * 32 ≤ 140737488351232) (hbase : base ≤ w.heap.size)
    (h : ∀ A' c' w', OwnIt w' base (.slice A' (n + 2) c') (xs ++ [y, z]) → Below base w w' → wpList Try.prog ops Q rest (p.put op.dst (.slice A' (n + 2) c')) w') : wpList Try.prog ops Q (op :: rest) p w := by
  obtain ⟨i0, hi, hz, hs0, hy0⟩ := info_parts Try.infoItem
  have hl : xs.length = n := by
    obtain ⟨_, _, e, _⟩ := hown.form
    injection e with _ e2
    exact e2.symm
  refine wpList_append_own_at w hgd s x 46 ho base 23 i0 _ 4 32 Try.underlying46 hi hz hs0 hy0 rfl (by omega) (.slice A n c) xs.length (xs.flatMap itemL) hs hown ⟨g, 0, none⟩ 2 2 (([y, z] : List It).flatMap itemL) hx rfl
    (fun j u hu => ?_) (fun u hu => ?_) (by unfold maxLen; omega) (by omega) hbase (fun v' w' h1 h2 _ h4 => ?_)
  · rw [Addr.add_mid, hg.cell, Nat.zero_add]
    simpa using hu
  · simp only [itemL, List.flatMap_cons, List.flatMap_nil, List.append_nil, List.cons_append, List.nil_append, List.mem_cons, List.not_mem_nil, or_false] at hu
    rcases hu with rfl | rfl | rfl | rfl | rfl | rfl | rfl | rfl <;> rfl
  · have h3 : OwnIt w' base v' (xs ++ [y, z]) := by unfold OwnIt; rw [List.flatMap_append, List.length_append]; exact h1
    obtain ⟨A', c', rfl, _⟩ := h3.form
    have e : (xs ++ [y, z]).length = n + 2 := by simp [hl]
    rw [e] at h3 ⊢
    refine h A' c' w' h3 ⟨h2.os, h2.tape, h2.output, h2.size, fun k hk => h2.block k (by omega) (fun e => ?_)⟩
    have := World.ownsRow.lt hown k e.symm
    omega

set_option maxRecDepth 100000 in
set_option maxHeartbeats 1000000 in
theorem lenditems_any (A : Option Addr) (n c : Nat) (xs : List It) (w : World) (hr : Items w A n xs) (hn : n * 32 ≤ 140737488351232) (hnil : A = none → c = 0 ∧ n = 0) :
    Calls Try.prog 25 #[.slice A n c] w fun e w' => ∃ A' c', e = .returned (.slice A' n c') ∧ OwnIt w' w.heap.size (.slice A' (n + 2) c') (xs ++ [markIt, markIt]) ∧ Below w.heap.size w w' := by
  go_enter Try.func25, Try.ntmps25
  go_wp2_with fail
  refine (copyitems_any A n c xs _ hr (by omega) hnil).mono ?_
  rintro e w2 ⟨A2, c2, rfl, hown, hb⟩
  have HB := Lib.hid hb; clear hb
  have HO := Lib.hid hown; clear hown
  have hown2 : ∀ o, OwnIt (w2.alloc o) w.heap.size (.slice A2 n c2) xs := fun o => HO.out.below ((Below.refl _ _).alloc (Nat.le_refl _) o)
  go_wp2_with (first
    | (refine app_twoIt rfl _ _ rfl rfl (hown2 _) (g := w2.heap.size) (y := markIt) (z := markIt) rfl (Has.made _ _ _) hn (by have := HB.out.size; simp; omega) ?_; intro A3 c3 wn hwn hbn; have HW := Lib.hid hwn; have hc3 : n ≤ c3 := (by have := hwn.capI; omega); clear hwn; have HBN := Lib.hid hbn; clear hbn)
    | (refine cut_toIt rfl _ _ rfl rfl rfl rfl hc3 ?_))
  go_ret
  exact ⟨A3, c3, rfl, HW.out, (below_alloc HB.out (Nat.le_refl _) _).trans HBN.out⟩

set_option maxRecDepth 100000 in
set_option maxHeartbeats 1000000 in
theorem keptitems_any (A B : Option Addr) (n c d : Nat) (xs : List It) (base : Nat) (w : World) (hl : OwnIt w base (.slice A (n + 2) c) (xs ++ [markIt, markIt])) (hx : xs.length = n) (hb : Items w B n xs) (hn : n ≤ 17592186044416) :
    Calls Try.prog 32 #[.slice A n c, .slice B n d] w fun e w' => e = .returned (.bool true) ∧ Below w.heap.size w w' := by
  have hI := hl.items
  have hcap := hl.capI.2
  obtain ⟨b, o, rfl, hc⟩ := hI.2 (by omega)
  have h1 := hc n (by omega)
  have h2 := hc (n + 1) (by omega)
  have e1 : nthI (xs ++ [markIt, markIt]) n = markIt := by simp [nthI, ← hx]
  have e2 : nthI (xs ++ [markIt, markIt]) (n + 1) = markIt := by simp [nthI, ← hx]
  rw [e1] at h1
  rw [e2] at h2
  have hA : Items w (some ⟨b, o, none⟩) n xs := ⟨hx, fun _ => ⟨b, o, rfl, fun k hk => by
    have := hc k (by omega)
    rw [show nthI (xs ++ [markIt, markIt]) k = nthI xs k by simp [nthI, List.getElem?_append_left (show k < xs.length by omega)]] at this
    exact this⟩⟩
  have HA := Lib.hid hA; clear hA
  have HB := Lib.hid hb; clear hb
  have H1 := Lib.hid h1
  have H2 := Lib.hid h2
  clear hl hI hc e1 e2 hx h1 h2
  go_enter Try.func32, Try.ntmps32
  go_wp2_with (refine cut_toIt rfl _ _ rfl rfl rfl (show (n : Int) + 2 = ((n + 2 : Nat) : Int) by omega) hcap ?_)
  refine (sameitems_any _ B n c d xs _ HA.out HB.out hn).mono ?_
  rintro e w2 ⟨rfl, hb2⟩
  have H12 : Hid (w2.rangeAt b (o + n * 4) (itemL markIt)) := rangeAt_keep H1.out (by simp [itemL]) fun _ hp => hb2.cell hp
  have H22 : Hid (w2.rangeAt b (o + (n + 1) * 4) (itemL markIt)) := rangeAt_keep H2.out (by simp [itemL]) fun _ hp => hb2.cell hp
  have HB2 := Lib.hid hb2
  clear hb2 H1 H2
  have y0 : w2.cell? ⟨b, o + n * 4, none⟩ = some (.int .i64 0) := H12.out 0 _ rfl
  have y1 : w2.cell? ⟨b, o + n * 4 + 1, none⟩ = some (.int .i64 0) := H12.out 1 _ rfl
  have y2 : w2.cell? ⟨b, o + n * 4 + 2, none⟩ = some (.int .i64 77777) := H12.out 2 _ rfl
  have y3 : w2.cell? ⟨b, o + n * 4 + 3, none⟩ = some (.int .i64 0) := H12.out 3 _ rfl
  have z0 : w2.cell? ⟨b, o + (n + 1) * 4, none⟩ = some (.int .i64 0) := H22.out 0 _ rfl
  have z1 : w2.cell? ⟨b, o + (n + 1) * 4 + 1, none⟩ = some (.int .i64 0) := H22.out 1 _ rfl
  have z2 : w2.cell? ⟨b, o + (n + 1) * 4 + 2, none⟩ = some (.int .i64 77777) := H22.out 2 _ rfl
  have z3 : w2.cell? ⟨b, o + (n + 1) * 4 + 3, none⟩ = some (.int .i64 0) := H22.out 3 _ rfl
  go_wp2_with fail
  go_ret
  exact ⟨rfl, HB2.out⟩

end Go.Proofs.Ytgdeaddfkcokpaa

namespace Go.Proofs.Ytgdeaddfkcokpaa
open Go.RowKit

def IntAt (cs : Array Value) (i : Nat) : Prop := ∃ z : Int, cs[i]? = some (Value.int .i64 z)
/-- A block of integers that are written over. -/
structure SpI (w : World) (base g : Nat) (cs : Array Value) (wr : World) : Prop where
  cells : ∃ cs', Has wr g 3 cs' ∧ ∀ i, IntAt cs i → IntAt cs' i
  keep : Below base w wr
  far : base ≤ g
  other : ∀ k, k ≠ g → wr.heap[k]? = w.heap[k]?

set_option maxRecDepth 100000 in
set_option maxHeartbeats 1000000 in
theorem spoilI_any (g n c : Nat) (cs : Array Value) (base : Nat) (w : World) (hh : Has w g 3 cs) (hz : ∀ i, i < n → IntAt cs i) (hg : base ≤ g) (hn : n ≤ maxLen) :
    Calls Try.prog 20 #[.slice (some ⟨g, 0, none⟩) n c] w fun e w' => e = .returned (.tuple #[]) ∧ SpI w base g cs w' := by
  unfold maxLen at hn
  have HS : Hid (SpI w base g cs w) := ⟨⟨cs, hh, fun _ h => h⟩, Below.refl _ _, hg, fun _ _ => rfl⟩
  have HZ0 := Lib.hid hz
  clear hh hz
  go_enter Try.func20, Try.ntmps20
  go_wp2_with fail
  go_loopw [2] (fun i wr => ∃ j : Nat, j ≤ n ∧ i = .int .i64 j ∧ Hid (SpI w base g cs wr)) (fun i _ => n - (intOf i).toNat)
  case atStart => exact ⟨0, Nat.zero_le _, rfl, HS⟩
  case round =>
    clear HS
    obtain ⟨j, hj, rfl, HS⟩ := hrel
    by_cases hlt : j < n
    · obtain ⟨ct, hh, hz⟩ := HS.out.cells
      obtain ⟨z, hz1⟩ := hz j (HZ0.out j hlt)
      have hcell : wr.cell? ⟨g, j, none⟩ = some (.int .i64 z) := (hh.cell j).trans hz1
      have hmark := hh.mark j
      have hjn : (j : Int) < (n : Int) := by omega
      have HZ := Lib.hid hz; clear hz
      have HH := Lib.hid hh; clear hh
      have HZ1 := Lib.hid hz1; clear hz1
      go_wp2_with fail
      go_roundw
      case rel =>
        refine ⟨j + 1, by omega, by go_num, ⟨_, HH.out.put j _, fun i hi => ?_⟩, HS.out.keep.setCell HS.out.far _, HS.out.far, fun k hk => (heap_setCell_other _ _ k _ hk).trans (HS.out.other k hk)⟩
        by_cases e : j = i
        · subst e
          have hl : j < ct.size := (Array.getElem?_eq_some_iff.1 HZ1.out).1
          exact ⟨_, by rw [Array.getElem?_setIfInBounds_self_of_lt hl]⟩
        · obtain ⟨z2, hz2⟩ := HZ.out i hi
          exact ⟨z2, by rw [Array.getElem?_setIfInBounds_ne e]; exact hz2⟩
      case measure => simp [intOf]; omega
    · have hjn : j = n := by omega
      subst hjn
      go_wp2
      exact Great.bodyPost_end0 rfl rfl ⟨rfl, HS.out⟩
set_option maxRecDepth 100000 in
set_option maxHeartbeats 1000000 in
theorem spoilI_none (w : World) : Calls Try.prog 20 #[.slice none 0 0] w fun e w' => e = .returned (.tuple #[]) ∧ w' = w := by
  go_enter Try.func20, Try.ntmps20
  go_wp2
  refine wp_loop_rounds 1 ?_; rw [rounds_succ]
  go_wp2
  exact Great.bodyPost_end0 rfl rfl ⟨rfl, rfl⟩

/-- A row of sessions whose First and buckets are written over. -/
structure SpE (w : World) (base g n : Nat) (rs : List Rs) (wr : World) : Prop where
  row : ∃ cur, Has wr g 60 cur ∧ ∀ i (hi : i < rs.length), IntAt cur (i * 15) ∧ cur[i * 15 + 14]? = some (.slice (rs[i]).A (rs[i]).k (rs[i]).c)
  hist : ∀ r, r ∈ rs → (r.A = none ∧ r.k = 0 ∧ r.c = 0) ∨ ∃ b cs, r.A = some ⟨b, 0, none⟩ ∧ base ≤ b ∧ r.k ≤ maxLen ∧ Has wr b 3 cs ∧ ∀ i, i < r.k → IntAt cs i
  far : base ≤ g
  keep : Below base w wr
theorem spE_start {w : World} {base g n c : Nat} {rs : List Rs} (h : OwnE w base (.slice (some ⟨g, 0, none⟩) n c) rs) : SpE w base g n rs w := by
  have hl := h.row.cap.2
  refine ⟨?_, fun r hr => ?_, ?_, Below.refl _ _⟩
  · rcases h.row.row.2 with ⟨e, _⟩ | ⟨g', cap, cur, e, _, hh, _⟩
    · cases e
    · injection e with e
      injection e with e
      injection e with e
      subst e
      have hh : Has w g 60 cur := hh
      refine ⟨cur, hh, fun i hi => ?_⟩
      obtain ⟨_, g2, eg, _, hx⟩ := h.row.cells (by omega)
      injection eg with eg
      injection eg with eg
      subst eg
      have hx := hx i hi
      refine ⟨⟨(rs[i]).s.f, ?_⟩, ?_⟩
      · rw [← hh.cell]; exact hx.cell
      · rw [← hh.cell]; exact hx.at_ 14 (sesC_14 _ _ _ _)
  · have ho := h.own r hr
    rcases ho.2 with ⟨e, h0⟩ | ⟨g', cap, cur, e, hg, hh, hn, hc, hs, ht⟩
    · injection e with e1 e2 e3
      exact .inl ⟨e1, e2, e3⟩
    · injection e with e1 e2 e3
      refine .inr ⟨g', cur, e1, hg, Nat.le_trans (by omega) hc, hh, fun i hi => ⟨nth r.s.a.h i, ?_⟩⟩
      obtain ⟨b, o, eb, hcell⟩ := ho.ints.2 (by omega)
      rw [e1] at eb
      injection eb with eb
      injection eb with eb eo
      subst eb; subst eo
      have := hcell i hi
      rw [Nat.zero_add] at this
      rw [← Has.cell (t := 3) (show Has w g' 3 cur from hh) i]; exact this
  · rcases h.row.row.2 with ⟨e, _⟩ | ⟨g', cap, cur, e, hg, _⟩
    · cases e
    · injection e with e
      injection e with e
      injection e with e
      subst e
      exact hg
/-- One session is done. -/
theorem SpE.step {w : World} {base g n : Nat} {rs : List Rs} {wr w2 : World} (h : SpE w base g n rs wr) (hb : Below base wr w2) (hrow : w2.heap[g]? = wr.heap[g]?)
    (hh : ∀ b cs, Has wr b 3 cs → ∃ cs', Has w2 b 3 cs' ∧ ∀ i, IntAt cs i → IntAt cs' i) {i : Nat} (hi : i < rs.length) (v : Int) : SpE w base g n rs (w2.setCell ⟨g, i * 15, none⟩ (.int .i64 v)) := by
  obtain ⟨cur, hc, hx⟩ := h.row
  have hc2 : Has w2 g 60 cur := hrow.trans hc
  obtain ⟨⟨z0, hz0⟩, _⟩ := hx i hi
  have hsz : i * 15 < cur.size := (Array.getElem?_eq_some_iff.1 hz0).1
  refine ⟨⟨_, hc2.put (i * 15) _, fun k hk => ⟨?_, ?_⟩⟩, fun r hr => ?_, h.far, (h.keep.trans hb).setCell h.far _⟩
  · by_cases e : i * 15 = k * 15
    · exact ⟨v, by rw [e, Array.getElem?_setIfInBounds_self_of_lt (by rw [← e]; exact hsz)]⟩
    · obtain ⟨z, hz⟩ := (hx k hk).1
      exact ⟨z, by rw [Array.getElem?_setIfInBounds_ne e]; exact hz⟩
  · rw [Array.getElem?_setIfInBounds_ne (by omega)]; exact (hx k hk).2
  · rcases h.hist r hr with h0 | ⟨b, cs, e1, hb1, hk1, hB, hz⟩
    · exact .inl h0
    · obtain ⟨cs', hB', hz'⟩ := hh b cs hB
      have hne : b ≠ g := fun e => by subst e; exact has_types hB hc (by decide)
      exact .inr ⟨b, cs', e1, hb1, hk1, hB'.putFar hne _, fun k hk => hz' k (hz k hk)⟩

set_option maxRecDepth 100000 in
set_option maxHeartbeats 1000000 in
theorem spoilsess_any (A : Option Addr) (n c : Nat) (rs : List Rs) (base : Nat) (w : World) (ho : OwnE w base (.slice A n c) rs) (hn : n ≤ 1000000000) :
    Calls Try.prog 29 #[.slice A n c] w fun e w' => e = .returned (.tuple #[]) ∧ Below base w w' := by
  by_cases h0 : n = 0
  · subst h0
    go_enter Try.func29, Try.ntmps29
    go_wp2
    refine wp_loop_rounds 1 ?_; rw [rounds_succ]
    go_wp2
    exact Great.bodyPost_end0 rfl rfl ⟨rfl, Below.refl _ _⟩
  · obtain ⟨hl, g, rfl, _, _⟩ := ho.row.cells (by omega)
    have HS0 := Lib.hid (spE_start ho)
    have HL := Lib.hid hl
    clear ho hl
    go_enter Try.func29, Try.ntmps29
    go_wp2_with fail
    go_loopw [2] (fun i wr => ∃ j : Nat, j ≤ n ∧ i = .int .i64 j ∧ Hid (SpE w base g n rs wr)) (fun i _ => n - (intOf i).toNat)
    case atStart => exact ⟨0, Nat.zero_le _, rfl, HS0⟩
    case round =>
      clear HS0
      obtain ⟨j, hj, rfl, HS⟩ := hrel
      by_cases hlt : j < n
      · have hjl : j < rs.length := by rw [HL.out]; exact hlt
        obtain ⟨cur, hc, hx⟩ := HS.out.row
        obtain ⟨⟨z, hz⟩, hs14⟩ := hx j hjl
        have hc14 : wr.cell? ⟨g, j * 15 + 14, none⟩ = some (.slice (rs[j]).A (rs[j]).k (rs[j]).c) := (hc.cell _).trans hs14
        have hh := HS.out.hist rs[j] (List.getElem_mem hjl)
        have HC := Lib.hid hc
        have HZ := Lib.hid hz
        clear hx hc hz hs14
        generalize hA : (rs[j]).A = A2 at hc14 hh
        generalize hK : (rs[j]).k = k2 at hc14 hh
        generalize hC : (rs[j]).c = c2 at hc14 hh
        clear hA hK hC
        have hres : ∃ Φ : World → Prop, Calls Try.prog 20 #[.slice A2 k2 c2] wr (fun e w' => e = .returned (.tuple #[]) ∧ Φ w') ∧ ∀ w2, Φ w2 → Below base wr w2 ∧ w2.heap[g]? = wr.heap[g]? ∧ ∀ b cs, Has wr b 3 cs → ∃ cs', Has w2 b 3 cs' ∧ ∀ i, IntAt cs i → IntAt cs' i := by
          rcases hh with ⟨rfl, rfl, rfl⟩ | ⟨b, cs, rfl, hb, hk, hB, hz⟩
          · exact ⟨fun w' => w' = wr, spoilI_none wr, fun w2 e => by subst e; exact ⟨Below.refl _ _, rfl, fun b cs h => ⟨cs, h, fun _ h => h⟩⟩⟩
          · refine ⟨fun w' => SpI wr base b cs w', spoilI_any b k2 c2 cs base wr hB hz hb hk, fun w2 h => ⟨h.keep, h.other g (fun e => by subst e; exact has_types hB HC.out (by decide)), fun b' cs' h' => ?_⟩⟩
            by_cases e : b' = b
            · subst e
              obtain ⟨ct, h1, h2⟩ := h.cells
              have e2 : cs' = cs := by
                have h3 : Has wr b' 3 cs' := h'
                unfold Has at h3 hB
                rw [h3] at hB
                simp only [Option.some.injEq, Obj.cells.injEq] at hB
                exact hB.1
              rw [e2]
              exact ⟨ct, h1, h2⟩
            · exact ⟨cs', (h.other b' e).trans h', fun _ h => h⟩
        obtain ⟨Φ, hcall, hΦ⟩ := hres
        have HCALL := Lib.hid hcall
        have HΦ := Lib.hid hΦ
        clear hcall hΦ hh
        go_wp2_with (go_at_call 20; refine HCALL.out.mono ?_; rintro e w2 ⟨rfl, h2⟩; have hc0 : w2.cell? ⟨g, j * 15, none⟩ = some (.int .i64 z) := (Has.cell (t := 60) ((HΦ.out w2 h2).2.1.trans HC.out) _).trans HZ.out; have hm0 := Has.mark (t := 60) ((HΦ.out w2 h2).2.1.trans HC.out) (j * 15); have H2 := Lib.hid h2; clear h2)
        have HSN : ∀ v, Hid (SpE w base g n rs (w2.setCell ⟨g, j * 15, none⟩ (.int .i64 v))) := fun v => HS.out.step (HΦ.out w2 H2.out).1 (HΦ.out w2 H2.out).2.1 (HΦ.out w2 H2.out).2.2 hjl v
        go_roundw
        case rel => exact ⟨j + 1, by omega, by go_num, HSN _⟩
        case measure => simp [intOf]; omega
      · have hjn : j = n := by omega
        subst hjn
        go_wp2
        exact Great.bodyPost_end0 rfl rfl ⟨rfl, HS.out.keep⟩

end Go.Proofs.Ytgdeaddfkcokpaa

namespace Go.Proofs.Ytgdeaddfkcokpaa
open Go.RowKit

theorem lent_nums {w : World} {base n c : Nat} {A : Option Addr} {xs : List Int} (hl : OwnI w base (.slice A (n + 2) c) (xs ++ [-7777, -8888])) (hx : xs.length = n) : Ints w A n xs := by
  obtain ⟨b, o, rfl, hc⟩ := hl.ints.at_ (k := 0) (by omega)
  exact ⟨hx, fun _ => ⟨b, o, rfl, fun k hk => by
    have := hc k (by omega)
    rw [show nth (xs ++ [-7777, -8888]) k = nth xs k by simp [nth, List.getElem?_append_left (show k < xs.length by omega)]] at this
    exact this⟩⟩
theorem lent_items {w : World} {base n lc : Nat} {L : Option Addr} {xs : List It} (h : OwnIt w base (.slice L (n + 2) lc) (xs ++ [markIt, markIt])) (e : xs.length = n) : Items w L n xs := by
  refine ⟨e, fun hn => ?_⟩
  obtain ⟨b, o, rfl, hc⟩ := h.items.2 (by omega)
  refine ⟨b, o, rfl, fun i hi => ?_⟩
  have h1 := hc i (by omega)
  have h2 : nthI (xs ++ [markIt, markIt]) i = nthI xs i := by
    have hx : i < xs.length := by omega
    simp [nthI, hx, List.getElem?_append_left hx]
  rwa [h2] at h1
/-- What the program hands out: sessions of its own, a code. -/
def OutS (T : List Se) (code : Int) (w : World) (e : Ending) (w' : World) : Prop :=
  ∃ A c rs, e = .returned (.tuple #[.slice A T.length c, .int .i64 code]) ∧ OwnE w' w.heap.size (.slice A T.length c) rs ∧ rs.map (·.s) = T ∧ Below w.heap.size w w'
/-- What the reference hands out. -/
def OutQ (T : List Se) (code : Int) (w : World) (e : Ending) (w' : World) : Prop :=
  ∃ A c, e = .returned (.tuple #[.slice A T.length c, .int .i64 code]) ∧ Sess w' A T.length T ∧ Below w.heap.size w w'
theorem badS_out {code : Int} {w : World} {e : Ending} {w' : World} (h : BadS code w e w') : OutS [] code w e w' := ⟨none, 0, [], h.1, OwnE.nil _ _, rfl, h.2⟩
theorem badS_outQ {code : Int} {w : World} {e : Ending} {w' : World} (h : BadS code w e w') : OutQ [] code w e w' := ⟨none, 0, h.1, Sess.nil _ _, h.2⟩
theorem allE_len (g : Int) (bs : List Int) : ∀ (xs : List It) (ss : List Se), (allE g bs xs ss).length ≤ ss.length + xs.length
  | [], _ => Nat.le_refl _
  | x :: xs, ss => by
    have h1 := allE_len g bs xs (addE g bs x ss)
    have h2 := addE_len g bs x ss
    show (allE g bs xs (addE g bs x ss)).length ≤ _
    rw [List.length_cons]
    omega
/-- Program and reference tell the same. -/
theorem both_adds (g : Int) (bs : List Int) (ss : List Se) (xs : List It) (n m k : Nat) (hn : n ≤ 1048576) (hk : k ≤ 1048576) (hm : m ≤ maxLen) :
    ∃ (T : List Se) (code : Int), T.length ≤ 1000000000 ∧
      (∀ (A : Option Addr) (c : Nat) (B : Option Addr) (d : Nat) (X : Option Addr) (cx : Nat) (w : World), Sess w A n ss → n ≤ c → Ints w B m bs → Items w X k xs → (X = none → cx = 0) → k ≤ cx →
        Calls Try.prog 26 #[.slice A n c, .int .i64 g, .slice B m d, .slice X k cx] w (OutS T code w)) ∧
      (∀ (A : Option Addr) (c : Nat) (B : Option Addr) (d : Nat) (X : Option Addr) (cx : Nat) (w : World), SessR w A n ss → Ints w B m bs → Items w X k xs →
        Calls Try.prog 27 #[.slice A n c, .int .i64 g, .slice B m d, .slice X k cx] w (OutQ T code w)) := by
  cases h : (sesB g bs ss && itsB ss xs)
  · refine ⟨[], 600, Nat.zero_le _, fun A c B d X cx w hs _ hb hx _ _ => ?_, fun A c B d X cx w hs hb hx => ?_⟩
    · exact (sesadd_bad A n c ss g B m d bs X k cx xs w hs hb hm hx (by omega) h).mono fun e w' h => badS_out h
    · refine (raddall_any A n c ss g B m d bs X k cx xs w hs (by omega) hb hm hx).mono fun e w' hr => ?_
      rcases hr with hr | hr
      · exact badS_outQ hr.2
      · rw [h] at hr; cases hr.1
  · have h12 := h
    rw [Bool.and_eq_true] at h12
    have hp : ∀ s, s ∈ ss → 0 < s.a.n := fun s hs => by
      have h1 := (ses_ok h12.1).1.fit s hs
      exact (fit_ends h1.1 h1.2.1).2.2.2.1
    have hnb : ¬ bigE ss := by
      rintro ⟨s, hs, hb⟩
      have h1 := (ses_ok h12.1).1.fit s hs
      have := (fit_ends h1.1 h1.2.1).2.2.2.2
      omega
    rcases addT_eq (g := g) (bs := bs) xs hp hnb with ⟨hb, hT⟩ | ⟨hb, hT⟩
    · refine ⟨[], 101, Nat.zero_le _, fun A c B d X cx w hs hc hb' hx hX hkc => ?_, fun A c B d X cx w hs hb' hx => ?_⟩
      · refine (sesadd_ok A n c ss g B m d bs X k cx xs w hs hc hb' hm hx hX hkc (by omega) h12.1 h12.2).mono fun e w' hr => ?_
        rcases hr with hr | hr
        · exact badS_out hr.2
        · exact absurd hb hr.1
      · refine (raddall_any A n c ss g B m d bs X k cx xs w hs (by omega) hb' hm hx).mono fun e w' hr => ?_
        rcases hr with hr | hr
        · rw [h] at hr; cases hr.1
        · rcases hr.2 with hr | ⟨T, h1, _⟩
          · exact badS_outQ hr.2
          · rw [hT] at h1; cases h1
    · by_cases hl : ss.length = n ∧ xs.length = k
      · have hlen := allE_len g bs xs ss
        refine ⟨allE g bs xs ss, 0, by omega, fun A c B d X cx w hs hc hb' hx hX hkc => ?_, fun A c B d X cx w hs hb' hx => ?_⟩
        · refine (sesadd_ok A n c ss g B m d bs X k cx xs w hs hc hb' hm hx hX hkc (by omega) h12.1 h12.2).mono fun e w' hr => ?_
          rcases hr with hr | hr
          · exact absurd hr.1 hb
          · exact hr.2
        · refine (raddall_any A n c ss g B m d bs X k cx xs w hs (by omega) hb' hm hx).mono fun e w' hr => ?_
          rcases hr with hr | hr
          · rw [h] at hr; cases hr.1
          · rcases hr.2 with hr | ⟨T, h1, hg⟩
            · rw [hT] at hr; cases hr.1
            · rw [hT] at h1
              injection h1 with h1
              subst h1
              exact hg
      · exact ⟨[], 0, Nat.zero_le _, fun A c B d X cx w hs _ _ hx _ _ => absurd ⟨hs.1, hx.1⟩ hl, fun A c B d X cx w hs _ hx => absurd ⟨hs.1, hx.1⟩ hl⟩

/-- What came in, and the copies of it. -/
structure SxS (w : World) (A : Option Addr) (n : Nat) (ss : List Se) (B : Option Addr) (m : Nat) (bs : List Int) (X : Option Addr) (k : Nat) (xs : List It) (P : Option Addr) (cp : Nat) (L : Option Addr) (lc : Nat) (Y : Option Addr) (cy : Nat) (rs : List Rs) (wr : World) : Prop where
  ses : SessR wr A n ss
  bnd : Ints wr B m bs
  its : Items wr X k xs
  cop : OwnE wr w.heap.size (.slice P n cp) rs
  lent : OwnI wr w.heap.size (.slice L (m + 2) lc) (bs ++ [-7777, -8888])
  lit : OwnIt wr w.heap.size (.slice Y (k + 2) cy) (xs ++ [markIt, markIt])
  keep : Below w.heap.size w wr
theorem SxS.below {w : World} {A : Option Addr} {n : Nat} {ss : List Se} {B : Option Addr} {m : Nat} {bs : List Int} {X : Option Addr} {k : Nat} {xs : List It} {P : Option Addr} {cp : Nat} {L : Option Addr} {lc : Nat} {Y : Option Addr} {cy : Nat} {rs : List Rs} {wr wy : World} (h : SxS w A n ss B m bs X k xs P cp L lc Y cy rs wr) (hb : Below wr.heap.size wr wy) : SxS w A n ss B m bs X k xs P cp L lc Y cy rs wy :=
  ⟨h.ses.below hb, h.bnd.below hb, h.its.below hb, h.cop.below hb, h.lent.below hb, h.lit.below hb, h.keep.trans (hb.mono h.keep.size)⟩

set_option maxRecDepth 100000 in
set_option maxHeartbeats 4000000 in
theorem sessions_any (A : Option Addr) (n c : Nat) (ss : List Se) (g : Int) (B : Option Addr) (m d : Nat) (bs : List Int) (X : Option Addr) (k cx : Nat) (xs : List It) (w : World) (hr : SessR w A n ss) (hn : n ≤ 1048576) (hbs : Ints w B m bs) (hm : m * 8 ≤ 140737488351232) (hnil : B = none → d = 0)
    (hx : Items w X k xs) (hk : k ≤ 1048576) (hX : X = none → cx = 0 ∧ k = 0) :
    Calls Try.prog 4 #[.slice A n c, .int .i64 g, .slice B m d, .slice X k cx] w fun e w' => e = .returned (.bool true) ∧ Below w.heap.size w w' := by
  have hm63 : m ≤ maxLen := by unfold maxLen; omega
  have HLB := Lib.hid hbs.1
  have HLX := Lib.hid hx.1
  obtain ⟨T, code, hT, cP, cR⟩ := both_adds g bs ss xs n m k hn hk hm63
  have CP := Lib.hid cP; clear cP
  have CR := Lib.hid cR; clear cR
  have HT := Lib.hid hT; clear hT
  have HBS := Lib.hid hbs; clear hbs
  have HROW := Lib.hid hr; clear hr
  have HIT := Lib.hid hx; clear hx
  have HX := Lib.hid hX; clear hX
  go_enter Try.func4, Try.ntmps4
  go_wp2_with fail
  refine (copysess_any A n c ss _ HROW.out (by omega)).mono ?_
  rintro e w1 ⟨P, cp, rs, rfl, hco, hrs, hb1⟩
  have HB1 := Lib.hid hb1
  have HCO := Lib.hid hco
  have HRS := Lib.hid hrs
  clear hb1 hco hrs
  go_wp2_with fail
  refine (lendints_any B m d bs _ (HBS.out.below HB1.out) hm hnil).mono ?_
  rintro e w2 ⟨L, lc, rfl, hlo, hb2⟩
  have HCO2 := Lib.hid (HCO.out.below hb2)
  have HB2 := Lib.hid (HB1.out.trans (hb2.mono HB1.out.size))
  have HLO := Lib.hid (hlo.mono HB1.out.size)
  clear hb2 hlo HCO
  go_wp2_with fail
  refine (lenditems_any X k cx xs _ (HIT.out.below HB2.out) (by omega) HX.out).mono ?_
  rintro e w3 ⟨Y, cy, rfl, hli, hb3⟩
  have HS : Hid (SxS w A n ss B m bs X k xs P cp L lc Y cy rs w3) := by
    have hb := HB2.out.trans (hb3.mono HB2.out.size)
    refine ⟨HROW.out.below hb, HBS.out.below hb, HIT.out.below hb, HCO2.out.below hb3, HLO.out.below hb3, ?_, hb⟩
    have h := hli.items
    exact ⟨hli.1, hli.2.imp id (fun ⟨g, cap, cur, e, hg, r⟩ => ⟨g, cap, cur, e, Nat.le_trans HB2.out.size hg, r⟩)⟩
  clear hli hb3 HB1 HB2 HLO HCO2 HROW HBS HIT
  have HYN : Hid (Y = none → cy = 0) := by
    rcases HS.out.lit.2 with ⟨e0, _⟩ | ⟨g', cap, cur, e0, _⟩
    · injection e0; omega
    · injection e0 with e1; intro e; rw [e1] at e; cases e
  have HYC := Lib.hid HS.out.lit.capI.2
  have HPC := Lib.hid HS.out.cop.row.cap.1
  go_wp2_with fail
  refine (CP.out P cp L lc Y cy _ (HS.out.cop.sess HRS.out) HPC.out (lent_nums HS.out.lent HLB.out) (lent_items HS.out.lit HLX.out) HYN.out (by have := HYC.out; omega)).mono ?_
  rintro e w4 ⟨A4, c4, r4, rfl, ho4, hT4, hb4⟩
  have HB4 := Lib.hid hb4
  have HO4 := Lib.hid ho4
  have HT4 := Lib.hid hT4
  clear hb4 ho4 hT4
  go_wp2_with fail
  refine (CR.out A c B d X cx _ (HS.out.below HB4.out).ses (HS.out.below HB4.out).bnd (HS.out.below HB4.out).its).mono ?_
  rintro e w5 ⟨A5, c5, rfl, hs5, hb5⟩
  have HB5 := Lib.hid (HB4.out.trans (hb5.mono HB4.out.size))
  have HO5 := Lib.hid (HO4.out.below hb5)
  have HS5 := Lib.hid hs5
  clear hb5 hs5 HO4 HB4 CP CR
  go_wp2_with fail
  refine (samesess_any A4 A5 T.length c4 c5 T _ (HO5.out.sess HT4.out) HS5.out HT.out).mono ?_
  rintro e w6 ⟨rfl, hb6⟩
  have HB6 := Lib.hid (HB5.out.trans (hb6.mono HB5.out.size))
  have HO6 := Lib.hid (HO5.out.below hb6)
  clear hb6 HS5 HO5 HB5
  go_wp2_with (go_at_call 17; refine (num_any _ _).mono ?_; rintro e w' ⟨rfl, rfl⟩)
  refine (spoilsess_any A4 T.length c4 r4 _ _ HO6.out HT.out).mono ?_
  rintro e w7 ⟨rfl, hb7⟩
  have HB7 := Lib.hid (HB6.out.trans hb7)
  clear hb7 HO6 HB6
  go_wp2_with fail
  refine (sesmay_any P n cp ss g L m lc bs _ ((HS.out.below HB7.out).cop.sess HRS.out) (by omega) (lent_nums (HS.out.below HB7.out).lent HLB.out) hm63).mono ?_
  rintro e w8 ⟨rfl, hb8⟩
  have HB8 := Lib.hid (HB7.out.trans (hb8.mono HB7.out.size))
  clear hb8 HB7
  go_wp2_with fail
  refine (rsesmay_any A n c ss g B m d bs _ (HS.out.below HB8.out).ses.sess (by omega) (HS.out.below HB8.out).bnd hm63).mono ?_
  rintro e w9 ⟨rfl, hb9⟩
  have HB9 := Lib.hid (HB8.out.trans (hb9.mono HB8.out.size))
  clear hb9 HB8
  generalize sesB g bs ss = may
  go_wp2_with fail
  refine (samesess_any P A n cp c ss _ ((HS.out.below HB9.out).cop.sess HRS.out) (HS.out.below HB9.out).ses.sess (by omega)).mono ?_
  rintro e w10 ⟨rfl, hb10⟩
  have HB10 := Lib.hid (HB9.out.trans (hb10.mono HB9.out.size))
  clear hb10 HB9
  go_wp2_with fail
  refine (keptints_any L B m lc d bs w.heap.size _ (HS.out.below HB10.out).lent HLB.out (HS.out.below HB10.out).bnd hm).mono ?_
  rintro e w11 ⟨rfl, q, rfl⟩
  have HB11 := Lib.hid (below_drewN HB10.out q)
  clear HB10
  go_wp2_with fail
  refine (keptitems_any Y X k cy cx xs w.heap.size _ (HS.out.below HB11.out).lit HLX.out (HS.out.below HB11.out).its (by omega)).mono ?_
  rintro e w12 ⟨rfl, hb12⟩
  have HB12 := Lib.hid (HB11.out.trans (hb12.mono HB11.out.size))
  clear hb12 HB11
  go_wp2_with fail
  refine (sawake_any _).mono ?_
  rintro e w13 ⟨rfl, hb13⟩
  have HB13 := Lib.hid (HB12.out.trans (hb13.mono HB12.out.size))
  clear hb13 HB12
  go_wp2_with fail
  go_ret
  exact ⟨rfl, HS.out.keep.trans (HB13.out.mono HS.out.keep.size)⟩

end Go.Proofs.Ytgdeaddfkcokpaa
