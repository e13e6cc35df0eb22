/-
  Walk: what is known of a part's items in a span (written by gen/trwin.py).
-/
import Derived.Test.YtjgjbhbpndjnnaaTrReg4
import Derived.Test.YtjgjbhbpndjnnaaG29
namespace Go.Proofs.Ytjgjbhbpndjnnaa
open Go.RowKit

/-- The call hands out what it was handed, with these aggregates behind. -/
def WiO (base : Nat) (vo : Value) (ps : List (Ac × Nat)) (R : List Ac) (w : World) (e : Ending) (w' : World) : Prop :=
  ∃ v' qs, e = .returned v' ∧ Own w' base v' (ps ++ qs) ∧ qs.map (·.1) = R ∧ ButO (slB vo) w w' ∧ SameB vo v' w
/-- In the midst of it: the row v holds ps. -/
structure WiS (w : World) (base : Nat) (vo : Value) (sa sb : Int) (v : Value) (ps : List (Ac × Nat)) (wr : World) : Prop where
  keep : ButO (slB vo) w wr
  box : Has wr w.heap.size 54 #[.int .i64 sa, .int .i64 sb]
  own : Own wr base v ps
  same : SameB vo v w
  far : v.ownBlock ≠ some w.heap.size
section
variable {w wr w' : World} {base : Nat} {vo v v' : Value} {sa sb : Int} {ps ps' : List (Ac × Nat)}
theorem WiS.below (h : WiS w base vo sa sb v ps wr) (hb : Below wr.heap.size wr w') : WiS w base vo sa sb v ps w' := ⟨h.keep.thenB hb, h.box.below hb h.box.lt, h.own.below hb, h.same, h.far⟩
theorem WiS.turn (h : WiS w base vo sa sb v ps wr) (hb : ButO (slB v) wr w') (ho : Own w' base v' ps') (hs : ∀ k, v'.ownBlock = some k → v.ownBlock = some k ∨ wr.heap.size ≤ k) : WiS w base vo sa sb v' ps' w' :=
  ⟨h.same.butO h.keep hb, h.box.butB hb h.far, ho, h.same.trans hs h.keep.size, fun e => by
    rcases hs _ e with h1 | h1
    · exact h.far h1
    · have := h.box.lt; omega⟩
theorem WiS.bs (h : WiS w base vo sa sb v ps wr) : w.heap.size ≤ wr.heap.size := h.keep.size
end
section
variable {P : Nat → Prop} {g m d : Nat} {A root : Option Addr} {bs : List Int}
set_option maxRecDepth 100000 in
set_option maxHeartbeats 4000000 in
theorem twithin_any (base z : Nat) (hP : ∀ k, P k → k < z) (sa sb : Int) : ∀ (T : Tr) (w : World) (vo : Value) (ps : List (Ac × Nat)), TBd P w g bs A m d root → T.At bs P w → z ≤ w.heap.size → Own w base vo ps → base ≤ w.heap.size → (∀ k, P k → vo.ownBlock ≠ some k) → ps.length + T.row.length ≤ 8192 → ItsT bs T.row →
    Calls Try.prog 65 #[.pointer (some ⟨g, 0, none⟩), .pointer T.ptr, .agg #[.int .i64 sa, .int .i64 sb], vo] w (WiO base vo ps ((T.told bs sa sb).map (foldA bs)) w) := by
  intro T
  induction T with
  | nil =>
    intro w vo ps _ _ _ ho _ _ _ _
    have HO := Lib.hid ho
    have HB := Lib.hid ((Below.refl _ w).alloc (Nat.le_refl _) (.cells #[.int .i64 sa, .int .i64 sb] 54))
    clear ho
    show Calls _ _ #[_, .pointer none, _, vo] w (WiO base vo ps [] w)
    go_enter Try.func65, Try.ntmps65
    go_wp2_with fail
    go_ret
    exact ⟨vo, [], rfl, by simpa using HO.out.below HB.out, rfl, below_butO HB.out _, fun k hk => .inl hk⟩
  | node b H l v r ih1 ih2 =>
    intro w vo ps hT hA hz ho hb hv hn h
    have hl : ItsT bs l.row := h.sublist (by simp [Tr.row])
    have hr : ItsT bs r.row := h.sublist (by simp [Tr.row])
    have hit : itemB v = true := h.it v (by simp [Tr.row])
    have hto := Tr.told_node bs sa sb b H l v r
    have htl := Tr.told_len bs sa sb l
    have hnn : ps.length + (l.row.length + (r.row.length + 1)) ≤ 8192 := by simpa [Tr.row] using hn
    have HP2 : Hid (∀ v2, SameB vo v2 w → ∀ k, P k → v2.ownBlock ≠ some k) := fun v2 hs k hk e => by
      rcases hs k e with h3 | h3
      · exact hv k hk h3
      · have := hP k hk; omega
    have HC1 : Hid (∀ w1, ButO (slB vo) w w1 → Own w1 base vo ps → Calls Try.prog 65 #[.pointer (some ⟨g, 0, none⟩), .pointer l.ptr, .agg #[.int .i64 sa, .int .i64 sb], vo] w1 (WiO base vo ps ((l.told bs sa sb).map (foldA bs)) w1)) := fun w1 h1 h2 =>
      ih1 w1 vo ps (hT.butB h1 hv) (hA.butB h1 hv).2.2.2.2.1 (Nat.le_trans hz h1.size) h2 (Nat.le_trans hb h1.size) hv (by omega) hl
    have HC2 : Hid (∀ w1 v2 ps2, ButO (slB vo) w w1 → SameB vo v2 w → ps2.length + r.row.length ≤ 8192 → Own w1 base v2 ps2 → Calls Try.prog 65 #[.pointer (some ⟨g, 0, none⟩), .pointer r.ptr, .agg #[.int .i64 sa, .int .i64 sb], v2] w1 (WiO base v2 ps2 ((r.told bs sa sb).map (foldA bs)) w1)) := fun w1 v2 ps2 h1 hs hn2 h2 =>
      ih2 w1 v2 ps2 (hT.butB h1 hv) (hA.butB h1 hv).2.2.2.2.2 (Nat.le_trans hz h1.size) h2 (Nat.le_trans hb h1.size) (HP2.out v2 hs) hn2 hr
    have HAL : Hid (∀ w1, ButO (slB vo) w w1 → Calls Try.prog 84 #[.pointer (some ⟨g, 0, none⟩), .agg #[.int .i64 v.s, .int .i64 v.t, .int .i64 v.q, .int .i64 v.v]] w1 (AcO (oneAc v bs) w1)) := fun w1 h1 => talone_any (hT.butB h1 hv) v hit h.bd
    have HB3 := Lib.hid (fun w' (h1 : ButO (slB vo) w w') => (show Has w' b PT _ ∧ Has w' H 3 _ from ⟨(hA.butB h1 hv).2.2.1, (hA.butB h1 hv).2.2.2.1⟩))
    have HPB := Lib.hid (fun v2 hs => HP2.out v2 hs b hA.1)
    have S1 : Hid (WiS w base vo sa sb vo ps (w.alloc (.cells #[.int .i64 sa, .int .i64 sb] 54))) := ⟨below_butO ((Below.refl _ _).alloc (Nat.le_refl _) _) _, Has.made _ _ _, ho.below ((Below.refl _ _).alloc (Nat.le_refl _) _), fun k hk => .inl hk, fun e => by have := ho.ltT e; omega⟩
    have HLE := Lib.hid hb
    have HONE := Lib.hid (foldA_one (bs := bs) hit)
    have e0 : (Tr.node b H l v r).ptr = some ⟨b, 0, none⟩ := rfl
    rw [e0]
    clear e0 ih1 ih2 hT hA hz ho hb hv hn h hl hr hit HP2 hP
    generalize (Tr.node b H l v r).told bs sa sb = TD at hto ⊢
    have HN := Lib.hid hnn
    have HTL := Lib.hid htl
    clear hnn htl
    generalize hav : foldA bs (Tr.node b H l v r).row = av at hto HB3
    have HAV := Lib.hid hav
    clear hav
    by_cases c1 : av.l.t < sa
    · have hd1 : decide (av.l.t < sa) = true := decide_eq_true c1
      rw [if_pos (.inl c1)] at hto
      have HTO := Lib.hid hto
      clear hto
      go_enter Try.func65, Try.ntmps65
      go_upto_region 2 with fail
      refine tw2_any (b := b) (y := w.heap.size) (v := v) (av := av) (hk := H) (p := l.ptr) (q := r.ptr) (sa := sa) (sb := sb) (β := true) ⟨rfl, rfl, rfl, (HB3.out _ S1.out.keep).1, S1.out.box, hd1⟩ (by kernel_rfl) ?_
      intro w2 hb
      have S2 := Lib.hid (S1.out.below hb)
      clear hb S1
      simp only [putAll, Act.put, List.setIfInBounds_toArray, List.set_cons_succ, List.set_cons_zero]
      go_wp2_with fail
      go_ret
      exact ⟨vo, [], rfl, by simpa using S2.out.own, by rw [HTO.out]; rfl, S2.out.keep, S2.out.same⟩
    by_cases c2 : sb ≤ av.f.t
    · have hd1 : decide (av.l.t < sa) = false := decide_eq_false c1
      have hd2 : decide (sb ≤ av.f.t) = true := decide_eq_true c2
      rw [if_pos (.inr c2)] at hto
      have HTO := Lib.hid hto
      clear hto
      go_enter Try.func65, Try.ntmps65
      go_upto_region 2 with fail
      refine tw2_any (b := b) (y := w.heap.size) (v := v) (av := av) (hk := H) (p := l.ptr) (q := r.ptr) (sa := sa) (sb := sb) (β := false) ⟨rfl, rfl, rfl, (HB3.out _ S1.out.keep).1, S1.out.box, hd1⟩ (by kernel_rfl) ?_
      intro w2 hb
      have S2 := Lib.hid (S1.out.below hb)
      clear hb S1
      simp only [putAll, Act.put, List.setIfInBounds_toArray, List.set_cons_succ, List.set_cons_zero]
      go_upto_region 3 with fail
      refine tw3_any (b := b) (y := w.heap.size) (v := v) (av := av) (hk := H) (p := l.ptr) (q := r.ptr) (sa := sa) (sb := sb) (β := true) ⟨rfl, rfl, rfl, (HB3.out _ S2.out.keep).1, S2.out.box, hd2⟩ (by kernel_rfl) ?_
      intro w3 hb
      have S3 := Lib.hid (S2.out.below hb)
      clear hb S2
      simp only [putAll, Act.put, List.setIfInBounds_toArray, List.set_cons_succ, List.set_cons_zero]
      go_wp2_with fail
      go_ret
      exact ⟨vo, [], rfl, by simpa using S3.out.own, by rw [HTO.out]; rfl, S3.out.keep, S3.out.same⟩
    by_cases c3 : sa ≤ av.f.t
    · by_cases c4 : av.l.t < sb
      · have hd1 : decide (av.l.t < sa) = false := decide_eq_false c1
        have hd2 : decide (sb ≤ av.f.t) = false := decide_eq_false c2
        rw [if_neg (not_or.2 ⟨c1, c2⟩)] at hto
        have hd3 : decide (sa ≤ av.f.t) = true := decide_eq_true c3
        have hd4 : decide (av.l.t < sb) = true := decide_eq_true c4
        rw [if_pos ⟨c3, c4⟩] at hto
        have HTO := Lib.hid hto
        clear hto
        go_enter Try.func65, Try.ntmps65
        go_upto_region 2 with fail
        refine tw2_any (b := b) (y := w.heap.size) (v := v) (av := av) (hk := H) (p := l.ptr) (q := r.ptr) (sa := sa) (sb := sb) (β := false) ⟨rfl, rfl, rfl, (HB3.out _ S1.out.keep).1, S1.out.box, hd1⟩ (by kernel_rfl) ?_
        intro w2 hb
        have S2 := Lib.hid (S1.out.below hb)
        clear hb S1
        simp only [putAll, Act.put, List.setIfInBounds_toArray, List.set_cons_succ, List.set_cons_zero]
        go_upto_region 3 with fail
        refine tw3_any (b := b) (y := w.heap.size) (v := v) (av := av) (hk := H) (p := l.ptr) (q := r.ptr) (sa := sa) (sb := sb) (β := false) ⟨rfl, rfl, rfl, (HB3.out _ S2.out.keep).1, S2.out.box, hd2⟩ (by kernel_rfl) ?_
        intro w3 hb
        have S3 := Lib.hid (S2.out.below hb)
        clear hb S2
        simp only [putAll, Act.put, List.setIfInBounds_toArray, List.set_cons_succ, List.set_cons_zero]
        go_upto_region 5 with fail
        refine tw5t_any (b := b) (y := w.heap.size) (v := v) (av := av) (hk := H) (p := l.ptr) (q := r.ptr) (sa := sa) (sb := sb) (β := true) ⟨rfl, rfl, rfl, (HB3.out _ S3.out.keep).1, S3.out.box, hd3, hd4⟩ (by kernel_rfl) ?_
        intro w5 hb
        have S5 := Lib.hid (S3.out.below hb)
        clear hb S3
        simp only [putAll, Act.put, List.setIfInBounds_toArray, List.set_cons_succ, List.set_cons_zero]
        go_wp2_with (first | (refine load_accP rfl _ rfl b rfl (HB3.out _ S5.out.keep).1 ?_) | (refine lit1 rfl _ rfl rfl ?_; intro wl hbl hvl) | (refine app_accO rfl _ _ rfl (base := base) (v := vo) rfl (S5.out.own.below hbl) rfl hvl ((HB3.out _ S5.out.keep).2.below hbl (HB3.out _ S5.out.keep).2.lt) (by have := HN.out; omega) (by have := HLE.out; have := S5.out.bs; have := hbl.size; omega) ?_; intro v6 w6 ho hb hs; have S6 := Lib.hid ((S5.out.below hbl).turn hb ho hs); clear hbl hvl ho hb hs))
        go_ret
        exact ⟨v6, [(av, H)], rfl, S6.out.own, by rw [HTO.out]; simp [HAV.out], S6.out.keep, S6.out.same⟩
      · skip
        by_cases c5 : sa ≤ v.t
        · by_cases c6 : v.t < sb
          · have hd1 : decide (av.l.t < sa) = false := decide_eq_false c1
            have hd2 : decide (sb ≤ av.f.t) = false := decide_eq_false c2
            rw [if_neg (not_or.2 ⟨c1, c2⟩)] at hto
            have hd3 : decide (sa ≤ av.f.t) = true := decide_eq_true c3
            have hd4 : decide (av.l.t < sb) = false := decide_eq_false c4
            rw [if_neg (fun e => c4 e.2)] at hto
            have hd5 : decide (sa ≤ v.t) = true := decide_eq_true c5
            have hd6 : decide (v.t < sb) = true := decide_eq_true c6
            rw [if_pos ⟨c5, c6⟩] at hto
            have HTO := Lib.hid hto
            clear hto
            go_enter Try.func65, Try.ntmps65
            go_upto_region 2 with fail
            refine tw2_any (b := b) (y := w.heap.size) (v := v) (av := av) (hk := H) (p := l.ptr) (q := r.ptr) (sa := sa) (sb := sb) (β := false) ⟨rfl, rfl, rfl, (HB3.out _ S1.out.keep).1, S1.out.box, hd1⟩ (by kernel_rfl) ?_
            intro w2 hb
            have S2 := Lib.hid (S1.out.below hb)
            clear hb S1
            simp only [putAll, Act.put, List.setIfInBounds_toArray, List.set_cons_succ, List.set_cons_zero]
            go_upto_region 3 with fail
            refine tw3_any (b := b) (y := w.heap.size) (v := v) (av := av) (hk := H) (p := l.ptr) (q := r.ptr) (sa := sa) (sb := sb) (β := false) ⟨rfl, rfl, rfl, (HB3.out _ S2.out.keep).1, S2.out.box, hd2⟩ (by kernel_rfl) ?_
            intro w3 hb
            have S3 := Lib.hid (S2.out.below hb)
            clear hb S2
            simp only [putAll, Act.put, List.setIfInBounds_toArray, List.set_cons_succ, List.set_cons_zero]
            go_upto_region 5 with fail
            refine tw5t_any (b := b) (y := w.heap.size) (v := v) (av := av) (hk := H) (p := l.ptr) (q := r.ptr) (sa := sa) (sb := sb) (β := false) ⟨rfl, rfl, rfl, (HB3.out _ S3.out.keep).1, S3.out.box, hd3, hd4⟩ (by kernel_rfl) ?_
            intro w5 hb
            have S5 := Lib.hid (S3.out.below hb)
            clear hb S3
            simp only [putAll, Act.put, List.setIfInBounds_toArray, List.set_cons_succ, List.set_cons_zero]
            go_upto_region 7 with fail
            refine tw7_any (g := g) (b := b) (y := w.heap.size) (v := v) (av := av) (hk := H) (p := l.ptr) (q := r.ptr) (sa := sa) (sb := sb) (vo := vo) (base := base) (z := w5.heap.size) (ps := ps) (R := (l.told bs sa sb).map (foldA bs)) ⟨rfl, rfl, rfl, rfl, rfl, (HB3.out _ S5.out.keep).1, HPB.out _ S5.out.same, S5.out.box, S5.out.far, fun w1 h1 h2 => (HC1.out w1 (S5.out.keep.tr h1) h2).mono fun e w2 ⟨v1, qs, e1, e2, e3, e4, e5⟩ => ⟨v1, e1, ⟨qs, e2, e3⟩, e4, fun k hk => (e5 k hk).imp id (fun h => by have := h1.size; omega)⟩, fun _ _ h hb => h.below hb, ⟨S5.out.own.row, S5.out.own.hist⟩⟩ (by kernel_rfl) ?_
            intro v66 w7 hI hV
            obtain ⟨⟨qs, hq1, hq2⟩, hq3⟩ := hV
            have S7 := Lib.hid (S5.out.turn hI.1 hq1 hq3)
            have HQ := Lib.hid hq2
            have HQL := Lib.hid (show qs.length ≤ l.row.length from by have := congrArg List.length hq2; simp only [List.length_map] at this; have := HTL.out; omega)
            clear hI hq1 hq2 hq3 S5 HC1 HTL
            simp only [putAll, Act.put, List.setIfInBounds_toArray, List.set_cons_succ, List.set_cons_zero, List.drop_succ_cons, List.drop_zero]
            go_upto_region 8 with fail
            refine tw8t_any (b := b) (y := w.heap.size) (v := v) (av := av) (hk := H) (p := l.ptr) (q := r.ptr) (sa := sa) (sb := sb) (β := true) ⟨rfl, rfl, rfl, (HB3.out _ S7.out.keep).1, S7.out.box, hd5, hd6⟩ (by kernel_rfl) ?_
            intro w8 hb
            have S8 := Lib.hid (S7.out.below hb)
            clear hb S7
            simp only [putAll, Act.put, List.setIfInBounds_toArray, List.set_cons_succ, List.set_cons_zero]
            have hc1 : w8.cell? ⟨b, 1, none⟩ = some (.int .i64 v.s) := (HB3.out _ S8.out.keep).1.cell 1
            have hc2 : w8.cell? ⟨b, 2, none⟩ = some (.int .i64 v.t) := (HB3.out _ S8.out.keep).1.cell 2
            have hc3 : w8.cell? ⟨b, 3, none⟩ = some (.int .i64 v.q) := (HB3.out _ S8.out.keep).1.cell 3
            have hc4 : w8.cell? ⟨b, 4, none⟩ = some (.int .i64 v.v) := (HB3.out _ S8.out.keep).1.cell 4
            go_upto_region 10 with (first | (refine (HAL.out _ S8.out.keep).mono ?_; clear HAL; rintro e wa ⟨Ha, _, rfl, hha, hba⟩) | (refine lit1 rfl _ rfl rfl ?_; intro wl hbl hvl) | (refine app_accO rfl _ _ rfl (base := base) (v := v66) rfl ((S8.out.below hba).own.below hbl) rfl hvl (hha.below hbl hha.lt) (by have := HN.out; have := HQL.out; simp only [List.length_append]; omega) (by have := HLE.out; have := S8.out.bs; have := hba.size; have := hbl.size; omega) ?_; intro v9 w9 ho hb hs; have S9 := Lib.hid (((S8.out.below hba).below hbl).turn hb ho hs); clear hbl hvl hha hba ho hb hs))
            clear hc1 hc2 hc3 hc4
            refine tw0_any (g := g) (b := b) (y := w.heap.size) (v := v) (av := av) (hk := H) (p := l.ptr) (q := r.ptr) (sa := sa) (sb := sb) (vo := v9) (base := base) (z := w9.heap.size) (ps := (ps ++ qs ++ [(oneAc v bs, Ha)])) (R := (r.told bs sa sb).map (foldA bs)) ⟨rfl, rfl, rfl, rfl, rfl, (HB3.out _ S9.out.keep).1, HPB.out _ S9.out.same, S9.out.box, S9.out.far, fun w1 h1 h2 => (HC2.out w1 _ _ (S9.out.same.butO S9.out.keep h1) S9.out.same (by have := HN.out; have := HQL.out; simp only [List.length_append, List.length_cons, List.length_nil]; omega) h2).mono fun e w2 ⟨v1, qs, e1, e2, e3, e4, e5⟩ => ⟨v1, e1, ⟨qs, e2, e3⟩, e4, fun k hk => (e5 k hk).imp id (fun h => by have := h1.size; omega)⟩, fun _ _ h hb => h.below hb, ⟨S9.out.own.row, S9.out.own.hist⟩⟩ (by kernel_rfl) ?_
            intro v101 w10 hI hV
            obtain ⟨⟨qs2, hq1, hq2⟩, hq3⟩ := hV
            have S10 := Lib.hid (S9.out.turn hI.1 hq1 hq3)
            have HQ2 := Lib.hid hq2
            clear hI hq1 hq2 hq3 S9 HC2
            simp only [putAll, Act.put, List.setIfInBounds_toArray, List.set_cons_succ, List.set_cons_zero, List.drop_succ_cons, List.drop_zero]
            go_wp2_with fail
            go_ret
            exact ⟨v101, qs ++ ((oneAc v bs, Ha) :: qs2), rfl, by simpa using S10.out.own, by rw [HTO.out, List.map_append, List.map_cons, HQ.out, HQ2.out]; simp [HONE.out], S10.out.keep, S10.out.same⟩
          · have hd1 : decide (av.l.t < sa) = false := decide_eq_false c1
            have hd2 : decide (sb ≤ av.f.t) = false := decide_eq_false c2
            rw [if_neg (not_or.2 ⟨c1, c2⟩)] at hto
            have hd3 : decide (sa ≤ av.f.t) = true := decide_eq_true c3
            have hd4 : decide (av.l.t < sb) = false := decide_eq_false c4
            rw [if_neg (fun e => c4 e.2)] at hto
            have hd5 : decide (sa ≤ v.t) = true := decide_eq_true c5
            have hd6 : decide (v.t < sb) = false := decide_eq_false c6
            rw [if_neg (fun e => c6 e.2)] at hto
            have HTO := Lib.hid hto
            clear hto
            go_enter Try.func65, Try.ntmps65
            go_upto_region 2 with fail
            refine tw2_any (b := b) (y := w.heap.size) (v := v) (av := av) (hk := H) (p := l.ptr) (q := r.ptr) (sa := sa) (sb := sb) (β := false) ⟨rfl, rfl, rfl, (HB3.out _ S1.out.keep).1, S1.out.box, hd1⟩ (by kernel_rfl) ?_
            intro w2 hb
            have S2 := Lib.hid (S1.out.below hb)
            clear hb S1
            simp only [putAll, Act.put, List.setIfInBounds_toArray, List.set_cons_succ, List.set_cons_zero]
            go_upto_region 3 with fail
            refine tw3_any (b := b) (y := w.heap.size) (v := v) (av := av) (hk := H) (p := l.ptr) (q := r.ptr) (sa := sa) (sb := sb) (β := false) ⟨rfl, rfl, rfl, (HB3.out _ S2.out.keep).1, S2.out.box, hd2⟩ (by kernel_rfl) ?_
            intro w3 hb
            have S3 := Lib.hid (S2.out.below hb)
            clear hb S2
            simp only [putAll, Act.put, List.setIfInBounds_toArray, List.set_cons_succ, List.set_cons_zero]
            go_upto_region 5 with fail
            refine tw5t_any (b := b) (y := w.heap.size) (v := v) (av := av) (hk := H) (p := l.ptr) (q := r.ptr) (sa := sa) (sb := sb) (β := false) ⟨rfl, rfl, rfl, (HB3.out _ S3.out.keep).1, S3.out.box, hd3, hd4⟩ (by kernel_rfl) ?_
            intro w5 hb
            have S5 := Lib.hid (S3.out.below hb)
            clear hb S3
            simp only [putAll, Act.put, List.setIfInBounds_toArray, List.set_cons_succ, List.set_cons_zero]
            go_upto_region 7 with fail
            refine tw7_any (g := g) (b := b) (y := w.heap.size) (v := v) (av := av) (hk := H) (p := l.ptr) (q := r.ptr) (sa := sa) (sb := sb) (vo := vo) (base := base) (z := w5.heap.size) (ps := ps) (R := (l.told bs sa sb).map (foldA bs)) ⟨rfl, rfl, rfl, rfl, rfl, (HB3.out _ S5.out.keep).1, HPB.out _ S5.out.same, S5.out.box, S5.out.far, fun w1 h1 h2 => (HC1.out w1 (S5.out.keep.tr h1) h2).mono fun e w2 ⟨v1, qs, e1, e2, e3, e4, e5⟩ => ⟨v1, e1, ⟨qs, e2, e3⟩, e4, fun k hk => (e5 k hk).imp id (fun h => by have := h1.size; omega)⟩, fun _ _ h hb => h.below hb, ⟨S5.out.own.row, S5.out.own.hist⟩⟩ (by kernel_rfl) ?_
            intro v66 w7 hI hV
            obtain ⟨⟨qs, hq1, hq2⟩, hq3⟩ := hV
            have S7 := Lib.hid (S5.out.turn hI.1 hq1 hq3)
            have HQ := Lib.hid hq2
            have HQL := Lib.hid (show qs.length ≤ l.row.length from by have := congrArg List.length hq2; simp only [List.length_map] at this; have := HTL.out; omega)
            clear hI hq1 hq2 hq3 S5 HC1 HTL
            simp only [putAll, Act.put, List.setIfInBounds_toArray, List.set_cons_succ, List.set_cons_zero, List.drop_succ_cons, List.drop_zero]
            go_upto_region 8 with fail
            refine tw8t_any (b := b) (y := w.heap.size) (v := v) (av := av) (hk := H) (p := l.ptr) (q := r.ptr) (sa := sa) (sb := sb) (β := false) ⟨rfl, rfl, rfl, (HB3.out _ S7.out.keep).1, S7.out.box, hd5, hd6⟩ (by kernel_rfl) ?_
            intro w8 hb
            have S8 := Lib.hid (S7.out.below hb)
            clear hb S7
            simp only [putAll, Act.put, List.setIfInBounds_toArray, List.set_cons_succ, List.set_cons_zero]
            go_upto_region 10 with fail
            refine tw0_any (g := g) (b := b) (y := w.heap.size) (v := v) (av := av) (hk := H) (p := l.ptr) (q := r.ptr) (sa := sa) (sb := sb) (vo := v66) (base := base) (z := w8.heap.size) (ps := (ps ++ qs)) (R := (r.told bs sa sb).map (foldA bs)) ⟨rfl, rfl, rfl, rfl, rfl, (HB3.out _ S8.out.keep).1, HPB.out _ S8.out.same, S8.out.box, S8.out.far, fun w1 h1 h2 => (HC2.out w1 _ _ (S8.out.same.butO S8.out.keep h1) S8.out.same (by have := HN.out; have := HQL.out; simp only [List.length_append]; omega) h2).mono fun e w2 ⟨v1, qs, e1, e2, e3, e4, e5⟩ => ⟨v1, e1, ⟨qs, e2, e3⟩, e4, fun k hk => (e5 k hk).imp id (fun h => by have := h1.size; omega)⟩, fun _ _ h hb => h.below hb, ⟨S8.out.own.row, S8.out.own.hist⟩⟩ (by kernel_rfl) ?_
            intro v101 w10 hI hV
            obtain ⟨⟨qs2, hq1, hq2⟩, hq3⟩ := hV
            have S10 := Lib.hid (S8.out.turn hI.1 hq1 hq3)
            have HQ2 := Lib.hid hq2
            clear hI hq1 hq2 hq3 S8 HC2
            simp only [putAll, Act.put, List.setIfInBounds_toArray, List.set_cons_succ, List.set_cons_zero, List.drop_succ_cons, List.drop_zero]
            go_wp2_with fail
            go_ret
            exact ⟨v101, qs ++ qs2, rfl, by simpa using S10.out.own, by rw [HTO.out, List.map_append, HQ.out, HQ2.out]; simp, S10.out.keep, S10.out.same⟩
        · have hd1 : decide (av.l.t < sa) = false := decide_eq_false c1
          have hd2 : decide (sb ≤ av.f.t) = false := decide_eq_false c2
          rw [if_neg (not_or.2 ⟨c1, c2⟩)] at hto
          have hd3 : decide (sa ≤ av.f.t) = true := decide_eq_true c3
          have hd4 : decide (av.l.t < sb) = false := decide_eq_false c4
          rw [if_neg (fun e => c4 e.2)] at hto
          have hd5 : decide (sa ≤ v.t) = false := decide_eq_false c5
          rw [if_neg (fun e => c5 e.1)] at hto
          have HTO := Lib.hid hto
          clear hto
          go_enter Try.func65, Try.ntmps65
          go_upto_region 2 with fail
          refine tw2_any (b := b) (y := w.heap.size) (v := v) (av := av) (hk := H) (p := l.ptr) (q := r.ptr) (sa := sa) (sb := sb) (β := false) ⟨rfl, rfl, rfl, (HB3.out _ S1.out.keep).1, S1.out.box, hd1⟩ (by kernel_rfl) ?_
          intro w2 hb
          have S2 := Lib.hid (S1.out.below hb)
          clear hb S1
          simp only [putAll, Act.put, List.setIfInBounds_toArray, List.set_cons_succ, List.set_cons_zero]
          go_upto_region 3 with fail
          refine tw3_any (b := b) (y := w.heap.size) (v := v) (av := av) (hk := H) (p := l.ptr) (q := r.ptr) (sa := sa) (sb := sb) (β := false) ⟨rfl, rfl, rfl, (HB3.out _ S2.out.keep).1, S2.out.box, hd2⟩ (by kernel_rfl) ?_
          intro w3 hb
          have S3 := Lib.hid (S2.out.below hb)
          clear hb S2
          simp only [putAll, Act.put, List.setIfInBounds_toArray, List.set_cons_succ, List.set_cons_zero]
          go_upto_region 5 with fail
          refine tw5t_any (b := b) (y := w.heap.size) (v := v) (av := av) (hk := H) (p := l.ptr) (q := r.ptr) (sa := sa) (sb := sb) (β := false) ⟨rfl, rfl, rfl, (HB3.out _ S3.out.keep).1, S3.out.box, hd3, hd4⟩ (by kernel_rfl) ?_
          intro w5 hb
          have S5 := Lib.hid (S3.out.below hb)
          clear hb S3
          simp only [putAll, Act.put, List.setIfInBounds_toArray, List.set_cons_succ, List.set_cons_zero]
          go_upto_region 7 with fail
          refine tw7_any (g := g) (b := b) (y := w.heap.size) (v := v) (av := av) (hk := H) (p := l.ptr) (q := r.ptr) (sa := sa) (sb := sb) (vo := vo) (base := base) (z := w5.heap.size) (ps := ps) (R := (l.told bs sa sb).map (foldA bs)) ⟨rfl, rfl, rfl, rfl, rfl, (HB3.out _ S5.out.keep).1, HPB.out _ S5.out.same, S5.out.box, S5.out.far, fun w1 h1 h2 => (HC1.out w1 (S5.out.keep.tr h1) h2).mono fun e w2 ⟨v1, qs, e1, e2, e3, e4, e5⟩ => ⟨v1, e1, ⟨qs, e2, e3⟩, e4, fun k hk => (e5 k hk).imp id (fun h => by have := h1.size; omega)⟩, fun _ _ h hb => h.below hb, ⟨S5.out.own.row, S5.out.own.hist⟩⟩ (by kernel_rfl) ?_
          intro v66 w7 hI hV
          obtain ⟨⟨qs, hq1, hq2⟩, hq3⟩ := hV
          have S7 := Lib.hid (S5.out.turn hI.1 hq1 hq3)
          have HQ := Lib.hid hq2
          have HQL := Lib.hid (show qs.length ≤ l.row.length from by have := congrArg List.length hq2; simp only [List.length_map] at this; have := HTL.out; omega)
          clear hI hq1 hq2 hq3 S5 HC1 HTL
          simp only [putAll, Act.put, List.setIfInBounds_toArray, List.set_cons_succ, List.set_cons_zero, List.drop_succ_cons, List.drop_zero]
          go_upto_region 8 with fail
          refine tw8f_any (b := b) (y := w.heap.size) (v := v) (av := av) (hk := H) (p := l.ptr) (q := r.ptr) (sa := sa) (sb := sb) ⟨rfl, rfl, rfl, (HB3.out _ S7.out.keep).1, S7.out.box, hd5⟩ (by kernel_rfl) ?_
          intro w8 hb
          have S8 := Lib.hid (S7.out.below hb)
          clear hb S7
          simp only [putAll, Act.put, List.setIfInBounds_toArray, List.set_cons_succ, List.set_cons_zero]
          go_upto_region 10 with fail
          refine tw0_any (g := g) (b := b) (y := w.heap.size) (v := v) (av := av) (hk := H) (p := l.ptr) (q := r.ptr) (sa := sa) (sb := sb) (vo := v66) (base := base) (z := w8.heap.size) (ps := (ps ++ qs)) (R := (r.told bs sa sb).map (foldA bs)) ⟨rfl, rfl, rfl, rfl, rfl, (HB3.out _ S8.out.keep).1, HPB.out _ S8.out.same, S8.out.box, S8.out.far, fun w1 h1 h2 => (HC2.out w1 _ _ (S8.out.same.butO S8.out.keep h1) S8.out.same (by have := HN.out; have := HQL.out; simp only [List.length_append]; omega) h2).mono fun e w2 ⟨v1, qs, e1, e2, e3, e4, e5⟩ => ⟨v1, e1, ⟨qs, e2, e3⟩, e4, fun k hk => (e5 k hk).imp id (fun h => by have := h1.size; omega)⟩, fun _ _ h hb => h.below hb, ⟨S8.out.own.row, S8.out.own.hist⟩⟩ (by kernel_rfl) ?_
          intro v101 w10 hI hV
          obtain ⟨⟨qs2, hq1, hq2⟩, hq3⟩ := hV
          have S10 := Lib.hid (S8.out.turn hI.1 hq1 hq3)
          have HQ2 := Lib.hid hq2
          clear hI hq1 hq2 hq3 S8 HC2
          simp only [putAll, Act.put, List.setIfInBounds_toArray, List.set_cons_succ, List.set_cons_zero, List.drop_succ_cons, List.drop_zero]
          go_wp2_with fail
          go_ret
          exact ⟨v101, qs ++ qs2, rfl, by simpa using S10.out.own, by rw [HTO.out, List.map_append, HQ.out, HQ2.out]; simp, S10.out.keep, S10.out.same⟩
    · skip
      by_cases c5 : sa ≤ v.t
      · by_cases c6 : v.t < sb
        · have hd1 : decide (av.l.t < sa) = false := decide_eq_false c1
          have hd2 : decide (sb ≤ av.f.t) = false := decide_eq_false c2
          rw [if_neg (not_or.2 ⟨c1, c2⟩)] at hto
          have hd3 : decide (sa ≤ av.f.t) = false := decide_eq_false c3
          rw [if_neg (fun e => c3 e.1)] at hto
          have hd5 : decide (sa ≤ v.t) = true := decide_eq_true c5
          have hd6 : decide (v.t < sb) = true := decide_eq_true c6
          rw [if_pos ⟨c5, c6⟩] at hto
          have HTO := Lib.hid hto
          clear hto
          go_enter Try.func65, Try.ntmps65
          go_upto_region 2 with fail
          refine tw2_any (b := b) (y := w.heap.size) (v := v) (av := av) (hk := H) (p := l.ptr) (q := r.ptr) (sa := sa) (sb := sb) (β := false) ⟨rfl, rfl, rfl, (HB3.out _ S1.out.keep).1, S1.out.box, hd1⟩ (by kernel_rfl) ?_
          intro w2 hb
          have S2 := Lib.hid (S1.out.below hb)
          clear hb S1
          simp only [putAll, Act.put, List.setIfInBounds_toArray, List.set_cons_succ, List.set_cons_zero]
          go_upto_region 3 with fail
          refine tw3_any (b := b) (y := w.heap.size) (v := v) (av := av) (hk := H) (p := l.ptr) (q := r.ptr) (sa := sa) (sb := sb) (β := false) ⟨rfl, rfl, rfl, (HB3.out _ S2.out.keep).1, S2.out.box, hd2⟩ (by kernel_rfl) ?_
          intro w3 hb
          have S3 := Lib.hid (S2.out.below hb)
          clear hb S2
          simp only [putAll, Act.put, List.setIfInBounds_toArray, List.set_cons_succ, List.set_cons_zero]
          go_upto_region 5 with fail
          refine tw5f_any (b := b) (y := w.heap.size) (v := v) (av := av) (hk := H) (p := l.ptr) (q := r.ptr) (sa := sa) (sb := sb) ⟨rfl, rfl, rfl, (HB3.out _ S3.out.keep).1, S3.out.box, hd3⟩ (by kernel_rfl) ?_
          intro w5 hb
          have S5 := Lib.hid (S3.out.below hb)
          clear hb S3
          simp only [putAll, Act.put, List.setIfInBounds_toArray, List.set_cons_succ, List.set_cons_zero]
          go_upto_region 7 with fail
          refine tw7_any (g := g) (b := b) (y := w.heap.size) (v := v) (av := av) (hk := H) (p := l.ptr) (q := r.ptr) (sa := sa) (sb := sb) (vo := vo) (base := base) (z := w5.heap.size) (ps := ps) (R := (l.told bs sa sb).map (foldA bs)) ⟨rfl, rfl, rfl, rfl, rfl, (HB3.out _ S5.out.keep).1, HPB.out _ S5.out.same, S5.out.box, S5.out.far, fun w1 h1 h2 => (HC1.out w1 (S5.out.keep.tr h1) h2).mono fun e w2 ⟨v1, qs, e1, e2, e3, e4, e5⟩ => ⟨v1, e1, ⟨qs, e2, e3⟩, e4, fun k hk => (e5 k hk).imp id (fun h => by have := h1.size; omega)⟩, fun _ _ h hb => h.below hb, ⟨S5.out.own.row, S5.out.own.hist⟩⟩ (by kernel_rfl) ?_
          intro v66 w7 hI hV
          obtain ⟨⟨qs, hq1, hq2⟩, hq3⟩ := hV
          have S7 := Lib.hid (S5.out.turn hI.1 hq1 hq3)
          have HQ := Lib.hid hq2
          have HQL := Lib.hid (show qs.length ≤ l.row.length from by have := congrArg List.length hq2; simp only [List.length_map] at this; have := HTL.out; omega)
          clear hI hq1 hq2 hq3 S5 HC1 HTL
          simp only [putAll, Act.put, List.setIfInBounds_toArray, List.set_cons_succ, List.set_cons_zero, List.drop_succ_cons, List.drop_zero]
          go_upto_region 8 with fail
          refine tw8t_any (b := b) (y := w.heap.size) (v := v) (av := av) (hk := H) (p := l.ptr) (q := r.ptr) (sa := sa) (sb := sb) (β := true) ⟨rfl, rfl, rfl, (HB3.out _ S7.out.keep).1, S7.out.box, hd5, hd6⟩ (by kernel_rfl) ?_
          intro w8 hb
          have S8 := Lib.hid (S7.out.below hb)
          clear hb S7
          simp only [putAll, Act.put, List.setIfInBounds_toArray, List.set_cons_succ, List.set_cons_zero]
          have hc1 : w8.cell? ⟨b, 1, none⟩ = some (.int .i64 v.s) := (HB3.out _ S8.out.keep).1.cell 1
          have hc2 : w8.cell? ⟨b, 2, none⟩ = some (.int .i64 v.t) := (HB3.out _ S8.out.keep).1.cell 2
          have hc3 : w8.cell? ⟨b, 3, none⟩ = some (.int .i64 v.q) := (HB3.out _ S8.out.keep).1.cell 3
          have hc4 : w8.cell? ⟨b, 4, none⟩ = some (.int .i64 v.v) := (HB3.out _ S8.out.keep).1.cell 4
          go_upto_region 10 with (first | (refine (HAL.out _ S8.out.keep).mono ?_; clear HAL; rintro e wa ⟨Ha, _, rfl, hha, hba⟩) | (refine lit1 rfl _ rfl rfl ?_; intro wl hbl hvl) | (refine app_accO rfl _ _ rfl (base := base) (v := v66) rfl ((S8.out.below hba).own.below hbl) rfl hvl (hha.below hbl hha.lt) (by have := HN.out; have := HQL.out; simp only [List.length_append]; omega) (by have := HLE.out; have := S8.out.bs; have := hba.size; have := hbl.size; omega) ?_; intro v9 w9 ho hb hs; have S9 := Lib.hid (((S8.out.below hba).below hbl).turn hb ho hs); clear hbl hvl hha hba ho hb hs))
          clear hc1 hc2 hc3 hc4
          refine tw0_any (g := g) (b := b) (y := w.heap.size) (v := v) (av := av) (hk := H) (p := l.ptr) (q := r.ptr) (sa := sa) (sb := sb) (vo := v9) (base := base) (z := w9.heap.size) (ps := (ps ++ qs ++ [(oneAc v bs, Ha)])) (R := (r.told bs sa sb).map (foldA bs)) ⟨rfl, rfl, rfl, rfl, rfl, (HB3.out _ S9.out.keep).1, HPB.out _ S9.out.same, S9.out.box, S9.out.far, fun w1 h1 h2 => (HC2.out w1 _ _ (S9.out.same.butO S9.out.keep h1) S9.out.same (by have := HN.out; have := HQL.out; simp only [List.length_append, List.length_cons, List.length_nil]; omega) h2).mono fun e w2 ⟨v1, qs, e1, e2, e3, e4, e5⟩ => ⟨v1, e1, ⟨qs, e2, e3⟩, e4, fun k hk => (e5 k hk).imp id (fun h => by have := h1.size; omega)⟩, fun _ _ h hb => h.below hb, ⟨S9.out.own.row, S9.out.own.hist⟩⟩ (by kernel_rfl) ?_
          intro v101 w10 hI hV
          obtain ⟨⟨qs2, hq1, hq2⟩, hq3⟩ := hV
          have S10 := Lib.hid (S9.out.turn hI.1 hq1 hq3)
          have HQ2 := Lib.hid hq2
          clear hI hq1 hq2 hq3 S9 HC2
          simp only [putAll, Act.put, List.setIfInBounds_toArray, List.set_cons_succ, List.set_cons_zero, List.drop_succ_cons, List.drop_zero]
          go_wp2_with fail
          go_ret
          exact ⟨v101, qs ++ ((oneAc v bs, Ha) :: qs2), rfl, by simpa using S10.out.own, by rw [HTO.out, List.map_append, List.map_cons, HQ.out, HQ2.out]; simp [HONE.out], S10.out.keep, S10.out.same⟩
        · have hd1 : decide (av.l.t < sa) = false := decide_eq_false c1
          have hd2 : decide (sb ≤ av.f.t) = false := decide_eq_false c2
          rw [if_neg (not_or.2 ⟨c1, c2⟩)] at hto
          have hd3 : decide (sa ≤ av.f.t) = false := decide_eq_false c3
          rw [if_neg (fun e => c3 e.1)] at hto
          have hd5 : decide (sa ≤ v.t) = true := decide_eq_true c5
          have hd6 : decide (v.t < sb) = false := decide_eq_false c6
          rw [if_neg (fun e => c6 e.2)] at hto
          have HTO := Lib.hid hto
          clear hto
          go_enter Try.func65, Try.ntmps65
          go_upto_region 2 with fail
          refine tw2_any (b := b) (y := w.heap.size) (v := v) (av := av) (hk := H) (p := l.ptr) (q := r.ptr) (sa := sa) (sb := sb) (β := false) ⟨rfl, rfl, rfl, (HB3.out _ S1.out.keep).1, S1.out.box, hd1⟩ (by kernel_rfl) ?_
          intro w2 hb
          have S2 := Lib.hid (S1.out.below hb)
          clear hb S1
          simp only [putAll, Act.put, List.setIfInBounds_toArray, List.set_cons_succ, List.set_cons_zero]
          go_upto_region 3 with fail
          refine tw3_any (b := b) (y := w.heap.size) (v := v) (av := av) (hk := H) (p := l.ptr) (q := r.ptr) (sa := sa) (sb := sb) (β := false) ⟨rfl, rfl, rfl, (HB3.out _ S2.out.keep).1, S2.out.box, hd2⟩ (by kernel_rfl) ?_
          intro w3 hb
          have S3 := Lib.hid (S2.out.below hb)
          clear hb S2
          simp only [putAll, Act.put, List.setIfInBounds_toArray, List.set_cons_succ, List.set_cons_zero]
          go_upto_region 5 with fail
          refine tw5f_any (b := b) (y := w.heap.size) (v := v) (av := av) (hk := H) (p := l.ptr) (q := r.ptr) (sa := sa) (sb := sb) ⟨rfl, rfl, rfl, (HB3.out _ S3.out.keep).1, S3.out.box, hd3⟩ (by kernel_rfl) ?_
          intro w5 hb
          have S5 := Lib.hid (S3.out.below hb)
          clear hb S3
          simp only [putAll, Act.put, List.setIfInBounds_toArray, List.set_cons_succ, List.set_cons_zero]
          go_upto_region 7 with fail
          refine tw7_any (g := g) (b := b) (y := w.heap.size) (v := v) (av := av) (hk := H) (p := l.ptr) (q := r.ptr) (sa := sa) (sb := sb) (vo := vo) (base := base) (z := w5.heap.size) (ps := ps) (R := (l.told bs sa sb).map (foldA bs)) ⟨rfl, rfl, rfl, rfl, rfl, (HB3.out _ S5.out.keep).1, HPB.out _ S5.out.same, S5.out.box, S5.out.far, fun w1 h1 h2 => (HC1.out w1 (S5.out.keep.tr h1) h2).mono fun e w2 ⟨v1, qs, e1, e2, e3, e4, e5⟩ => ⟨v1, e1, ⟨qs, e2, e3⟩, e4, fun k hk => (e5 k hk).imp id (fun h => by have := h1.size; omega)⟩, fun _ _ h hb => h.below hb, ⟨S5.out.own.row, S5.out.own.hist⟩⟩ (by kernel_rfl) ?_
          intro v66 w7 hI hV
          obtain ⟨⟨qs, hq1, hq2⟩, hq3⟩ := hV
          have S7 := Lib.hid (S5.out.turn hI.1 hq1 hq3)
          have HQ := Lib.hid hq2
          have HQL := Lib.hid (show qs.length ≤ l.row.length from by have := congrArg List.length hq2; simp only [List.length_map] at this; have := HTL.out; omega)
          clear hI hq1 hq2 hq3 S5 HC1 HTL
          simp only [putAll, Act.put, List.setIfInBounds_toArray, List.set_cons_succ, List.set_cons_zero, List.drop_succ_cons, List.drop_zero]
          go_upto_region 8 with fail
          refine tw8t_any (b := b) (y := w.heap.size) (v := v) (av := av) (hk := H) (p := l.ptr) (q := r.ptr) (sa := sa) (sb := sb) (β := false) ⟨rfl, rfl, rfl, (HB3.out _ S7.out.keep).1, S7.out.box, hd5, hd6⟩ (by kernel_rfl) ?_
          intro w8 hb
          have S8 := Lib.hid (S7.out.below hb)
          clear hb S7
          simp only [putAll, Act.put, List.setIfInBounds_toArray, List.set_cons_succ, List.set_cons_zero]
          go_upto_region 10 with fail
          refine tw0_any (g := g) (b := b) (y := w.heap.size) (v := v) (av := av) (hk := H) (p := l.ptr) (q := r.ptr) (sa := sa) (sb := sb) (vo := v66) (base := base) (z := w8.heap.size) (ps := (ps ++ qs)) (R := (r.told bs sa sb).map (foldA bs)) ⟨rfl, rfl, rfl, rfl, rfl, (HB3.out _ S8.out.keep).1, HPB.out _ S8.out.same, S8.out.box, S8.out.far, fun w1 h1 h2 => (HC2.out w1 _ _ (S8.out.same.butO S8.out.keep h1) S8.out.same (by have := HN.out; have := HQL.out; simp only [List.length_append]; omega) h2).mono fun e w2 ⟨v1, qs, e1, e2, e3, e4, e5⟩ => ⟨v1, e1, ⟨qs, e2, e3⟩, e4, fun k hk => (e5 k hk).imp id (fun h => by have := h1.size; omega)⟩, fun _ _ h hb => h.below hb, ⟨S8.out.own.row, S8.out.own.hist⟩⟩ (by kernel_rfl) ?_
          intro v101 w10 hI hV
          obtain ⟨⟨qs2, hq1, hq2⟩, hq3⟩ := hV
          have S10 := Lib.hid (S8.out.turn hI.1 hq1 hq3)
          have HQ2 := Lib.hid hq2
          clear hI hq1 hq2 hq3 S8 HC2
          simp only [putAll, Act.put, List.setIfInBounds_toArray, List.set_cons_succ, List.set_cons_zero, List.drop_succ_cons, List.drop_zero]
          go_wp2_with fail
          go_ret
          exact ⟨v101, qs ++ qs2, rfl, by simpa using S10.out.own, by rw [HTO.out, List.map_append, HQ.out, HQ2.out]; simp, S10.out.keep, S10.out.same⟩
      · have hd1 : decide (av.l.t < sa) = false := decide_eq_false c1
        have hd2 : decide (sb ≤ av.f.t) = false := decide_eq_false c2
        rw [if_neg (not_or.2 ⟨c1, c2⟩)] at hto
        have hd3 : decide (sa ≤ av.f.t) = false := decide_eq_false c3
        rw [if_neg (fun e => c3 e.1)] at hto
        have hd5 : decide (sa ≤ v.t) = false := decide_eq_false c5
        rw [if_neg (fun e => c5 e.1)] at hto
        have HTO := Lib.hid hto
        clear hto
        go_enter Try.func65, Try.ntmps65
        go_upto_region 2 with fail
        refine tw2_any (b := b) (y := w.heap.size) (v := v) (av := av) (hk := H) (p := l.ptr) (q := r.ptr) (sa := sa) (sb := sb) (β := false) ⟨rfl, rfl, rfl, (HB3.out _ S1.out.keep).1, S1.out.box, hd1⟩ (by kernel_rfl) ?_
        intro w2 hb
        have S2 := Lib.hid (S1.out.below hb)
        clear hb S1
        simp only [putAll, Act.put, List.setIfInBounds_toArray, List.set_cons_succ, List.set_cons_zero]
        go_upto_region 3 with fail
        refine tw3_any (b := b) (y := w.heap.size) (v := v) (av := av) (hk := H) (p := l.ptr) (q := r.ptr) (sa := sa) (sb := sb) (β := false) ⟨rfl, rfl, rfl, (HB3.out _ S2.out.keep).1, S2.out.box, hd2⟩ (by kernel_rfl) ?_
        intro w3 hb
        have S3 := Lib.hid (S2.out.below hb)
        clear hb S2
        simp only [putAll, Act.put, List.setIfInBounds_toArray, List.set_cons_succ, List.set_cons_zero]
        go_upto_region 5 with fail
        refine tw5f_any (b := b) (y := w.heap.size) (v := v) (av := av) (hk := H) (p := l.ptr) (q := r.ptr) (sa := sa) (sb := sb) ⟨rfl, rfl, rfl, (HB3.out _ S3.out.keep).1, S3.out.box, hd3⟩ (by kernel_rfl) ?_
        intro w5 hb
        have S5 := Lib.hid (S3.out.below hb)
        clear hb S3
        simp only [putAll, Act.put, List.setIfInBounds_toArray, List.set_cons_succ, List.set_cons_zero]
        go_upto_region 7 with fail
        refine tw7_any (g := g) (b := b) (y := w.heap.size) (v := v) (av := av) (hk := H) (p := l.ptr) (q := r.ptr) (sa := sa) (sb := sb) (vo := vo) (base := base) (z := w5.heap.size) (ps := ps) (R := (l.told bs sa sb).map (foldA bs)) ⟨rfl, rfl, rfl, rfl, rfl, (HB3.out _ S5.out.keep).1, HPB.out _ S5.out.same, S5.out.box, S5.out.far, fun w1 h1 h2 => (HC1.out w1 (S5.out.keep.tr h1) h2).mono fun e w2 ⟨v1, qs, e1, e2, e3, e4, e5⟩ => ⟨v1, e1, ⟨qs, e2, e3⟩, e4, fun k hk => (e5 k hk).imp id (fun h => by have := h1.size; omega)⟩, fun _ _ h hb => h.below hb, ⟨S5.out.own.row, S5.out.own.hist⟩⟩ (by kernel_rfl) ?_
        intro v66 w7 hI hV
        obtain ⟨⟨qs, hq1, hq2⟩, hq3⟩ := hV
        have S7 := Lib.hid (S5.out.turn hI.1 hq1 hq3)
        have HQ := Lib.hid hq2
        have HQL := Lib.hid (show qs.length ≤ l.row.length from by have := congrArg List.length hq2; simp only [List.length_map] at this; have := HTL.out; omega)
        clear hI hq1 hq2 hq3 S5 HC1 HTL
        simp only [putAll, Act.put, List.setIfInBounds_toArray, List.set_cons_succ, List.set_cons_zero, List.drop_succ_cons, List.drop_zero]
        go_upto_region 8 with fail
        refine tw8f_any (b := b) (y := w.heap.size) (v := v) (av := av) (hk := H) (p := l.ptr) (q := r.ptr) (sa := sa) (sb := sb) ⟨rfl, rfl, rfl, (HB3.out _ S7.out.keep).1, S7.out.box, hd5⟩ (by kernel_rfl) ?_
        intro w8 hb
        have S8 := Lib.hid (S7.out.below hb)
        clear hb S7
        simp only [putAll, Act.put, List.setIfInBounds_toArray, List.set_cons_succ, List.set_cons_zero]
        go_upto_region 10 with fail
        refine tw0_any (g := g) (b := b) (y := w.heap.size) (v := v) (av := av) (hk := H) (p := l.ptr) (q := r.ptr) (sa := sa) (sb := sb) (vo := v66) (base := base) (z := w8.heap.size) (ps := (ps ++ qs)) (R := (r.told bs sa sb).map (foldA bs)) ⟨rfl, rfl, rfl, rfl, rfl, (HB3.out _ S8.out.keep).1, HPB.out _ S8.out.same, S8.out.box, S8.out.far, fun w1 h1 h2 => (HC2.out w1 _ _ (S8.out.same.butO S8.out.keep h1) S8.out.same (by have := HN.out; have := HQL.out; simp only [List.length_append]; omega) h2).mono fun e w2 ⟨v1, qs, e1, e2, e3, e4, e5⟩ => ⟨v1, e1, ⟨qs, e2, e3⟩, e4, fun k hk => (e5 k hk).imp id (fun h => by have := h1.size; omega)⟩, fun _ _ h hb => h.below hb, ⟨S8.out.own.row, S8.out.own.hist⟩⟩ (by kernel_rfl) ?_
        intro v101 w10 hI hV
        obtain ⟨⟨qs2, hq1, hq2⟩, hq3⟩ := hV
        have S10 := Lib.hid (S8.out.turn hI.1 hq1 hq3)
        have HQ2 := Lib.hid hq2
        clear hI hq1 hq2 hq3 S8 HC2
        simp only [putAll, Act.put, List.setIfInBounds_toArray, List.set_cons_succ, List.set_cons_zero, List.drop_succ_cons, List.drop_zero]
        go_wp2_with fail
        go_ret
        exact ⟨v101, qs ++ qs2, rfl, by simpa using S10.out.own, by rw [HTO.out, List.map_append, HQ.out, HQ2.out]; simp, S10.out.keep, S10.out.same⟩
end

end Go.Proofs.Ytjgjbhbpndjnnaa
