import Derived.Test.YtbpaepkcchpmbaaGreatG50
import Derived.Test.YtbpaepkcchpmbaaGreatG37
import Derived.Test.YtbpaepkcchpmbaaGreatProg
import Derived.OwnWalk
import Derived.Lib.Hide
import Derived.Great.Walk
import Derived.Deep.MidRow
import Derived.BigQuiet
import Derived.Deep.QuietTactic
namespace Go.Proofs.YtbpaepkcchpmbaaGreat
open Go.RowKit
abbrev ET : TypeId := 93
def EM (O : Nat → Prop) (ge : Nat) (qs : List Qu) (late : Int) (m : Mc) (N : Nat) (w : World) : Prop := ∃ u : RuD, Has w ge ET #[.pointer (some ⟨u.g, 0, none⟩)] ∧ RuX w u ∧ TieU u m ∧ McOk m ∧ u.qs.map (·.q) = qs ∧ u.late = late ∧ (0 ≤ late ∧ late ≤ 1073741824) ∧ MayQs u.qs ∧ u.n0 ≤ N ∧ ¬ u.U ge ∧ (∀ k, k = ge ∨ u.U k → O k ∧ k < w.heap.size)
theorem lineN_M {m late : Int} (h1 : -4398046511104 ≤ m ∧ m ≤ 4398046511104) (h2 : 0 ≤ late ∧ late ≤ 1073741824) : lineN m late = lineM m late := by
  unfold lineN lineM
  rw [if_pos ⟨h1.1, h1.2, h2.1, h2.2⟩]
theorem upS_ris (seq : Int) (xs : List It) : upS seq xs = risB seq xs ∧ topS seq xs = lastQ seq xs := by
  induction xs generalizing seq with
  | nil => exact ⟨rfl, rfl⟩
  | cons x r ih =>
    refine ⟨?_, (ih x.q).2⟩
    unfold upS risB
    rw [(ih x.q).1, Bool.and_assoc]
section
variable {O : Nat → Prop} {ge n cx N : Nat} {qs : List Qu} {late : Int} {m : Mc} {X : Option Addr} {xs : List It} {w w' : World}
theorem EM.below (h : EM O ge qs late m N w) (hb : Below w.heap.size w w') : EM O ge qs late m N w' := by
  obtain ⟨u, h1, h2, h3, h4, h5, h6, h7, h8, h9, h10, h11⟩ := h
  exact ⟨u, h1.below hb h1.lt, h2.below hb, h3, h4, h5, h6, h7, h8, h9, h10, fun k hk => ⟨(h11 k hk).1, Nat.lt_of_lt_of_le (h11 k hk).2 hb.size⟩⟩
theorem EM.mono {O' : Nat → Prop} (h : EM O ge qs late m N w) (hO : ∀ k, k < w.heap.size → O k → O' k) : EM O' ge qs late m N w := by
  obtain ⟨u, h1, h2, h3, h4, h5, h6, h7, h8, h9, h10, h11⟩ := h
  exact ⟨u, h1, h2, h3, h4, h5, h6, h7, h8, h9, h10, fun k hk => ⟨hO k (h11 k hk).2 (h11 k hk).1, (h11 k hk).2⟩⟩
theorem EM.butO {P : Nat → Prop} (h : EM O ge qs late m N w) (hb : ButO P w w') (hP : ∀ k, O k → ¬ P k) : EM O ge qs late m N w' := by
  obtain ⟨u, h1, h2, h3, h4, h5, h6, h7, h8, h9, h10, h11⟩ := h
  exact ⟨u, (hb.other ge h1.lt (hP ge (h11 ge (.inl rfl)).1)).trans h1, h2.butO hb fun k hk => hP k (h11 k (.inr hk)).1, h3, h4, h5, h6, h7, h8, h9, h10, fun k hk => ⟨(h11 k hk).1, Nat.lt_of_lt_of_le (h11 k hk).2 hb.size⟩⟩
theorem run_feed {u : RuD} (h : RuX w u) (ht : TieU u m) (hm : McOk m) (hl : 0 ≤ u.late ∧ u.late ≤ 1073741824) (hx : Items w X n xs) (hfar : ∀ ad, 0 < n → X = some ad → ¬ u.U ad.block) :
    Calls Tryz.prog 52 #[.pointer (some ⟨u.g, 0, none⟩), .slice X n cx] w fun e w' => e = .returned (.int .i64 (feedC 1800 1801 u.late m xs)) ∧ ∃ u', RuX w' u' ∧ TieU u' (feedM 1800 1801 u.late m xs) ∧ u'.g = u.g ∧ u'.qs = u.qs ∧ u'.late = u.late ∧ u'.n0 = u.n0 ∧ ButO u.U w w' ∧ (∀ k, u'.U k → u.U k ∨ w.heap.size ≤ k) := by
  have hlen := ht.len hm
  have hrel : u.rel = (sumIts u.rows : Nat) := ht.rel
  have hyl := hm.len
  have hnx := hx.1
  have hline : lineN u.mark u.late = lineM m.least u.late := by rw [lineN_M (by rw [ht.mark]; exact ⟨hm.lo, hm.hi⟩) hl, ht.mark]
  obtain ⟨hup, htop⟩ := upS_ris u.seq xs
  have no : ∀ code : Int, feedC 1800 1801 u.late m xs = code → code ≠ 0 → (∀ w1, Below w.heap.size w w1 → Calls Tryz.prog 70 #[.pointer (some ⟨u.g, 0, none⟩), .int .i64 (u.rel + (u.wt.length : Nat)), .slice X n cx] w1 fun e w2 => e = .returned (.int .i64 code) ∧ Below w1.heap.size w1 w2) →
      Calls Tryz.prog 52 #[.pointer (some ⟨u.g, 0, none⟩), .slice X n cx] w fun e w' => e = .returned (.int .i64 (feedC 1800 1801 u.late m xs)) ∧ ∃ u', RuX w' u' ∧ TieU u' (feedM 1800 1801 u.late m xs) ∧ u'.g = u.g ∧ u'.qs = u.qs ∧ u'.late = u.late ∧ u'.n0 = u.n0 ∧ ButO u.U w w' ∧ (∀ k, u'.U k → u.U k ∨ w.heap.size ≤ k) := by
    intro code hc hne hA
    refine (feed_no h.st rfl rfl h.hp (by omega) (by omega) hne hA).mono fun e w' he => ?_
    refine ⟨by rw [hc]; exact he.1, u, h.below he.2, ?_, rfl, rfl, rfl, rfl, below_butO he.2 _, fun k hk => .inl hk⟩
    unfold feedM
    rw [hc, if_neg hne]
    exact ht
  by_cases c1 : 8192 - (u.rel + (u.wt.length : Nat)) < (n : Int)
  · refine no 1800 ?_ (by decide) fun w1 hb => (fadm_many (h.below hb).st (ruC_frC u) _ (by omega) X n cx c1).mono fun e w2 he => ⟨he.1, by rw [he.2]; exact Below.refl _ _⟩
    unfold feedC
    rw [if_pos (by rw [Bool.and_eq_false_iff]; exact .inr (decide_eq_false (by omega)))]
  · cases hu : upS u.seq xs with
    | false =>
      refine no 1800 ?_ (by decide) fun w1 hb => fadm_form (h.below hb).st (ruC_frC u) _ (by omega) X n cx xs (hx.below hb) (by omega) hu
      rw [hup, ht.seq] at hu
      unfold feedC
      rw [if_pos (by rw [hu]; rfl)]
    | true =>
      have hris : risB m.seq xs = true := by rw [← ht.seq, ← hup]; exact hu
      have hok : (risB m.seq xs && decide (xs.length + m.ys.length ≤ 8192)) = true := by rw [hris, Bool.true_and]; exact decide_eq_true (by omega)
      cases hla : (xs.any fun x => decide (x.t < lineN u.mark u.late)) with
      | true =>
        refine no 1801 ?_ (by decide) fun w1 hb => ?_
        · unfold feedC
          rw [if_neg (by rw [hok]; simp), if_pos (by unfold lateX; rw [← hline]; exact hla)]
        · have := fadm_ok (h.below hb).st (ruC_frC u) (u.rel + (u.wt.length : Nat)) (by omega) X n cx xs (hx.below hb) (by omega) hu
          rw [hla] at this
          exact this
      | false =>
        have hfc : feedC 1800 1801 u.late m xs = 0 := by
          unfold feedC
          rw [if_neg (by rw [hok]; simp), if_neg (by unfold lateX; rw [← hline, hla]; simp)]
        refine (feed_ok h hx hfar (by omega) (by omega) (by omega) hu hla).mono ?_
        rintro e w' ⟨he, gs', h1, h2, h3⟩
        refine ⟨by rw [hfc]; exact he, _, h1, ?_, rfl, rfl, rfl, rfl, h2, fun k hk => ?_⟩
        · rw [htop, ht.seq]
          exact ht.feed hm h.frq.len.1 hfc hris (by unfold lateX; rw [← hline]; exact hla)
        · rcases hk with hk | hk | hk
          · exact .inl (.inl hk)
          · exact (h3 k hk).imp (fun e => .inr (.inl e)) id
          · exact .inl (.inr (.inr hk))
set_option maxRecDepth 100000 in
set_option maxHeartbeats 1000000 in
theorem eng_feed (h : EM O ge qs late m N w) (hx : Items w X n xs) (hfar : ∀ ad, 0 < n → X = some ad → ¬ O ad.block) :
    Calls Tryz.prog 23 #[.pointer (some ⟨ge, 0, none⟩), .slice X n cx] w fun e w' => e = .returned (.int .i64 (feedC 1800 1801 late m xs)) ∧ EM (GrowO O w w') ge qs late (feedM 1800 1801 late m xs) N w' ∧ ButO O w w' := by
  obtain ⟨u, h1, h2, h3, h4, h5, h6, h7, h8, h9, h10, h11⟩ := h
  subst h6
  have HFE := Lib.hid (run_feed (cx := cx) h2 h3 h4 h7 hx fun ad hp e hu => hfar ad hp e (h11 _ (.inr hu)).1)
  have c0 : w.cell? ⟨ge, 0, none⟩ = some (.pointer (some ⟨u.g, 0, none⟩)) := h1.cell 0
  have HK := Lib.hid (show _ ∧ _ ∧ _ ∧ _ ∧ _ ∧ _ ∧ _ from ⟨h1, h4, h5, h7, h8, h9, h10⟩)
  have HO := Lib.hid h11
  clear h1 h2 h3 h4 h5 h7 h8 h9 h10 h11 hx hfar
  go_enter Tryz.func23, Tryz.ntmps23
  go_wp2_with fail
  refine HFE.out.mono ?_
  rintro e w2 ⟨rfl, u', k1, k2, k3, k4, k5, k6, k7, k8⟩
  obtain ⟨h1, h4, h5, h7, h8, h9, h10⟩ := HK.out
  have hs := k7.size
  have hge : Has w2 ge ET #[.pointer (some ⟨u'.g, 0, none⟩)] := by rw [k3]; exact (k7.other ge h1.lt h10).trans h1
  have HE : Hid (EM (GrowO O w w2) ge qs u.late (feedM 1800 1801 u.late m xs) N w2 ∧ ButO O w w2) := Lib.hid ⟨⟨u', hge, k1, k2, h4.feed (by decide) xs, by rw [k4]; exact h5, k5, h7, by rw [k4]; exact h8, by rw [k6]; exact h9, fun hg => ?_, fun k hk => ?_⟩, k7.weaken fun k hk => (HO.out k (.inr hk)).1⟩
  rotate_left
  · rcases k8 ge hg with e | e
    · exact h10 e
    · have := h1.lt; omega
  · have hlt : k < w2.heap.size := hk.elim (fun e => by rw [e]; exact hge.lt) fun e => k1.lt k e
    refine ⟨?_, hlt⟩
    rcases hk with e | e
    · exact .inl (HO.out k (.inl e)).1
    · rcases k8 k e with e | e
      · exact .inl (HO.out k (.inr e)).1
      · exact .inr ⟨e, hlt⟩
  clear h1 h4 h5 h7 h8 h9 h10 k1 k2 k3 k4 k5 k6 k7 k8 hge c0 hs
  go_wp2_with fail
  go_ret
  exact ⟨rfl, HE.out⟩
end
end Go.Proofs.YtbpaepkcchpmbaaGreat
namespace Go.Proofs.YtbpaepkcchpmbaaGreat
open Go.RowKit
def valQ (qs : List Qu) (p : Wn) : Rv := valW (qs.getD p.k.toNat ⟨0, 0, 0, 0, [], 0⟩) p.s p
theorem valP_Q (rs : List Rq) (p : Wn) : valP rs p = valQ (rs.map (·.q)) p := by
  unfold valP valQ
  rw [List.getD_eq_getElem?_getD, List.getD_eq_getElem?_getD, List.getElem?_map]
  cases rs[p.k.toNat]? <;> rfl
theorem qsW_map (rs : List Rq) : qsW rs = (rs.map (·.q)).map qw := by unfold qsW; rw [List.map_map]; rfl
section
variable {O : Nat → Prop} {ge n c N : Nat} {qs : List Qu} {late : Int} {m : Mc} {A : Option Addr} {w w' : World}
def MkO (O : Nat → Prop) (ge : Nat) (qs : List Qu) (late : Int) (m : Mc) (N : Nat) (x : Int) (w w' : World) (V : Value) : Prop :=
  ∃ O' zs, OutZ O' w' V zs ∧ zs.map Rz.val = (markT (qs.map qw) late m x).map (valQ qs) ∧ EM O' ge qs late (markM (qs.map qw) late m x) (N + 8192) w' ∧ ButO O w w' ∧ (∀ k, O' k → O k ∨ w.heap.size ≤ k) ∧ (∀ k, V.ownBlock = some k → w.heap.size ≤ k)
theorem OutZ.withG {P : Nat → Prop} {V : Value} {zs : List Rz} (h : OutZ P w V zs) {t : TypeId} {cs : Array Value} (hg : Has w ge t cs) (h1 : t ≠ 71) (h2 : t ≠ 3) : OutZ (fun k => k = ge ∨ P k) w V zs :=
  ⟨h.row, fun k hk e => e.elim (fun e => h.row.apart hg h1 (e ▸ hk)) (h.off k hk), h.hist, fun z hz k hk e => e.elim (fun e => (h.hist z hz).apart hg h2 (e ▸ hk)) (h.offH z hz k hk)⟩
theorem setMark {u : RuD} (h : RuX w u) (x : Int) : RuX (w.setCell ⟨u.g, 4, none⟩ (.int .i64 x)) { u with mark := x } ∧ ButO (fun k => k = u.g) w (w.setCell ⟨u.g, 4, none⟩ (.int .i64 x)) := by
  have hb : ButO (fun k => k = u.g) w (w.setCell ⟨u.g, 4, none⟩ (.int .i64 x)) := ⟨rfl, rfl, rfl, by simp [World.setCell], fun k _ hn => heap_setCell_other _ _ _ _ (fun e => hn (by simp only at e; exact e))⟩
  exact ⟨h.setFront (mark := x) (seq := u.seq) (rel := u.rel) (h.st.put 4 _) hb, hb⟩
theorem TieU.marked {u : RuD} (h : TieU u m) (x : Int) : TieU { ({ u with mark := x } : RuD) with mark := m.least } m :=
  ⟨h.nd, h.pl, h.ne, h.sr, h.no, h.hi, h.srt, h.sq, rfl, h.seq, h.rel⟩
set_option maxRecDepth 100000 in
set_option maxHeartbeats 1000000 in
theorem eng_mark_no (h : EM O ge qs late m N w) (x : Int) (hx : markOk m x = false) :
    Calls Tryz.prog 27 #[.pointer (some ⟨ge, 0, none⟩), .int .i64 x] w fun e w' => e = .returned (.tuple #[.slice none 0 0, .int .i64 1800]) ∧ w' = w := by
  obtain ⟨u, h1, h2, h3, h4, h5, h6, h7, h8, h9, h10, h11⟩ := h
  have hw : wi x u.mark 4398046511104 = false := by rw [h3.mark]; exact hx
  have HAD := Lib.hid (fadv_no h2.st (ruC_frC u) x hw)
  have c0 : w.cell? ⟨ge, 0, none⟩ = some (.pointer (some ⟨u.g, 0, none⟩)) := h1.cell 0
  clear h1 h2 h3 h4 h5 h6 h7 h8 h9 h10 h11 hx hw
  go_enter Tryz.func27, Tryz.ntmps27
  go_wp2_with fail
  refine HAD.out.mono ?_
  rintro e w2 ⟨rfl, rfl⟩
  go_wp2_with fail
  go_ret2
  exact ⟨rfl, rfl⟩
set_option maxRecDepth 100000 in
set_option maxHeartbeats 1000000 in
theorem eng_mark_ok (h : EM O ge qs late m N w) (hN : N + 8192 ≤ 1048576) (x : Int) (hx : markOk m x = true) :
    Calls Tryz.prog 27 #[.pointer (some ⟨ge, 0, none⟩), .int .i64 x] w fun e w' => ∃ V, e = .returned (.tuple #[V, .int .i64 0]) ∧ MkO O ge qs late m N x w w' V := by
  obtain ⟨u, h1, h2, h3, h4, h5, h6, h7, h8, h9, h10, h11⟩ := h
  subst h6
  have hwi := wi_true hx
  have hw : wi x u.mark 4398046511104 = true := by rw [h3.mark]; exact hx
  have HAD := Lib.hid (fadv_ok h2.st (ruC_frC u) x hw)
  obtain ⟨k1, k2⟩ := setMark h2 x
  have HTL := Lib.hid (tell_any (u0 := { u with mark := x }) (m := m) k1 h8 h4 (h3.marked x) hwi.1 (lineN_M ⟨by have := h4.lo; show _ ≤ x; omega, hwi.2⟩ h7) (by show u.n0 + 8192 ≤ _; omega) h3.seq)
  have c0 : w.cell? ⟨ge, 0, none⟩ = some (.pointer (some ⟨u.g, 0, none⟩)) := h1.cell 0
  have hge1 : Has (w.setCell ⟨u.g, 4, none⟩ (.int .i64 x)) ge ET #[.pointer (some ⟨u.g, 0, none⟩)] := (k2.other ge h1.lt fun e => h10 (.inl (.inl e))).trans h1
  have c01 : (w.setCell ⟨u.g, 4, none⟩ (.int .i64 x)).cell? ⟨ge, 0, none⟩ = some (.pointer (some ⟨u.g, 0, none⟩)) := hge1.cell 0
  have HK := Lib.hid (show _ ∧ _ ∧ _ ∧ _ ∧ _ ∧ _ ∧ _ ∧ _ from ⟨h1, h4, h5, h7, h8, h9, h10, k2⟩)
  have HO := Lib.hid h11
  have HG1 := Lib.hid hge1
  clear h1 h2 h3 h4 h5 h7 h8 h9 h10 h11 k1 k2 hw hwi hge1
  go_enter Tryz.func27, Tryz.ntmps27
  go_wp2_with fail
  refine HAD.out.mono ?_
  rintro e w2 ⟨rfl, hw2⟩
  rw [← hw2] at HTL HK HG1 c01
  clear hw2 HAD
  go_wp2_with fail
  refine HTL.out.mono ?_
  rintro e w3 ⟨u', zs, V, rfl, T⟩
  obtain ⟨h1, h4, h5, h7, h8, h9, h10, k2⟩ := HK.out
  have hs1 := k2.size
  have hs2 := T.kp.size
  have hU0 : ∀ k, ({ u with mark := x } : RuD).U k ↔ u.U k := fun k => Iff.rfl
  have hge3 : Has w3 ge ET #[.pointer (some ⟨u'.g, 0, none⟩)] := by rw [T.hd.1]; exact (T.kp.other ge HG1.out.lt fun e => h10 ((hU0 ge).1 e)).trans HG1.out
  have hU : ∀ k, u'.U k → u.U k ∨ w.heap.size ≤ k := fun k hk => by
    rcases T.own k hk with e | e
    · exact .inl e
    · exact .inr (by omega)
  have hkp : ButO O w w3 := (k2.weaken fun k hk => (HO.out k (.inr (.inl (.inl hk)))).1).andThen T.kp fun i hi _ => (HO.out i (.inr hi)).1
  have HE : Hid (MkO O ge qs u.late m N x w w3 V) := by
    refine Lib.hid ⟨fun k => k = ge ∨ u'.U k, zs, T.out.withG hge3 (by decide) (by decide), ?_, ⟨u', hge3, T.ru, ?_, h4.mark x, ?_, T.hd.2.2, h7, ?_, ?_, ?_, ?_⟩, hkp, fun k hk => ?_, fun k hk => ?_⟩
    · have := T.val
      unfold markT
      rw [if_pos hx, ← h5, ← qsW_map]
      rw [this]
      exact List.map_congr_left fun p _ => valP_Q u.qs p
    · have := T.tie
      unfold markM
      rw [if_pos hx, ← h5, ← qsW_map]
      exact this
    · rw [T.hd.2.1]; exact h5
    · rw [T.hd.2.1]; exact h8
    · have := T.nn
      have : u'.n0 ≤ u.n0 + 8192 := this
      omega
    · intro hg
      rcases hU ge hg with e | e
      · exact h10 e
      · have := h1.lt; omega
    · intro k hk
      have hlt : k < w3.heap.size := hk.elim (fun e => by rw [e]; exact hge3.lt) fun e => T.ru.lt k e
      exact ⟨hk, hlt⟩
    · rcases hk with e | e
      · exact .inl (HO.out k (.inl e)).1
      · exact (hU k e).imp (fun e => (HO.out k (.inr e)).1) id
    · have := T.nb k hk
      omega
  clear h1 h4 h5 h7 h8 h9 h10 k2 T hge3 hU hkp c0 c01 hs1 hs2 hU0
  go_wp2_with fail
  go_ret2
  exact ⟨V, rfl, HE.out⟩
set_option maxRecDepth 100000 in
set_option maxHeartbeats 1000000 in
theorem eng_held (h : EM O ge qs late m N w) :
    Calls Tryz.prog 31 #[.pointer (some ⟨ge, 0, none⟩)] w fun e w' => ∃ V O', e = .returned V ∧ OwnIt w' w.heap.size V m.ys ∧ (∀ k, V.ownBlock = some k → ¬ O' k) ∧ EM O' ge qs late m N w' ∧ ButO O w w' ∧ (∀ k, O' k → O k ∨ w.heap.size ≤ k) := by
  obtain ⟨u, h1, h2, h3, h4, h5, h6, h7, h8, h9, h10, h11⟩ := h
  subst h6
  have HHE := Lib.hid (held_any h2 h4 h3)
  have c0 : w.cell? ⟨ge, 0, none⟩ = some (.pointer (some ⟨u.g, 0, none⟩)) := h1.cell 0
  have HK := Lib.hid (show _ ∧ _ ∧ _ ∧ _ ∧ _ ∧ _ ∧ _ from ⟨h1, h4, h5, h7, h8, h9, h10⟩)
  have HO := Lib.hid h11
  clear h1 h2 h3 h4 h5 h7 h8 h9 h10 h11
  go_enter Tryz.func31, Tryz.ntmps31
  go_wp2_with fail
  refine HHE.out.mono ?_
  rintro e w3 ⟨V, u', rfl, T⟩
  obtain ⟨h1, h4, h5, h7, h8, h9, h10⟩ := HK.out
  have hge3 : Has w3 ge ET #[.pointer (some ⟨u'.g, 0, none⟩)] := by rw [T.hd.1]; exact (T.kp.other ge h1.lt h10).trans h1
  have HE : Hid (∃ O', OwnIt w3 w.heap.size V m.ys ∧ (∀ k, V.ownBlock = some k → ¬ O' k) ∧ EM O' ge qs u.late m N w3 ∧ ButO O w w3 ∧ (∀ k, O' k → O k ∨ w.heap.size ≤ k)) := by
    refine Lib.hid ⟨fun k => k = ge ∨ u'.U k, T.own, fun k hk e => ?_, ⟨u', hge3, T.ru, T.tie, h4, by rw [T.hd.2.1]; exact h5, T.hd.2.2.1, h7, by rw [T.hd.2.1]; exact h8, by rw [T.hd.2.2.2]; exact h9, fun hg => ?_, fun k hk => ⟨hk, hk.elim (fun e => by rw [e]; exact hge3.lt) fun e => T.ru.lt k e⟩⟩, T.kp.weaken fun k hk => (HO.out k (.inr hk)).1, fun k hk => ?_⟩
    · rcases e with e | e
      · obtain ⟨cu, hcu⟩ := ownIt_has T.own hk
        exact has_types (e ▸ hcu) hge3 (by decide)
      · exact T.off k hk e
    · rcases T.ow ge hg with e | e
      · exact h10 e
      · have := h1.lt; omega
    · rcases hk with e | e
      · exact .inl (HO.out k (.inl e)).1
      · exact (T.ow k e).imp (fun e => (HO.out k (.inr e)).1) id
  clear h1 h4 h5 h7 h8 h9 h10 T hge3 c0 HHE
  obtain ⟨O', hE⟩ := HE.out
  have HE2 := Lib.hid hE
  clear hE HE
  go_wp2_with fail
  go_ret
  exact ⟨V, O', rfl, HE2.out⟩
end
end Go.Proofs.YtbpaepkcchpmbaaGreat
namespace Go.Proofs.YtbpaepkcchpmbaaGreat
open Go.RowKit
theorem allQ_mem {qs : List Qu} (h : allQ qs = true) : ∀ q, q ∈ qs → mayQ q.kind q.agg q.size q.slide q.bs q.rank = true := by
  intro q hq
  obtain ⟨i, hi, rfl⟩ := List.getElem_of_mem hq
  have h2 := of_decide_eq_true h i hi
  unfold nthQ quB at h2
  rw [List.getD_eq_getElem?_getD, List.getElem?_eq_getElem hi] at h2
  exact h2
section
variable {n c : Nat} {qs : List Qu} {A : Option Addr} {w : World} {la ro se so : Int}
theorem cfB_facts (h : cfB qs la ro se so = true) : (0 ≤ la ∧ la ≤ 1073741824) ∧ (1 ≤ qs.length ∧ qs.length ≤ 8) ∧ (∀ q, q ∈ qs → mayQ q.kind q.agg q.size q.slide q.bs q.rank = true) := by
  unfold cfB at h
  rw [Bool.and_eq_true] at h
  have h2 := h.2
  unfold fitQ at h2
  rw [Bool.and_eq_true] at h2
  have h3 := wi_true h2.1
  exact ⟨(limB_true h.1).1, ⟨by omega, by omega⟩, allQ_mem h2.2⟩
set_option maxRecDepth 100000 in
set_option maxHeartbeats 1000000 in
theorem eng_new_no (hq : Qus w A n qs) (hl : n ≤ maxLen) (hm : cfB qs la ro se so = false) :
    Calls Tryz.prog 16 #[.agg (cfA A n c la ro se so)] w fun e w' => e = .returned (.tuple #[.pointer none, .int .i64 1800]) ∧ Below w.heap.size w w' := by
  have HF : Hid (∀ w', Below w.heap.size w w' → Calls Tryz.prog 45 #[.agg (cfA A n c la ro se so), .agg #[.int .i64 1800, .int .i64 1801]] w' fun e w2 => e = .returned (.tuple #[.agg frZ, .int .i64 1800]) ∧ Below w'.heap.size w' w2) := Lib.hid fun w' hb => fnew_no (hq.below hb) hl hm
  clear hq hm
  unfold cfA at HF ⊢
  unfold frZ at HF
  go_enter Tryz.func16, Tryz.ntmps16
  have HAL : Hid (∀ o, Below w.heap.size w (w.alloc o)) := fun o => (Below.refl _ _).alloc (Nat.le_refl _) o
  go_wp2_with fail
  refine (HF.out _ (HAL.out _)).mono ?_
  rintro e w2 ⟨rfl, hb⟩
  have hb2 := (HAL.out (.cells #[.slice A n c, .int .i64 la, .int .i64 ro, .int .i64 se, .int .i64 so] 24)).trans (hb.mono (by simp))
  have HB := Lib.hid hb2
  clear hb hb2
  go_wp2_with fail
  go_ret2
  exact ⟨rfl, HB.out.alloc HB.out.size _⟩
set_option maxRecDepth 100000 in
set_option maxHeartbeats 1000000 in
theorem eng_new_ok (hq : QusR w A n qs) (hm : cfB qs la ro se so = true) :
    Calls Tryz.prog 16 #[.agg (cfA A n c la ro se so)] w fun e w' => ∃ ge O, e = .returned (.tuple #[.pointer (some ⟨ge, 0, none⟩), .int .i64 0]) ∧ EM O ge qs la ⟨[], -4398046511104, 0⟩ 0 w' ∧ (∀ k, O k → w.heap.size ≤ k) ∧ Below w.heap.size w w' := by
  obtain ⟨f1, f2, f3⟩ := cfB_facts hm
  have hn : qs.length = n := hq.1
  have HF : Hid (∀ w', Below w.heap.size w w' → Calls Tryz.prog 45 #[.agg (cfA A n c la ro se so), .agg #[.int .i64 1800, .int .i64 1801]] w' fun e w2 => ∃ b c' rs, e = .returned (.tuple #[.agg (frC (some ⟨b, 0, none⟩) n c' la (-4398046511104) 0), .int .i64 0]) ∧ CpP w2 qs n w'.heap.size b c' rs ∧ Below w'.heap.size w' w2) := Lib.hid fun w' hb => fnew_ok (hq.below hb) hm (by omega) (by omega)
  have HM := Lib.hid f3
  clear hq hm f3
  unfold cfA at HF ⊢
  unfold frC at HF
  go_enter Tryz.func16, Tryz.ntmps16
  have HAL : Hid (∀ o, Below w.heap.size w (w.alloc o)) := fun o => (Below.refl _ _).alloc (Nat.le_refl _) o
  go_wp2_with fail
  refine (HF.out _ (HAL.out _)).mono ?_
  rintro e w2 ⟨b, c', rs, rfl, hcp, hb⟩
  have hs0 : w.heap.size ≤ (w.alloc (.cells #[.slice A n c, .int .i64 la, .int .i64 ro, .int .i64 se, .int .i64 so] 24)).heap.size := by simp
  have hb2 := (HAL.out (.cells #[.slice A n c, .int .i64 la, .int .i64 ro, .int .i64 se, .int .i64 so] 24)).trans (hb.mono hs0)
  obtain ⟨q1, q2, q3, q4⟩ := hcp
  have hrl : rs.length = n := q3.1
  have hfrq : FrQ w2 b c' rs := by
    refine ⟨by rw [hrl]; exact q3, fun i hi => ⟨(q4 _ (List.getElem_mem hi)).mono (Nat.zero_le _), ?_⟩, by omega⟩
    exact (bounds_ofQ (HM.out _ (by rw [← q1]; exact List.mem_map.2 ⟨_, List.getElem_mem hi, rfl⟩))).1
  have hqb : ∀ k, QuB b rs k → w.heap.size ≤ k := fun k hk => by
    rcases hk with rfl | ⟨r, hr, e⟩
    · omega
    · have := own_base (q4 r hr) e
      omega
  have HB := Lib.hid hb2
  have HFQ := Lib.hid hfrq
  have HQB := Lib.hid hqb
  have HQ1 := Lib.hid q1
  clear hb hb2 q1 q2 q3 q4 hfrq hqb hs0
  have HBG : Hid (∀ w', Below w2.heap.size w2 w' → Calls Tryz.prog 46 #[.agg #[.int .i64 1800, .int .i64 1801, .slice (some ⟨b, 0, none⟩) n c', .int .i64 la, .int .i64 (-4398046511104), .int .i64 0]] w' fun e w3 => ∃ g hp mp gs, e = .returned (.pointer (some ⟨g, 0, none⟩)) ∧
      RuX w3 ⟨g, b, c', rs, la, -4398046511104, 0, 0, hp, gs, [], mp, 0, .map [], fun _ => none, []⟩ ∧ Below w'.heap.size w' w3 ∧ w'.heap.size ≤ g ∧ w'.heap.size ≤ mp ∧ (∀ k ∈ gs, w'.heap.size ≤ k)) := Lib.hid fun w' hb => begin_any (HFQ.out.below hb) hrl
  have HAL2 : Hid (∀ o, Below w2.heap.size w2 (w2.alloc o)) := fun o => (Below.refl _ _).alloc (Nat.le_refl _) o
  go_wp2_with fail
  refine (HBG.out _ (HAL2.out _)).mono ?_
  rintro e w3 ⟨g, hp, mp, gs, rfl, hru, hb3, g1, g2, g3⟩
  obtain ⟨w2', hw2⟩ : ∃ w2', w2.alloc (.cells #[.int .i64 1800, .int .i64 1801, .slice (some ⟨b, 0, none⟩) n c', .int .i64 la, .int .i64 (-4398046511104), .int .i64 0] 87) = w2' := ⟨_, rfl⟩
  have hbb : Below w2.heap.size w2 w2' := by rw [← hw2]; exact HAL2.out _
  rw [hw2] at hb3 g1 g2 g3
  have s1 := HB.out.size
  have s2 := hbb.size
  have s3 := hb3.size
  have hw3 : Below w.heap.size w w3 := (HB.out.trans (hbb.mono s1)).trans (hb3.mono (by omega))
  have hal : ∀ o, Below w3.heap.size w3 (w3.alloc o) := fun o => (Below.refl _ _).alloc (Nat.le_refl _) o
  have hUlo : ∀ k, (⟨g, b, c', rs, la, -4398046511104, 0, 0, hp, gs, [], mp, 0, .map [], fun _ => none, []⟩ : RuD).U k → w.heap.size ≤ k := fun k hk => by
    rcases hk with (e | e | e) | e | ⟨r, hr, _⟩
    · have e : k = g := e; omega
    · have e : k = mp := e; omega
    · exact HQB.out k e
    · have := g3 k e; omega
    · cases hr
  have HE : Hid (∃ O, EM O w3.heap.size qs la ⟨[], -4398046511104, 0⟩ 0 (w3.alloc (.cells #[.pointer (some ⟨g, 0, none⟩)] ET)) ∧ (∀ k, O k → w.heap.size ≤ k) ∧ Below w.heap.size w (w3.alloc (.cells #[.pointer (some ⟨g, 0, none⟩)] ET))) := by
    refine Lib.hid ⟨fun k => k = w3.heap.size ∨ (⟨g, b, c', rs, la, -4398046511104, 0, 0, hp, gs, [], mp, 0, .map [], fun _ => none, []⟩ : RuD).U k, ⟨_, Has.made w3 ET _, hru.below (hal _), ⟨List.Pairwise.nil, fun r hr => (by cases hr), fun r hr => (by cases hr), fun r hr => (by cases hr), fun σ _ => rfl, fun x hx => (by cases hx), List.Pairwise.nil, List.Pairwise.nil, rfl, rfl, rfl⟩, mc_new, HQ1.out, rfl, f1, fun q hq => HM.out _ (by rw [← HQ1.out]; exact List.mem_map.2 ⟨q, hq, rfl⟩), Nat.le_refl _, fun hg => ?_, fun k hk => ⟨hk, ?_⟩⟩, fun k hk => ?_, hw3.alloc hw3.size _⟩
    · have := hru.lt _ hg; omega
    · rcases hk with e | e
      · rw [e]; simp
      · have := hru.lt k e; simp; omega
    · rcases hk with e | e
      · rw [e]; exact hw3.size
      · exact hUlo k e
  clear hru hb3 g1 g2 g3 hw2 hbb s1 s2 s3 hw3 hal hUlo
  obtain ⟨O, hE⟩ := HE.out
  have HE2 := Lib.hid hE
  clear hE HE
  go_wp2_with fail
  go_ret2
  exact ⟨_, O, rfl, HE2.out⟩
end
end Go.Proofs.YtbpaepkcchpmbaaGreat
namespace Go.Proofs.YtbpaepkcchpmbaaGreat
open Go.RowKit
structure SpS (w : World) (base g n : Nat) (wr : World) : Prop where
  cells : ∃ t cs, Has wr g t cs ∧ ∀ i, i < n → ∃ z, cs[i]? = some (.int .i64 z)
  keep : Below base w wr
  far : base ≤ g
end Go.Proofs.YtbpaepkcchpmbaaGreat
