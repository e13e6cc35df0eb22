import Derived.Test.YtbpaepkcchpmbaaGreatG48
namespace Go.Proofs.YtbpaepkcchpmbaaGreat
open Go.RowKit
theorem ptr_invK (key : Value) (kl : Lit) (h : keyOf Tryz.prog 3 key = some kl) : ∃ x, key = Value.int .i64 x := by
  obtain ⟨x, rfl, _⟩ := Maps.keyOf_int_inv Tryz.underlying3 h
  exact ⟨x, rfl⟩
theorem ptr_invV (v : Value) (y : DataW Unit × List MemPlace) (h : ptrR v = some y) : ∃ c, v = ptrV c := by
  obtain ⟨p, e, _⟩ := ptrR_inv h
  exact ⟨p, e⟩
theorem row_slice {w : World} {g L : Nat} {V : Value} {its : List It} {xs : List LX} (h : RowX w g V L its xs) (hne : its ≠ []) : ∃ b c, V = .slice (some ⟨b, 0, none⟩) its.length c := by
  obtain ⟨A, c, rfl, _⟩ := h.iv.form
  rcases h.iv.shape with ⟨_, _, _, e⟩ | ⟨b, rfl⟩
  · exact absurd e hne
  · exact ⟨b, c, rfl⟩
theorem belL_no {wt : List It} {line : Int} (h : belL wt line = false) (hs : Srd wt) : ∀ x, x ∈ wt → line ≤ x.t := by
  cases wt with
  | nil => intro x hx; cases hx
  | cons y r =>
    have h1 : ¬ y.t < line := of_decide_eq_false h
    intro x hx
    rcases List.mem_cons.1 hx with rfl | hx
    · omega
    · have := lt4_time ((List.pairwise_cons.1 hs).1 x hx)
      omega
theorem wait_in {qs : List Rq} {ys wt : List It} {l0 : Int} {L : Int → Int} {rows : List RD} {vals : List Rv} (h : TelI qs ys l0 L rows wt vals) {x : It} (hx : x ∈ wt) : x ∈ ys := by
  have hf : x ∈ wt.filter (sitB x.s) := List.mem_filter.2 ⟨hx, sitB_iff.2 rfl⟩
  by_cases c : ∃ r, r ∈ rows ∧ r.s = x.s
  · obtain ⟨r, hr, e⟩ := c
    have : x ∈ r.its ++ wt.filter (sitB r.s) := by rw [e]; exact List.mem_append_right _ hf
    rw [h.sr r hr] at this
    exact (List.mem_filter.1 this).1
  · rw [(h.no x.s fun r hr e => c ⟨r, hr, e⟩).1] at hf
    exact (List.mem_filter.1 hf).1
structure ToldU (u0 : RuD) (w0 : World) (m : Mc) (V : Value) (zs : List Rz) (u : RuD) (w : World) : Prop where
  ru : RuX w u
  out : OutZ u.U w V zs
  val : zs.map Rz.val = (toldL (qsW u0.qs) u0.late m.least u0.mark m.ys).map (valP u0.qs)
  tie : TieU u ⟨heldL (qsW u0.qs) u0.late u0.mark m.ys, u0.mark, m.seq⟩
  hd : u.g = u0.g ∧ u.qs = u0.qs ∧ u.late = u0.late
  nn : u.n0 ≤ u0.n0 + 8192
  kp : ButO u0.U w0 w
  own : ∀ k, u.U k → u0.U k ∨ w0.heap.size ≤ k
  nb : ∀ k, V.ownBlock = some k → w0.heap.size ≤ k
theorem TlS.end_ {line : Int} {u0 u : RuD} {w0 w : World} {m : Mc} {rIt cnt : Nat} {zs zs' : List Rz} {L : Int → Int} {G : List Int} {done : List RD} {left : Lit → Bool} {V : Value} {w' : World} {ws : World} (hmay : MayQs u0.qs) (h0 : 0 < u0.qs.length) (hm : McOk m) (hseq : u0.seq = m.seq) (hwt : u0.wt.length ≤ 8192) (hline : lineM u0.mark u0.late = line)
    (h : TlS u0.ghost w0 m.ys line (lineM m.least u0.late) rIt cnt u zs L G done [] left V w) (hp : zs'.Perm zs) (hs : SrdB ltZ zs') (ho : OutZ u.U w' V zs') (hb : ButO (fun k => V.ownBlock = some k) w w') (hw : Below ws.heap.size ws w0) : ToldU u0 ws m V zs' u w' := by
  subst hline
  have hln := line_iff (m := u0.mark) (late := u0.late)
  have hl0 := line_iff (m := m.least) (late := u0.late)
  have hU := ghost_U u0
  have hsz := hw.size
  refine ⟨h.ru.butO hb fun k hk e => h.out.off k e hk, ho, ?_, ?_, ⟨h.hd.1, h.hd.2.2.1, h.hd.2.2.2.1⟩, ?_, ?_, fun k hk => ?_, fun k hk => ?_⟩
  · refine h.lp.told hmay h0 hm.ys hln hl0 (hp.map _) ?_
    exact List.pairwise_map.2 (List.Pairwise.imp (fun hab => hab) hs)
  · refine h.lp.tie h.hd.2.2.1 h.hd.2.2.2.1 rfl ?_ rfl h.hd.2.2.2.2.1 (by rw [h.hd.2.2.2.2.2]; exact hseq) h.rel hm.ys hmay h0 hln
    have := h.rows
    rwa [List.append_nil] at this
  · have h1 := h.nn
    have h2 : u.n0 ≤ u0.n0 + u0.wt.length := h1
    omega
  · have h1 : ButO u0.U w0 w := h.kp.weaken fun k hk => (hU k).1 hk
    have h2 := (below_butO hw u0.U).andThen h1 fun i hi _ => hi
    exact h2.andThen hb fun i hi hlt => absurd (h.nb i hi) (by omega)
  · rcases h.own k hk with e | e
    · exact .inl ((hU k).1 e)
    · exact .inr (by omega)
  · have := h.nb k hk
    omega
theorem settle_call {u5 : RuD} {r1 : RD} {rest : List RD} {line : Int} {Vo : Value} {zs : List Rz} {n : Nat} (e : u5.rows = r1 :: rest) (hi : RowPl u5.qs r1 line) {b c : Nat} (hV : r1.V = .slice (some ⟨b, 0, none⟩) r1.its.length c) (hn : r1.its.length ≤ 8192) (hlt : ∀ k, r1.U k → k < n) {w : World} (h : RuX w u5 ∧ OutZ u5.U w Vo zs) :
    Calls Tryz.prog 79 #[.pointer (some ⟨r1.g, 0, none⟩)] w fun en w' => en = .returned (.int .i64 (r1.its.length - mostTo r1.xs r1.xs.length : Nat)) ∧ ButS (blkL r1.U n) w w' ∧ Has w' u5.g UT (ruC u5) ∧
      ∃ V2, RuX w' { u5 with rows := { r1 with V := V2, its := r1.its.drop (r1.its.length - mostTo r1.xs r1.xs.length) } :: rest } ∧ OutZ ({ u5 with rows := { r1 with V := V2, its := r1.its.drop (r1.its.length - mostTo r1.xs r1.xs.length) } :: rest } : RuD).U w' Vo zs ∧ (∀ k, ({ u5 with rows := { r1 with V := V2, its := r1.its.drop (r1.its.length - mostTo r1.xs r1.xs.length) } :: rest } : RuD).U k → u5.U k) := by
  refine (run_settle h.1 e hi hV hn h.2).mono ?_
  rintro en w' ⟨he, V2, h1, h2, h3, h4, h5⟩
  exact ⟨he, butO_blkL h4 hlt, h1.st, V2, h1, h2, h5⟩
set_option maxRecDepth 100000 in
set_option maxHeartbeats 4000000 in
theorem tell_any {u0 : RuD} {m : Mc} {w : World} (h : RuX w u0) (hmay : MayQs u0.qs) (hm : McOk m) (ht : TieU { u0 with mark := m.least } m) (hmk : m.least ≤ u0.mark) (hlN : lineN u0.mark u0.late = lineM u0.mark u0.late) (hn : u0.n0 + 8192 ≤ 1048576) (hseq : u0.seq = m.seq) :
    Calls Tryz.prog 57 #[.pointer (some ⟨u0.g, 0, none⟩)] w fun e w' => ∃ u zs V, e = .returned V ∧ ToldU u0 w m V zs u w' := by
  have h64 := h.frq.len
  have hlen := ht.len hm
  have hwt : u0.wt.length ≤ 8192 := by
    have h1 : u0.rel + (u0.wt.length : Nat) = (m.ys.length : Nat) := hlen
    have h2 : u0.rel = (sumIts u0.rows : Nat) := ht.rel
    have h3 := hm.len
    omega
  have hll : lineM m.least u0.late ≤ lineM u0.mark u0.late := by unfold lineM; omega
  have HR0 := Lib.hid h
  have HMAY := Lib.hid hmay
  have HM := Lib.hid hm
  have HTI := Lib.hid (ht.telI)
  have HREL : Hid (0 ≤ u0.rel ∧ u0.rel + u0.wt.length ≤ 8192 ∧ u0.rel + (u0.wt.length : Nat) = (m.ys.length : Nat)) := by
    have h1 : u0.rel + (u0.wt.length : Nat) = (m.ys.length : Nat) := hlen
    have h2 : u0.rel = (sumIts u0.rows : Nat) := ht.rel
    have h3 := hm.len
    exact Lib.hid ⟨by omega, by omega, h1⟩
  have HLI := Lib.hid (fline_any h.st (ruC_frC u0))
  rw [hlN] at HLI
  have HLL := Lib.hid hll
  have HSEQ := Lib.hid hseq
  have HWT := Lib.hid hwt
  clear h hmay hm ht hlen hll hlN hseq hwt
  generalize hline : lineM u0.mark u0.late = line at HLI HLL
  have HLINE := Lib.hid hline
  clear hline
  go_enter Tryz.func57, Tryz.ntmps57
  go_wp2_with fail
  refine HLI.out.mono ?_
  rintro e w1 ⟨rfl, kd, hkd⟩
  have HB1 : Hid (Below w.heap.size w w1) := by rw [hkd]; exact below_drewN (Below.refl _ _) _
  clear hkd HLI
  have HR1 : Hid (RuX w1 u0.ghost) := (HR0.out.below HB1.out).ghost
  have HRS := Lib.hid (release_any (u0 := u0.ghost) (w0 := w1) (line := line) (I := fun rows wt vals => ∃ L, TelI u0.qs m.ys (lineM m.least u0.late) L rows wt vals ∧ ∀ σ, L σ ≤ line) HMAY.out (telI_relH HMAY.out HM.out.ys h64.2 line) (fun rows x wt vals hI => by
      obtain ⟨L, hI, _⟩ := hI
      exact HM.out.may x (wait_in hI List.mem_cons_self))
    ⟨HR1.out, OutZ.nil _ _, rfl, rfl, rfl, ⟨_, HTI.out, fun _ => HLL.out⟩, by show u0.n0 + u0.wt.length ≤ 1048576; have := HWT.out; omega, HWT.out, ⟨HREL.out.1, HREL.out.2.1⟩, rfl, ⟨rfl, rfl, rfl, rfl⟩, Nat.le_refl _, below_butO (Below.refl _ _) _, fun k hk => .inl hk, fun k hk => by simp [Value.ownBlock] at hk⟩)
  go_wp2_with fail
  refine HRS.out.mono ?_
  rintro e w2 ⟨u1, zs1, V1, rfl, hr, hbel⟩
  have c7 : w2.cell? ⟨u0.g, 7, none⟩ = some (.map (some u1.mp)) := by rw [show u0.g = u1.g from hr.g.symm]; exact hr.ru.st.cell 7
  have HRL := Lib.hid hr
  have HBEL := Lib.hid hbel
  clear hr hbel HRS HTI
  go_wp2_with (first | (at_range; refine wpList_range_own _ rfl _ MT rfl 3 126 rkeyed Tryz.underlying102 ptrR u1.mp u1.n0 u1.D rfl HRL.out.ru.map.own ?_; intro w3 hrg3 hg3 hs3) | go_in)
  go_frame
  have HS3 : Hid (∃ L, TlS u0.ghost w1 m.ys line (lineM m.least u0.late) w2.heap.size (Maps.size u1.D) u1 zs1 L [] [] u1.rows (Maps.has u1.D) V1 w3) := by
    obtain ⟨L, hI, hLl⟩ := HRL.out.inv
    have hb3 : Below w2.heap.size w2 w3 := grow_below hg3 (fun b e => by cases e) (Nat.le_refl _)
    have hk := HRL.out.kp.size
    refine ⟨L, hrg3, HRL.out.ru.below hb3, HRL.out.out.below hb3, List.Perm.refl _, ?_, fun s hs => ?_, fun r hr => ?_, fun e => by have := HRL.out.ru.lt _ e; omega, hk, by omega, ?_, ?_, ?_, ?_, HRL.out.kp.andThen (below_butO hb3 (fun _ => False)) fun _ e _ => e.elim, HRL.out.own, HRL.out.nb⟩
    · exact LpI.start hI hLl (belL_no HBEL.out hI.srt)
    · rw [HRL.out.ru.map.has s] at hs
      refine Classical.byContradiction fun hc => ?_
      rw [HRL.out.ru.mOut s fun r hr e => hc ⟨r, hr, e⟩] at hs
      cases hs
    · rw [HRL.out.ru.map.has r.s, HRL.out.ru.mIn r hr]; rfl
    · exact ⟨HRL.out.g, HRL.out.hd.2.2.2, HRL.out.qs, HRL.out.hd.1, HRL.out.hd.2.1, HRL.out.hd.2.2.1⟩
    · -- the count is what the rows hold
      have h1 : u1.rel + (u1.wt.length : Nat) = u0.rel + (u0.wt.length : Nat) := by have := HRL.out.cnt; exact_mod_cast this
      have hp := cover_perm hI.nd hI.sr (fun σ hσ => (hI.no σ hσ).1) HM.out.seqs.nodup hI.seq.nodup
      have h2 := hp.length_eq
      rw [List.length_append, sumIts_flat] at h2
      have h3 := HREL.out.2.2
      omega
    · have h1 : u1.rel + (u1.wt.length : Nat) = u0.rel + (u0.wt.length : Nat) := by have := HRL.out.cnt; exact_mod_cast this
      have := HREL.out.2.1
      omega
    · have := HRL.out.nn
      show u1.n0 ≤ u0.n0 + u0.wt.length
      have h5 : u1.n0 + u1.wt.length ≤ u0.n0 + u0.wt.length := this
      omega
  have hrIt : ∃ rIt, w2.heap.size = rIt := ⟨_, rfl⟩
  obtain ⟨rIt, hrIt⟩ := hrIt
  rw [hrIt] at HS3 ⊢
  obtain ⟨L3, hS3⟩ := HS3.out
  have HS4 := Lib.hid hS3
  clear hrg3 hg3 hs3 hrIt HS3 hS3 c7
  go_loopg [4] (Maps.size u1.D) (fun gk V wr => ∃ u zs L G done todo left, Hid (TlS u0.ghost w1 m.ys line (lineM m.least u0.late) rIt gk u zs L G done todo left V wr))
  case atStart => exact ⟨_, _, _, _, _, _, _, HS4⟩
  case round =>
    clear HS4
    obtain ⟨u, zs, L, G, done, todo, left, HT⟩ := hrel
    have HVF := HT.out.out.row.form
    go_wp2_with (first
      | (at_next; refine wpList_next_ranges _ rfl _ rfl 3 rkeyed ptrR (Value.int .i64) ptrV ptr_invK ptr_invV u.mp rIt u.n0 u.D left gk rfl HT.out.rg ?_ ?_)
      | go_in)
    · -- nothing is left: the sort
      intro _ hl0
      have htodo : todo = [] := by
        cases htd : todo with
        | nil => rfl
        | cons r t2 =>
          have := HT.out.lt r (by rw [htd]; exact List.mem_cons_self)
          rw [hl0] at this
          cases this
      subst htodo
      obtain ⟨A, c, rfl, hc1, hc2, _, _⟩ := HVF
      have hz : zs.length ≤ 33554432 := by
        have := HT.out.lp.many HMAY.out HM.out.ys h64.2
        rwa [List.length_map] at this
      rcases HT.out.out.row.shape with ⟨rfl, h1, rfl, h2⟩ | ⟨b, rfl⟩
      · subst h2
        have HSO := Lib.hid (rsort_none wr none 0)
        go_wp2_with fail
        refine HSO.out.mono ?_
        rintro e w5 ⟨rfl, rfl⟩
        go_wp2_with fail
        go_ret
        exact ⟨u, [], _, rfl, TlS.end_ HMAY.out h64.1 HM.out HSEQ.out HWT.out HLINE.out HT.out (List.Perm.refl _) List.Pairwise.nil HT.out.out (below_butO (Below.refl _ _) _) HB1.out⟩
      · have HSO := Lib.hid (rsort_any HT.out.out.row (by omega))
        go_wp2_with fail
        refine HSO.out.mono ?_
        rintro e w5 ⟨rfl, zs5, hp5, hs5, ho5, hb5⟩
        have hbo : ButO (fun k => (Value.slice (some ⟨b, 0, none⟩) zs.length c).ownBlock = some k) wr w5 := butS_butO (O := fun k => (Value.slice (some ⟨b, 0, none⟩) zs.length c).ownBlock = some k) hb5 fun k hk => by
          rw [List.mem_singleton] at hk
          rw [hk]; rfl
        have hout : OutZ u.U w5 (.slice (some ⟨b, 0, none⟩) zs.length c) zs5 := by
          have hh := HT.out.out
          refine ⟨ho5, hh.off, fun z hz5 => (hh.hist z (hp5.mem_iff.1 hz5)).same fun k e => ?_, fun z hz5 => hh.offH z (hp5.mem_iff.1 hz5)⟩
          obtain ⟨cu, hcu⟩ := (hh.hist z (hp5.mem_iff.1 hz5)).has e
          refine hb5.other k hcu.lt fun hm => ?_
          rw [List.mem_singleton] at hm
          subst hm
          obtain ⟨cu2, hcu2⟩ := hh.row.has (k := k) rfl
          exact has_types hcu hcu2 (by decide)
        have HEND := Lib.hid (TlS.end_ HMAY.out h64.1 HM.out HSEQ.out HWT.out HLINE.out HT.out hp5 hs5 hout hbo HB1.out)
        clear hbo hout hp5 hs5 ho5 hb5
        go_wp2_with fail
        go_ret
        exact ⟨u, zs5, _, rfl, HEND.out⟩
    · -- a row has come
      intro x cp kl y1 y2 w4 cnt4 hkey hlk hv hat hrg4 hlt4 hg4 hs4 hen
      obtain ⟨x', ex, rfl, hwf⟩ := Maps.keyOf_int_inv Tryz.underlying3 hkey
      cases ex
      obtain ⟨r, todo', left', hrs, hmr, hleft, P⟩ := HT.out.pick hlk hrg4 hg4
      obtain rfl : cp = some r.g := by
        rw [ptrR_mk] at hv
        have h1 : y1 = ptrD cp := (congrArg Prod.fst (Option.some.inj hv)).symm
        have h2 := hat (ptrD none)
        rw [HT.out.ru.map.at_ x, hmr, h1] at h2
        exact (ptrD_inj h2).symm
      change _ = Result.ok (Value.tuple #[Value.int .i64 x, Value.pointer (some ⟨r.g, 0, none⟩)]) w4 at hen
      have hqs : u.qs = u0.qs := P.hd.2.2.1
      have hgg : u.g = u0.g := P.hd.1
      have hpl : RowPl ({ u with rows := r :: (done ++ todo') } : RuD).qs r (L r.s) := by show RowPl u.qs r (L r.s); rw [hqs]; exact P.lp.pl r List.mem_cons_self
      have hmay2 : ∀ q : Rq, q ∈ ({ u with rows := r :: (done ++ todo') } : RuD).qs → mayQ q.q.kind q.q.agg q.q.size q.q.slide q.q.bs q.q.rank = true := by
        show ∀ q : Rq, q ∈ u.qs → _
        rw [hqs]; exact HMAY.out
      have hits : r.its.length ≤ 8192 := by
        have h1 := congrArg List.length (P.lp.sr r List.mem_cons_self)
        have h2 := List.length_filter_le (sitB r.s) m.ys
        rw [List.length_append] at h1
        have h3 := HM.out.len
        omega
      have hzl : zs.length ≤ 536870912 := by
        have := P.lp.many HMAY.out HM.out.ys h64.2
        rw [List.length_map] at this
        omega
      obtain ⟨bV, cV, hV⟩ := row_slice (P.ru.row r List.mem_cons_self) (P.lp.ne r List.mem_cons_self)
      have HTE := Lib.hid (run_tell P.ru rfl hpl hmay2 (P.lp.le r.s) hits P.out hzl)
      have HP := Lib.hid P
      have HHD : Hid (u.g = u0.g ∧ u.qs = u0.qs) := Lib.hid ⟨hgg, hqs⟩
      have HITS := Lib.hid hits
      have HLEFT : Hid (left' = fun z => left' z && !z.sameKey (.int .i64 r.s)) := Lib.hid (by
        rw [hleft, hrs]
        exact (Maps.strike_twice left (.int .i64 x)).symm)
      have HRS := Lib.hid hrs
      have hxk : 0 ≤ x ∧ x ≤ 1048575 := by rw [← hrs]; exact P.ru.ser r List.mem_cons_self
      have HXK := Lib.hid hxk
      clear HVF hkey hlk hv hat hrg4 hg4 hs4 hwf hleft P hpl hits hzl hqs hgg hmr HT hxk hrs
      go_wp2_with fail
      refine HTE.out.mono ?_
      rintro e w5 ⟨V5, zs5, xs5, rfl, hr5, hz5, hp5, hval5, hb5, hv5, ho5, hro5⟩
      have hU5 : ∀ k, r.U k → k < w4.heap.size := fun k hk => HP.out.ru.lt k (.inr (.inr ⟨r, List.mem_cons_self, hk⟩))
      have hlt5 : ∀ k, ({ r with xs := xs5 } : RD).U k → k < w5.heap.size := fun k hk => hr5.lt k (.inr (.inr ⟨_, List.mem_cons_self, hk⟩))
      have hmost : r.its.length - mostTo xs5 xs5.length ≤ r.its.length := Nat.sub_le _ _
      obtain ⟨gone, hgone⟩ : ∃ gone : Nat, r.its.length - mostTo xs5 xs5.length = gone := ⟨_, rfl⟩
      have hrel0 : u.rel = (sumIts (r :: (done ++ todo')) : Nat) := HP.out.rel
      have hrb : u.rel ≤ 8192 := HP.out.rb
      rw [sumIts_cons] at hrel0
      have HBN : Hid (-1000000 ≤ u.rel - gone ∧ u.rel - gone ≤ 1000000) := Lib.hid (by omega)
      have HGONE := Lib.hid hgone
      clear hrel0 hrb hgone
      have HPR := Lib.hid (show RuX w5 { u with rows := { r with xs := xs5 } :: (done ++ todo') } ∧ OutZ ({ u with rows := { r with xs := xs5 } :: (done ++ todo') } : RuD).U w5 V5 zs5 from ⟨hr5, hz5⟩)
      have HCL : Hid (∀ w', RuX w' { u with rows := { r with xs := xs5 } :: (done ++ todo') } ∧ OutZ ({ u with rows := { r with xs := xs5 } :: (done ++ todo') } : RuD).U w' V5 zs5 → _) := Lib.hid fun w' hw' => settle_call (u5 := { u with rows := { r with xs := xs5 } :: (done ++ todo') }) (n := w5.heap.size) rfl hp5 hV HITS.out hlt5 hw'
      have HST : Hid (Has w5 u0.g UT (ruC { u with rows := { r with xs := xs5 } :: (done ++ todo') })) := by rw [← HHD.out.1]; exact hr5.st
      have HBK := Lib.hid (show ButO (fun k => r.U k ∨ u4.ownBlock = some k) w4 w5 from hb5)
      have HOW := Lib.hid ho5
      have HNB := Lib.hid hv5
      have HRO := Lib.hid hro5
      have HPL := Lib.hid hp5
      have HVAL := Lib.hid hval5
      have HLT5 := Lib.hid hlt5
      clear hr5 hz5 hp5 hval5 hb5 hv5 ho5 hro5 hlt5 HTE hU5 hmost
      go_upto_region 7 with fail
      refine rtl7_any (g := u0.g) (rg := r.g) (B := w5.heap.size) (rel := u.rel) (gone := (gone : Int)) (nrel := u.rel - gone) (cs := ruC { u with rows := { r with xs := xs5 } :: (done ++ todo') }) (gs := blkL ({ r with xs := xs5 } : RD).U w5.heap.size)
        (Pre := fun w => RuX w { u with rows := { r with xs := xs5 } :: (done ++ todo') } ∧ OutZ ({ u with rows := { r with xs := xs5 } :: (done ++ todo') } : RuD).U w V5 zs5)
        (Post := fun w => ∃ V2, RuX w { u with rows := keptR r xs5 V2 :: (done ++ todo') } ∧ OutZ ({ u with rows := keptR r xs5 V2 :: (done ++ todo') } : RuD).U w V5 zs5 ∧ (∀ k, ({ u with rows := keptR r xs5 V2 :: (done ++ todo') } : RuD).U k → ({ u with rows := { r with xs := xs5 } :: (done ++ todo') } : RuD).U k))
        ⟨rfl, rfl, rfl, fun k hk => (blkL_mem.1 hk).1, HST.out, rfl, HPR.out, fun w w' h hb => ⟨h.1.below hb, h.2.below hb⟩, fun w w' h hb => (by obtain ⟨V2, h1, h2, h3⟩ := h; exact ⟨V2, h1.below hb, h2.below hb, h3⟩), rfl, HBN.out, fun w' _ hw' => ?_⟩ (by kernel_rfl) ?_
      · have := HCL.out w' hw'
        rw [← HGONE.out, ← HHD.out.1]
        exact this
      intro w6 hMI
      obtain ⟨V2, hr6, hz6, ho6⟩ := hMI.st.2
      have HBS := Lib.hid hMI.gr
      have HR6 := Lib.hid hr6
      have HZ6 := Lib.hid hz6
      have HO6 := Lib.hid ho6
      have c8 : w6.cell? ⟨u0.g, 8, none⟩ = some (.int .i64 u.rel) := by rw [← HHD.out.1]; exact hr6.st.cell 8
      have f8 : w6.frozen? ⟨u0.g, 8, none⟩ = false := by rw [← HHD.out.1]; exact hr6.st.mark 8
      clear hMI hr6 hz6 ho6 HCL HPR HST
      simp only [putAll, Act.put, List.setIfInBounds_toArray, List.set_cons_succ, List.set_cons_zero, List.drop_succ_cons, List.drop_zero]
      go_upto_region 8 with fail
      have hcnt := HR6.out.count HZ6.out (u.rel - gone)
      have HN : Hid (PkN { u with rows := r :: (done ++ todo') } r (done ++ todo') xs5 V2 zs line u4 w4 (u.rel - gone) zs5 V5 (w6.setCell ⟨u0.g, 8, none⟩ (.int .i64 (u.rel - gone)))) := by
        have hst : ButO (fun k => k = u.g) w6 (w6.setCell ⟨u0.g, 8, none⟩ (.int .i64 (u.rel - gone))) := ⟨rfl, rfl, rfl, by simp [World.setCell], fun k _ hn => heap_setCell_other _ _ _ _ (fun e => hn (by simp only at e; rw [HHD.out.1]; exact e))⟩
        refine ⟨by rw [← HHD.out.1]; exact hcnt.1, by rw [← HHD.out.1]; exact hcnt.2, HVAL.out, HPL.out, ?_, fun k hk => ?_, HNB.out, ?_⟩
        · have k1 : ButO (fun k => r.U k ∨ u4.ownBlock = some k ∨ k = u.g) w4 w5 := HBK.out.weaken fun k hk => hk.imp id fun e => .inl e
          have k2 := k1.andThen (butS_butO (O := fun k => k ∈ blkL ({ r with xs := xs5 } : RD).U w5.heap.size) HBS.out fun k hk => hk) fun i hi hlt => by
            have hm := (blkL_mem.1 hi).2
            rcases HRO.out i hm with h1 | h1
            · exact .inl h1
            · omega
          exact k2.andThen hst fun i hi _ => .inr (.inr hi)
        · exact HOW.out k (HO6.out k hk)
        · show u.rel - gone + (r.its.length : Nat) = u.rel + ((r.its.drop (r.its.length - mostTo xs5 xs5.length)).length : Nat)
          rw [List.length_drop, HGONE.out]
          have : gone ≤ r.its.length := by rw [← HGONE.out]; exact Nat.sub_le _ _
          omega
      have hrow := hcnt.1.row (keptR r xs5 V2) List.mem_cons_self
      obtain ⟨A2, cV2, hV2, _⟩ := hrow.iv.form
      have c0 : (w6.setCell ⟨u0.g, 8, none⟩ (.int .i64 (u.rel - gone))).cell? ⟨r.g, 0, none⟩ = some (.slice A2 (keptR r xs5 V2).its.length cV2) := by
        rw [← HHD.out.1, ← hV2]; exact hrow.st.cell 0
      have c7 : (w6.setCell ⟨u0.g, 8, none⟩ (.int .i64 (u.rel - gone))).cell? ⟨u0.g, 7, none⟩ = some (.map (some u.mp)) := by
        rw [← HHD.out.1]; exact hcnt.1.st.cell 7
      clear hcnt hrow HBS HR6 HZ6 HO6 HBK HOW HNB HRO HPL HVAL HLT5 c8 f8 hV2
      generalize w6.setCell ⟨u0.g, 8, none⟩ (.int .i64 (u.rel - gone)) = w7 at HN c0 c7 ⊢
      by_cases hk : (keptR r xs5 V2).its = []
      · have hz : (((keptR r xs5 V2).its.length : Nat) : Int) = 0 := by rw [hk]; rfl
        have HBASE := Lib.hid (HP.out.base HN.out)
        have HRG : Hid (w7.ranges Tryz.prog 3 ptrR u.mp rIt u.n0 u.D left' cnt4) := Lib.hid (ranges_same HP.out.rg HBASE.out.1 HBASE.out.2.1)
        have HKEY := Lib.hid (keyS HXK.out)
        go_wp2_with (first
          | (at_delete; refine wpList_delete_ranges _ rfl _ _ MT 3 rfl 126 rkeyed Tryz.underlying102 ptrR u.mp rIt u.n0 u.D left' cnt4 rfl HRG.out (.int .i64 x) (.int .i64 x) rfl HKEY.out ?_; intro w8 cnt8 hrg8 hle8 hturn8)
          | go_in)
        have HE : Hid (∃ u', TlS u0.ghost w1 m.ys line (lineM m.least u0.late) rIt cnt8 u' zs5 (updL L r.s line) (r.s :: G) done todo' left' V5 w8) := Lib.hid (PkP.goes (u0 := u0.ghost) HMAY.out h64.1 HM.out.ys (by rw [← HLINE.out]; exact line_iff) HP.out HN.out hk HLEFT.out (by rw [HRS.out]; exact hrg8) hturn8)
        clear hrg8 hturn8
        obtain ⟨u', hE⟩ := HE.out
        go_roundg cnt8
        case rel => exact ⟨u', zs5, _, _, _, todo', left', Lib.hid hE⟩
        case measure => omega
      · have hz : ¬ (((keptR r xs5 V2).its.length : Nat) : Int) = 0 := fun e => hk (List.length_eq_zero_iff.1 (by omega))
        have HE := Lib.hid (PkP.stay (u0 := u0.ghost) HMAY.out h64.1 HM.out.ys (by rw [← HLINE.out]; exact line_iff) HP.out HN.out hk)
        go_wp2_with fail
        go_roundg cnt4
        case rel => exact ⟨_, zs5, _, _, _, todo', left', HE⟩
        case measure => omega
end Go.Proofs.YtbpaepkcchpmbaaGreat
namespace Go.Proofs.YtbpaepkcchpmbaaGreat
open Go.RowKit
structure HlS (u : RuD) (w0 : World) (rIt cnt : Nat) (done todo : List RD) (left : Lit → Bool) (V : Value) (w : World) : Prop where
  rg : w.ranges Tryz.prog 3 ptrR u.mp rIt u.n0 u.D left cnt
  ru : RuX w u
  rows : u.rows.Perm (done ++ todo)
  lf : ∀ s, left (.int .i64 s) = true → ∃ r, r ∈ todo ∧ r.s = s
  lt : ∀ r, r ∈ todo → left (.int .i64 r.s) = true
  own : OwnIt w w0.heap.size V (u.wt ++ done.flatMap (·.its))
  off : ∀ k, V.ownBlock = some k → ¬ u.U k
  it : ¬ u.U rIt
  itlo : w0.heap.size ≤ rIt
  ithi : rIt < w.heap.size
section
variable {u : RuD} {w0 w w' : World} {rIt cnt cnt' : Nat} {done todo : List RD} {left : Lit → Bool} {V : Value}
theorem ownIt_iter {base : Nat} {ys : List It} (h : OwnIt w base V ys) {o : Obj} (hr : w.heap[rIt]? = some o) (ho : ∀ cs t, o ≠ .cells cs t) : V.ownBlock ≠ some rIt := fun e => by
  obtain ⟨c, hc⟩ := ownIt_has h e
  unfold Has at hc
  rw [hr] at hc
  exact ho _ _ (Option.some.inj hc)
theorem HlS.pick (h : HlS u w0 rIt cnt done todo left V w) {s : Int} (hl : left (.int .i64 s) = true) (hrg : w'.ranges Tryz.prog 3 ptrR u.mp rIt u.n0 u.D (fun z => left z && !z.sameKey (.int .i64 s)) cnt') (hg : w.grownBy w' (some rIt)) :
    ∃ (r : RD) (todo' : List RD) (left' : Lit → Bool), r.s = s ∧ r ∈ u.rows ∧ u.m s = some r.g ∧ u.rows.Perm ((done ++ [r]) ++ todo') ∧ (∀ s, left' (.int .i64 s) = true → ∃ r, r ∈ todo' ∧ r.s = s) ∧ (∀ r, r ∈ todo' → left' (.int .i64 r.s) = true) ∧ w'.ranges Tryz.prog 3 ptrR u.mp rIt u.n0 u.D left' cnt' ∧ RuX w' u ∧ OwnIt w' w0.heap.size V (u.wt ++ done.flatMap (·.its)) := by
  obtain ⟨r, hr, hs⟩ := h.lf s hl
  obtain ⟨A, B, hAB⟩ := List.append_of_mem hr
  have hp : todo.Perm (r :: (A ++ B)) := by rw [hAB]; exact List.perm_middle
  have hpr : u.rows.Perm ((done ++ [r]) ++ (A ++ B)) := h.rows.trans (by rw [List.append_assoc]; exact hp.append_left done)
  have hru : r ∈ u.rows := hpr.mem_iff.2 (by simp)
  have hb : ButO (fun k => k = rIt) w w' := grown_it hg
  obtain ⟨es, clock, since, seen, c0, _, _, _, _, h5, _⟩ := h.rg
  have hnr : ∀ q, q ∈ A ++ B → q.s ≠ s := fun q hq => by
    have h1 := (h.rows.pairwise_iff (R := fun a b : RD => a.s ≠ b.s) (fun {_ _} hab => Ne.symm hab)).1 h.ru.nd
    have h2 := (hp.pairwise_iff (R := fun a b : RD => a.s ≠ b.s) (fun {_ _} hab => Ne.symm hab)).1 (List.pairwise_append.1 h1).2.1
    rw [← hs]
    exact fun e => (List.pairwise_cons.1 h2).1 q hq e.symm
  refine ⟨r, A ++ B, _, hs, hru, by rw [← hs]; exact h.ru.mIn r hru, hpr, fun s' hs' => ?_, fun q hq => ?_, hrg, h.ru.butO hb fun k hk e => h.it (e ▸ hk), h.own.same fun k e => hb.other k (World.ownsRow.lt h.own k e).2 fun e2 => ?_⟩
  · rw [Bool.and_eq_true, Bool.not_eq_true'] at hs'
    obtain ⟨q, hq, e⟩ := h.lf s' hs'.1
    rcases List.mem_cons.1 (hp.mem_iff.1 hq) with rfl | hq
    · exfalso
      have := hs'.2
      rw [← e, hs, WideAt.sameKey_self (show WideAt.IsKeyLit (.int .i64 s) from trivial)] at this
      cases this
    · exact ⟨q, hq, e⟩
  · rw [h.lt q (hp.mem_iff.2 (List.mem_cons_of_mem _ hq)), lit_ne (hnr q hq)]
    rfl
  · exact ownIt_iter h.own h5 (fun _ _ e => by cases e) (e2 ▸ e)
end
structure HeldU (u0 : RuD) (w0 : World) (m : Mc) (V : Value) (u : RuD) (w : World) : Prop where
  ru : RuX w u
  own : OwnIt w w0.heap.size V m.ys
  off : ∀ k, V.ownBlock = some k → ¬ u.U k
  tie : TieU u m
  hd : u.g = u0.g ∧ u.qs = u0.qs ∧ u.late = u0.late ∧ u.n0 = u0.n0
  kp : ButO u0.U w0 w
  ow : ∀ k, u.U k → u0.U k ∨ w0.heap.size ≤ k
theorem OwnIt.lowQ {w : World} {base m n c : Nat} {A : Option Addr} {ys : List It} (h : OwnIt w base (.slice A n c) ys) (hm : m ≤ base) : OwnIt w m (.slice A n c) ys := by
  rcases h.shape with ⟨rfl, rfl, rfl, rfl⟩ | ⟨b, rfl⟩
  · exact OwnIt.nil _ _
  · exact h.lo (Nat.le_trans hm h.blk.2.1)
theorem OwnIt.upQ {w : World} {base : Nat} {b n c : Nat} {ys : List It} (h : OwnIt w 0 (.slice (some ⟨b, 0, none⟩) n c) ys) (hm : base ≤ b) : OwnIt w base (.slice (some ⟨b, 0, none⟩) n c) ys := h.lo hm
set_option maxRecDepth 100000 in
set_option maxHeartbeats 4000000 in
theorem held_any {u0 : RuD} {m : Mc} {w : World} (h : RuX w u0) (hm : McOk m) (ht : TieU u0 m) :
    Calls Tryz.prog 60 #[.pointer (some ⟨u0.g, 0, none⟩)] w fun e w' => ∃ V u, e = .returned V ∧ HeldU u0 w m V u w' := by
  have hperm := ht.perm hm
  have hwt : u0.wt.length ≤ 8192 := by
    have h1 := hperm.length_eq
    rw [List.length_append] at h1
    have := hm.len
    omega
  have hgood : goodAll u0.wt = true := List.all_eq_true.2 fun x hx => hm.may x (hperm.mem_iff.1 (List.mem_append_right _ hx))
  have HWA := Lib.hid (waiting_any (w := w) (g := u0.g) (cs := ruC u0) h.st rfl h.hp hwt (fun e => h.offG _ e (.inl rfl)) hgood)
  have HR := Lib.hid h
  have HM := Lib.hid hm
  have HT := Lib.hid ht
  have HPE := Lib.hid hperm
  clear h hm ht hperm hgood
  go_enter Tryz.func60, Tryz.ntmps60
  go_wp2_with fail
  refine HWA.out.mono ?_
  rintro e w2 ⟨A2, c2, gs', rfl, ho2, hp2, hb2, hg2, hof2⟩
  have hru : RuX w2 { u0 with gs := gs', wt := u0.wt } := HR.out.setHeap hb2 hp2 hg2
  have hU : ∀ k, ({ u0 with gs := gs', wt := u0.wt } : RuD).U k → u0.U k ∨ w.heap.size ≤ k := fun k hk => by
    rcases hk with hk | hk | hk
    · exact .inl (.inl hk)
    · exact (hg2 k hk).imp (fun e => .inr (.inl e)) id
    · exact .inl (.inr (.inr hk))
  have hUo : ∀ k, ({ u0 with gs := gs', wt := u0.wt } : RuD).U k → u0.U k ∨ k ∈ gs' := fun k hk => by
    rcases hk with hk | hk | hk
    · exact .inl (.inl hk)
    · exact .inr hk
    · exact .inl (.inr (.inr hk))
  obtain ⟨u1, hu1⟩ : ∃ u1, ({ u0 with gs := gs', wt := u0.wt } : RuD) = u1 := ⟨_, rfl⟩
  have HTIE : Hid (TieU u1 m) := by
    rw [← hu1]
    exact Lib.hid ⟨HT.out.nd, HT.out.pl, HT.out.ne, HT.out.sr, HT.out.no, HT.out.hi, HT.out.srt, HT.out.sq, HT.out.mark, HT.out.seq, HT.out.rel⟩
  have HHD : Hid (u1.g = u0.g ∧ u1.qs = u0.qs ∧ u1.late = u0.late ∧ u1.n0 = u0.n0 ∧ u1.wt = u0.wt ∧ u1.rows = u0.rows) := by rw [← hu1]; exact Lib.hid ⟨rfl, rfl, rfl, rfl, rfl, rfl⟩
  have hoffV : ∀ k, (Value.slice A2 u0.wt.length c2).ownBlock = some k → ¬ u1.U k := fun k e hk => by
    rw [← hu1] at hk
    have h1 := (World.ownsRow.lt ho2 k e).1
    rcases hUo k hk with h2 | h2
    · have := HR.out.lt k h2; omega
    · exact hof2 k e h2
  rw [hu1] at hru hU
  have HK2 : Hid (ButO u0.U w w2) := Lib.hid (butS_butO (O := u0.U) hb2 fun k hk => .inr (.inl hk))
  have c7 : w2.cell? ⟨u0.g, 7, none⟩ = some (.map (some u1.mp)) := by rw [← HHD.out.1]; exact hru.st.cell 7
  have HRU := Lib.hid hru
  have HU := Lib.hid hU
  have HO2 : Hid (OwnIt w2 w.heap.size (.slice A2 u0.wt.length c2) (u1.wt ++ ([] : List RD).flatMap (·.its))) := by
    rw [HHD.out.2.2.2.2.1, List.flatMap_nil, List.append_nil]; exact Lib.hid ho2
  have HOF := Lib.hid hoffV
  have HS2 : Hid (w.heap.size ≤ w2.heap.size) := Lib.hid hb2.size
  clear hu1 hru hU hUo hp2 hb2 hg2 hof2 ho2 hoffV HWA
  go_wp2_with (first | (at_range; refine wpList_range_own _ rfl _ MT rfl 3 126 rkeyed Tryz.underlying102 ptrR u1.mp u1.n0 u1.D rfl HRU.out.map.own ?_; intro w3 hrg3 hg3 hs3) | go_in)
  go_frame
  have hb3 : Below w2.heap.size w2 w3 := grow_below hg3 (fun b e => by cases e) (Nat.le_refl _)
  have HK3 : Hid (ButO u0.U w w3) := Lib.hid (HK2.out.andThen (below_butO hb3 (fun _ => False)) fun _ e _ => e.elim)
  have HS4 : Hid (HlS u1 w w2.heap.size (Maps.size u1.D) [] u1.rows (Maps.has u1.D) (.slice A2 u0.wt.length c2) w3 ∧ ButO u0.U w w3) := by
    refine Lib.hid ⟨⟨hrg3, HRU.out.below hb3, List.Perm.refl _, fun s hs => ?_, fun r hr => ?_, HO2.out.below hb3, HOF.out, fun e => by have := HRU.out.lt _ e; omega, HS2.out, by omega⟩, HK3.out⟩
    · rw [HRU.out.map.has s] at hs
      refine Classical.byContradiction fun hc => ?_
      rw [HRU.out.mOut s fun r hr e => hc ⟨r, hr, e⟩] at hs
      cases hs
    · rw [HRU.out.map.has r.s, HRU.out.mIn r hr]; rfl
  obtain ⟨rIt, hrIt⟩ : ∃ rIt, w2.heap.size = rIt := ⟨_, rfl⟩
  rw [hrIt] at HS4 ⊢
  clear hrg3 hg3 hs3 hrIt c7 hb3 HK3 HK2 HO2 HOF
  have hw0 : u0.wt.length = u0.wt.length := rfl
  go_loopg [3] (Maps.size u1.D) (fun gk V wr => ∃ done todo left A k c, V = .slice A k c ∧ Hid (k = (u1.wt ++ done.flatMap (·.its)).length) ∧ Hid (HlS u1 w rIt gk done todo left (.slice A k c) wr ∧ ButO u0.U w wr))
  case atStart => exact ⟨[], u1.rows, _, A2, u0.wt.length, c2, rfl, Lib.hid (by rw [HHD.out.2.2.2.2.1]; simp), HS4⟩
  case round =>
    clear HS4
    obtain ⟨done, todo, left, A, k, c, rfl, HLEN, HT3⟩ := hrel
    go_wp2_with (first
      | (at_next; refine wpList_next_ranges _ rfl _ rfl 3 rkeyed ptrR (Value.int .i64) ptrV ptr_invK ptr_invV u1.mp rIt u1.n0 u1.D left gk rfl HT3.out.1.rg ?_ ?_)
      | go_in)
    · intro _ hl0
      have htodo : todo = [] := by
        cases htd : todo with
        | nil => rfl
        | cons r t2 =>
          have := HT3.out.1.lt r (by rw [htd]; exact List.mem_cons_self)
          rw [hl0] at this
          cases this
      subst htodo
      have hpv : (u1.wt ++ done.flatMap (·.its)).Perm m.ys := by
        have h1 := HT3.out.1.rows
        rw [List.append_nil] at h1
        refine List.perm_append_comm.trans (List.Perm.trans (List.Perm.append_right _ ?_) (HTIE.out.perm HM.out))
        exact (h1.symm.flatMap_right _)
      have hkl : k ≤ 8192 := by
        rw [HLEN.out, hpv.length_eq]; exact HM.out.len
      rcases HT3.out.1.own.shape with ⟨rfl, h1, rfl, h2⟩ | ⟨b, rfl⟩
      · have hys : m.ys = [] := by
          rw [h2] at hpv
          exact (List.nil_perm.1 hpv)
        subst h1
        have HSO := Lib.hid (isort_none wr none 0)
        have HEND : Hid (HeldU u0 w m (.slice none 0 0) u1 wr) := Lib.hid ⟨HT3.out.1.ru, by rw [hys]; exact OwnIt.nil _ _, fun k hk => by simp [Value.ownBlock] at hk, HTIE.out, ⟨HHD.out.1, HHD.out.2.1, HHD.out.2.2.1, HHD.out.2.2.2.1⟩, HT3.out.2, HU.out⟩
        clear HT3
        go_wp2_with fail
        refine HSO.out.mono ?_
        rintro e w5 ⟨rfl, rfl⟩
        go_wp2_with fail
        go_ret
        exact ⟨_, u1, rfl, HEND.out⟩
      · have hblk := HT3.out.1.own.blk.2.1
        have HSO := Lib.hid (isort_any (HT3.out.1.own.lowQ (Nat.zero_le _)) (by omega))
        go_wp2_with fail
        refine HSO.out.mono ?_
        rintro e w5 ⟨rfl, zs5, hp5, hs5, ho5, hb5⟩
        have hz : zs5 = m.ys := srd_perm_eq hs5 HM.out.srd (hp5.trans hpv) fun a ha b hb => HM.out.seqs.two a ((hp5.trans hpv).mem_iff.1 ha) b ((hp5.trans hpv).mem_iff.1 hb)
        have hbo : ButO (fun j => j = b) wr w5 := butS_butO (O := fun j => j = b) hb5 fun j hj => by simpa using hj
        have HEND : Hid (HeldU u0 w m (.slice (some ⟨b, 0, none⟩) k c) u1 w5) := Lib.hid ⟨HT3.out.1.ru.butO hbo fun j hj e => HT3.out.1.off j (by rw [e]; rfl) hj, by rw [← hz]; exact ho5.upQ hblk, HT3.out.1.off, HTIE.out, ⟨HHD.out.1, HHD.out.2.1, HHD.out.2.2.1, HHD.out.2.2.2.1⟩, HT3.out.2.andThen hbo fun i hi hlt => by omega, HU.out⟩
        clear hbo hp5 hs5 ho5 hb5 hz HT3
        go_wp2_with fail
        go_ret
        exact ⟨_, u1, rfl, HEND.out⟩
    · intro x cp kl y1 y2 w4 cnt4 hkey hlk hv hat hrg4 hlt4 hg4 hs4 hen
      obtain ⟨x', ex, rfl, hwf⟩ := Maps.keyOf_int_inv Tryz.underlying3 hkey
      cases ex
      obtain ⟨r, todo', left', hrs, hrm, hmr, hpr, hlf, hlt', hrg, hru4, ho4⟩ := HT3.out.1.pick hlk hrg4 hg4
      obtain rfl : cp = some r.g := by
        rw [ptrR_mk] at hv
        have h1 : y1 = ptrD cp := (congrArg Prod.fst (Option.some.inj hv)).symm
        have h2 := hat (ptrD none)
        rw [HT3.out.1.ru.map.at_ x, hmr, h1] at h2
        exact (ptrD_inj h2).symm
      change _ = Result.ok (Value.tuple #[Value.int .i64 x, Value.pointer (some ⟨r.g, 0, none⟩)]) w4 at hen
      have hrow := hru4.row r hrm
      obtain ⟨AV, cV, hV, _⟩ := hrow.iv.form
      have c0 : w4.cell? ⟨r.g, 0, none⟩ = some (.slice AV r.its.length cV) := by rw [← hV]; exact hrow.st.cell 0
      have hiv := hrow.iv
      rw [hV] at hiv
      have HIV := Lib.hid hiv.items
      have HNL : Hid (AV = none → cV = 0 ∧ r.its.length = 0) := Lib.hid fun e => by
        rcases hiv.shape with ⟨_, h1, h2, _⟩ | ⟨b, h1⟩
        · exact ⟨h2, h1⟩
        · rw [e] at h1; cases h1
      have hk4 : ButO u0.U w w4 := HT3.out.2.andThen (grown_it hg4) fun i hi hlt => by have := HT3.out.1.itlo; omega
      have hs4' : w4.heap.size = wr.heap.size := hs4
      have hsz : w.heap.size ≤ w4.heap.size := hk4.size
      have hkk : (k + r.its.length) * 32 ≤ 140737488355328 := by
        have h1 := hpr.length_eq
        have h2 : (done.flatMap (·.its)).length = sumIts done := sumIts_flat done
        have h3 := HLEN.out
        rw [List.length_append, h2] at h3
        have h4 := (HTIE.out.perm HM.out).length_eq
        rw [List.length_append, sumIts_flat, sumIts_perm hpr] at h4
        have h5 : sumIts ((done ++ [r]) ++ todo') = sumIts done + r.its.length + sumIts todo' := by simp [sumIts]; omega
        have h6 := HM.out.len
        omega
      have HO4 := Lib.hid ho4
      have HL2 : Hid ((u1.wt ++ done.flatMap (·.its)).length = k) := Lib.hid HLEN.out.symm
      have HN : Hid (∀ A6 m6 c6 w6, OwnIt w6 w.heap.size (.slice A6 m6 c6) ((u1.wt ++ done.flatMap (·.its)) ++ r.its) → w4.grownBy w6 (Value.slice A k c).ownBlock → (∀ ad, A6 = some ad → (Value.slice A k c).ownBlock = some ad.block ∨ w4.heap.size ≤ ad.block) → m6 = k + r.its.length →
          HlS u1 w rIt cnt4 (done ++ [r]) todo' left' (.slice A6 m6 c6) w6 ∧ ButO u0.U w w6 ∧ m6 = (u1.wt ++ (done ++ [r]).flatMap (·.its)).length) := Lib.hid fun A6 m6 c6 w6 ho6 hg6 hb6 hm6 => by
        have hoff := HT3.out.1.off
        have hit := HT3.out.1.it
        have hkp : ButO (fun j => (Value.slice A k c).ownBlock = some j) w4 w6 := ⟨hg6.os, hg6.tape, hg6.output, hg6.size, fun j hj hn => hg6.block j hj fun e => hn e.symm⟩
        have hrg2 := hrg
        obtain ⟨es, clock, since, seen, c0', _, _, _, _, h5, _⟩ := hrg2
        have hne := ownIt_iter HO4.out h5 (fun _ _ e => by cases e)
        refine ⟨⟨ranges_same hrg (hkp.other _ hru4.map.own.lt fun e => hoff _ e (.inl (.inr (.inl rfl)))) (hkp.other _ (by rw [hs4']; exact HT3.out.1.ithi) hne), hru4.butO hkp fun j hj e => hoff j e hj, hpr, hlf, hlt', ?_, fun j e hj => ?_, hit, HT3.out.1.itlo, by have := hg6.size; have := HT3.out.1.ithi; omega⟩, hk4.andThen hkp fun i hi hlt => by have := (World.ownsRow.lt HO4.out i hi).1; omega, ?_⟩
        · rw [List.flatMap_append, List.flatMap_singleton, ← List.append_assoc]; exact ho6
        · cases A6 with
          | none => simp [Value.ownBlock] at e
          | some ad =>
            have hbk : ad.block = j := by simpa [Value.ownBlock] using e
            rcases hb6 ad rfl with h1 | h1
            · exact hoff j (hbk ▸ h1) hj
            · have := hru4.lt j hj; omega
        · rw [hm6, List.flatMap_append, List.flatMap_singleton, ← List.append_assoc, List.length_append, ← HLEN.out]
      clear hkey hlk hv hat hrg4 hg4 hs4 hwf hmr hrow hV hiv hpr hlf hlt' hrg hru4 ho4 hk4 HT3 HLEN hs4'
      go_wp2_with (at_builtin; refine app_its (v := .slice A k c) (ys := r.its) rfl _ _ rfl rfl HO4.out rfl HIV.out HNL.out HL2.out hkk hsz ?_; intro A6 m6 c6 w6 hm6 ho6 hg6 hb6; have HE := Lib.hid (HN.out A6 m6 c6 w6 ho6 hg6 hb6 hm6); clear ho6 hg6 hb6 hm6)
      go_roundg cnt4
      case rel => exact ⟨done ++ [r], todo', left', A6, m6, c6, rfl, Lib.hid HE.out.2.2, Lib.hid ⟨HE.out.1, HE.out.2.1⟩⟩
      case measure => omega
end Go.Proofs.YtbpaepkcchpmbaaGreat
