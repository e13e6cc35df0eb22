import Derived.Test.YtbpaepkcchpmbaaGreatG47
import Derived.Test.YtbpaepkcchpmbaaGreatG46
import Derived.Test.YtbpaepkcchpmbaaGreatProg
import Derived.Shelf.SlSortCmp.WholeK
import Derived.Test.YtbpaepkcchpmbaaGreatG2
import Derived.Test.YtbpaepkcchpmbaaGreatG22
import Derived.Test.YtbpaepkcchpmbaaGreatG25
import Derived.Test.YtbpaepkcchpmbaaGreatG13
import Derived.Lib.RowBridge
import Derived.Shelf.SlSortCmp.NoneTotal
import Derived.Test.YtbpaepkcchpmbaaGreatG32
import Derived.Test.YtbpaepkcchpmbaaGreatG35
namespace Go.Proofs.YtbpaepkcchpmbaaGreat
def sumIts (rows : List RD) : Nat := (rows.map (·.its.length)).sum
structure TieU (u : RuD) (m : Mc) : Prop where
  nd : u.rows.Pairwise fun a b => a.s ≠ b.s
  pl : ∀ r, r ∈ u.rows → RowPl u.qs r (lineM m.least u.late)
  ne : ∀ r, r ∈ u.rows → r.its ≠ []
  sr : ∀ r, r ∈ u.rows → r.its ++ u.wt.filter (sitB r.s) = m.ys.filter (sitB r.s)
  no : ∀ σ, (∀ r, r ∈ u.rows → r.s ≠ σ) → u.wt.filter (sitB σ) = m.ys.filter (sitB σ)
  hi : ∀ x, x ∈ u.wt → lineM m.least u.late ≤ x.t
  srt : Srd u.wt
  sq : Seqs u.wt
  mark : u.mark = m.least
  seq : u.seq = m.seq
  rel : u.rel = (sumIts u.rows : Nat)
theorem cover_perm : ∀ {rows : List RD} {wt ys : List It}, (rows.Pairwise fun a b => a.s ≠ b.s) → (∀ r, r ∈ rows → r.its ++ wt.filter (sitB r.s) = ys.filter (sitB r.s)) → (∀ σ, (∀ r, r ∈ rows → r.s ≠ σ) → wt.filter (sitB σ) = ys.filter (sitB σ)) → ys.Nodup → wt.Nodup → (rows.flatMap (·.its) ++ wt).Perm ys := by
  intro rows wt ys hnd hsr hno hy hw
  have hin : ∀ r, r ∈ rows → ∀ x, x ∈ r.its → x ∈ ys ∧ x.s = r.s ∧ x ∉ wt := fun r hr x hx => by
    have h1 : x ∈ ys.filter (sitB r.s) := by rw [← hsr r hr]; exact List.mem_append_left _ hx
    obtain ⟨h2, h3⟩ := List.mem_filter.1 h1
    refine ⟨h2, sitB_iff.1 h3, fun hxw => ?_⟩
    have hn : (r.its ++ wt.filter (sitB r.s)).Nodup := by rw [hsr r hr]; exact hy.sublist List.filter_sublist
    exact (List.nodup_append.1 hn).2.2 x hx x (List.mem_filter.2 ⟨hxw, h3⟩) rfl
  have hn1 : (rows.flatMap (·.its)).Nodup := by
    rw [List.Nodup, List.pairwise_flatMap]
    refine ⟨fun r hr => ?_, List.Pairwise.imp_of_mem (fun {a b} ha hb hab x hx y hy2 e => hab ?_) hnd⟩
    · have hn : (r.its ++ wt.filter (sitB r.s)).Nodup := by rw [hsr r hr]; exact hy.sublist List.filter_sublist
      exact (List.nodup_append.1 hn).1
    · rw [← (hin a ha x hx).2.1, ← (hin b hb y hy2).2.1, e]
  refine (List.perm_ext_iff_of_nodup (List.nodup_append.2 ⟨hn1, hw, fun x hx y hy2 e => ?_⟩) hy).2 fun x => ?_
  · obtain ⟨r, hr, hxr⟩ := List.mem_flatMap.1 hx
    exact (hin r hr x hxr).2.2 (e ▸ hy2)
  · rw [List.mem_append, List.mem_flatMap]
    constructor
    · rintro (⟨r, hr, hx⟩ | hx)
      · exact (hin r hr x hx).1
      · by_cases c : ∃ r, r ∈ rows ∧ r.s = x.s
        · obtain ⟨r, hr, e⟩ := c
          have : x ∈ r.its ++ wt.filter (sitB r.s) := List.mem_append_right _ (List.mem_filter.2 ⟨hx, sitB_iff.2 e.symm⟩)
          rw [hsr r hr] at this
          exact (List.mem_filter.1 this).1
        · have : x ∈ wt.filter (sitB x.s) := List.mem_filter.2 ⟨hx, sitB_iff.2 rfl⟩
          rw [hno x.s fun r hr e => c ⟨r, hr, e⟩] at this
          exact (List.mem_filter.1 this).1
    · intro hx
      by_cases c : ∃ r, r ∈ rows ∧ r.s = x.s
      · obtain ⟨r, hr, e⟩ := c
        have : x ∈ ys.filter (sitB r.s) := List.mem_filter.2 ⟨hx, sitB_iff.2 e.symm⟩
        rw [← hsr r hr] at this
        rcases List.mem_append.1 this with h | h
        · exact .inl ⟨r, hr, h⟩
        · exact .inr (List.mem_filter.1 h).1
      · have : x ∈ ys.filter (sitB x.s) := List.mem_filter.2 ⟨hx, sitB_iff.2 rfl⟩
        rw [← hno x.s fun r hr e => c ⟨r, hr, e⟩] at this
        exact .inr (List.mem_filter.1 this).1
theorem sumIts_flat (rows : List RD) : (rows.flatMap (·.its)).length = sumIts rows := by
  unfold sumIts
  rw [List.length_flatMap]
theorem TieU.perm {u : RuD} {m : Mc} (h : TieU u m) (hm : McOk m) : (u.rows.flatMap (·.its) ++ u.wt).Perm m.ys := cover_perm h.nd h.sr h.no hm.seqs.nodup h.sq.nodup
theorem TieU.len {u : RuD} {m : Mc} (h : TieU u m) (hm : McOk m) : u.rel + (u.wt.length : Nat) = (m.ys.length : Nat) := by
  have := (h.perm hm).length_eq
  rw [List.length_append, sumIts_flat] at this
  rw [h.rel]
  omega
theorem TieU.feed {u : RuD} {m : Mc} {xs : List It} {f l : Int} (h : TieU u m) (hm : McOk m) (h0 : 0 < u.qs.length) (hok : feedC f l u.late m xs = 0) (hr : risB m.seq xs = true) (hl : lateX (lineM m.least u.late) xs = false) {gs : List Nat} : TieU (u.fed (lastQ m.seq xs) gs (insAll u.wt xs)) (feedM f l u.late m xs) := by
  have e : feedM f l u.late m xs = ⟨rowL (m.ys ++ xs), m.least, lastQ m.seq xs⟩ := by unfold feedM; rw [if_pos hok]
  obtain ⟨r1, r2, r3⟩ := ris_all hr
  have hsq : Seqs (m.ys ++ xs) := List.pairwise_append.2 ⟨hm.seqs, r2, fun a ha b hb => by have := hm.top a ha; have := (r1 b hb).2.1; omega⟩
  have hlate : ∀ x, x ∈ xs → lineM m.least u.late ≤ x.t := fun x hx => by
    have := List.any_eq_false.1 hl x hx
    simp only [decide_eq_true_eq] at this
    omega
  have hwy : ∀ x, x ∈ u.wt → x ∈ m.ys := fun x hx => (h.perm hm).mem_iff.1 (List.mem_append_right _ hx)
  have hp := insAll_perm u.wt xs
  have hins : ∀ (s : Int) (its : List It), its ++ u.wt.filter (sitB s) = m.ys.filter (sitB s) → (∀ x, x ∈ its → x.t ≤ lineM m.least u.late) → its ++ (insAll u.wt xs).filter (sitB s) = (rowL (m.ys ++ xs)).filter (sitB s) := fun s its e1 h1 => by
    have hperm : (its ++ (insAll u.wt xs).filter (sitB s)).Perm ((m.ys ++ xs).filter (sitB s)) := by
      have p1 : ((insAll u.wt xs).filter (sitB s)).Perm (xs.filter (sitB s) ++ u.wt.filter (sitB s)) := by rw [← List.filter_append]; exact hp.filter _
      have p2 : (its ++ (xs.filter (sitB s) ++ u.wt.filter (sitB s))).Perm ((its ++ u.wt.filter (sitB s)) ++ xs.filter (sitB s)) := by
        rw [List.append_assoc]
        exact List.Perm.append_left _ List.perm_append_comm
      rw [List.filter_append, ← e1]
      exact (List.Perm.append_left _ p1).trans p2
    have hs0 : Seqs ((m.ys ++ xs).filter (sitB s)) := List.Pairwise.filter _ hsq
    rw [← rowL_filter hsq, ← rowL_perm (hs0.perm hperm.symm) hperm]
    refine (rowL_id ?_ (hs0.perm hperm.symm)).symm
    have hsrdy : SrdB lt2 (its ++ u.wt.filter (sitB s)) := by rw [e1]; exact List.Pairwise.filter _ hm.srd
    refine srd_append (List.pairwise_append.1 hsrdy).1 ?_ fun a ha b hb => ?_
    · have h4 : Srd ((insAll u.wt xs).filter (sitB s)) := List.Pairwise.filter _ (insAll_srd h.srt xs)
      exact List.Pairwise.imp (fun {a b} hab => by rw [lt4_no] at hab; rw [lt2_no]; omega) h4
    · have hb2 := (List.mem_filter.1 hb).1
      rcases List.mem_append.1 (hp.mem_iff.1 hb2) with hbx | hbw
      · have h5 := h1 a ha
        have h6 := hlate b hbx
        have h7 : a ∈ m.ys := by
          have : a ∈ m.ys.filter (sitB s) := by rw [← e1]; exact List.mem_append_left _ ha
          exact (List.mem_filter.1 this).1
        have h8 := hm.top a h7
        have h9 := (r1 b hbx).2.1
        rw [lt2_no]; omega
      · exact (List.pairwise_append.1 hsrdy).2.2 a ha b (List.mem_filter.2 ⟨hbw, (List.mem_filter.1 hb).2⟩)
  rw [e]
  refine ⟨h.nd, h.pl, h.ne, fun r hr2 => hins r.s r.its (h.sr r hr2) fun x hx => ?_, fun σ hσ => ?_, fun x hx => ?_, insAll_srd h.srt xs, ?_, h.mark, rfl, h.rel⟩
  · obtain ⟨G, hG⟩ := (h.pl r hr2).suf
    have hq := (h.pl r hr2).len
    by_cases c : r.xs = []
    · exfalso
      rw [c] at hq
      have : (0 : Nat) = u.qs.length := hq
      omega
    · obtain ⟨l, hl2⟩ := List.exists_mem_of_ne_nil _ c
      obtain ⟨i, hi⟩ := List.getElem?_of_mem hl2
      obtain ⟨q, e1, e2, e3, e4, e5, e6, e7, e8⟩ := (h.pl r hr2).ln i l hi
      exact e7.top x (by rw [← hG]; exact List.mem_append_right _ hx)
  · have := hins σ [] (h.no σ hσ) (fun x hx => by cases hx)
    exact this
  · rcases List.mem_append.1 (hp.mem_iff.1 hx) with hx | hx
    · exact hlate x hx
    · exact h.hi x hx
  · refine Seqs.perm ?_ hp.symm
    exact List.pairwise_append.2 ⟨r2, h.sq, fun a ha b hb => by have := hm.top b (hwy b hb); have := (r1 a ha).2.1; omega⟩
end Go.Proofs.YtbpaepkcchpmbaaGreat
namespace Go.Proofs.YtbpaepkcchpmbaaGreat
structure LpI (qs : List Rq) (ys : List It) (late m1 line l0 : Int) (L : Int → Int) (G : List Int) (done todo : List RD) (wt : List It) (vals : List Rv) : Prop where
  ndT : todo.Pairwise fun a b => a.s ≠ b.s
  ndD : done.Pairwise fun a b => a.s ≠ b.s
  tG : ∀ r, r ∈ todo → r.s ∉ G
  dG : ∀ r, r ∈ done → r.s ∈ G
  pl : ∀ r, r ∈ todo → RowPl qs r (L r.s)
  rr : ∀ r, r ∈ todo → r.R = r.its
  ne : ∀ r, r ∈ todo → r.its ≠ []
  sr : ∀ r, r ∈ todo → r.its ++ wt.filter (sitB r.s) = ys.filter (sitB r.s)
  fin : ∀ r, r ∈ done → RowPl qs r line ∧ r.its ≠ [] ∧ r.its ++ wt.filter (sitB r.s) = (heldL (qsW qs) late m1 ys).filter (sitB r.s)
  gone : ∀ σ, σ ∈ G → (∀ r, r ∈ done → r.s ≠ σ) → wt.filter (sitB σ) = (heldL (qsW qs) late m1 ys).filter (sitB σ)
  lG : ∀ σ, σ ∈ G → L σ = line
  no : ∀ σ, σ ∉ G → (∀ r, r ∈ todo → r.s ≠ σ) → wt.filter (sitB σ) = ys.filter (sitB σ) ∧ L σ = l0
  lo : ∀ σ, l0 ≤ L σ
  le : ∀ σ, L σ ≤ line
  hi : ∀ x, x ∈ wt → line ≤ x.t
  srt : Srd wt
  sq : Seqs wt
  val : ∀ v, v ∈ vals ↔ ToldV qs ys l0 L v
  key : vals.Pairwise keyNe
section
variable {qs : List Rq} {ys wt : List It} {late m1 line l0 : Int} {L : Int → Int} {G : List Int} {done todo : List RD} {vals : List Rv} {r : RD}
theorem LpI.start (h : TelI qs ys l0 L done wt vals) (hle : ∀ σ, L σ ≤ line) (hi : ∀ x, x ∈ wt → line ≤ x.t) : LpI qs ys late m1 line l0 L [] [] done wt vals :=
  ⟨h.nd, List.Pairwise.nil, fun _ _ h => (by cases h), fun _ h => (by cases h), h.pl, h.rr, h.ne, h.sr, fun _ h => (by cases h), fun _ h => (by cases h), fun _ h => (by cases h), fun σ _ hσ => h.no σ hσ, h.lo, hle, hi, h.srt, h.seq, h.val, h.key⟩
theorem LpI.many (h : LpI qs ys late m1 line l0 L G done todo wt vals) (hmay : MayQs qs) (hy : YsOk ys) (hl : qs.length ≤ 64) : vals.length ≤ 33554432 := by
  -- as TelI's, by what is told alone
  have hn : vals.Nodup := List.Pairwise.imp (fun {a b} hab e => hab (by rw [e]; exact ⟨rfl, rfl, rfl⟩)) h.key
  have hsub : ∀ v, v ∈ vals → v ∈ (List.range qs.length).flatMap fun i : Nat => (qs[i]?.toList.flatMap fun q : Rq => (winsQ i (qw q.q) ys).map fun p => valW q.q p.s p) := fun v hv => by
    obtain ⟨i, q, p, h1, h2, _, _, rfl⟩ := (h.val v).1 hv
    refine List.mem_flatMap.2 ⟨i, List.mem_range.2 (List.getElem?_eq_some_iff.1 h1).1, ?_⟩
    rw [h1]
    exact List.mem_flatMap.2 ⟨q, by simp, List.mem_map.2 ⟨p, h2, rfl⟩⟩
  refine Nat.le_trans (nodup_len hn hsub) ?_
  have key : ∀ (is : List Nat), (is.flatMap fun i : Nat => (qs[i]?.toList.flatMap fun q : Rq => (winsQ i (qw q.q) ys).map fun p => valW q.q p.s p)).length ≤ is.length * 524288 := by
    intro is
    induction is with
    | nil => simp
    | cons i is ih =>
      rw [List.flatMap_cons, List.length_append, List.length_cons]
      have : (qs[i]?.toList.flatMap fun q : Rq => (winsQ i (qw q.q) ys).map fun p => valW q.q p.s p).length ≤ 524288 := by
        cases hq : qs[i]? with
        | none => simp
        | some q =>
          simp only [Option.toList_some, List.flatMap_cons, List.flatMap_nil, List.append_nil, List.length_map]
          have h1 := winsQ_len (hmay.at_ hq) i ys
          have h2 := hy.len
          omega
      omega
  have := key (List.range qs.length)
  rw [List.length_range] at this
  omega
theorem LpI.perm {todo' : List RD} (h : LpI qs ys late m1 line l0 L G done todo wt vals) (hp : todo.Perm todo') : LpI qs ys late m1 line l0 L G done todo' wt vals :=
  ⟨(hp.pairwise_iff (fun {_ _} hab => Ne.symm hab)).1 h.ndT, h.ndD, fun r hr => h.tG r (hp.mem_iff.2 hr), h.dG, fun r hr => h.pl r (hp.mem_iff.2 hr), fun r hr => h.rr r (hp.mem_iff.2 hr), fun r hr => h.ne r (hp.mem_iff.2 hr), fun r hr => h.sr r (hp.mem_iff.2 hr), h.fin, h.gone, h.lG,
    fun σ hσ hn => h.no σ hσ fun r hr => hn r (hp.mem_iff.1 hr), h.lo, h.le, h.hi, h.srt, h.sq, h.val, h.key⟩
def keptR (r : RD) (xs1 : List LX) (V : Value) : RD := { r with xs := xs1, V := V, its := r.its.drop (r.its.length - mostTo xs1 xs1.length) }
theorem LpI.step (hmay : MayQs qs) (h0 : 0 < qs.length) (hy : YsOk ys) (hln : ∀ b, -1099511627776 < b → (line < b ↔ ¬ b ≤ m1 - late)) (h : LpI qs ys late m1 line l0 L G done (r :: todo) wt vals) {xs1 : List LX} {V : Value} (hp1 : RowPl qs { r with xs := xs1 } line) :
    LpI qs ys late m1 line l0 (updL L r.s line) (r.s :: G) (if (keptR r xs1 V).its = [] then done else keptR r xs1 V :: done) todo wt (vals ++ (r.xs.map LX.dat).flatMap (tellRv line)) := by
  have hr : r ∈ r :: todo := List.mem_cons_self
  have hself : updL L r.s line r.s = line := by unfold updL; rw [if_pos rfl]
  have hoth : ∀ σ, σ ≠ r.s → updL L r.s line σ = L σ := fun σ hσ => by unfold updL; rw [if_neg hσ]
  have hnd := List.pairwise_cons.1 h.ndT
  have hWl : ∀ x, x ∈ wt.filter (sitB r.s) → line ≤ x.t := fun x hx => h.hi x (List.mem_filter.1 hx).1
  have hst := told_step (l' := line) (vals := vals) (l0 := l0) hmay hy (h.pl r hr) (by rw [h.rr r hr]; exact h.sr r hr) (h.le _) hWl (h.lo _) h.val h.key
  have hk : (keptR r xs1 V).its ++ wt.filter (sitB r.s) = (heldL (qsW qs) late m1 ys).filter (sitB r.s) :=
    settle_part (r := { r with xs := xs1 }) hmay h0 hy hln hp1 (h.rr r hr) (h.sr r hr) hWl
  have hkp : RowPl qs (keptR r xs1 V) line := hp1.settled (V := V)
  have hmemD : ∀ q, q ∈ (if (keptR r xs1 V).its = [] then done else keptR r xs1 V :: done) → q ∈ done ∨ (q = keptR r xs1 V ∧ (keptR r xs1 V).its ≠ []) := fun q hq => by
    by_cases c : (keptR r xs1 V).its = []
    · rw [if_pos c] at hq; exact .inl hq
    · rw [if_neg c] at hq
      rcases List.mem_cons.1 hq with rfl | hq
      · exact .inr ⟨rfl, c⟩
      · exact .inl hq
  have hDmem : ∀ q, q ∈ done → q ∈ (if (keptR r xs1 V).its = [] then done else keptR r xs1 V :: done) := fun q hq => by
    by_cases c : (keptR r xs1 V).its = []
    · rw [if_pos c]; exact hq
    · rw [if_neg c]; exact List.mem_cons_of_mem _ hq
  refine ⟨hnd.2, ?_, fun q hq hm => ?_, fun q hq => ?_, fun q hq => ?_, fun q hq => h.rr q (List.mem_cons_of_mem _ hq), fun q hq => h.ne q (List.mem_cons_of_mem _ hq), fun q hq => h.sr q (List.mem_cons_of_mem _ hq), fun q hq => ?_, fun σ hσ hn => ?_, fun σ hσ => ?_, fun σ hσ hn => ?_, fun σ => ?_, fun σ => ?_, h.hi, h.srt, h.sq, hst.1, hst.2⟩
  · by_cases c : (keptR r xs1 V).its = []
    · rw [if_pos c]; exact h.ndD
    · rw [if_neg c]
      exact List.pairwise_cons.2 ⟨fun q hq e => h.tG r hr (by have := h.dG q hq; rw [← e] at this; exact this), h.ndD⟩
  · rcases List.mem_cons.1 hm with e | hm
    · exact hnd.1 q hq e.symm
    · exact h.tG q (List.mem_cons_of_mem _ hq) hm
  · rcases hmemD q hq with hq | ⟨rfl, _⟩
    · exact List.mem_cons_of_mem _ (h.dG q hq)
    · exact List.mem_cons_self
  · rw [hoth q.s fun e => hnd.1 q hq e.symm]
    exact h.pl q (List.mem_cons_of_mem _ hq)
  · rcases hmemD q hq with hq | ⟨rfl, hne⟩
    · exact h.fin q hq
    · exact ⟨hkp, hne, hk⟩
  · by_cases c : σ = r.s
    · subst c
      by_cases c2 : (keptR r xs1 V).its = []
      · rw [c2] at hk; exact hk
      · exact absurd rfl (hn (keptR r xs1 V) (by rw [if_neg c2]; exact List.mem_cons_self))
    · rcases List.mem_cons.1 hσ with e | hσ
      · exact absurd e c
      · exact h.gone σ hσ fun q hq => hn q (hDmem q hq)
  · rcases List.mem_cons.1 hσ with rfl | hσ
    · exact hself
    · by_cases c : σ = r.s
      · rw [c]; exact hself
      · rw [hoth σ c]; exact h.lG σ hσ
  · have c : σ ≠ r.s := fun e => hσ (e ▸ List.mem_cons_self)
    rw [hoth σ c]
    exact h.no σ (fun hm => hσ (List.mem_cons_of_mem _ hm)) fun q hq => by
      rcases List.mem_cons.1 hq with rfl | hq
      · exact fun e => c e.symm
      · exact hn q hq
  · by_cases c : σ = r.s
    · rw [c, hself]; have := h.lo r.s; have := h.le r.s; omega
    · rw [hoth σ c]; exact h.lo σ
  · by_cases c : σ = r.s
    · rw [c, hself]; exact Int.le_refl _
    · rw [hoth σ c]; exact h.le σ
def valP (qs : List Rq) (p : Wn) : Rv := valW (qs.getD p.k.toNat ⟨⟨0, 0, 0, 0, [], 0⟩, none, 0, 0⟩).q p.s p
def ltV (a b : Rv) : Bool := decide (a.b < b.b ∨ a.b = b.b ∧ (a.k < b.k ∨ a.k = b.k ∧ (a.s < b.s ∨ a.s = b.s ∧ a.a < b.a)))
theorem LpI.told (hmay : MayQs qs) (h0 : 0 < qs.length) (hy : YsOk ys) {m0 : Int} (hln : ∀ b, -1099511627776 < b → (line < b ↔ ¬ b ≤ m1 - late)) (hl0 : ∀ b, -1099511627776 < b → (l0 < b ↔ ¬ b ≤ m0 - late)) (h : LpI qs ys late m1 line l0 L G done [] wt vals) {vs : List Rv} (hv : vs.Perm vals) (hs : SrdB ltV vs) :
    vs = (toldL (qsW qs) late m0 m1 ys).map (valP qs) := by
  have hf := hmay.fit h0
  have hlo : ∀ p, p ∈ winsA (qsW qs) ys → -1099511627776 < p.b ∧ ∃ x, x ∈ p.xs ∧ x ∈ ys ∧ x.s = p.s ∧ x.t < p.b := fun p hp => by
    have hm := first_mem (winsA_ne hf hy.times hp)
    have h1 := winsA_time hf hy.times hp hm
    obtain ⟨i, q, e1, e2⟩ := winsA_qs.1 hp
    obtain ⟨h2, h3⟩ := winsQ_sub (qw_ok (hmay.at_ e1)) hy.times e2 hm
    have h4 := item_lo (hy.may _ h2)
    exact ⟨by omega, _, hm, h2, h3, h1.2⟩
  have hval : ∀ (i : Nat) (q : Rq) (p : Wn), qs[i]? = some q → p ∈ winsQ i (qw q.q) ys → valP qs p = valW q.q p.s p := fun i q p e1 e2 => by
    have := winsQ_k (qw_ok (hmay.at_ e1)) hy.times e2
    unfold valP
    rw [this, Int.toNat_natCast, List.getD_eq_getElem?_getD, e1]; rfl
  have hmem : ∀ v, v ∈ vs ↔ ∃ p, p ∈ toldL (qsW qs) late m0 m1 ys ∧ valP qs p = v := fun v => by
    rw [hv.mem_iff, h.val]
    constructor
    · rintro ⟨i, q, p, e1, e2, e3, e4, rfl⟩
      have hpA : p ∈ winsA (qsW qs) ys := winsA_qs.2 ⟨i, q, e1, e2⟩
      obtain ⟨b1, _⟩ := hlo p hpA
      have h1 := h.le p.s
      refine ⟨p, toldL_mem.2 ⟨hpA, ?_, ?_⟩, hval i q p e1 e2⟩
      · unfold outM
        rw [decide_eq_true_eq]
        have := (hln p.b b1)
        refine Classical.byContradiction fun hc => ?_
        have := this.2 hc
        omega
      · unfold outM
        rw [decide_eq_false_iff_not]
        exact (hl0 p.b b1).1 e3
    · rintro ⟨p, hp, rfl⟩
      obtain ⟨hpA, h1, h2⟩ := toldL_mem.1 hp
      obtain ⟨b1, x, x1, x2, x3, x4⟩ := hlo p hpA
      obtain ⟨i, q, e1, e2⟩ := winsA_qs.1 hpA
      unfold outM at h1 h2
      rw [decide_eq_true_eq] at h1
      rw [decide_eq_false_iff_not] at h2
      have hb : p.b ≤ line := by
        refine Classical.byContradiction fun hc => ?_
        exact (hln p.b b1).1 (by omega) h1
      refine ⟨i, q, p, e1, e2, (hl0 p.b b1).2 h2, ?_, hval i q p e1 e2⟩
      by_cases c : p.s ∈ G
      · rw [h.lG _ c]; exact hb
      · exfalso
        have := (h.no p.s c fun r hr => (by cases hr)).1
        have hx : x ∈ wt.filter (sitB p.s) := by rw [this]; exact List.mem_filter.2 ⟨x2, sitB_iff.2 x3⟩
        have := h.hi x (List.mem_filter.1 hx).1
        omega
  have hkeyT : ∀ p, p ∈ toldL (qsW qs) late m0 m1 ys → (valP qs p).b = p.b ∧ (valP qs p).k = p.k ∧ (valP qs p).s = p.s ∧ (valP qs p).a = p.a := fun p _ => ⟨rfl, rfl, rfl, rfl⟩
  have hn1 : vs.Nodup := hv.nodup_iff.2 (List.Pairwise.imp (fun {a b} hab e => hab (by rw [e]; exact ⟨rfl, rfl, rfl⟩)) h.key)
  have hinj : ∀ p, p ∈ toldL (qsW qs) late m0 m1 ys → ∀ r, r ∈ toldL (qsW qs) late m0 m1 ys → valP qs p = valP qs r → p = r := fun p hp r hr e => by
    obtain ⟨a1, a2, a3, a4⟩ := hkeyT p hp
    obtain ⟨c1, c2, c3, c4⟩ := hkeyT r hr
    refine winsA_one hf.ok hy.times (toldL_mem.1 hp).1 (toldL_mem.1 hr).1 ?_ ?_
    · rw [ahW_no, ← a1, ← a2, ← a3, ← a4, ← c1, ← c2, ← c3, ← c4, e]; omega
    · rw [ahW_no, ← a1, ← a2, ← a3, ← a4, ← c1, ← c2, ← c3, ← c4, e]; omega
  have hn2 : ((toldL (qsW qs) late m0 m1 ys).map (valP qs)).Nodup := by
    refine List.pairwise_map.2 (List.Pairwise.imp_of_mem (fun {a b} ha hb hab e => hab (hinj a ha b hb e)) (toldL_nodup hf.ok hy.times))
  refine srd_mem_eq (lt := ltV) hs ?_ hn1 hn2 (fun v => by rw [hmem, List.mem_map]) fun a ha b hb h1 h2 => ?_
  · refine List.pairwise_map.2 (List.Pairwise.imp (fun {a b} hab => ?_) (toldL_srd (qsW qs) late m0 m1 ys))
    exact hab
  · obtain ⟨p, hp, rfl⟩ := (hmem a).1 ha
    obtain ⟨r, hr, rfl⟩ := (hmem b).1 hb
    congr 1
    exact winsA_one hf.ok hy.times (toldL_mem.1 hp).1 (toldL_mem.1 hr).1 h1 h2
theorem LpI.tie {u : RuD} {seq : Int} (hqs : u.qs = qs) (hlate : u.late = late) (hline : line = lineM m1 late) (h : LpI qs ys late m1 line l0 L G done [] wt vals) (hrows : u.rows.Perm done) (hwt : u.wt = wt) (hmark : u.mark = m1) (hseq : u.seq = seq) (hrel : u.rel = (sumIts u.rows : Nat))
    (hy : YsOk ys) (hmay : MayQs qs) (h0 : 0 < qs.length) (hln : ∀ b, -1099511627776 < b → (line < b ↔ ¬ b ≤ m1 - late)) : TieU u ⟨heldL (qsW qs) late m1 ys, m1, seq⟩ := by
  subst hqs hlate hwt
  refine ⟨(hrows.pairwise_iff (fun {_ _} hab => Ne.symm hab)).2 h.ndD, fun r hr => ?_, fun r hr => (h.fin r (hrows.mem_iff.1 hr)).2.1, fun r hr => (h.fin r (hrows.mem_iff.1 hr)).2.2, fun σ hσ => ?_, fun x hx => ?_, h.srt, h.sq, hmark, hseq, hrel⟩
  · show RowPl u.qs r (lineM m1 u.late)
    rw [← hline]; exact (h.fin r (hrows.mem_iff.1 hr)).1
  · by_cases c : σ ∈ G
    · exact h.gone σ c fun r hr => hσ r (hrows.mem_iff.2 hr)
    · have e := (h.no σ c fun r hr => (by cases hr)).1
      rw [e]
      -- all of it waits, and is held
      have hf := hmay.fit h0
      show ys.filter (sitB σ) = (heldL (qsW u.qs) u.late m1 ys).filter (sitB σ)
      unfold heldL
      rw [List.filter_filter]
      refine List.filter_congr fun x hx => ?_
      by_cases cs : sitB σ x = true
      · rw [cs, Bool.true_and]
        have hxw : x ∈ u.wt.filter (sitB σ) := by rw [e]; exact List.mem_filter.2 ⟨hx, cs⟩
        have hxt := h.hi x (List.mem_filter.1 hxw).1
        obtain ⟨p, hp1, hp2⟩ := winsA_cover hf hy.times hx
        have ht := winsA_time hf hy.times hp1 hp2
        have h4 := item_lo (hy.may x hx)
        refine ((heldB_iff hf.ok hy.times hy.seqs hx).2 ⟨p, hp1, ?_, hp2⟩).symm
        unfold outM
        rw [decide_eq_false_iff_not]
        exact (hln p.b (by omega)).1 (by omega)
      · rw [Bool.eq_false_iff.2 cs, Bool.false_and]
  · show lineM m1 u.late ≤ x.t
    rw [← hline]; exact h.hi x hx
end
theorem line_iff {m late : Int} : ∀ b : Int, -1099511627776 < b → (lineM m late < b ↔ ¬ b ≤ m - late) := fun b hb => by
  unfold lineM
  omega
end Go.Proofs.YtbpaepkcchpmbaaGreat
namespace Go.Proofs.YtbpaepkcchpmbaaGreat
open Go.Shelf Go.RowKit
def sortIRen : Ren := ⟨fun n => match n with
  | 6 => 90 | 14 => 124 | 15 => 115 | 20 => 161 | 21 => 162 | 22 => 163 | 23 => 164 | 24 => 165 | 25 => 166 | 26 => 167 | 27 => 168 | 28 => 154 | 29 => 155 | 46 => 200 | 47 => 196 | 48 => 197 | 49 => 201 | 50 => 202 | 57 => 224 | _ => 0, fun n => match n with
  | 3 => 3 | 4 => 4 | 5 => 5 | 9 => 9 | 22 => 38 | 24 => 61 | 25 => 147 | 39 => 63 | 45 => 209 | 46 => 210 | 50 => 151 | 53 => 216 | 55 => 218 | 66 => 248 | 70 => 252 | 76 => 279 | 77 => 162 | _ => 0, fun _ => 0⟩
theorem sortILays : SlLaysF0.n6 Tryz.prog sortIRen where
  mixed := by kernel_rfl
  f6 := ⟨ "slices.SortFunc[[]bourne/api.Item,bourne/api.Item]", by decide, Tryz.func90.trans (congrArg some (by kernel_rfl))⟩
  f14 := ⟨ "slices.pdqsortCmpFunc[bourne/api.Item]", by decide, Tryz.func124.trans (congrArg some (by kernel_rfl))⟩
  f15 := Tryz.func115.trans (congrArg some (by kernel_rfl))
  f20 := ⟨ "slices.insertionSortCmpFunc[bourne/api.Item]", by decide, Tryz.func161.trans (congrArg some (by kernel_rfl))⟩
  f21 := ⟨ "slices.heapSortCmpFunc[bourne/api.Item]", by decide, Tryz.func162.trans (congrArg some (by kernel_rfl))⟩
  f22 := ⟨ "slices.breakPatternsCmpFunc[bourne/api.Item]", by decide, Tryz.func163.trans (congrArg some (by kernel_rfl))⟩
  f23 := ⟨ "slices.choosePivotCmpFunc[bourne/api.Item]", by decide, Tryz.func164.trans (congrArg some (by kernel_rfl))⟩
  f24 := ⟨ "slices.reverseRangeCmpFunc[bourne/api.Item]", by decide, Tryz.func165.trans (congrArg some (by kernel_rfl))⟩
  f25 := ⟨ "slices.partialInsertionSortCmpFunc[bourne/api.Item]", by decide, Tryz.func166.trans (congrArg some (by kernel_rfl))⟩
  f26 := ⟨ "slices.partitionEqualCmpFunc[bourne/api.Item]", by decide, Tryz.func167.trans (congrArg some (by kernel_rfl))⟩
  f27 := ⟨ "slices.partitionCmpFunc[bourne/api.Item]", by decide, Tryz.func168.trans (congrArg some (by kernel_rfl))⟩
  f28 := Tryz.func154.trans (congrArg some (by kernel_rfl))
  f29 := Tryz.func155.trans (congrArg some (by kernel_rfl))
  f46 := ⟨ "slices.siftDownCmpFunc[bourne/api.Item]", by decide, Tryz.func200.trans (congrArg some (by kernel_rfl))⟩
  f47 := Tryz.func196.trans (congrArg some (by kernel_rfl))
  f48 := Tryz.func197.trans (congrArg some (by kernel_rfl))
  f49 := ⟨ "slices.medianAdjacentCmpFunc[bourne/api.Item]", by decide, Tryz.func201.trans (congrArg some (by kernel_rfl))⟩
  f50 := ⟨ "slices.medianCmpFunc[bourne/api.Item]", by decide, Tryz.func202.trans (congrArg some (by kernel_rfl))⟩
  f57 := ⟨ "slices.order2CmpFunc[bourne/api.Item]", by decide, Tryz.func224.trans (congrArg some (by kernel_rfl))⟩
  t0 := Tryz.underlying0
  a0 := Tryz.isAgg0
  z0 := Tryz.sizeOf0
  v0 := Tryz.zeroValue0
  t3 := Tryz.underlying3
  a3 := Tryz.isAgg3
  z3 := Tryz.sizeOf3
  v3 := Tryz.zeroValue3
  t4 := Tryz.underlying4
  a4 := Tryz.isAgg4
  z4 := Tryz.sizeOf4
  v4 := Tryz.zeroValue4
  t5 := Tryz.underlying5
  a5 := Tryz.isAgg5
  z5 := Tryz.sizeOf5
  v5 := Tryz.zeroValue5
  t9 := Tryz.underlying9
  a9 := Tryz.isAgg9
  z9 := Tryz.sizeOf9
  v9 := Tryz.zeroValue9
  t22 := Tryz.underlying38
  a22 := Tryz.isAgg38
  z22 := Tryz.sizeOf38
  v22 := Tryz.zeroValue38
  t25 := Tryz.underlying147
  a25 := Tryz.isAgg147
  z25 := Tryz.sizeOf147
  v25 := Tryz.zeroValue147
  t39 := Tryz.underlying63
  a39 := Tryz.isAgg63
  z39 := Tryz.sizeOf63
  v39 := Tryz.zeroValue63
  t45 := Tryz.underlying209
  a45 := Tryz.isAgg209
  z45 := Tryz.sizeOf209
  v45 := Tryz.zeroValue209
  t46 := Tryz.underlying210
  a46 := Tryz.isAgg210
  z46 := Tryz.sizeOf210
  v46 := Tryz.zeroValue210
  t50 := Tryz.underlying151
  a50 := Tryz.isAgg151
  z50 := Tryz.sizeOf151
  v50 := Tryz.zeroValue151
  t53 := Tryz.underlying216
  a53 := Tryz.isAgg216
  z53 := Tryz.sizeOf216
  v53 := Tryz.zeroValue216
  t55 := Tryz.underlying218
  a55 := Tryz.isAgg218
  z55 := Tryz.sizeOf218
  v55 := Tryz.zeroValue218
  t66 := Tryz.underlying248
  a66 := Tryz.isAgg248
  z66 := Tryz.sizeOf248
  v66 := Tryz.zeroValue248
  t70 := Tryz.underlying252
  a70 := Tryz.isAgg252
  z70 := Tryz.sizeOf252
  v70 := Tryz.zeroValue252
  t76 := Tryz.underlying279
  a76 := Tryz.isAgg279
  z76 := Tryz.sizeOf279
  v76 := Tryz.zeroValue279
  t77 := Tryz.underlying162
  a77 := Tryz.isAgg162
  z77 := Tryz.sizeOf162
  v77 := Tryz.zeroValue162
end Go.Proofs.YtbpaepkcchpmbaaGreat
namespace Go.Proofs.YtbpaepkcchpmbaaGreat
open Go.RowKit
def Grw (w w' : World) : Prop := ∃ (q : Nat) (os : Array Obj), w' = Go.Sort.grow (w.drewN q) os
theorem Grw.refl (w : World) : Grw w w := ⟨0, #[], by simp [Go.Sort.grow, World.drewN]⟩
theorem Grw.drew {w w' : World} (h : Grw w w') : Grw w w'.drew := by
  obtain ⟨q, os, rfl⟩ := h
  exact ⟨q + 1, os, rfl⟩
theorem Grw.alloc {w w' : World} (h : Grw w w') (o : Obj) : Grw w (w'.alloc o) := by
  obtain ⟨q, os, rfl⟩ := h
  exact ⟨q, os.push o, by simp [Go.Sort.grow, World.alloc, World.drewN]⟩
set_option maxRecDepth 100000 in
set_option maxHeartbeats 400000 in
theorem compare_grw (x y : It) (w : World) :
    Calls Tryz.prog 91 #[.agg #[.int .i64 x.s, .int .i64 x.t, .int .i64 x.q, .int .i64 x.v], .agg #[.int .i64 y.s, .int .i64 y.t, .int .i64 y.q, .int .i64 y.v]] w
      fun e w' => e = .returned (.int .i64 (cmpT x y)) ∧ Grw w w' := by
  go_enter Tryz.func91, Tryz.ntmps91
  go_wp2
  go_region_held3 (fun w' => w'.cell? ⟨w.heap.size, 1, none⟩ = some (.int .i64 x.t) ∧ w'.cell? ⟨w.heap.size, 2, none⟩ = some (.int .i64 x.q) ∧ w'.cell? ⟨w.heap.size + 1, 1, none⟩ = some (.int .i64 y.t) ∧ w'.cell? ⟨w.heap.size + 1, 2, none⟩ = some (.int .i64 y.q)) (simp [go_sem, World.cell?_alloc_past])
    (first
      | (go_at_call 117; refine (cmp_any _ _ _).mono ?_; rintro e w' ⟨rfl, rfl⟩)
      | (go_at_call 116; refine (or_any (cmpI x.t y.t) (cmpI x.q y.q) _ _ (by simp [go_sem]) (by simp [go_sem])).mono ?_; rintro e w' ⟨rfl, rfl⟩))
  go_wp2
  go_ret
  exact ⟨by rw [cmpT_or]; rfl, by repeat (first | exact Grw.refl _ | refine Grw.drew ?_ | refine Grw.alloc ?_ _)⟩
end Go.Proofs.YtbpaepkcchpmbaaGreat
namespace Go.Proofs.YtbpaepkcchpmbaaGreat
open Go.RowKit Go.Sort
theorem flatK_eq {α : Type} [Inhabited α] (enc : α → List Value) (k : Nat) (hk : ∀ x, (enc x).length = k) (ys : List α) : (flatK enc k ys.toArray).toList = ys.flatMap enc := by
  have hl : (ys.flatMap enc).length = ys.length * k := by
    induction ys with
    | nil => simp
    | cons y r ih => rw [List.flatMap_cons, List.length_append, hk, ih, List.length_cons]; rw [Nat.add_mul, Nat.one_mul, Nat.add_comm]
  refine List.ext_getElem (by simp [hl]) fun t h1 h2 => ?_
  have ht : t < ys.length * k := by rw [hl] at h2; exact h2
  have e1 : (flatK enc k ys.toArray).toList[t] = (flatK enc k ys.toArray)[t]! := by
    rw [getElem!_pos _ t (by simpa using ht)]
    simp
  rw [e1, get_flatK _ _ _ _ (by simpa using ht)]
  clear e1 h1 hl
  induction ys generalizing t with
  | nil => simp at ht
  | cons y r ih =>
    have k0 : 0 < k := by
      rcases Nat.eq_zero_or_pos k with h | h
      · subst h; simp at ht
      · exact h
    rw [List.length_cons] at ht
    by_cases hc : t < k
    · rw [Nat.div_eq_of_lt hc, Nat.mod_eq_of_lt hc]
      have h3 : t < (enc y).length := by rw [hk]; exact hc
      rw [getElem!_pos _ t (by simpa using h3)]
      simp only [List.flatMap_cons]
      rw [List.getElem_append_left h3]
      simp
    · obtain ⟨u, rfl⟩ : ∃ u, t = k + u := ⟨t - k, by omega⟩
      have hu : u < r.length * k := by rw [Nat.add_mul] at ht; omega
      have h2' : u < (r.flatMap enc).length := by
        rw [List.flatMap_cons, List.length_append, hk] at h2
        omega
      have := ih u h2' hu
      rw [Nat.add_div_left _ k0, Nat.add_mod_left]
      have e : (y :: r).toArray[u / k + 1]! = r.toArray[u / k]! := by simp
      rw [e, this]
      simp only [List.flatMap_cons]
      rw [List.getElem_append_right (by rw [hk]; omega)]
      simp only [hk, Nat.add_sub_cancel_left]
theorem holdsK_of {α : Type} [Inhabited α] (enc : α → List Value) (k : Nat) (hk : ∀ x, (enc x).length = k) {w : World} {b : Nat} {t : TypeId} {cur : Array Value} (hh : Has w b t cur) (ys : List α) (ht : cur.toList.take (ys.length * k) = ys.flatMap enc) : HoldsK enc k w b 0 ys.toArray := by
  intro j hj
  have hj' : j < ys.length * k := by simpa using hj
  have e := flatK_eq enc k hk ys
  rw [← ht] at e
  have h1 : (flatK enc k ys.toArray).toList[j]? = cur.toList[j]? := by rw [e, List.getElem?_take, if_pos hj']
  refine ⟨?_, by rw [Nat.zero_add]; exact hh.mark _⟩
  rw [Nat.zero_add, hh.cell]
  rw [Array.getElem?_toList, Array.getElem?_toList] at h1
  rw [← h1, Array.getElem?_eq_getElem hj, getElem!_pos _ j hj]
  rfl
theorem sortW_sets {α : Type} [Inhabited α] (enc : α → List Value) (k : Nat) (hk : ∀ x, (enc x).length = k) (w : World) (b n : Nat) (ys zs : List α) (os : Array Obj) (hH : HoldsK enc k w b 0 ys.toArray) (hl : zs.length = ys.length) :
    sortWorldK enc k w b 0 n zs.toArray os = grow ((w.drewN n).setCells b 0 (zs.flatMap enc)) os := by
  unfold sortWorldK putRowK
  have := Go.Lib.putRow_eq_setCells id w b 0 (flatK enc k ys.toArray) (zs.flatMap enc) n hH (by rw [← flatK_eq enc k hk zs]; simp [hl])
  rw [List.map_id, ← flatK_eq enc k hk zs] at this
  rw [← flatK_eq enc k hk zs, ← this]
theorem below_grows (w : World) (os : Array Obj) : Below w.heap.size w (grow w os) :=
  ⟨rfl, rfl, rfl, by simp [grow], fun k hk => by simp [grow, Array.getElem?_append_left hk]⟩
theorem perm_in {α : Type} [Inhabited α] {ys : List α} {d : Array α} (h : PermIn 0 ys.toArray.size ys.toArray d) : d.toList.Perm ys := by
  have h1 := h.1
  have h2 := h.2.2
  have e1 : d.extract 0 ys.toArray.size = d := by rw [← h1]; simp
  have e2 : ys.toArray.extract 0 ys.toArray.size = ys.toArray := by simp
  rw [e1, e2] at h2
  simpa using h2
theorem srd_in {α : Type} [Inhabited α] {lt : α → α → Bool} {d : Array α} {n : Nat} (hn : n = d.size) (h : SortedIn lt 0 n d) : SrdB lt d.toList := by
  subst hn
  refine List.pairwise_iff_getElem.2 fun i j hi hj hij => ?_
  have := h i j (Nat.zero_le _) hij (by simpa using hj)
  rw [getElem!_pos d i (by simpa using hi), getElem!_pos d j (by simpa using hj)] at this
  simpa using this
instance : Inhabited It := ⟨zeroIt⟩
theorem cmpT_lt2 : Go.Proofs.ltOf cmpT = lt2 := by
  funext x y
  unfold Go.Proofs.ltOf cmpT cmpI lt2
  by_cases h : x.t < y.t ∨ x.t = y.t ∧ x.q < y.q
  · rw [decide_eq_true h]
    refine decide_eq_true ?_
    (repeat' split) <;> omega
  · rw [decide_eq_false h]
    refine decide_eq_false ?_
    (repeat' split) <;> omega
theorem swo_it : SWO (Go.Proofs.ltOf cmpT) := by
  rw [cmpT_lt2]
  exact ⟨fun x => by rw [lt2_no]; omega, fun x y z h1 h2 => by rw [lt2_iff] at *; omega, fun x y z h1 h2 => by rw [lt2_no] at *; omega⟩
set_option maxRecDepth 100000 in
theorem isort_any {w : World} {b n c : Nat} {ys : List It} (h : OwnIt w 0 (.slice (some ⟨b, 0, none⟩) n c) ys) (hn : n ≤ 1073741824) :
    Calls Tryz.prog 90 #[.slice (some ⟨b, 0, none⟩) n c, .func (.func 91) #[] #[]] w fun e w' =>
      e = .returned (.tuple #[]) ∧ ∃ zs, zs.Perm ys ∧ SrdB lt2 zs ∧ OwnIt w' 0 (.slice (some ⟨b, 0, none⟩) n c) zs ∧ ButS [b] w w' := by
  obtain ⟨hl, _, hnc, hcm, cur, hh, hs, ht⟩ := h.blk
  subst hl
  have hk : ∀ x, (itemL x).length = 4 := fun _ => rfl
  have hH := holdsK_of itemL 4 hk hh ys ht
  have eg : ∀ args w, (callFunc 91 args).run Tryz.prog w = .ok (.enter 91 args) w := enters_of Tryz.func91 (by kernel_rfl) rfl
  have hcmp : CmpLays Tryz.prog 91 #[] itemL 4 cmpT b 0 ys.toArray.size w := fun m os dk _ x y => compare_grw x y _
  have hc := AnyQ.slices_SortFunc sortILays 4 Tryz.isAgg61 Tryz.sizeOf61 itemL hk (fun x v hv => by simp [itemL] at hv; rcases hv with rfl | rfl | rfl | rfl <;> rfl) cmpT swo_it 91 #[] b 0 c ys.toArray w eg hcmp hH hh.lt (by simp only [List.size_toArray]; omega)
  refine hc.mono fun e w' ⟨he, d', m, os, hp, hsd, hw⟩ => ⟨he, d'.toList, perm_in hp, ?_, ?_⟩
  · rw [cmpT_lt2] at hsd
    exact srd_in hp.1.symm hsd
  · have hlen : d'.toList.length = ys.length := by have := hp.1; simpa using this
    have e := sortW_sets itemL 4 hk w b m ys d'.toList os hH hlen
    rw [Array.toArray_toList] at e
    rw [e] at hw
    have hfl : (d'.toList.flatMap itemL).length = ys.length * 4 := by rw [flat_len, hlen]
    obtain ⟨cur2, g1, g2, g3, g4⟩ := has_sets (hh.drewN m) (d'.toList.flatMap itemL) 0 (by omega)
    have hb := below_grows ((w.drewN m).setCells b 0 (d'.toList.flatMap itemL)) os
    have g5 := g1.below hb g1.lt
    rw [← hw] at g5 hb
    refine ⟨own_mk (Nat.zero_le _) hlen hnc hcm g5 (by omega) (List.ext_getElem? fun j => ?_), ?_⟩
    · by_cases hj : j < ys.length * 4
      · rw [List.getElem?_take, if_pos hj]
        have := g4 j (by omega)
        rw [Nat.zero_add] at this
        simpa using this
      · rw [List.getElem?_take, if_neg hj, List.getElem?_eq_none (by omega)]
    · have e1 : ButS [b] w ((w.drewN m).setCells b 0 (d'.toList.flatMap itemL)) := (show ButS [b] w (w.drewN m) from ⟨rfl, rfl, rfl, Nat.le_refl _, fun _ _ _ => rfl⟩).trans (setCells_butS b _ _ _)
      exact e1.trans (below_butS hb [b])
theorem isort_none (w : World) (p : Option Addr) (c : Nat) : Calls Tryz.prog 90 #[.slice p 0 c, .func (.func 91) #[] #[]] w fun e w' => e = .returned (.tuple #[]) ∧ w' = w :=
  AnyF.slices_SortFunc_none sortILays p c _ w
end Go.Proofs.YtbpaepkcchpmbaaGreat
namespace Go.Proofs.YtbpaepkcchpmbaaGreat
open Go.Shelf Go.RowKit
def sortRRen : Ren := ⟨fun n => match n with
  | 6 => 80 | 14 => 114 | 15 => 115 | 20 => 146 | 21 => 147 | 22 => 148 | 23 => 149 | 24 => 150 | 25 => 151 | 26 => 152 | 27 => 153 | 28 => 154 | 29 => 155 | 46 => 195 | 47 => 196 | 48 => 197 | 49 => 198 | 50 => 199 | 57 => 223 | _ => 0, fun n => match n with
  | 3 => 3 | 4 => 4 | 5 => 5 | 9 => 9 | 22 => 46 | 24 => 71 | 25 => 132 | 39 => 63 | 45 => 209 | 46 => 210 | 50 => 151 | 53 => 216 | 55 => 218 | 66 => 248 | 70 => 252 | 76 => 279 | 77 => 162 | _ => 0, fun _ => 0⟩
theorem sortRLays : SlLaysF0.n6 Tryz.prog sortRRen where
  mixed := by kernel_rfl
  f6 := ⟨ "slices.SortFunc[[]bourne/api.Result,bourne/api.Result]", by decide, Tryz.func80.trans (congrArg some (by kernel_rfl))⟩
  f14 := ⟨ "slices.pdqsortCmpFunc[bourne/api.Result]", by decide, Tryz.func114.trans (congrArg some (by kernel_rfl))⟩
  f15 := Tryz.func115.trans (congrArg some (by kernel_rfl))
  f20 := ⟨ "slices.insertionSortCmpFunc[bourne/api.Result]", by decide, Tryz.func146.trans (congrArg some (by kernel_rfl))⟩
  f21 := ⟨ "slices.heapSortCmpFunc[bourne/api.Result]", by decide, Tryz.func147.trans (congrArg some (by kernel_rfl))⟩
  f22 := ⟨ "slices.breakPatternsCmpFunc[bourne/api.Result]", by decide, Tryz.func148.trans (congrArg some (by kernel_rfl))⟩
  f23 := ⟨ "slices.choosePivotCmpFunc[bourne/api.Result]", by decide, Tryz.func149.trans (congrArg some (by kernel_rfl))⟩
  f24 := ⟨ "slices.reverseRangeCmpFunc[bourne/api.Result]", by decide, Tryz.func150.trans (congrArg some (by kernel_rfl))⟩
  f25 := ⟨ "slices.partialInsertionSortCmpFunc[bourne/api.Result]", by decide, Tryz.func151.trans (congrArg some (by kernel_rfl))⟩
  f26 := ⟨ "slices.partitionEqualCmpFunc[bourne/api.Result]", by decide, Tryz.func152.trans (congrArg some (by kernel_rfl))⟩
  f27 := ⟨ "slices.partitionCmpFunc[bourne/api.Result]", by decide, Tryz.func153.trans (congrArg some (by kernel_rfl))⟩
  f28 := Tryz.func154.trans (congrArg some (by kernel_rfl))
  f29 := Tryz.func155.trans (congrArg some (by kernel_rfl))
  f46 := ⟨ "slices.siftDownCmpFunc[bourne/api.Result]", by decide, Tryz.func195.trans (congrArg some (by kernel_rfl))⟩
  f47 := Tryz.func196.trans (congrArg some (by kernel_rfl))
  f48 := Tryz.func197.trans (congrArg some (by kernel_rfl))
  f49 := ⟨ "slices.medianAdjacentCmpFunc[bourne/api.Result]", by decide, Tryz.func198.trans (congrArg some (by kernel_rfl))⟩
  f50 := ⟨ "slices.medianCmpFunc[bourne/api.Result]", by decide, Tryz.func199.trans (congrArg some (by kernel_rfl))⟩
  f57 := ⟨ "slices.order2CmpFunc[bourne/api.Result]", by decide, Tryz.func223.trans (congrArg some (by kernel_rfl))⟩
  t0 := Tryz.underlying0
  a0 := Tryz.isAgg0
  z0 := Tryz.sizeOf0
  v0 := Tryz.zeroValue0
  t3 := Tryz.underlying3
  a3 := Tryz.isAgg3
  z3 := Tryz.sizeOf3
  v3 := Tryz.zeroValue3
  t4 := Tryz.underlying4
  a4 := Tryz.isAgg4
  z4 := Tryz.sizeOf4
  v4 := Tryz.zeroValue4
  t5 := Tryz.underlying5
  a5 := Tryz.isAgg5
  z5 := Tryz.sizeOf5
  v5 := Tryz.zeroValue5
  t9 := Tryz.underlying9
  a9 := Tryz.isAgg9
  z9 := Tryz.sizeOf9
  v9 := Tryz.zeroValue9
  t22 := Tryz.underlying46
  a22 := Tryz.isAgg46
  z22 := Tryz.sizeOf46
  v22 := Tryz.zeroValue46
  t25 := Tryz.underlying132
  a25 := Tryz.isAgg132
  z25 := Tryz.sizeOf132
  v25 := Tryz.zeroValue132
  t39 := Tryz.underlying63
  a39 := Tryz.isAgg63
  z39 := Tryz.sizeOf63
  v39 := Tryz.zeroValue63
  t45 := Tryz.underlying209
  a45 := Tryz.isAgg209
  z45 := Tryz.sizeOf209
  v45 := Tryz.zeroValue209
  t46 := Tryz.underlying210
  a46 := Tryz.isAgg210
  z46 := Tryz.sizeOf210
  v46 := Tryz.zeroValue210
  t50 := Tryz.underlying151
  a50 := Tryz.isAgg151
  z50 := Tryz.sizeOf151
  v50 := Tryz.zeroValue151
  t53 := Tryz.underlying216
  a53 := Tryz.isAgg216
  z53 := Tryz.sizeOf216
  v53 := Tryz.zeroValue216
  t55 := Tryz.underlying218
  a55 := Tryz.isAgg218
  z55 := Tryz.sizeOf218
  v55 := Tryz.zeroValue218
  t66 := Tryz.underlying248
  a66 := Tryz.isAgg248
  z66 := Tryz.sizeOf248
  v66 := Tryz.zeroValue248
  t70 := Tryz.underlying252
  a70 := Tryz.isAgg252
  z70 := Tryz.sizeOf252
  v70 := Tryz.zeroValue252
  t76 := Tryz.underlying279
  a76 := Tryz.isAgg279
  z76 := Tryz.sizeOf279
  v76 := Tryz.zeroValue279
  t77 := Tryz.underlying162
  a77 := Tryz.isAgg162
  z77 := Tryz.sizeOf162
  v77 := Tryz.zeroValue162
end Go.Proofs.YtbpaepkcchpmbaaGreat
namespace Go.Proofs.YtbpaepkcchpmbaaGreat
open Go.RowKit
def or4 (a b c d : Int) : Int := orI a (orI b (orI c d))
set_option maxRecDepth 100000 in
set_option maxHeartbeats 1000000 in
theorem or4_any (a b c d : Int) (g : Nat) (w : World) (h0 : w.cell? ⟨g, 0, none⟩ = some (.int .i64 a)) (h1 : w.cell? ⟨g, 1, none⟩ = some (.int .i64 b)) (h2 : w.cell? ⟨g, 2, none⟩ = some (.int .i64 c)) (h3 : w.cell? ⟨g, 3, none⟩ = some (.int .i64 d)) :
    Calls Tryz.prog 116 #[.slice (some ⟨g, 0, none⟩) 4 4] w fun e w' => e = .returned (.int .i64 (or4 a b c d)) ∧ w = w' := by
  unfold or4 orI
  by_cases ha : a = 0
  · subst ha
    rw [if_pos rfl]
    by_cases hb : b = 0
    · subst hb
      rw [if_pos rfl]
      by_cases hc : c = 0
      · subst hc
        rw [if_pos rfl]
        by_cases hd : d = 0
        · subst hd
          go_enter Tryz.func116, Tryz.ntmps116
          go_wp2
          refine wp_loop_rounds 5 ?_; rw [rounds_succ]
          go_wp2
          rw [rounds_succ]
          go_wp2
          rw [rounds_succ]
          go_wp2
          rw [rounds_succ]
          go_wp2
          rw [rounds_succ]
          go_wp2
          go_ret
          exact ⟨rfl, rfl⟩
        · go_enter Tryz.func116, Tryz.ntmps116
          go_wp2
          refine wp_loop_rounds 4 ?_; rw [rounds_succ]
          go_wp2
          rw [rounds_succ]
          go_wp2
          rw [rounds_succ]
          go_wp2
          rw [rounds_succ]
          go_wp2
          go_ret
          exact ⟨rfl, rfl⟩
      · rw [if_neg hc]
        go_enter Tryz.func116, Tryz.ntmps116
        go_wp2
        refine wp_loop_rounds 3 ?_; rw [rounds_succ]
        go_wp2
        rw [rounds_succ]
        go_wp2
        rw [rounds_succ]
        go_wp2
        go_ret
        exact ⟨rfl, rfl⟩
    · rw [if_neg hb]
      go_enter Tryz.func116, Tryz.ntmps116
      go_wp2
      refine wp_loop_rounds 2 ?_; rw [rounds_succ]
      go_wp2
      rw [rounds_succ]
      go_wp2
      go_ret
      exact ⟨rfl, rfl⟩
  · rw [if_neg ha]
    go_enter Tryz.func116, Tryz.ntmps116
    go_wp2
    refine wp_loop_rounds 1 ?_; rw [rounds_succ]
    go_wp2
    go_ret
    exact ⟨rfl, rfl⟩
def cmpZ (x y : Rz) : Int := or4 (cmpI x.b y.b) (cmpI x.k y.k) (cmpI x.s y.s) (cmpI x.a y.a)
set_option maxRecDepth 100000 in
set_option maxHeartbeats 4000000 in
theorem cmpres_grw (x y : Rz) (w : World) :
    Calls Tryz.prog 81 #[.agg (rzC x), .agg (rzC y)] w fun e w' => e = .returned (.int .i64 (cmpZ x y)) ∧ Grw w w' := by
  obtain ⟨xk, xs, xa, xb, xv, xo, xh, xA, xc⟩ := x
  obtain ⟨yk, ys, ya, yb, yv, yo, yh, yA, yc⟩ := y
  unfold rzC rslC
  dsimp only
  go_enter Tryz.func81, Tryz.ntmps81
  go_wp2
  go_region_held3 (fun w' => w'.cell? ⟨w.heap.size, 0, none⟩ = some (.int .i64 xk) ∧ w'.cell? ⟨w.heap.size, 1, none⟩ = some (.int .i64 xs) ∧ w'.cell? ⟨w.heap.size, 2, none⟩ = some (.int .i64 xa) ∧ w'.cell? ⟨w.heap.size, 3, none⟩ = some (.int .i64 xb) ∧ w'.cell? ⟨w.heap.size + 1, 0, none⟩ = some (.int .i64 yk) ∧ w'.cell? ⟨w.heap.size + 1, 1, none⟩ = some (.int .i64 ys) ∧ w'.cell? ⟨w.heap.size + 1, 2, none⟩ = some (.int .i64 ya) ∧ w'.cell? ⟨w.heap.size + 1, 3, none⟩ = some (.int .i64 yb)) (simp [go_sem, World.cell?_alloc_past])
    (first
      | (go_at_call 117; refine (cmp_any _ _ _).mono ?_; rintro e w' ⟨rfl, rfl⟩)
      | (go_at_call 116; refine (or4_any (cmpI xb yb) (cmpI xk yk) (cmpI xs ys) (cmpI xa ya) _ _ (by simp [go_sem]) (by simp [go_sem]) (by simp [go_sem]) (by simp [go_sem])).mono ?_; rintro e w' ⟨rfl, rfl⟩))
  go_wp2
  go_ret
  exact ⟨rfl, by repeat (first | exact Grw.refl _ | refine Grw.drew ?_ | refine Grw.alloc ?_ _)⟩
end Go.Proofs.YtbpaepkcchpmbaaGreat
namespace Go.Proofs.YtbpaepkcchpmbaaGreat
open Go.RowKit Go.Sort
instance : Inhabited Rz := ⟨⟨0, 0, 0, 0, 0, false, [], none, 0⟩⟩
def ltZ (p r : Rz) : Bool := decide (p.b < r.b ∨ p.b = r.b ∧ (p.k < r.k ∨ p.k = r.k ∧ (p.s < r.s ∨ p.s = r.s ∧ p.a < r.a)))
theorem ltZ_iff {p r : Rz} : ltZ p r = true ↔ (p.b < r.b ∨ p.b = r.b ∧ (p.k < r.k ∨ p.k = r.k ∧ (p.s < r.s ∨ p.s = r.s ∧ p.a < r.a))) := decide_eq_true_iff
theorem ltZ_no {p r : Rz} : ltZ p r = false ↔ ¬ (p.b < r.b ∨ p.b = r.b ∧ (p.k < r.k ∨ p.k = r.k ∧ (p.s < r.s ∨ p.s = r.s ∧ p.a < r.a))) := decide_eq_false_iff_not
theorem cmpZ_ltZ : Go.Proofs.ltOf cmpZ = ltZ := by
  funext x y
  unfold Go.Proofs.ltOf cmpZ or4 orI cmpI ltZ
  by_cases h : x.b < y.b ∨ x.b = y.b ∧ (x.k < y.k ∨ x.k = y.k ∧ (x.s < y.s ∨ x.s = y.s ∧ x.a < y.a))
  · rw [decide_eq_true h]
    refine decide_eq_true ?_
    (repeat' split) <;> omega
  · rw [decide_eq_false h]
    refine decide_eq_false ?_
    (repeat' split) <;> omega
theorem swo_rz : SWO (Go.Proofs.ltOf cmpZ) := by
  rw [cmpZ_ltZ]
  exact ⟨fun x => by rw [ltZ_no]; omega, fun x y z h1 h2 => by rw [ltZ_iff] at *; omega, fun x y z h1 h2 => by rw [ltZ_no] at *; omega⟩
set_option maxRecDepth 100000 in
theorem rsort_any {w : World} {b n c : Nat} {ys : List Rz} (h : OwnZ w (.slice (some ⟨b, 0, none⟩) n c) ys) (hn : n ≤ 1073741824) :
    Calls Tryz.prog 80 #[.slice (some ⟨b, 0, none⟩) n c, .func (.func 81) #[] #[]] w fun e w' =>
      e = .returned (.tuple #[]) ∧ ∃ zs, zs.Perm ys ∧ SrdB ltZ zs ∧ OwnZ w' (.slice (some ⟨b, 0, none⟩) n c) zs ∧ ButS [b] w w' := by
  obtain ⟨hl, hnc, hcm, cur, hh, hs, ht⟩ := h.blk
  subst hl
  have hk : ∀ x, (rzL x).length = 7 := rzL_len
  have hH := holdsK_of rzL 7 hk hh ys ht
  have eg : ∀ args w, (callFunc 81 args).run Tryz.prog w = .ok (.enter 81 args) w := enters_of Tryz.func81 (by kernel_rfl) rfl
  have hcmp : CmpLays Tryz.prog 81 #[] rzL 7 cmpZ b 0 ys.toArray.size w := fun m os dk _ x y => cmpres_grw x y _
  have hc := AnyQ.slices_SortFunc sortRLays 7 Tryz.isAgg71 Tryz.sizeOf71 rzL hk (fun x v hv => by
    have := rzC_one x
    rw [Array.all_eq_true_iff_forall_mem] at this
    exact this v (by simpa [rzL] using hv)) cmpZ swo_rz 81 #[] b 0 c ys.toArray w eg hcmp hH hh.lt (by simp only [List.size_toArray]; omega)
  refine hc.mono fun e w' ⟨he, d', m, os, hp, hsd, hw⟩ => ⟨he, d'.toList, perm_in hp, ?_, ?_⟩
  · rw [cmpZ_ltZ] at hsd
    exact srd_in hp.1.symm hsd
  · have hlen : d'.toList.length = ys.length := by have := hp.1; simpa using this
    have e := sortW_sets rzL 7 hk w b m ys d'.toList os hH hlen
    rw [Array.toArray_toList] at e
    rw [e] at hw
    have hfl : (d'.toList.flatMap rzL).length = ys.length * 7 := by have := rowZ_len d'.toList; unfold rowZ at this; rw [this, hlen]
    obtain ⟨cur2, g1, g2, g3, g4⟩ := has_sets (hh.drewN m) (d'.toList.flatMap rzL) 0 (by omega)
    have hb := below_grows ((w.drewN m).setCells b 0 (d'.toList.flatMap rzL)) os
    have g5 := g1.below hb g1.lt
    rw [← hw] at g5 hb
    refine ⟨OwnZ.mk' hlen hnc hcm g5 (by omega) (List.ext_getElem? fun j => ?_), ?_⟩
    · unfold rowZ
      by_cases hj : j < ys.length * 7
      · rw [List.getElem?_take, if_pos hj]
        have := g4 j (by omega)
        rw [Nat.zero_add] at this
        simpa using this
      · rw [List.getElem?_take, if_neg hj, List.getElem?_eq_none (by omega)]
    · have e1 : ButS [b] w ((w.drewN m).setCells b 0 (d'.toList.flatMap rzL)) := (show ButS [b] w (w.drewN m) from ⟨rfl, rfl, rfl, Nat.le_refl _, fun _ _ _ => rfl⟩).trans (setCells_butS b _ _ _)
      exact e1.trans (below_butS hb [b])
theorem rsort_none (w : World) (p : Option Addr) (c : Nat) : Calls Tryz.prog 80 #[.slice p 0 c, .func (.func 81) #[] #[]] w fun e w' => e = .returned (.tuple #[]) ∧ w' = w :=
  AnyF.slices_SortFunc_none sortRLays p c _ w
end Go.Proofs.YtbpaepkcchpmbaaGreat
namespace Go.Proofs.YtbpaepkcchpmbaaGreat
open Go.RowKit
open Go.ChangeMaps (setBlock heap_setBlock_other)
theorem ranges_same {w w' : World} {R : Value → Option (DataW Unit × List MemPlace)} {k : TypeId} {b r n cnt : Nat} {D : DataW Unit} {left : Lit → Bool} (h : w.ranges Tryz.prog k R b r n D left cnt) (hb : w'.heap[b]? = w.heap[b]?) (hr : w'.heap[r]? = w.heap[r]?) : w'.ranges Tryz.prog k R b r n D left cnt := by
  obtain ⟨es, clock, since, seen, c0, h1, h2, h3, h4, h5, r⟩ := h
  exact ⟨es, clock, since, seen, c0, hb.trans h1, h2, h3, h4, hr.trans h5, r⟩
theorem turned_butO {w w' : World} {b : Nat} (h : w.mapTurned w' b) : ButO (fun k => k = b) w w' := by
  obtain ⟨es, clock, es', clock', hb, rfl⟩ := h
  exact ⟨rfl, rfl, rfl, by simp [setBlock], fun k _ hk => heap_setBlock_other hb _ hk⟩
noncomputable def blkL (O : Nat → Prop) (n : Nat) : List Nat := (List.range n).filter fun k => @decide (O k) (Classical.propDecidable _)
theorem blkL_mem {O : Nat → Prop} {n k : Nat} : k ∈ blkL O n ↔ k < n ∧ O k := by
  unfold blkL
  rw [List.mem_filter, List.mem_range, @decide_eq_true_iff _ (Classical.propDecidable _)]
theorem butO_blkL {O : Nat → Prop} {n : Nat} {w w' : World} (h : ButO O w w') (hO : ∀ k, O k → k < n) : ButS (blkL O n) w w' := ⟨h.os, h.tape, h.output, h.size, fun k hk hn => h.other k hk fun e => hn (blkL_mem.2 ⟨hO k e, e⟩)⟩
def RuD.ghost (u : RuD) : RuD := { u with rows := u.rows.map fun r => { r with R := r.its } }
theorem ghost_U (u : RuD) (k : Nat) : u.ghost.U k ↔ u.U k := by
  unfold RuD.U
  constructor
  · rintro (h | h | ⟨r, hr, h⟩)
    · exact .inl h
    · exact .inr (.inl h)
    · obtain ⟨r0, h0, rfl⟩ := List.mem_map.1 hr
      exact .inr (.inr ⟨r0, h0, h⟩)
  · rintro (h | h | ⟨r, hr, h⟩)
    · exact .inl h
    · exact .inr (.inl h)
    · exact .inr (.inr ⟨_, List.mem_map.2 ⟨r, hr, rfl⟩, h⟩)
theorem RuX.ghost {w : World} {u : RuD} (h : RuX w u) : RuX w u.ghost := by
  have hm : ∀ r, r ∈ u.ghost.rows → ∃ r0, r0 ∈ u.rows ∧ r = { r0 with R := r0.its } := fun r hr => by
    obtain ⟨r0, h0, rfl⟩ := List.mem_map.1 hr
    exact ⟨r0, h0, rfl⟩
  refine ⟨h.st, h.frq, h.hp, h.map, fun r hr => ?_, fun s hs => h.mOut s fun r hr => hs ({ r with R := r.its } : RD) (List.mem_map_of_mem hr), fun r hr => ?_, fun r hr => ?_, List.pairwise_map.2 h.nd, List.pairwise_map.2 h.dis, h.offG, fun r hr => ?_⟩
  all_goals obtain ⟨r0, h0, rfl⟩ := hm r hr
  · exact h.mIn r0 h0
  · exact h.row r0 h0
  · exact h.ser r0 h0
  · exact h.offR r0 h0
theorem TieU.telI {u : RuD} {m : Mc} (h : TieU u m) : TelI u.qs m.ys (lineM m.least u.late) (fun _ => lineM m.least u.late) u.ghost.rows u.wt [] := by
  have hm : ∀ r, r ∈ u.ghost.rows → ∃ r0, r0 ∈ u.rows ∧ r = { r0 with R := r0.its } := fun r hr => by
    obtain ⟨r0, h0, rfl⟩ := List.mem_map.1 hr
    exact ⟨r0, h0, rfl⟩
  refine ⟨List.pairwise_map.2 h.nd, fun r hr => ?_, fun r hr => ?_, fun r hr => ?_, fun r hr => ?_, fun σ hσ => ⟨h.no σ fun r hr => hσ ({ r with R := r.its } : RD) (List.mem_map_of_mem hr), rfl⟩, fun _ => Int.le_refl _, fun _ x hx => h.hi x hx, h.srt, h.sq, fun v => ⟨fun hv => (by cases hv), ?_⟩, List.Pairwise.nil⟩
  · obtain ⟨r0, h0, rfl⟩ := hm r hr; exact (h.pl r0 h0).reghost
  · obtain ⟨r0, h0, rfl⟩ := hm r hr; rfl
  · obtain ⟨r0, h0, rfl⟩ := hm r hr; exact h.ne r0 h0
  · obtain ⟨r0, h0, rfl⟩ := hm r hr; exact h.sr r0 h0
  · rintro ⟨i, q, p, _, _, h1, h2, _⟩
    have h2 : p.b ≤ lineM m.least u.late := h2
    omega
structure TlS (u0 : RuD) (w0 : World) (ys : List It) (line l0 : Int) (rIt cnt : Nat) (u : RuD) (zs : List Rz) (L : Int → Int) (G : List Int) (done todo : List RD) (left : Lit → Bool) (V : Value) (w : World) : Prop where
  rg : w.ranges Tryz.prog 3 ptrR u.mp rIt u.n0 u.D left cnt
  ru : RuX w u
  out : OutZ u.U w V zs
  rows : u.rows.Perm (done ++ todo)
  lp : LpI u0.qs ys u0.late u0.mark line l0 L G done todo u.wt (zs.map Rz.val)
  lf : ∀ s, left (.int .i64 s) = true → ∃ r, r ∈ todo ∧ r.s = s
  lt : ∀ r, r ∈ todo → left (.int .i64 r.s) = true
  it : ¬ u.U rIt
  itlo : w0.heap.size ≤ rIt
  ithi : rIt < w.heap.size
  hd : u.g = u0.g ∧ u.mp = u0.mp ∧ u.qs = u0.qs ∧ u.late = u0.late ∧ u.mark = u0.mark ∧ u.seq = u0.seq
  rel : u.rel = (sumIts u.rows : Nat)
  rb : u.rel ≤ 8192
  nn : u.n0 ≤ u0.n0 + u0.wt.length
  kp : ButO u0.U w0 w
  own : ∀ k, u.U k → u0.U k ∨ w0.heap.size ≤ k
  nb : ∀ k, V.ownBlock = some k → w0.heap.size ≤ k
section
variable {u0 u : RuD} {w0 w w' : World} {ys : List It} {line l0 : Int} {rIt cnt : Nat} {zs : List Rz} {L : Int → Int} {G : List Int} {done todo : List RD} {left : Lit → Bool} {V : Value}
theorem grown_it {b : Nat} (h : w.grownBy w' (some b)) : ButO (fun k => k = b) w w' := ⟨h.os, h.tape, h.output, h.size, fun k hk hn => h.block k hk (fun e => hn (by injection e))⟩
theorem lit_ne {a b : Int} (h : a ≠ b) : (Lit.int .i64 a).sameKey (.int .i64 b) = false := Maps.sameKey_ne (fun e => h (by injection e))
theorem OutZ.iter {N : Nat → Prop} (h : OutZ N w V zs) {o : Obj} (hr : w.heap[rIt]? = some o) (ho : ∀ cs t, o ≠ .cells cs t) (hb : ButO (fun k => k = rIt) w w') : OutZ N w' V zs := by
  have hne : ∀ k t cs, Has w k t cs → k ≠ rIt := fun k t cs hh e => by
    unfold Has at hh
    rw [e, hr] at hh
    exact ho _ _ (Option.some.inj hh)
  refine ⟨h.row.same fun k e => ?_, h.off, fun z hz => (h.hist z hz).same fun k e => ?_, h.offH⟩
  · obtain ⟨c, hc⟩ := h.row.has e
    exact hb.other k hc.lt (hne _ _ _ hc)
  · obtain ⟨c, hc⟩ := (h.hist z hz).has e
    exact hb.other k hc.lt (hne _ _ _ hc)
structure PkP (u0 : RuD) (w0 : World) (ys : List It) (line l0 : Int) (rIt cnt : Nat) (u : RuD) (zs : List Rz) (L : Int → Int) (G : List Int) (done todo : List RD) (r : RD) (left : Lit → Bool) (V : Value) (w : World) : Prop where
  rows : u.rows = r :: (done ++ todo)
  rg : w.ranges Tryz.prog 3 ptrR u.mp rIt u.n0 u.D left cnt
  ru : RuX w u
  out : OutZ u.U w V zs
  lp : LpI u0.qs ys u0.late u0.mark line l0 L G done (r :: todo) u.wt (zs.map Rz.val)
  lf : ∀ s, left (.int .i64 s) = true → ∃ r, r ∈ todo ∧ r.s = s
  lt : ∀ r, r ∈ todo → left (.int .i64 r.s) = true
  it : ¬ u.U rIt
  itlo : w0.heap.size ≤ rIt
  ithi : rIt < w.heap.size
  hd : u.g = u0.g ∧ u.mp = u0.mp ∧ u.qs = u0.qs ∧ u.late = u0.late ∧ u.mark = u0.mark ∧ u.seq = u0.seq
  rel : u.rel = (sumIts u.rows : Nat)
  rb : u.rel ≤ 8192
  nn : u.n0 ≤ u0.n0 + u0.wt.length
  kp : ButO u0.U w0 w
  own : ∀ k, u.U k → u0.U k ∨ w0.heap.size ≤ k
  nb : ∀ k, V.ownBlock = some k → w0.heap.size ≤ k
theorem sumIts_perm {a b : List RD} (h : a.Perm b) : sumIts a = sumIts b := by
  unfold sumIts
  exact (h.map _).sum_nat
theorem rows_U {rows : List RD} (hp : u.rows.Perm rows) (k : Nat) : ({ u with rows := rows } : RuD).U k ↔ u.U k := by
  unfold RuD.U
  constructor
  · rintro (h | h | ⟨r, hr, h⟩)
    · exact .inl h
    · exact .inr (.inl h)
    · exact .inr (.inr ⟨r, hp.mem_iff.2 hr, h⟩)
  · rintro (h | h | ⟨r, hr, h⟩)
    · exact .inl h
    · exact .inr (.inl h)
    · exact .inr (.inr ⟨r, hp.mem_iff.1 hr, h⟩)
theorem TlS.pick (h : TlS u0 w0 ys line l0 rIt cnt u zs L G done todo left V w) {s : Int} (hl : left (.int .i64 s) = true) {cnt' : Nat} (hrg : w'.ranges Tryz.prog 3 ptrR u.mp rIt u.n0 u.D (fun z => left z && !z.sameKey (.int .i64 s)) cnt') (hg : w.grownBy w' (some rIt)) :
    ∃ (r : RD) (todo' : List RD) (left' : Lit → Bool), r.s = s ∧ u.m s = some r.g ∧ left' = (fun z => left z && !z.sameKey (.int .i64 s)) ∧ PkP u0 w0 ys line l0 rIt cnt' { u with rows := r :: (done ++ todo') } zs L G done todo' r left' V w' := by
  obtain ⟨r, hr, hs⟩ := h.lf s hl
  obtain ⟨A, B, hAB⟩ := List.append_of_mem hr
  have hp : todo.Perm (r :: (A ++ B)) := by rw [hAB]; exact List.perm_middle
  have hpr : u.rows.Perm (r :: (done ++ (A ++ B))) := h.rows.trans ((hp.append_left done).trans List.perm_middle)
  have hb : ButO (fun k => k = rIt) w w' := grown_it hg
  have hnd := (hp.pairwise_iff (R := fun a b : RD => a.s ≠ b.s) (fun {_ _} hab => Ne.symm hab)).1 h.lp.ndT
  have hnr := (List.pairwise_cons.1 hnd).1
  have hU := rows_U hpr
  have hru : RuX w' u := h.ru.butO hb fun k hk e => h.it (e ▸ hk)
  refine ⟨r, A ++ B, _, hs, by rw [← hs]; exact h.ru.mIn r (hpr.mem_iff.2 List.mem_cons_self), rfl, rfl, hrg, hru.perm hpr, ?_, h.lp.perm hp, fun s' hs' => ?_, fun q hq => ?_, fun e => h.it ((hU _).1 e), h.itlo, Nat.lt_of_lt_of_le h.ithi hb.size, h.hd, ?_, h.rb, h.nn, ?_, fun k hk => h.own k ((hU k).1 hk), h.nb⟩
  · obtain ⟨es, clock, since, seen, c0, _, _, _, _, h5, _⟩ := h.rg
    exact (h.out.iter h5 (fun _ _ e => by cases e) hb).mono fun k _ hk => (hU k).1 hk
  · have h2 : (left (.int .i64 s') && !(Lit.int .i64 s').sameKey (.int .i64 s)) = true := hs'
    rw [Bool.and_eq_true, Bool.not_eq_true'] at h2
    obtain ⟨q, hq, e⟩ := h.lf s' h2.1
    rcases List.mem_cons.1 (hp.mem_iff.1 hq) with rfl | hq
    · exfalso
      have := h2.2
      rw [← e, hs, WideAt.sameKey_self (show WideAt.IsKeyLit (.int .i64 s) from trivial)] at this
      cases this
    · exact ⟨q, hq, e⟩
  · show (left (.int .i64 q.s) && !(Lit.int .i64 q.s).sameKey (.int .i64 s)) = true
    rw [h.lt q (hp.mem_iff.2 (List.mem_cons_of_mem _ hq)), lit_ne (fun e => hnr q hq (by rw [hs]; exact e.symm))]
    rfl
  · show u.rel = (sumIts (r :: (done ++ (A ++ B))) : Nat)
    rw [h.rel, sumIts_perm hpr]
  · exact h.kp.andThen hb fun i hi hlt => by
      have := h.itlo
      omega
structure PkN (u : RuD) (r : RD) (rest : List RD) (xs1 : List LX) (V2 : Value) (zs : List Rz) (line : Int) (V : Value) (w1 : World) (nrel : Int) (zs' : List Rz) (V' : Value) (w : World) : Prop where
  ru : RuX w { u with rows := keptR r xs1 V2 :: rest, rel := nrel }
  out : OutZ ({ u with rows := keptR r xs1 V2 :: rest, rel := nrel } : RuD).U w V' zs'
  val : zs'.map Rz.val = zs.map Rz.val ++ (r.xs.map LX.dat).flatMap (tellRv line)
  pl : RowPl u.qs { r with xs := xs1 } line
  kp : ButO (fun k => r.U k ∨ V.ownBlock = some k ∨ k = u.g) w1 w
  own : ∀ k, ({ u with rows := keptR r xs1 V2 :: rest, rel := nrel } : RuD).U k → u.U k ∨ w1.heap.size ≤ k
  nb : V'.ownBlock = V.ownBlock ∨ ∃ k, V'.ownBlock = some k ∧ w1.heap.size ≤ k
  rel : nrel + (r.its.length : Nat) = u.rel + ((keptR r xs1 V2).its.length : Nat)
theorem sumIts_cons (r : RD) (rows : List RD) : sumIts (r :: rows) = r.its.length + sumIts rows := by simp [sumIts]
section
variable {r : RD} {xs1 : List LX} {V2 V' : Value} {zs' : List Rz} {nrel : Int} {w1 : World}
theorem kept_le {a : Int} (h : a ≤ 8192) (e : nrel + (r.its.length : Nat) = a + ((keptR r xs1 V2).its.length : Nat)) : nrel ≤ 8192 := by
  have : (keptR r xs1 V2).its.length ≤ r.its.length := by unfold keptR; rw [List.length_drop]; omega
  omega
theorem PkP.base (h : PkP u0 w0 ys line l0 rIt cnt u zs L G done todo r left V w1) (hN : PkN u r (done ++ todo) xs1 V2 zs line V w1 nrel zs' V' w) :
    w.heap[u.mp]? = w1.heap[u.mp]? ∧ w.heap[rIt]? = w1.heap[rIt]? ∧ w1.heap.size ≤ w.heap.size ∧ ButO u0.U w0 w ∧ (∀ k, ({ u with rows := keptR r xs1 V2 :: (done ++ todo), rel := nrel } : RuD).U k → u0.U k ∨ w0.heap.size ≤ k) ∧ (∀ k, V'.ownBlock = some k → w0.heap.size ≤ k) ∧ ¬ ({ u with rows := keptR r xs1 V2 :: (done ++ todo), rel := nrel } : RuD).U rIt := by
  have hr : r ∈ u.rows := by rw [h.rows]; exact List.mem_cons_self
  have hs0 := h.kp.size
  have hVm : V.ownBlock ≠ some u.mp := fun e => h.out.off _ e (.inl (.inr (.inl rfl)))
  have hgm : u.g ≠ u.mp := h.ru.gNe.1
  obtain ⟨es, clock, since, seen, c0, _, _, _, _, h5, _⟩ := h.rg
  have hne : ∀ k t cs, Has w1 k t cs → k ≠ rIt := fun k t cs hh e => by
    unfold Has at hh
    rw [e, h5] at hh
    cases hh
  have hVr : V.ownBlock ≠ some rIt := fun e => by
    obtain ⟨c, hc⟩ := h.out.row.has e
    exact hne _ _ _ hc rfl
  refine ⟨hN.kp.other _ h.ru.map.own.lt ?_, hN.kp.other _ h.ithi ?_, hN.kp.size, h.kp.andThen hN.kp fun i hi hlt => ?_, fun k hk => ?_, fun k hk => ?_, fun hk => ?_⟩
  · rintro (e | e | e)
    · exact (h.ru.offR r hr _ e).1 (.inr (.inl rfl))
    · exact hVm e
    · exact hgm e.symm
  · rintro (e | e | e)
    · exact h.it (.inr (.inr ⟨r, hr, e⟩))
    · exact hVr e
    · exact h.it (.inl (.inl e))
  · rcases hi with e | e | e
    · exact (h.own i (.inr (.inr ⟨r, hr, e⟩))).resolve_right (by omega)
    · exact absurd (h.nb i e) (by omega)
    · exact (h.own i (.inl (.inl e))).resolve_right (by omega)
  · rcases hN.own k hk with h1 | h1
    · exact h.own k h1
    · exact .inr (by omega)
  · rcases hN.nb with h1 | ⟨k2, h1, h2⟩
    · exact h.nb k (by rw [← h1]; exact hk)
    · rw [h1] at hk
      injection hk with hk
      omega
  · rcases hN.own rIt hk with h1 | h1
    · exact h.it h1
    · have := h.ithi
      omega
theorem PkP.lp1 (hmay : MayQs u0.qs) (h0 : 0 < u0.qs.length) (hy : YsOk ys) (hln : ∀ b, -1099511627776 < b → (line < b ↔ ¬ b ≤ u0.mark - u0.late)) (h : PkP u0 w0 ys line l0 rIt cnt u zs L G done todo r left V w1) (hN : PkN u r (done ++ todo) xs1 V2 zs line V w1 nrel zs' V' w) :
    LpI u0.qs ys u0.late u0.mark line l0 (updL L r.s line) (r.s :: G) (if (keptR r xs1 V2).its = [] then done else keptR r xs1 V2 :: done) todo u.wt (zs'.map Rz.val) := by
  have hpl := hN.pl
  rw [h.hd.2.2.1] at hpl
  rw [hN.val]
  exact h.lp.step hmay h0 hy hln hpl
theorem PkP.stay (hmay : MayQs u0.qs) (h0 : 0 < u0.qs.length) (hy : YsOk ys) (hln : ∀ b, -1099511627776 < b → (line < b ↔ ¬ b ≤ u0.mark - u0.late)) (h : PkP u0 w0 ys line l0 rIt cnt u zs L G done todo r left V w1) (hN : PkN u r (done ++ todo) xs1 V2 zs line V w1 nrel zs' V' w) (hne : (keptR r xs1 V2).its ≠ []) :
    TlS u0 w0 ys line l0 rIt cnt { u with rows := keptR r xs1 V2 :: (done ++ todo), rel := nrel } zs' (updL L r.s line) (r.s :: G) (keptR r xs1 V2 :: done) todo left V' w := by
  obtain ⟨b1, b2, b3, b4, b5, b6, b7⟩ := h.base hN
  have hl := h.lp1 hmay h0 hy hln hN
  rw [if_neg hne] at hl
  refine ⟨ranges_same h.rg b1 b2, hN.ru, hN.out, List.Perm.refl _, hl, h.lf, h.lt, b7, h.itlo, Nat.lt_of_lt_of_le h.ithi b3, h.hd, ?_, kept_le h.rb hN.rel, h.nn, b4, b5, b6⟩
  show nrel = (sumIts (keptR r xs1 V2 :: (done ++ todo)) : Nat)
  have h1 := h.rel
  have h2 := hN.rel
  rw [h.rows, sumIts_cons] at h1
  rw [sumIts_cons]
  omega
theorem PkP.goes (hmay : MayQs u0.qs) (h0 : 0 < u0.qs.length) (hy : YsOk ys) (hln : ∀ b, -1099511627776 < b → (line < b ↔ ¬ b ≤ u0.mark - u0.late)) (h : PkP u0 w0 ys line l0 rIt cnt u zs L G done todo r left V w1) (hN : PkN u r (done ++ todo) xs1 V2 zs line V w1 nrel zs' V' w) (he : (keptR r xs1 V2).its = [])
    (hl2 : left = fun z => left z && !z.sameKey (.int .i64 r.s)) {cnt' : Nat} (hrg : w'.ranges Tryz.prog 3 ptrR u.mp rIt u.n0 (u.D.del (.int .i64 r.s)) (fun z => left z && !z.sameKey (.int .i64 r.s)) cnt') (hb : w.mapTurned w' u.mp) :
    ∃ u', TlS u0 w0 ys line l0 rIt cnt' u' zs' (updL L r.s line) (r.s :: G) done todo left V' w' := by
  obtain ⟨b1, b2, b3, b4, b5, b6, b7⟩ := h.base hN
  have hl := h.lp1 hmay h0 hy hln hN
  rw [if_pos he] at hl
  have hbo := turned_butO hb
  have hm : MapF w' u.mp u.n0 (u.D.del (.int .i64 r.s)) (fun x => if x = r.s then none else u.m x) := h.ru.map.del r.s rfl hrg.owns
  have hdel := hN.ru.delRow (r := keptR r xs1 V2) (rest := done ++ todo) rfl hm hbo
  have hsub : ∀ k, ((({ u with rows := keptR r xs1 V2 :: (done ++ todo), rel := nrel } : RuD).rowed (done ++ todo) u.n0 (u.D.del (.int .i64 r.s)) fun x => if x = r.s then none else u.m x)).U k → ({ u with rows := keptR r xs1 V2 :: (done ++ todo), rel := nrel } : RuD).U k := fun k hk => by
    rcases hk with hk | hk | ⟨q, hq, hk⟩
    · exact .inl hk
    · exact .inr (.inl hk)
    · exact .inr (.inr ⟨q, List.mem_cons_of_mem _ hq, hk⟩)
  rw [← hl2] at hrg
  refine ⟨_, hrg, hdel, ?_, List.Perm.refl _, hl, h.lf, h.lt, fun e => b7 (hsub _ e), h.itlo, Nat.lt_of_lt_of_le h.ithi (Nat.le_trans b3 hbo.size), h.hd, ?_, kept_le h.rb hN.rel, h.nn, b4.andThen hbo fun i hi hlt => ?_, fun k hk => b5 k (hsub k hk), b6⟩
  · exact (hN.out.butO hbo fun k e => .inl (.inr (.inl e))).mono fun k _ hk => hsub k hk
  · show nrel = (sumIts (done ++ todo) : Nat)
    have h1 := h.rel
    have h2 := hN.rel
    rw [h.rows, sumIts_cons] at h1
    rw [he] at h2
    simp only [List.length_nil] at h2
    omega
  · exact (h.own i (.inl (.inr (.inl hi)))).resolve_right (by have := h.kp.size; omega)
end
end
end Go.Proofs.YtbpaepkcchpmbaaGreat
