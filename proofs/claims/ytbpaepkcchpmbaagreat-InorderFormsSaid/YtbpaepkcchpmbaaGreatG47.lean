import Derived.Test.YtbpaepkcchpmbaaGreatG46
import Derived.Test.YtbpaepkcchpmbaaGreatG45
import Derived.Deep.LoopGhost
namespace Go.Proofs.YtbpaepkcchpmbaaGreat
def qsW (qs : List Rq) : List QW := qs.map fun r => qw r.q
def MayQs (qs : List Rq) : Prop := ∀ q : Rq, q ∈ qs → mayQ q.q.kind q.q.agg q.q.size q.q.slide q.q.bs q.q.rank = true
structure YsOk (ys : List It) : Prop where
  srd : SrdB lt2 ys
  seqs : Seqs ys
  may : ∀ x, x ∈ ys → itemB x = true
  len : ys.length ≤ 8192
theorem McOk.ys {m : Mc} (h : McOk m) : YsOk m.ys := ⟨h.srd, h.seqs, h.may, h.len⟩
theorem YsOk.times {ys : List It} (h : YsOk ys) : Times ys := srd2_times h.srd
theorem qsW_at {qs : List Rq} {i : Nat} {q : Rq} (h : qs[i]? = some q) : (qsW qs).getD i noQW = qw q.q := by
  unfold qsW
  rw [List.getD_eq_getElem?_getD, List.getElem?_map, h]
  rfl
theorem winsA_qs {qs : List Rq} {ys : List It} {p : Wn} : p ∈ winsA (qsW qs) ys ↔ ∃ (i : Nat) (q : Rq), qs[i]? = some q ∧ p ∈ winsQ i (qw q.q) ys := by
  rw [winsA_mem]
  constructor
  · rintro ⟨k, hk, hp⟩
    have hk2 : k < qs.length := by simpa [qsW] using hk
    have e : qs[k]? = some qs[k] := List.getElem?_eq_getElem hk2
    rw [qsW_at e] at hp
    exact ⟨k, _, e, hp⟩
  · rintro ⟨i, q, e, hp⟩
    refine ⟨i, ?_, by rw [qsW_at e]; exact hp⟩
    have := (List.getElem?_eq_some_iff.1 e).1
    simpa [qsW] using this
theorem MayQs.at_ {qs : List Rq} (h : MayQs qs) {i : Nat} {q : Rq} (e : qs[i]? = some q) : mayQ q.q.kind q.q.agg q.q.size q.q.slide q.q.bs q.q.rank = true := h q (List.mem_of_getElem? e)
theorem MayQs.fit {qs : List Rq} (h : MayQs qs) (h0 : 0 < qs.length) : QsFit (qsW qs) := by
  have hm : ∀ q, q ∈ qsW qs → ∃ r : Rq, r ∈ qs ∧ q = qw r.q := fun q hq => by
    obtain ⟨r, hr, rfl⟩ := List.mem_map.1 hq
    exact ⟨r, hr, rfl⟩
  refine ⟨⟨fun q hq => ?_⟩, fun q hq => ?_, fun q hq => ?_, by simpa [qsW] using h0⟩
  · obtain ⟨r, hr, rfl⟩ := hm q hq; exact qw_ok (h r hr)
  · obtain ⟨r, hr, rfl⟩ := hm q hq; exact qw_over (h r hr)
  · obtain ⟨r, hr, rfl⟩ := hm q hq; exact qw_full (h r hr)
theorem rows_split {ys R W : List It} (h : YsOk ys) {s : Int} (e : R ++ W = ys.filter (sitB s)) : Times (R ++ W) ∧ (∀ x, x ∈ R ++ W → x.s = s) ∧ (R ++ W).Nodup := by
  rw [e]
  exact ⟨times_filter h.times _, fun x hx => of_decide_eq_true (List.mem_filter.1 hx).2, (h.seqs.nodup).sublist List.filter_sublist⟩
theorem win_row {ys R W : List It} (h : YsOk ys) {s : Int} (e : R ++ W = ys.filter (sitB s)) {q : Qu} (hq : mayQ q.kind q.agg q.size q.slide q.bs q.rank = true) {k : Int} {p : Wn} (hs : p.s = s) (hb : ∀ x, x ∈ W → p.b ≤ x.t) :
    p ∈ winsQ k (qw q) ys ↔ p ∈ winsQ k (qwN q.kind q.size q.slide) R := by
  obtain ⟨h1, h2, h3⟩ := rows_split h e
  rw [winsQ_ser (qw_ok hq) h.times, hs, ← e, qw_eq]
  exact winsQ_ext (qnOk hq) h1 h2 hb
def ToldV (qs : List Rq) (ys : List It) (l0 : Int) (L : Int → Int) (v : Rv) : Prop := ∃ (i : Nat) (q : Rq) (p : Wn), qs[i]? = some q ∧ p ∈ winsQ i (qw q.q) ys ∧ l0 < p.b ∧ p.b ≤ L p.s ∧ v = valW q.q p.s p
def keyNe (a b : Rv) : Prop := ¬ (a.k = b.k ∧ a.s = b.s ∧ a.b = b.b)
def updL (L : Int → Int) (s l : Int) : Int → Int := fun x => if x = s then l else L x
structure TelI (qs : List Rq) (ys : List It) (l0 : Int) (L : Int → Int) (rows : List RD) (wt : List It) (vals : List Rv) : Prop where
  nd : rows.Pairwise fun a b => a.s ≠ b.s
  pl : ∀ r, r ∈ rows → RowPl qs r (L r.s)
  rr : ∀ r, r ∈ rows → r.R = r.its
  ne : ∀ r, r ∈ rows → r.its ≠ []
  sr : ∀ r, r ∈ rows → r.its ++ wt.filter (sitB r.s) = ys.filter (sitB r.s)
  no : ∀ σ, (∀ r, r ∈ rows → r.s ≠ σ) → wt.filter (sitB σ) = ys.filter (sitB σ) ∧ L σ = l0
  lo : ∀ σ, l0 ≤ L σ
  hi : ∀ σ, ∀ x, x ∈ wt → L σ ≤ x.t
  srt : Srd wt
  seq : Seqs wt
  val : ∀ v, v ∈ vals ↔ ToldV qs ys l0 L v
  key : vals.Pairwise keyNe
section
variable {qs : List Rq} {ys wt : List It} {l0 l' : Int} {L : Int → Int} {rows : List RD} {vals : List Rv} {r : RD}
theorem tell_part (hmay : MayQs qs) (hy : YsOk ys) (hp : RowPl qs r (L r.s)) {W : List It} (e : r.R ++ W = ys.filter (sitB r.s)) (hl : L r.s ≤ l') (hW : ∀ x, x ∈ W → l' ≤ x.t) :
    (∀ v, v ∈ (r.xs.map LX.dat).flatMap (tellRv l') ↔ ∃ (i : Nat) (q : Rq) (p : Wn), qs[i]? = some q ∧ p ∈ winsQ i (qw q.q) ys ∧ p.s = r.s ∧ L r.s < p.b ∧ p.b ≤ l' ∧ v = valW q.q p.s p) ∧ ((r.xs.map LX.dat).flatMap (tellRv l')).Pairwise keyNe := by
  obtain ⟨t1, t2, t3⟩ := rows_split hy e
  have tR : Times r.R := (List.pairwise_append.1 t1).1
  have sR : ∀ x, x ∈ r.R → x.s = r.s := fun x hx => t2 x (List.mem_append_left _ hx)
  have part : ∀ (i : Nat) (x : LX), r.xs[i]? = some x → ∃ q : Rq, qs[i]? = some q ∧ (∀ v, v ∈ tellRv l' x.dat ↔ ∃ p : Wn, p ∈ winsQ i (qw q.q) ys ∧ p.s = r.s ∧ L r.s < p.b ∧ p.b ≤ l' ∧ v = valW q.q p.s p) ∧ (tellRv l' x.dat).Pairwise fun a b => a.b < b.b := by
    intro i x hx
    obtain ⟨q, q1, q2, q3⟩ := hp.tells hmay hl hx
    obtain ⟨q', e1, e2, e3, e4, e5, e6, e7, e8⟩ := hp.ln i x hx
    obtain rfl : q = q' := by rw [q1] at e1; exact Option.some.inj e1
    have hq := hmay.at_ q1
    refine ⟨q, q1, fun v => ?_, ?_⟩
    · unfold tellRv LX.dat
      rw [List.mem_map]
      simp only [e3, e6]
      constructor
      · rintro ⟨p, hp1, rfl⟩
        obtain ⟨h1, h2, h3⟩ := (q2 p).1 hp1
        have hps : p.s = r.s := win_s (qw_ok hq) tR sR (by rw [qw_eq]; exact h1)
        exact ⟨p, (win_row hy e hq hps fun x hx => by have := hW x hx; omega).2 h1, hps, h2, h3, by rw [hps]⟩
      · rintro ⟨p, h1, h2, h3, h4, rfl⟩
        exact ⟨p, (q2 p).2 ⟨(win_row hy e hq h2 fun x hx => by have := hW x hx; omega).1 h1, h3, h4⟩, by rw [h2]⟩
    · unfold tellRv
      exact List.pairwise_map.2 (List.Pairwise.imp (fun h => h) q3)
  refine ⟨fun v => ?_, ?_⟩
  · rw [List.mem_flatMap]
    constructor
    · rintro ⟨z, hz, hv⟩
      obtain ⟨x, hx, rfl⟩ := List.mem_map.1 hz
      obtain ⟨i, hi⟩ := List.getElem?_of_mem hx
      obtain ⟨q, q1, q2, _⟩ := part i x hi
      obtain ⟨p, p1, p2, p3, p4, p5⟩ := (q2 v).1 hv
      exact ⟨i, q, p, q1, p1, p2, p3, p4, p5⟩
    · rintro ⟨i, q, p, q1, p1, p2, p3, p4, p5⟩
      have hi : i < r.xs.length := by rw [hp.len]; exact (List.getElem?_eq_some_iff.1 q1).1
      have hx : r.xs[i]? = some r.xs[i] := List.getElem?_eq_getElem hi
      obtain ⟨q', q1', q2, _⟩ := part i _ hx
      obtain rfl : q = q' := by rw [q1] at q1'; exact Option.some.inj q1'
      exact ⟨_, List.mem_map.2 ⟨_, List.getElem_mem hi, rfl⟩, (q2 v).2 ⟨p, p1, p2, p3, p4, p5⟩⟩
  · rw [List.pairwise_flatMap]
    refine ⟨fun z hz => ?_, ?_⟩
    · obtain ⟨x, hx, rfl⟩ := List.mem_map.1 hz
      obtain ⟨i, hi⟩ := List.getElem?_of_mem hx
      obtain ⟨q, _, _, q3⟩ := part i x hi
      exact List.Pairwise.imp (fun h hc => by have := hc.2.2; omega) q3
    · refine List.pairwise_map.2 (List.pairwise_iff_getElem.2 fun i j hi hj hij a ha b hb hc => ?_)
      obtain ⟨q, q1, q2, _⟩ := part i _ (List.getElem?_eq_getElem hi)
      obtain ⟨q', q1', q2', _⟩ := part j _ (List.getElem?_eq_getElem hj)
      obtain ⟨p, p1, _, _, _, rfl⟩ := (q2 a).1 ha
      obtain ⟨p', p1', _, _, _, rfl⟩ := (q2' b).1 hb
      have k1 := winsQ_k (qw_ok (hmay.at_ q1)) hy.times p1
      have k2 := winsQ_k (qw_ok (hmay.at_ q1')) hy.times p1'
      have : p.k = p'.k := hc.1
      omega
theorem told_step (hmay : MayQs qs) (hy : YsOk ys) (hp : RowPl qs r (L r.s)) {W : List It} (e : r.R ++ W = ys.filter (sitB r.s)) (hl : L r.s ≤ l') (hW : ∀ x, x ∈ W → l' ≤ x.t) (hlo : l0 ≤ L r.s) (hv : ∀ v, v ∈ vals ↔ ToldV qs ys l0 L v) (hk : vals.Pairwise keyNe) :
    (∀ v, v ∈ vals ++ (r.xs.map LX.dat).flatMap (tellRv l') ↔ ToldV qs ys l0 (updL L r.s l') v) ∧ (vals ++ (r.xs.map LX.dat).flatMap (tellRv l')).Pairwise keyNe := by
  obtain ⟨m1, m2⟩ := tell_part hmay hy hp e hl hW
  refine ⟨fun v => ?_, List.pairwise_append.2 ⟨hk, m2, fun a ha b hb hc => ?_⟩⟩
  · rw [List.mem_append, hv, m1]
    constructor
    · rintro (⟨i, q, p, h1, h2, h3, h4, h5⟩ | ⟨i, q, p, h1, h2, h3, h4, h5, h6⟩)
      · refine ⟨i, q, p, h1, h2, h3, ?_, h5⟩
        unfold updL
        by_cases c : p.s = r.s
        · rw [if_pos c]; rw [c] at h4; omega
        · rw [if_neg c]; exact h4
      · exact ⟨i, q, p, h1, h2, by omega, by unfold updL; rw [if_pos h3]; exact h5, h6⟩
    · rintro ⟨i, q, p, h1, h2, h3, h4, h5⟩
      unfold updL at h4
      by_cases c : p.s = r.s
      · rw [if_pos c] at h4
        by_cases c2 : p.b ≤ L r.s
        · exact .inl ⟨i, q, p, h1, h2, h3, by rw [c]; exact c2, h5⟩
        · exact .inr ⟨i, q, p, h1, h2, c, by omega, h4, h5⟩
      · rw [if_neg c] at h4
        exact .inl ⟨i, q, p, h1, h2, h3, h4, h5⟩
  · obtain ⟨i, q, p, h1, h2, h3, h4, rfl⟩ := (hv a).1 ha
    obtain ⟨j, q', p', g1, g2, g3, g4, g5, rfl⟩ := (m1 b).1 hb
    obtain ⟨c1, c2, c3⟩ := hc
    have c2 : p.s = p'.s := c2
    have c3 : p.b = p'.b := c3
    rw [c2, g3] at h4
    omega
end
theorem nodup_len {α : Type} : ∀ {xs ys : List α}, xs.Nodup → (∀ x, x ∈ xs → x ∈ ys) → xs.length ≤ ys.length
  | [], _, _, _ => Nat.zero_le _
  | x :: xs, ys, hn, hm => by
    obtain ⟨A, B, rfl⟩ := List.append_of_mem (hm x List.mem_cons_self)
    have hx := (List.nodup_cons.1 hn).1
    have := nodup_len (ys := A ++ B) (List.nodup_cons.1 hn).2 fun y hy => by
      have h := hm y (List.mem_cons_of_mem _ hy)
      rw [List.mem_append, List.mem_cons] at h
      rw [List.mem_append]
      rcases h with h | rfl | h
      · exact .inl h
      · exact absurd hy hx
      · exact .inr h
    simp only [List.length_append, List.length_cons] at this ⊢
    omega
theorem winsW_len (k : Int) (Z : List (It × (Int × Int))) : (winsW k Z).length ≤ Z.length := by
  have : ∀ (Z : List (It × (Int × Int))) (ps : List Wn), (Z.foldl (fun ps z => addW k z.1 z.2 ps) ps).length ≤ ps.length + Z.length := by
    intro Z
    induction Z with
    | nil => intro ps; simp
    | cons z Z ih =>
      intro ps
      have h := ih (addW k z.1 z.2 ps)
      have h2 : (addW k z.1 z.2 ps).length ≤ ps.length + 1 := by unfold addW; split <;> simp
      simp only [List.foldl_cons, List.length_cons]
      omega
  simpa [winsW] using this Z []
theorem sesL_len (k g : Int) (xs : List It) : (sesL k g xs).length ≤ xs.length := by
  have : ∀ (Z : List It) (ps : List Wn), (Z.foldl (fun ps x => addS k g x ps) ps).length ≤ ps.length + Z.length := by
    intro Z
    induction Z with
    | nil => intro ps; simp
    | cons z Z ih =>
      intro ps
      have h := ih (addS k g z ps)
      have h2 : (addS k g z ps).length ≤ ps.length + 1 := by
        unfold addS
        split
        · simp
        · split <;> simp
      simp only [List.foldl_cons, List.length_cons]
      omega
  simpa [sesL] using this xs []
theorem winsQ_len {q : Qu} (hq : mayQ q.kind q.agg q.size q.slide q.bs q.rank = true) (k : Int) (ys : List It) : (winsQ k (qw q) ys).length ≤ ys.length * 64 := by
  unfold winsQ
  split
  · have := sesL_len k (qw q).g ys; omega
  · refine Nat.le_trans (winsW_len _ _) ?_
    unfold prsW
    induction ys with
    | nil => simp
    | cons x r ih =>
      have h1 : (spQ q.kind q.size q.slide x.t).length ≤ 64 := by
        unfold spQ
        rw [winL_len]
        obtain ⟨b1, b2, b3, b4, b5⟩ := stepQ_bd hq
        have := (win_bd x.t _ q.size b1 b2 b5).2.1
        omega
      rw [List.flatMap_cons, List.length_append, List.length_map, List.length_cons]
      have h2 : ((qw q).W x.t).length ≤ 64 := h1
      omega
theorem TelI.many {qs : List Rq} {ys wt : List It} {l0 : Int} {L : Int → Int} {rows : List RD} {vals : List Rv} (h : TelI qs ys l0 L rows wt vals) (hmay : MayQs qs) (hy : YsOk ys) (hl : qs.length ≤ 64) : vals.length ≤ 33554432 := by
  have hn : vals.Nodup := List.Pairwise.imp (fun {a b} hab e => hab (by rw [e]; exact ⟨rfl, rfl, rfl⟩)) h.key
  have hsub : ∀ v, v ∈ vals → v ∈ (List.range qs.length).flatMap fun i : Nat => (qs[i]?.toList.flatMap fun q : Rq => (winsQ i (qw q.q) ys).map fun p => valW q.q p.s p) := fun v hv => by
    obtain ⟨i, q, p, h1, h2, _, _, rfl⟩ := (h.val v).1 hv
    refine List.mem_flatMap.2 ⟨i, List.mem_range.2 (List.getElem?_eq_some_iff.1 h1).1, ?_⟩
    rw [h1]
    exact List.mem_flatMap.2 ⟨q, by simp, List.mem_map.2 ⟨p, h2, rfl⟩⟩
  refine Nat.le_trans (nodup_len hn hsub) ?_
  have key : ∀ (is : List Nat), (is.flatMap fun i : Nat => (qs[i]?.toList.flatMap fun q : Rq => (winsQ i (qw q.q) ys).map fun p => valW q.q p.s p)).length ≤ is.length * 524288 := by
    intro is
    induction is with
    | nil => simp
    | cons i is ih =>
      rw [List.flatMap_cons, List.length_append, List.length_cons]
      have : (qs[i]?.toList.flatMap fun q : Rq => (winsQ i (qw q.q) ys).map fun p => valW q.q p.s p).length ≤ 524288 := by
        cases hq : qs[i]? with
        | none => simp
        | some q =>
          simp only [Option.toList_some, List.flatMap_cons, List.flatMap_nil, List.append_nil, List.length_map]
          have h1 := winsQ_len (hmay.at_ hq) i ys
          have h2 := hy.len
          omega
      omega
  have := key (List.range qs.length)
  rw [List.length_range] at this
  omega
end Go.Proofs.YtbpaepkcchpmbaaGreat
namespace Go.Proofs.YtbpaepkcchpmbaaGreat
open Go.RowKit
def RelH (qs : List Rq) (line : Int) (I : List RD → List It → List Rv → Prop) : Prop :=
  ∀ (rows : List RD) (x : It) (wt : List It) (vals : List Rv) (r : RD) (rest : List RD), I rows (x :: wt) vals → x.t < line → r.s = x.s →
    (rows.Perm (r :: rest) ∨ (rest = rows ∧ (∀ q, q ∈ rows → q.s ≠ x.s) ∧ ∃ gr L xs, r = ⟨x.s, gr, .slice none 0 0, L, [], xs, []⟩ ∧ NewL x.s qs xs)) →
    ∃ l, RowPl qs r l ∧ l ≤ x.t ∧ r.its.length ≤ 8191 ∧ vals.length ≤ 536870912 ∧
      ∀ V xs1, RowPl qs ⟨r.s, r.g, V, r.L, r.its ++ [x], xs1, r.R ++ [x]⟩ x.t → I (⟨r.s, r.g, V, r.L, r.its ++ [x], xs1, r.R ++ [x]⟩ :: rest) wt (vals ++ (r.xs.map LX.dat).flatMap (tellRv x.t))
structure RelS (u0 : RuD) (w0 : World) (I : List RD → List It → List Rv → Prop) (u : RuD) (zs : List Rz) (V : Value) (w : World) : Prop where
  ru : RuX w u
  out : OutZ u.U w V zs
  g : u.g = u0.g
  hp : u.hp = u0.hp
  qs : u.qs = u0.qs
  inv : I u.rows u.wt (zs.map Rz.val)
  n0 : u.n0 + u.wt.length ≤ 1048576
  len : u.wt.length ≤ 8192
  rel : 0 ≤ u.rel ∧ u.rel + u.wt.length ≤ 8192
  cnt : u.rel + u.wt.length = u0.rel + u0.wt.length
  hd : u.late = u0.late ∧ u.mark = u0.mark ∧ u.seq = u0.seq ∧ u.mp = u0.mp
  nn : u.n0 + u.wt.length ≤ u0.n0 + u0.wt.length
  kp : ButO u0.U w0 w
  own : ∀ k, u.U k → u0.U k ∨ w0.heap.size ≤ k
  nb : ∀ k, V.ownBlock = some k → w0.heap.size ≤ k
theorem itemB_s {x : It} (h : itemB x = true) : 0 ≤ x.s ∧ x.s ≤ 1048575 := by
  unfold itemB at h
  simp only [Bool.and_eq_true] at h
  exact wi_true h.1
theorem RelS.below {u0 u : RuD} {w0 w w' : World} {I : List RD → List It → List Rv → Prop} {zs : List Rz} {V : Value} (h : RelS u0 w0 I u zs V w) (hb : Below w.heap.size w w') : RelS u0 w0 I u zs V w' :=
  ⟨h.ru.below hb, h.out.below hb, h.g, h.hp, h.qs, h.inv, h.n0, h.len, h.rel, h.cnt, h.hd, h.nn, h.kp.andThen (below_butO hb (fun _ => False)) fun _ e _ => e.elim, h.own, h.nb⟩
set_option maxRecDepth 100000 in
set_option maxHeartbeats 4000000 in
theorem release_any {u0 : RuD} {w0 : World} {line : Int} {I : List RD → List It → List Rv → Prop} (hmay : ∀ q : Rq, q ∈ u0.qs → mayQ q.q.kind q.q.agg q.q.size q.q.slide q.q.bs q.q.rank = true) (hH : RelH u0.qs line I) (hit : ∀ rows x wt vals, I rows (x :: wt) vals → itemB x = true)
    (hs : RelS u0 w0 I u0 [] (.slice none 0 0) w0) :
    Calls Tryz.prog 77 #[.pointer (some ⟨u0.g, 0, none⟩), .int .i64 line] w0 fun e w' => ∃ u zs V, e = .returned V ∧ RelS u0 w0 I u zs V w' ∧ belL u.wt line = false := by
  have HS0 := Lib.hid hs
  have HMAY := Lib.hid hmay
  have HH := Lib.hid hH
  have HIT := Lib.hid hit
  clear hs hmay hH hit
  go_enter Tryz.func77, Tryz.ntmps77
  go_wp2_with fail
  go_loopg [5] u0.wt.length (fun gk V wr => ∃ u zs, Hid (RelS u0 w0 I u zs V wr) ∧ gk = u.wt.length)
  case atStart => exact ⟨u0, [], HS0, rfl⟩
  case round =>
    obtain ⟨u, zs, HS, hgk⟩ := hrel
    subst hgk
    have HBL := Lib.hid (below_any (w := wr) (g := u0.g) (cs := ruC u) line (by rw [← HS.out.g]; exact HS.out.ru.st) rfl HS.out.ru.hp HS.out.len)
    cases hb : belL u.wt line with
    | false =>
      rw [hb] at HBL
      go_wp2_with (go_at_call 107; refine HBL.out.mono ?_; rintro e w2 ⟨rfl, hb2⟩)
      have HE := Lib.hid (HS.out.below hb2)
      clear hb2
      go_ret
      exact ⟨u, zs, _, rfl, HE.out, hb⟩
    | true =>
      rw [hb] at HBL
      obtain ⟨x, wt, hwt, hlt⟩ : ∃ x wt, u.wt = x :: wt ∧ x.t < line := by
        cases hw : u.wt with
        | nil => rw [hw] at hb; cases hb
        | cons x wt => rw [hw] at hb; exact ⟨x, wt, rfl, of_decide_eq_true hb⟩
      have HX : Hid (itemB x = true) := HIT.out u.rows x wt _ (by rw [← hwt]; exact HS.out.inv)
      go_wp2_with (go_at_call 107; refine HBL.out.mono ?_; rintro e w2 ⟨rfl, hb2⟩; have HS2 := Lib.hid (HS.out.below hb2); clear hb2; have c6 : w2.cell? ⟨u0.g, 6, none⟩ = some (.pointer (some ⟨u0.hp, 0, none⟩)) := by rw [← HS2.out.g, ← HS2.out.hp]; exact HS2.out.ru.st.cell 6)
      have HPO := Lib.hid (run_pop HS2.out.ru (by rw [hwt]; simp) HS2.out.len HS2.out.out)
      rw [hwt, show nthI (x :: wt) 0 = x from rfl, show (x :: wt).tail = wt from rfl, HS2.out.hp] at HPO
      refine HPO.out.mono ?_
      rintro e w3 ⟨rfl, hr3, hz3, hb3⟩
      have hal : Below w3.heap.size w3 (w3.alloc (.cells (itA x) 61)) := (Below.refl _ _).alloc (Nat.le_refl _) _
      have HR3 := Lib.hid (hr3.below hal)
      have HZ3 := Lib.hid (hz3.below hal)
      have HB3 := Lib.hid hb3
      have HL3 : Hid (∀ k, (u.heaped u.gs wt).U k → k < w3.heap.size) := hr3.lt
      have HV3 : Hid (∀ k, u5.ownBlock = some k → k < w3.heap.size) := hz3.lt.1
      have k0 : (w3.alloc (.cells (itA x) 61)).cell? ⟨w3.heap.size, 0, none⟩ = some (.int .i64 x.s) := ((Has.made _ _ _).cell 0).trans rfl
      have HBX : Hid (Has (w3.alloc (.cells (itA x) 61)) w3.heap.size 61 (itA x)) := Has.made _ _ _
      have hxs : 0 ≤ x.s ∧ x.s ≤ 1048575 := itemB_s HX.out
      have HRO := Lib.hid (run_rowof HR3.out hxs (by have h := HS2.out.n0; show u.n0 ≤ _; omega) HZ3.out)
      rw [show (u.heaped u.gs wt).g = u0.g from HS2.out.g] at HRO
      clear hr3 hz3 hb3 hal
      go_wp2_with (first | (refine store_hasIt rfl _ _ rfl w3.heap.size (z := x) rfl rfl (Has.made _ _ _) rfl ?_; rw [World.setRow_alloc_new]))
      refine HRO.out.mono ?_
      rintro e w4 ⟨r, rest, n4, D4, m4, rfl, hr4, hz4, hrs, hn4, hb4, ho4, hwho⟩
      obtain ⟨l, hpl, hlx, hil, hvl, hnext⟩ := HH.out u.rows x wt (zs.map Rz.val) r rest (by rw [← hwt]; exact HS2.out.inv) hlt hrs (by rw [← HS2.out.qs]; exact hwho)
      have HR4 := Lib.hid hr4
      have HZ4 := Lib.hid hz4
      have HO4 := Lib.hid ho4
      have HB4 := Lib.hid hb4
      have hs4 := hb4.size
      have hsa : (w3.alloc (.cells (itA x) 61)).heap.size = w3.heap.size + 1 := by simp
      rw [hsa] at hs4
      have HNX : Hid (¬ ((u.heaped u.gs wt).rowed (r :: rest) n4 D4 m4).U w3.heap.size) := fun h => by
        rcases HO4.out _ h with h1 | h1
        · have := HL3.out _ h1
          omega
        · rw [hsa] at h1
          omega
      have HBX4 : Hid (Has w4 w3.heap.size 61 (itA x)) := (HB4.out.other w3.heap.size (by rw [hsa]; omega) (fun e => (by
        have := HL3.out u.mp (.inl (.inr (.inl rfl)))
        have e2 : w3.heap.size = u.mp := e
        omega))).trans HBX.out
      have k1 : w4.cell? ⟨w3.heap.size, 1, none⟩ = some (.int .i64 x.t) := (HBX4.out.cell 1).trans rfl
      have hpl2 : RowPl ((u.heaped u.gs wt).rowed (r :: rest) n4 D4 m4).qs r l := by show RowPl u.qs r l; rw [HS2.out.qs]; exact hpl
      have hmay2 : ∀ q : Rq, q ∈ ((u.heaped u.gs wt).rowed (r :: rest) n4 D4 m4).qs → mayQ q.q.kind q.q.agg q.q.size q.q.slide q.q.bs q.q.rank = true := by
        show ∀ q : Rq, q ∈ u.qs → _
        rw [HS2.out.qs]; exact HMAY.out
      have HTE := Lib.hid (run_tell HR4.out rfl hpl2 hmay2 hlx (by omega) HZ4.out (by simpa using hvl))
      have HMAY2 := Lib.hid hmay2
      have HNEXT := Lib.hid hnext
      have HRS := Lib.hid hrs
      clear hr4 hz4 hb4 ho4 hpl2 hmay2 hnext hwho hrs hpl
      go_wp2_with fail
      refine HTE.out.mono ?_
      rintro e w5 ⟨V5, zs5, xs5, rfl, hr5, hz5, hp5, hval5, hb5, hv5, ho5, _⟩
      have HBX5 : Hid (Has w5 w3.heap.size 61 (itA x)) := (hb5.other w3.heap.size (by omega) (fun e => (by
        rcases e with e | e
        · exact HNX.out (.inr (.inr ⟨r, List.mem_cons_self, e⟩))
        · have := HV3.out _ e
          omega))).trans HBX4.out
      have HPU := Lib.hid (run_push hr5 rfl hp5 HMAY2.out HX.out HRS.out.symm rfl hil hz5)
      have HR5 := Lib.hid hr5
      have HB5 := Lib.hid hb5
      have HO5 := Lib.hid ho5
      have HV5 := Lib.hid hv5
      have HVAL := Lib.hid hval5
      clear hr5 hz5 hp5 hval5 hb5 hv5 ho5
      go_wp2_with (first | (refine load_hasIt rfl _ rfl w3.heap.size rfl HBX5.out ?_))
      refine HPU.out.mono ?_
      rintro e w6 ⟨rfl, V6, xs6, hr6, hz6, hp6, hb6, ho6⟩
      have HR6 := Lib.hid hr6
      have HZ6 := Lib.hid hz6
      have HP6 := Lib.hid hp6
      have HB6 := Lib.hid hb6
      have HO6 := Lib.hid ho6
      have c8 : w6.cell? ⟨u0.g, 8, none⟩ = some (.int .i64 u.rel) := by rw [← HS2.out.g]; exact hr6.st.cell 8
      have f8 : w6.frozen? ⟨u0.g, 8, none⟩ = false := by rw [← HS2.out.g]; exact hr6.st.mark 8
      have hrel := HS2.out.rel
      have e1 : IntKind.i64.wrap (u.rel + 1) = u.rel + 1 := IntWalk.i64_in _ (by omega)
      clear hr6 hz6 hp6 hb6 ho6
      go_wp2_with fail
      go_roundg wt.length
      case measure => rw [hwt, List.length_cons]; omega
      case rel =>
        obtain ⟨hru, hout⟩ := HR6.out.count HZ6.out (u.rel + 1)
        have s02 := HS2.out.kp.size
        have s23 := HB3.out.size
        have s45 := HB5.out.size
        have s56 := HB6.out.size
        have A2 := HS2.out.own
        have A4 : ∀ k, ((u.heaped u.gs wt).rowed (r :: rest) n4 D4 m4).U k → u0.U k ∨ w0.heap.size ≤ k := fun k hk => by
          rcases HO4.out k hk with h | h
          · exact A2 k h
          · rw [hsa] at h
            exact .inr (by omega)
        have A5 := fun k hk => (HO5.out k hk).elim (A4 k) fun h => .inr (show w0.heap.size ≤ k by omega)
        have A6 := fun k hk => (HO6.out k hk).elim (A5 k) fun h => .inr (show w0.heap.size ≤ k by omega)
        have K3 : ButO u0.U w0 w3 := HS2.out.kp.andThen (butS_butO (O := fun k => k ∈ u.gs) HB3.out fun k hk => hk) fun i hi hlt => (A2 i (.inr (.inl hi))).resolve_right (by omega)
        have K3' : ButO u0.U w0 (w3.alloc (.cells (itA x) 61)) := K3.andThen (below_butO ((Below.refl _ _).alloc (Nat.le_refl _) _) (fun _ => False)) fun _ e _ => e.elim
        have K4 := K3'.andThen HB4.out fun i hi hlt => (A2 i (.inl (.inr (.inl hi)))).resolve_right (by omega)
        have K5 := K4.andThen HB5.out fun i hi hlt => hi.elim (fun h => (A4 i (.inr (.inr ⟨r, List.mem_cons_self, h⟩))).resolve_right (by omega)) fun h => absurd (HS2.out.nb i h) (by omega)
        have K6 := K5.andThen HB6.out fun i hi hlt => (A5 i (.inr (.inr ⟨_, List.mem_cons_self, hi⟩))).resolve_right (by omega)
        have hb7 : ButO (fun k => k = u.g) w6 (w6.setCell ⟨u.g, 8, none⟩ (.int .i64 (u.rel + 1))) := ⟨rfl, rfl, rfl, by simp [World.setCell], fun k _ hn => heap_setCell_other _ _ _ _ (fun e => hn (by simp only at e; exact e))⟩
        have K7 := K6.andThen hb7 fun i hi hlt => (A2 i (.inl (.inl hi))).resolve_right (by omega)
        have hn0 := HS2.out.n0
        have hwl : u.wt.length = wt.length + 1 := by rw [hwt]; rfl
        have hle := HS2.out.len
        have hn4' : n4 ≤ u.n0 + 1 := hn4
        have hpp : RowPl u.qs _ x.t := HP6.out
        rw [HS2.out.qs] at hpp
        rw [← HS2.out.g]
        refine ⟨_, zs5, Lib.hid ⟨hru, hout, HS2.out.g, HS2.out.hp, HS2.out.qs, ?_, ?_, ?_, ?_, ?_, HS2.out.hd, ?_, K7, A6, ?_⟩, rfl⟩
        · rw [HVAL.out]
          exact HNEXT.out V6 xs6 hpp
        · show n4 + wt.length ≤ 1048576
          omega
        · show wt.length ≤ 8192
          omega
        · show 0 ≤ u.rel + 1 ∧ u.rel + 1 + wt.length ≤ 8192
          omega
        · show u.rel + 1 + wt.length = u0.rel + u0.wt.length
          have := HS2.out.cnt
          omega
        · show n4 + wt.length ≤ u0.n0 + u0.wt.length
          have := HS2.out.nn
          omega
        · intro k hk
          rcases HV5.out with h | ⟨k2, h, h2⟩
          · exact HS2.out.nb k (by rw [← h]; exact hk)
          · rw [h] at hk
            injection hk with hk
            omega
end Go.Proofs.YtbpaepkcchpmbaaGreat
namespace Go.Proofs.YtbpaepkcchpmbaaGreat
theorem sitB_iff {s : Int} {x : It} : sitB s x = true ↔ x.s = s := decide_eq_true_iff
theorem lt4_time {x y : It} (h : lt4 y x = false) : x.t ≤ y.t := by rw [lt4_no] at h; omega
section
variable {qs : List Rq} {ys wt : List It} {l0 : Int} {L : Int → Int} {rows rest : List RD} {vals : List Rv} {r : RD} {x : It}
theorem filter_len_pos {s : Int} (hx : x.s = s) : (x :: wt).filter (sitB s) = x :: wt.filter (sitB s) := List.filter_cons_of_pos (sitB_iff.2 hx)
theorem filter_other {s : Int} (hx : x.s ≠ s) : (x :: wt).filter (sitB s) = wt.filter (sitB s) := List.filter_cons_of_neg (fun e => hx (sitB_iff.1 e))
theorem TelI.release (hmay : MayQs qs) (hy : YsOk ys) (h : TelI qs ys l0 L rows (x :: wt) vals) (hs : r.s = x.s) (hpl : RowPl qs r (L x.s)) (hrr : r.R = r.its) (hsr : r.its ++ (x :: wt).filter (sitB x.s) = ys.filter (sitB x.s))
    (hmem : ∀ q, q ∈ rest → q ∈ rows ∧ q.s ≠ x.s) (hall : ∀ q, q ∈ rows → q.s = x.s ∨ q ∈ rest) (hnd : rest.Pairwise fun a b => a.s ≠ b.s) {V : Value} {xs1 : List LX} (hp1 : RowPl qs ⟨r.s, r.g, V, r.L, r.its ++ [x], xs1, r.R ++ [x]⟩ x.t) :
    TelI qs ys l0 (updL L r.s x.t) (⟨r.s, r.g, V, r.L, r.its ++ [x], xs1, r.R ++ [x]⟩ :: rest) wt (vals ++ (r.xs.map LX.dat).flatMap (tellRv x.t)) := by
  have hself : updL L r.s x.t r.s = x.t := by unfold updL; rw [if_pos rfl]
  have hoth : ∀ σ, σ ≠ r.s → updL L r.s x.t σ = L σ := fun σ hσ => by unfold updL; rw [if_neg hσ]
  have hle : ∀ σ, L σ ≤ x.t := fun σ => h.hi σ x List.mem_cons_self
  have hsort := List.pairwise_cons.1 h.srt
  have hxs := filter_len_pos (wt := wt) (x := x) rfl
  rw [← hs] at hpl hsr
  have hst := told_step (l' := x.t) (vals := vals) (l0 := l0) hmay hy hpl (by rw [hrr]; exact hsr) (hle _) (fun y hy2 => by
    have := (List.mem_filter.1 hy2).1
    rcases List.mem_cons.1 this with rfl | h2
    · exact Int.le_refl _
    · exact lt4_time (hsort.1 y h2)) (h.lo _) h.val h.key
  refine ⟨List.pairwise_cons.2 ⟨fun q hq => ?_, hnd⟩, fun q hq => ?_, fun q hq => ?_, fun q hq => ?_, fun q hq => ?_, fun σ hσ => ?_, fun σ => ?_, fun σ y hy2 => ?_, hsort.2, (List.pairwise_cons.1 h.seq).2, hst.1, hst.2⟩
  · show r.s ≠ q.s
    rw [hs]; exact fun e => (hmem q hq).2 e.symm
  · rcases List.mem_cons.1 hq with rfl | hq
    · rw [hself]; exact hp1
    · rw [hoth q.s (by rw [hs]; exact (hmem q hq).2)]
      exact h.pl q (hmem q hq).1
  · rcases List.mem_cons.1 hq with rfl | hq
    · show r.R ++ [x] = r.its ++ [x]
      rw [hrr]
    · exact h.rr q (hmem q hq).1
  · rcases List.mem_cons.1 hq with rfl | hq
    · simp
    · exact h.ne q (hmem q hq).1
  · rcases List.mem_cons.1 hq with rfl | hq
    · show (r.its ++ [x]) ++ wt.filter (sitB r.s) = ys.filter (sitB r.s)
      rw [← hsr, hs, hxs, List.append_assoc]; rfl
    · have := h.sr q (hmem q hq).1
      rwa [filter_other fun e => (hmem q hq).2 e.symm] at this
  · have hσs : σ ≠ r.s := fun e => hσ _ List.mem_cons_self e.symm
    have := h.no σ fun q hq => by
      rcases hall q hq with e | hq
      · rw [e, ← hs]; exact fun e => hσs e.symm
      · exact hσ q (List.mem_cons_of_mem _ hq)
    rw [filter_other (by rw [← hs]; exact fun e => hσs e.symm)] at this
    rw [hoth σ hσs]
    exact this
  · by_cases c : σ = r.s
    · subst c; rw [hself]; have := h.lo r.s; have := hle r.s; omega
    · rw [hoth σ c]; exact h.lo σ
  · by_cases c : σ = r.s
    · subst c; rw [hself]; exact lt4_time (hsort.1 y hy2)
    · rw [hoth σ c]; exact h.hi σ y (List.mem_cons_of_mem _ hy2)
theorem telI_relH (hmay : MayQs qs) (hy : YsOk ys) (h64 : qs.length ≤ 64) (line : Int) : RelH qs line (fun rows wt vals => ∃ L, TelI qs ys l0 L rows wt vals ∧ ∀ σ, L σ ≤ line) := by
  intro rows x wt vals r rest hI hlt hs hor
  obtain ⟨L, h, hLl⟩ := hI
  have hup : ∀ s σ, updL L s x.t σ ≤ line := fun s σ => by
    unfold updL
    split
    · omega
    · exact hLl σ
  have hlen : ∀ its : List It, its ++ (x :: wt).filter (sitB x.s) = ys.filter (sitB x.s) → its.length ≤ 8191 := fun its e => by
    have e2 := congrArg List.length e
    rw [List.length_append, filter_len_pos (wt := wt) (x := x) rfl, List.length_cons] at e2
    have e3 := List.length_filter_le (sitB x.s) ys
    have := hy.len
    omega
  have hmany := h.many hmay hy h64
  rcases hor with hp | ⟨rfl, hne, gr, Lb, xs, rfl, hnew⟩
  · have hr : r ∈ rows := hp.mem_iff.2 List.mem_cons_self
    have hnd := (hp.pairwise_iff (R := fun a b : RD => a.s ≠ b.s) (fun {_ _} hab => Ne.symm hab)).1 h.nd
    have hnd2 := List.pairwise_cons.1 hnd
    have hpl := h.pl r hr
    have hsr := h.sr r hr
    rw [hs] at hpl hsr
    refine ⟨L x.s, hpl, h.hi _ x List.mem_cons_self, hlen _ hsr, by omega, fun V xs1 hp1 => ⟨_, TelI.release hmay hy h hs hpl (h.rr r hr) hsr (fun q hq => ⟨hp.mem_iff.2 (List.mem_cons_of_mem _ hq), fun e => hnd2.1 q hq (by rw [hs, e])⟩) (fun q hq => ?_) hnd2.2 hp1, hup _⟩⟩
    rcases List.mem_cons.1 (hp.mem_iff.1 hq) with rfl | h2
    · exact .inl hs
    · exact .inr h2
  · have hno := h.no x.s hne
    have hsr : ([] : List It) ++ (x :: wt).filter (sitB x.s) = ys.filter (sitB x.s) := hno.1
    have hpl : RowPl qs ⟨x.s, gr, .slice none 0 0, Lb, [], xs, []⟩ (L x.s) := RowPl.new hmay hnew
    exact ⟨L x.s, hpl, h.hi _ x List.mem_cons_self, by simp, by omega, fun V xs1 hp1 => ⟨_, TelI.release hmay hy h rfl hpl rfl hsr (fun q hq => ⟨hq, hne q hq⟩) (fun q hq => .inr hq) h.nd hp1, hup _⟩⟩
end
theorem most_at (xs : List LX) : mostTo xs xs.length = 0 ∨ ∃ x, x ∈ xs ∧ x.its.length = mostTo xs xs.length := by
  have key : ∀ (l : List Nat) (a : Nat), l.foldl max a = a ∨ l.foldl max a ∈ l := by
    intro l
    induction l with
    | nil => intro a; exact .inl rfl
    | cons z t ih =>
      intro a
      rw [List.foldl_cons]
      rcases ih (max a z) with h | h
      · rw [h]
        by_cases c : z ≤ a
        · left; omega
        · right; rw [show max a z = z by omega]; exact List.mem_cons_self
      · exact .inr (List.mem_cons_of_mem _ h)
  unfold mostTo
  rw [List.take_of_length_le (Nat.le_refl _)]
  rcases key (xs.map (·.its.length)) 0 with h | h
  · exact .inl h
  · obtain ⟨x, hx, e⟩ := List.mem_map.1 h
    exact .inr ⟨x, hx, e⟩
theorem item_lo {x : It} (h : itemB x = true) : -1099511627776 ≤ x.t := by
  unfold itemB at h
  simp only [Bool.and_eq_true] at h
  exact (wi_true h.2.1).1
theorem settle_part {qs : List Rq} {ys W : List It} {late m line : Int} {r : RD} (hmay : MayQs qs) (h0 : 0 < qs.length) (hy : YsOk ys) (hln : ∀ b, -1099511627776 < b → (line < b ↔ ¬ b ≤ m - late)) (hp : RowPl qs r line) (hrr : r.R = r.its) (e : r.its ++ W = ys.filter (sitB r.s)) (hW : ∀ x, x ∈ W → line ≤ x.t) :
    r.its.drop (r.its.length - mostTo r.xs r.xs.length) ++ W = (heldL (qsW qs) late m ys).filter (sitB r.s) := by
  obtain ⟨t1, t2, t3⟩ := rows_split hy e
  have hf := hmay.fit h0
  have hheld : ∀ x, x ∈ heldL (qsW qs) late m ys ↔ x ∈ ys ∧ ∃ p, p ∈ winsA (qsW qs) ys ∧ outM late m p = false ∧ x ∈ p.xs := fun x => held_mem hf hy.times hy.seqs
  have hwin : ∀ (p : Wn) (x : It), p ∈ winsA (qsW qs) ys → x ∈ p.xs → x ∈ ys ∧ x.s = p.s ∧ x.t < p.b ∧ (outM late m p = false ↔ line < p.b) := fun p x hp hx => by
    have h1 := winsA_time hf hy.times hp hx
    obtain ⟨i, q, e1, e2⟩ := winsA_qs.1 hp
    obtain ⟨h2, h3⟩ := winsQ_sub (qw_ok (hmay.at_ e1)) hy.times e2 hx
    have h4 := item_lo (hy.may x h2)
    refine ⟨h2, h3, h1.2, ?_⟩
    unfold outM
    rw [decide_eq_false_iff_not, hln p.b (by omega)]
  have hmemW : ∀ x, x ∈ r.its ++ W → x ∈ ys ∧ x.s = r.s := fun x hx => by
    rw [e, List.mem_filter] at hx
    exact ⟨hx.1, sitB_iff.1 hx.2⟩
  -- what waits is held
  have hWh : ∀ x, x ∈ W → x ∈ heldL (qsW qs) late m ys := fun x hx => by
    have hxy := (hmemW x (List.mem_append_right _ hx)).1
    obtain ⟨p, hp1, hp2⟩ := winsA_cover hf hy.times hxy
    have := hwin p x hp1 hp2
    have := hW x hx
    exact (hheld x).2 ⟨hxy, p, hp1, (by rw [(hwin p x hp1 hp2).2.2.2]; omega), hp2⟩
  -- what a row keeps
  have hRh : ∀ x, x ∈ r.its → (x ∈ heldL (qsW qs) late m ys ↔ ∃ l, l ∈ r.xs ∧ x ∈ l.its) := fun x hx => by
    have hxy := hmemW x (List.mem_append_left _ hx)
    have lane : ∀ (i : Nat) (l : LX), r.xs[i]? = some l → ∃ q : Rq, qs[i]? = some q ∧ (x ∈ l.its ↔ ∃ p, p ∈ winsQ i (qw q.q) ys ∧ p.s = r.s ∧ line < p.b ∧ x ∈ p.xs) := fun i l hl => by
      obtain ⟨q, e1, e2, e3, e4, e5, e6, e7, e8⟩ := hp.ln i l hl
      have hq := hmay.at_ e1
      refine ⟨q, e1, ?_⟩
      rw [hrr] at e7
      have := lane_held (k := (i : Int)) (qnOk hq) e7 (W := W) (fun y hy2 => ⟨(hmemW y (List.mem_append_right _ hy2)).2, hW y hy2⟩) t1 t3 hx
      show x ∈ l.ln.its ↔ _
      rw [this, e]
      constructor
      · rintro ⟨p, p1, p2, p3⟩
        have hps : p.s = r.s := by
          rw [← qw_eq] at p1
          obtain ⟨g1, g2⟩ := winsQ_sub (qw_ok hq) (times_filter hy.times _) p1 p3
          rw [← g2]; exact hxy.2
        exact ⟨p, (winsQ_ser (qw_ok hq) hy.times).2 (by rw [hps, qw_eq]; exact p1), hps, p2, p3⟩
      · rintro ⟨p, p1, hps, p2, p3⟩
        have := (winsQ_ser (qw_ok hq) hy.times).1 p1
        rw [hps, qw_eq] at this
        exact ⟨p, this, p2, p3⟩
    rw [hheld]
    constructor
    · rintro ⟨_, p, p1, p2, p3⟩
      obtain ⟨i, q, e1, e2⟩ := winsA_qs.1 p1
      have hw := hwin p x p1 p3
      have hi : i < r.xs.length := by rw [hp.len]; exact (List.getElem?_eq_some_iff.1 e1).1
      have hl : r.xs[i]? = some r.xs[i] := List.getElem?_eq_getElem hi
      obtain ⟨q', e1', hiff⟩ := lane i _ hl
      obtain rfl : q = q' := by rw [e1] at e1'; exact Option.some.inj e1'
      exact ⟨r.xs[i], List.getElem_mem hi, hiff.2 ⟨p, e2, by rw [← hw.2.1]; exact hxy.2, hw.2.2.2.1 p2, p3⟩⟩
    · rintro ⟨l, hl, hx2⟩
      obtain ⟨i, hi⟩ := List.getElem?_of_mem hl
      obtain ⟨q, e1, hiff⟩ := lane i l hi
      obtain ⟨p, p1, p2, p3, p4⟩ := hiff.1 hx2
      have hpA : p ∈ winsA (qsW qs) ys := winsA_qs.2 ⟨i, q, e1, p1⟩
      exact ⟨hxy.1, p, hpA, (hwin p x hpA p4).2.2.2.2 p3, p4⟩
  -- the longest lane
  obtain ⟨c, hc⟩ : ∃ c, r.its.length - mostTo r.xs r.xs.length = c := ⟨_, rfl⟩
  have hsuf : ∀ l, l ∈ r.xs → l.its <:+ r.its := fun l hl => by
    obtain ⟨i, hi⟩ := List.getElem?_of_mem hl
    obtain ⟨q, e1, e2, e3, e4, e5, e6, e7, e8⟩ := hp.ln i l hi
    exact e8
  have hD : ∀ x, x ∈ r.its.drop c ↔ ∃ l, l ∈ r.xs ∧ x ∈ l.its := fun x => by
    constructor
    · intro hx
      rcases most_at r.xs with h | ⟨l, hl, hle⟩
      · rw [h] at hc
        rw [← hc, Nat.sub_zero, List.drop_length] at hx
        cases hx
      · refine ⟨l, hl, ?_⟩
        have := List.suffix_iff_eq_drop.1 (hsuf l hl)
        rw [hle, hc] at this
        rw [this]; exact hx
    · rintro ⟨l, hl, hx⟩
      have h1 := mostTo_ge hl
      have h2 := List.suffix_iff_eq_drop.1 (hsuf l hl)
      rw [h2] at hx
      have h3 : r.its.length - l.its.length = c + (r.its.length - l.its.length - c) := by omega
      rw [h3, ← List.drop_drop] at hx
      exact List.mem_of_mem_drop hx
  rw [hc]
  have hsplit : (heldL (qsW qs) late m ys).filter (sitB r.s) = (r.its ++ W).filter (heldB (qsW qs) late m ys) := by
    rw [e]
    unfold heldL
    rw [List.filter_filter, List.filter_filter]
    exact List.filter_congr fun x _ => Bool.and_comm _ _
  have hB : ∀ x, x ∈ r.its ++ W → (heldB (qsW qs) late m ys x = true ↔ x ∈ heldL (qsW qs) late m ys) := fun x hx => by
    unfold heldL
    rw [List.mem_filter]
    exact ⟨fun h => ⟨(hmemW x hx).1, h⟩, fun h => h.2⟩
  rw [hsplit, List.filter_append]
  congr 1
  · have htd : r.its = r.its.take c ++ r.its.drop c := (List.take_append_drop _ _).symm
    have hnd : (r.its.take c ++ r.its.drop c).Nodup := by rw [← htd]; exact (List.nodup_append.1 t3).1
    conv => rhs; rw [htd]
    rw [List.filter_append, show (r.its.take c).filter (heldB (qsW qs) late m ys) = [] from List.filter_eq_nil_iff.2 fun x hx hh => by
      have hxi := List.mem_of_mem_take hx
      have := (hD x).2 ((hRh x hxi).1 ((hB x (List.mem_append_left _ hxi)).1 hh))
      exact (List.nodup_append.1 hnd).2.2 x hx x this rfl, List.nil_append]
    exact (List.filter_eq_self.2 fun x hx => by
      have hxi := List.mem_of_mem_drop hx
      exact (hB x (List.mem_append_left _ hxi)).2 ((hRh x hxi).2 ((hD x).1 hx))).symm
  · exact (List.filter_eq_self.2 fun x hx => (hB x (List.mem_append_right _ hx)).2 (hWh x hx)).symm
theorem LnI.cut {kd sz sl s ℓ : Int} {G R : List It} {l : Ln} (h : LnI kd sz sl s (G ++ R) ℓ l) (hs : l.its <:+ R) : LnI kd sz sl s R ℓ l := by
  obtain ⟨D, hD⟩ := hs
  refine ⟨fun x hx => h.ser x (List.mem_append_right _ hx), (List.pairwise_append.1 h.times).2.1, fun x hx => h.top x (List.mem_append_right _ hx), fun h2 => ?_, fun h2 => ?_⟩
  · have W := h.win h2
    obtain ⟨j, e1, e2, e3⟩ := W.its
    refine ⟨⟨j, ?_, e2, e3⟩, W.nx⟩
    rw [List.filter_append, ← hD, List.filter_append] at e1
    have hall : l.its.filter (fun x => decide (j * stepQ kd sz sl ≤ x.t)) = l.its := List.filter_eq_self.2 fun x hx => by
      have := (W.its).choose_spec
      have hx2 : x ∈ G.filter (fun x => decide (j * stepQ kd sz sl ≤ x.t)) ++ (D.filter (fun x => decide (j * stepQ kd sz sl ≤ x.t)) ++ l.its.filter (fun x => decide (j * stepQ kd sz sl ≤ x.t))) := by rw [← e1]; exact hx
      rw [List.mem_append, List.mem_append, List.mem_filter, List.mem_filter, List.mem_filter] at hx2
      rcases hx2 with h | h | h <;> exact h.2
    rw [hall] at e1
    have hl := congrArg List.length e1
    rw [List.length_append, List.length_append] at hl
    have hd : D.filter (fun x => decide (j * stepQ kd sz sl ≤ x.t)) = [] := List.length_eq_zero_iff.1 (by omega)
    rw [← hD, List.filter_append, hd, hall]; rfl
  · have S := h.ses h2
    refine ⟨fun hn x hx => S.none hn x (List.mem_append_right _ hx), fun hn => ?_⟩
    obtain ⟨R1, e1, e2, e3, e4⟩ := S.some_ hn
    refine ⟨D, hD.symm, e2, fun x hx => e3 x ?_, e4⟩
    rw [← hD, ← List.append_assoc] at e1
    have := List.append_cancel_right e1
    rw [← this]
    exact List.mem_append_right _ hx
theorem RowPl.reghost {qs : List Rq} {r : RD} {l : Int} (h : RowPl qs r l) : RowPl qs { r with R := r.its } l := by
  obtain ⟨G, hG⟩ := h.suf
  refine ⟨h.len, fun i x hx => ?_, fun x hx => h.its x (by rw [← hG]; exact List.mem_append_right _ hx), List.suffix_refl _⟩
  obtain ⟨q, e1, e2, e3, e4, e5, e6, e7, e8⟩ := h.ln i x hx
  rw [← hG] at e7
  exact ⟨q, e1, e2, e3, e4, e5, e6, e7.cut e8, e8⟩
end Go.Proofs.YtbpaepkcchpmbaaGreat
