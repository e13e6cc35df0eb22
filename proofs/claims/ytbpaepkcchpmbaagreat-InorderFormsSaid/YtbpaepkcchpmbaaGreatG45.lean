import Derived.Test.YtbpaepkcchpmbaaGreatG44
import Derived.Test.YtbpaepkcchpmbaaGreatG24
namespace Go.Proofs.YtbpaepkcchpmbaaGreat
open Go.RowKit
structure RowPl (qs : List Rq) (r : RD) (l : Int) : Prop where
  len : r.xs.length = qs.length
  ln : ∀ (i : Nat) (x : LX), r.xs[i]? = some x → ∃ q : Rq, qs[i]? = some q ∧ x.r.k = i ∧ x.r.q = q.q ∧ x.r.B = q.B ∧ x.r.d = q.d ∧ x.r.s = r.s ∧ LnI q.q.kind q.q.size q.q.slide r.s r.R l x.ln ∧ x.its <:+ r.its
  its : ∀ x, x ∈ r.R → itemB x = true ∧ x.s = r.s
  suf : r.its <:+ r.R
section
variable {w w' : World} {u : RuD} {r : RD} {rest : List RD}
def RuD.But (u : RuD) (r : RD) : Nat → Prop := fun k => u.U k ∧ ¬ r.U k
theorem RowPl.teQ {l : Int} (h : RuX w u) (hm : r ∈ u.rows) (hi : RowPl u.qs r l) (hmay : ∀ q : Rq, q ∈ u.qs → mayQ q.q.kind q.q.agg q.q.size q.q.slide q.q.bs q.q.rank = true) (hl : r.its.length ≤ 8192) : TeQ (u.But r) w r.U r.s r.R l r.xs := by
  have hx : ∀ x, x ∈ r.xs → ∃ (i : Nat) (q : Rq), u.qs[i]? = some q ∧ x.r.k = i ∧ x.r.q = q.q ∧ x.r.B = q.B ∧ x.r.d = q.d ∧ x.r.s = r.s ∧ LnI q.q.kind q.q.size q.q.slide r.s r.R l x.ln ∧ x.its <:+ r.its := fun x hx => by
    obtain ⟨i, hi2⟩ := List.getElem?_of_mem hx
    obtain ⟨q, hq⟩ := hi.ln i x hi2
    exact ⟨i, q, hq⟩
  have hown : ∀ (i : Nat) (q : Rq), u.qs[i]? = some q → OwnI w 0 (.slice q.B q.m q.d) q.q.bs ∧ q ∈ u.qs := fun i q hq => by
    obtain ⟨hlt, e⟩ := List.getElem?_eq_some_iff.1 hq
    subst e
    exact ⟨(h.frq.bnd i hlt).1, List.getElem_mem hlt⟩
  refine ⟨fun x hx1 => ?_, fun x hx1 => ?_, fun x hx1 ad had => ?_, fun x hx1 => ?_, fun x hx1 => ?_, hi.its, fun x hx1 => ?_, fun k hk => h.lt k hk.1, fun k hk => hk.2⟩
  · obtain ⟨i, q, e1, e2, e3, e4, e5, e6, e7, e8⟩ := hx x hx1
    rw [e3]; exact hmay q (hown i q e1).2
  · obtain ⟨i, q, e1, e2, e3, e4, e5, e6, e7, e8⟩ := hx x hx1
    rw [e3, e4]
    have ho := (hown i q e1).1.ints
    rw [ho.1]; exact ho
  · obtain ⟨i, q, e1, e2, e3, e4, e5, e6, e7, e8⟩ := hx x hx1
    have hQ : QuB u.qb u.qs ad.block := .inr ⟨q, (hown i q e1).2, by rw [← e4, had]; rfl⟩
    exact ⟨.inl (.inr (.inr hQ)), fun hr => (h.offR r hm _ hr).1 (.inr (.inr hQ))⟩
  · obtain ⟨i, q, e1, e2, e3, e4, e5, e6, e7, e8⟩ := hx x hx1
    exact e6
  · obtain ⟨i, q, e1, e2, e3, e4, e5, e6, e7, e8⟩ := hx x hx1
    rw [e3]; exact e7
  · obtain ⟨i, q, e1, e2, e3, e4, e5, e6, e7, e8⟩ := hx x hx1
    have := e8.length_le
    omega
theorem RuX.butIff (hm : r ∈ u.rows) (k : Nat) : u.But r k ∨ r.U k → u.U k := fun hk => by
  rcases hk with hk | hk
  · exact hk.1
  · exact .inr (.inr ⟨r, hm, hk⟩)
theorem RuX.newU (h : RuX w u) (e : u.rows = r :: rest) {r' : RD} (k : Nat) (hk : ({ u with rows := r' :: rest } : RuD).U k) : u.But r k ∨ r'.U k := by
  have hmr : r ∈ u.rows := by rw [e]; exact List.mem_cons_self
  have hd := h.dis
  rw [e] at hd
  rcases hk with hk | hk | ⟨q, hq, hk⟩
  · exact .inl ⟨.inl hk, fun hr => (h.offR r hmr k hr).1 hk⟩
  · exact .inl ⟨.inr (.inl hk), fun hr => (h.offR r hmr k hr).2 hk⟩
  · rcases List.mem_cons.1 hq with rfl | hq
    · exact .inr hk
    · exact .inl ⟨.inr (.inr ⟨q, by rw [e]; exact List.mem_cons_of_mem _ hq, hk⟩), fun hr => (List.pairwise_cons.1 hd).1 q hq k hr hk⟩
theorem RuX.told {line : Int} {V0 V : Value} {zs0 zs : List Rz} {n : Nat} {xs1 : List LX} (h : RuX w u) (e : u.rows = r :: rest) (hZ : OutZ u.U w V0 zs0) (ht : TeR (u.But r) w r.g r.L r.V r.its r.xs line V0 zs0 n V zs xs1 w') :
    RuX w' { u with rows := { r with xs := xs1 } :: rest } ∧ OutZ ({ u with rows := { r with xs := xs1 } :: rest } : RuD).U w' V zs := by
  refine ⟨h.setRow e (r' := { r with xs := xs1 }) rfl rfl ht.row ht.kp (fun k hk hu => ?_) fun k hk => (ht.own k hk).imp id fun e => e.1, ht.out.mono fun k _ hk => h.newU e (r' := { r with xs := xs1 }) k hk⟩
  rcases hk with hk | hk
  · exact hk
  · exact absurd hu (hZ.off k hk)
theorem RuX.pushed {y : It} {V Vo : Value} {zs : List Rz} {xs1 : List LX} (h : RuX w u) (e : u.rows = r :: rest) (hZ : OutZ u.U w Vo zs) (hr : RowX w' r.g V r.L (r.its ++ [y]) xs1) (hown : ∀ k, RowU r.g V r.L xs1 k → r.U k ∨ (w.heap.size ≤ k ∧ k < w'.heap.size)) (hb : ButO r.U w w') :
    RuX w' { u with rows := { r with V := V, its := r.its ++ [y], xs := xs1, R := r.R ++ [y] } :: rest } ∧ OutZ ({ u with rows := { r with V := V, its := r.its ++ [y], xs := xs1, R := r.R ++ [y] } :: rest } : RuD).U w' Vo zs := by
  have hmr : r ∈ u.rows := by rw [e]; exact List.mem_cons_self
  refine ⟨h.setRow e (r' := { r with V := V, its := r.its ++ [y], xs := xs1, R := r.R ++ [y] }) rfl rfl hr hb (fun k hk _ => hk) fun k hk => (hown k hk).imp id fun e => e.1, ?_⟩
  have h1 : OutZ (fun k => u.U k ∨ w.heap.size ≤ k) w Vo zs := hZ.mono fun k hk h2 => h2.resolve_right (by omega)
  have h2 := h1.butO hb fun k hk => .inl (.inr (.inr ⟨r, hmr, hk⟩))
  refine h2.mono fun k _ hk => ?_
  rcases h.newU e (r' := { r with V := V, its := r.its ++ [y], xs := xs1, R := r.R ++ [y] }) k hk with h3 | h3
  · exact .inl h3.1
  · rcases hown k h3 with h4 | h4
    · exact .inl (.inr (.inr ⟨r, hmr, h4⟩))
    · exact .inr h4.1
theorem tell_suf (k kd sz sl line : Int) (l : Ln) : (tellLn k kd sz sl line l).2.its <:+ l.its := by
  fun_induction tellLn k kd sz sl line l with
  | case1 l h ih => exact ih.trans (List.dropWhile_suffix _)
  | case2 l h => exact List.suffix_refl _
theorem dat_at {f : Lr × List It → Lr × List It} {xs xs1 : List LX} (hd : xs1.map LX.dat = (xs.map LX.dat).map f) {i : Nat} {x1 : LX} (hx : xs1[i]? = some x1) : ∃ x, xs[i]? = some x ∧ LX.dat x1 = f (LX.dat x) := by
  have h := congrArg (·[i]?) hd
  simp only [List.getElem?_map, hx, Option.map_some] at h
  cases hx2 : xs[i]? with
  | none => rw [hx2] at h; cases h
  | some x =>
    rw [hx2] at h
    exact ⟨x, rfl, by simpa using h⟩
theorem RowPl.told {qs : List Rq} {l line : Int} (hi : RowPl qs r l) (hmay : ∀ q : Rq, q ∈ qs → mayQ q.q.kind q.q.agg q.q.size q.q.slide q.q.bs q.q.rank = true) (hl : l ≤ line) {xs1 : List LX} (hd : xs1.map LX.dat = (r.xs.map LX.dat).map (tellD line)) : RowPl qs { r with xs := xs1 } line := by
  refine ⟨?_, fun i x1 hx1 => ?_, hi.its, hi.suf⟩
  · have := congrArg List.length hd
    simp only [List.length_map] at this
    exact this.trans hi.len
  · obtain ⟨x, hx, e⟩ := dat_at hd hx1
    obtain ⟨q, e1, e2, e3, e4, e5, e6, e7, e8⟩ := hi.ln i x hx
    have er : x1.r = x.r.nx (tellX line x.dat).2.a (tellX line x.dat).2.b := congrArg Prod.fst e
    have ei : x1.its = (tellX line x.dat).2.its := congrArg Prod.snd e
    have ht : tellX line x.dat = tellLn x.r.k q.q.kind q.q.size q.q.slide line x.ln := by
      unfold tellX LX.dat LX.ln
      rw [e3]
    refine ⟨q, e1, by rw [er]; exact e2, by rw [er]; exact e3, by rw [er]; exact e4, by rw [er]; exact e5, by rw [er]; exact e6, ?_, ?_⟩
    · have hq : q ∈ qs := List.mem_of_getElem? e1
      have hln : x1.ln = (tellX line x.dat).2 := by
        unfold LX.ln
        rw [er, ei]
        rfl
      rw [hln, ht]
      exact (lnI_tell (k := x.r.k) (qnOk (hmay q hq)) _ l x.ln (Nat.le_refl _) e7 hl).1
    · rw [ei, ht]
      exact (tell_suf _ _ _ _ _ _).trans e8
theorem RowPl.tells {qs : List Rq} {l line : Int} (hi : RowPl qs r l) (hmay : ∀ q : Rq, q ∈ qs → mayQ q.q.kind q.q.agg q.q.size q.q.slide q.q.bs q.q.rank = true) (hl : l ≤ line) {i : Nat} {x : LX} (hx : r.xs[i]? = some x) :
    ∃ q : Rq, qs[i]? = some q ∧ (∀ p, p ∈ (tellX line x.dat).1 ↔ p ∈ winsQ i (qwN q.q.kind q.q.size q.q.slide) r.R ∧ l < p.b ∧ p.b ≤ line) ∧ (tellX line x.dat).1.Pairwise fun p q => p.b < q.b := by
  obtain ⟨q, e1, e2, e3, e4, e5, e6, e7, e8⟩ := hi.ln i x hx
  have hq : q ∈ qs := List.mem_of_getElem? e1
  have ht : tellX line x.dat = tellLn x.r.k q.q.kind q.q.size q.q.slide line x.ln := by
    unfold tellX LX.dat LX.ln
    rw [e3]
  have h := (lnI_tell (k := x.r.k) (qnOk (hmay q hq)) _ l x.ln (Nat.le_refl _) e7 hl).2
  rw [ht, e2]
  rw [e2] at h
  exact ⟨q, e1, h.1, h.2⟩
theorem RowPl.pushed {qs : List Rq} {l : Int} {y : It} (hi : RowPl qs r l) (hmay : ∀ q : Rq, q ∈ qs → mayQ q.q.kind q.q.agg q.q.size q.q.slide q.q.bs q.q.rank = true) (hy : itemB y = true) (hs : y.s = r.s) (ht : y.t = l) {V : Value} {xs1 : List LX} (hd : xs1.map LX.dat = (r.xs.map LX.dat).map (pushD y)) :
    RowPl qs { r with V := V, its := r.its ++ [y], xs := xs1, R := r.R ++ [y] } l := by
  refine ⟨?_, fun i x1 hx1 => ?_, fun z hz => ?_, by
    obtain ⟨G, hG⟩ := hi.suf
    exact ⟨G, by rw [← hG, List.append_assoc]⟩⟩
  · have := congrArg List.length hd
    simp only [List.length_map] at this
    exact this.trans hi.len
  · obtain ⟨x, hx, e⟩ := dat_at hd hx1
    obtain ⟨q, e1, e2, e3, e4, e5, e6, e7, e8⟩ := hi.ln i x hx
    have er : x1.r = x.r.nx (first2 x.its.length x.r.q y.t x.r.a x.r.b).1 (first2 x.its.length x.r.q y.t x.r.a x.r.b).2 := congrArg Prod.fst e
    have ei : x1.its = x.its ++ [y] := congrArg Prod.snd e
    have hf := first2_push x.r.q x.ln y
    refine ⟨q, e1, by rw [er]; exact e2, by rw [er]; exact e3, by rw [er]; exact e4, by rw [er]; exact e5, by rw [er]; exact e6, ?_, ?_⟩
    · have hq : q ∈ qs := List.mem_of_getElem? e1
      have hln : x1.ln = x.ln.push q.q.kind q.q.size q.q.slide y := by
        rw [e3] at hf
        have ha := congrArg Prod.fst hf
        have hb := congrArg Prod.snd hf
        unfold LX.ln
        rw [er, ei, e3]
        show (⟨x.its ++ [y], (first2 x.its.length q.q y.t x.r.a x.r.b).1, (first2 x.its.length q.q y.t x.r.a x.r.b).2⟩ : Ln) = _
        have h1 : (first2 x.its.length q.q y.t x.r.a x.r.b).1 = (x.ln.push q.q.kind q.q.size q.q.slide y).a := ha.symm
        have h2 : (first2 x.its.length q.q y.t x.r.a x.r.b).2 = (x.ln.push q.q.kind q.q.size q.q.slide y).b := hb.symm
        rw [h1, h2]
        rfl
      rw [hln]
      exact e7.push (qnOk (hmay q hq)) ht hs
    · rw [ei]
      obtain ⟨G, hG⟩ := e8
      exact ⟨G, by rw [← hG, List.append_assoc]⟩
  · rcases List.mem_append.1 hz with hz | hz
    · exact hi.its z hz
    · rw [List.mem_singleton] at hz; subst hz; exact ⟨hy, hs⟩
theorem lnI_new {kd sz sl s l : Int} (hq : QnOk kd sz sl) : LnI kd sz sl s [] l ⟨[], 0, 0⟩ := by
  refine ⟨fun x hx => (by cases hx), List.Pairwise.nil, fun x hx => (by cases hx), fun hk => ⟨⟨(l + stepQ kd sz sl - sz) / stepQ kd sz sl, rfl, ?_, ?_⟩, fun y hy => (by cases hy)⟩, fun _ => ⟨fun _ x hx => (by cases hx), fun h => absurd rfl h⟩⟩
  · have h1 := hq.s1 hk
    have h2 := Int.lt_mul_ediv_self_add (x := l + stepQ kd sz sl - sz) (k := stepQ kd sz sl) (by omega)
    rw [Int.mul_comm] at h2
    omega
  · have h1 := hq.s1 hk
    have h2 := Int.mul_ediv_self_le (x := l + stepQ kd sz sl - sz) (k := stepQ kd sz sl) (by omega)
    rw [Int.mul_comm] at h2
    omega
theorem RowPl.new {qs : List Rq} {s l : Int} {gr L : Nat} {xs : List LX} (hmay : ∀ q : Rq, q ∈ qs → mayQ q.q.kind q.q.agg q.q.size q.q.slide q.q.bs q.q.rank = true) (h : NewL s qs xs) : RowPl qs ⟨s, gr, .slice none 0 0, L, [], xs, []⟩ l := by
  refine ⟨h.1, fun i x hx => ?_, fun x hx => (by cases hx), List.suffix_refl _⟩
  obtain ⟨q, e1, e2, e3⟩ := h.2 i x hx
  refine ⟨q, e1, by rw [e2], by rw [e2], by rw [e2], by rw [e2], by rw [e2], ?_, by rw [e3]; exact List.suffix_refl _⟩
  have hln : x.ln = ⟨[], 0, 0⟩ := by
    unfold LX.ln
    rw [e3, e2]
  rw [hln]
  exact lnI_new (qnOk (hmay q (List.mem_of_getElem? e1)))
theorem RowPl.puQ {l : Int} {y : It} (h : RuX w u) (hm : r ∈ u.rows) (hi : RowPl u.qs r l) (hmay : ∀ q : Rq, q ∈ u.qs → mayQ q.q.kind q.q.agg q.q.size q.q.slide q.q.bs q.q.rank = true) (hy : itemB y = true) (hs : y.s = r.s) (hl : r.its.length ≤ 8191) : PuQ w r.U y r.s r.xs := by
  have ht := hi.teQ h hm hmay (by omega)
  refine ⟨⟨hy, hs⟩, ht.q, ht.bs, fun x hx ad had => ⟨(ht.far x hx ad had).2, ht.e0 _ (ht.far x hx ad had)⟩, fun x hx z hz => ?_, fun x hx => ?_⟩
  · obtain ⟨i, hi2⟩ := List.getElem?_of_mem hx
    obtain ⟨q, e1, e2, e3, e4, e5, e6, e7, e8⟩ := hi.ln i x hi2
    exact hi.its z (hi.suf.subset (e8.subset hz))
  · obtain ⟨i, hi2⟩ := List.getElem?_of_mem hx
    obtain ⟨q, e1, e2, e3, e4, e5, e6, e7, e8⟩ := hi.ln i x hi2
    have := e8.length_le
    omega
theorem run_tell {l line : Int} {V0 : Value} {zs0 : List Rz} (h : RuX w u) (e : u.rows = r :: rest) (hi : RowPl u.qs r l) (hmay : ∀ q : Rq, q ∈ u.qs → mayQ q.q.kind q.q.agg q.q.size q.q.slide q.q.bs q.q.rank = true) (hl : l ≤ line) (hn : r.its.length ≤ 8192) (hZ : OutZ u.U w V0 zs0) (hz : zs0.length ≤ 536870912) :
    Calls Tryz.prog 78 #[.pointer (some ⟨r.g, 0, none⟩), .int .i64 line, V0] w fun e w' => ∃ V zs xs1, e = .returned V ∧ RuX w' { u with rows := { r with xs := xs1 } :: rest } ∧ OutZ ({ u with rows := { r with xs := xs1 } :: rest } : RuD).U w' V zs ∧ RowPl u.qs { r with xs := xs1 } line ∧
      zs.map Rz.val = zs0.map Rz.val ++ (r.xs.map LX.dat).flatMap (tellRv line) ∧ ButO (fun k => r.U k ∨ V0.ownBlock = some k) w w' ∧ (V.ownBlock = V0.ownBlock ∨ ∃ k, V.ownBlock = some k ∧ w.heap.size ≤ k) ∧ (∀ k, ({ u with rows := { r with xs := xs1 } :: rest } : RuD).U k → u.U k ∨ w.heap.size ≤ k) ∧ (∀ k, ({ r with xs := xs1 } : RD).U k → r.U k ∨ w.heap.size ≤ k) := by
  have hmr : r ∈ u.rows := by rw [e]; exact List.mem_cons_self
  have hlen : r.xs.length ≤ 64 := by rw [hi.len]; exact h.frq.len.2
  refine (rowtell_any (E := u.But r) (R := r.R) (h.row r hmr) (hi.teQ h hmr hmay hn) (hZ.mono fun k _ hk => RuX.butIff hmr k hk) hl hlen hz).mono ?_
  rintro en w' ⟨V, zs, xs1, he, ht⟩
  have hd : xs1.map LX.dat = (r.xs.map LX.dat).map (tellD line) := by
    have := ht.dat
    rw [List.take_of_length_le (by simp), List.drop_eq_nil_of_le (by simp), List.append_nil] at this
    exact this
  have htd := h.told e hZ ht
  refine ⟨V, zs, xs1, he, htd.1, htd.2, hi.told hmay hl hd, ?_, ht.kp, ht.vb, fun k hk => ?_, fun k hk => (ht.own k hk).imp id fun e => e.1⟩
  rotate_left
  · rcases h.newU e (r' := { r with xs := xs1 }) k hk with h1 | h1
    · exact .inl h1.1
    · exact (ht.own k h1).imp (fun e2 => RuX.butIff hmr k (.inr e2)) fun e2 => e2.1
  have := ht.told
  rw [List.take_of_length_le (by simp)] at this
  exact this
theorem run_push {l : Int} {y : It} {Vo : Value} {zs : List Rz} (h : RuX w u) (e : u.rows = r :: rest) (hi : RowPl u.qs r l) (hmay : ∀ q : Rq, q ∈ u.qs → mayQ q.q.kind q.q.agg q.q.size q.q.slide q.q.bs q.q.rank = true) (hy : itemB y = true) (hs : y.s = r.s) (ht : y.t = l) (hn : r.its.length ≤ 8191) (hZ : OutZ u.U w Vo zs) :
    Calls Tryz.prog 110 #[.pointer (some ⟨r.g, 0, none⟩), .agg #[.int .i64 y.s, .int .i64 y.t, .int .i64 y.q, .int .i64 y.v]] w fun e w' => e = .returned (.tuple #[]) ∧ ∃ V xs1, RuX w' { u with rows := { r with V := V, its := r.its ++ [y], xs := xs1, R := r.R ++ [y] } :: rest } ∧
      OutZ ({ u with rows := { r with V := V, its := r.its ++ [y], xs := xs1, R := r.R ++ [y] } :: rest } : RuD).U w' Vo zs ∧ RowPl u.qs { r with V := V, its := r.its ++ [y], xs := xs1, R := r.R ++ [y] } l ∧ ButO r.U w w' ∧ (∀ k, ({ u with rows := { r with V := V, its := r.its ++ [y], xs := xs1, R := r.R ++ [y] } :: rest } : RuD).U k → u.U k ∨ w.heap.size ≤ k) := by
  have hmr : r ∈ u.rows := by rw [e]; exact List.mem_cons_self
  have hlen : r.xs.length ≤ 64 := by rw [hi.len]; exact h.frq.len.2
  refine (rowpush_any r.g r.L r.V r.its r.xs y r.s w (h.row r hmr) (hi.puQ h hmr hmay hy hs hn) (by omega) (by omega)).mono ?_
  rintro en w' ⟨he, V, xs1, hr, hd, hown, hb⟩
  have hp := h.pushed e hZ hr hown hb
  refine ⟨he, V, xs1, hp.1, hp.2, hi.pushed hmay hy hs ht hd, hb, fun k hk => ?_⟩
  rcases h.newU e (r' := { r with V := V, its := r.its ++ [y], xs := xs1, R := r.R ++ [y] }) k hk with h1 | h1
  · exact .inl h1.1
  · exact (hown k h1).imp (fun e2 => RuX.butIff hmr k (.inr e2)) fun e2 => e2.1
end
end Go.Proofs.YtbpaepkcchpmbaaGreat
namespace Go.Proofs.YtbpaepkcchpmbaaGreat
open Go.RowKit
def RuD.rowed (u : RuD) (rows : List RD) (n : Nat) (D : DataW Unit) (m : Int → Option Nat) : RuD := { u with rows := rows, n0 := n, D := D, m := m }
set_option maxRecDepth 100000 in
theorem run_rowof {w : World} {u : RuD} {s : Int} {Vo : Value} {zs : List Rz} (h : RuX w u) (hs : 0 ≤ s ∧ s ≤ 1048575) (hn0 : u.n0 ≤ 1048576) (hZ : OutZ u.U w Vo zs) :
    Calls Tryz.prog 109 #[.pointer (some ⟨u.g, 0, none⟩), .int .i64 s] w fun e w' => ∃ (r : RD) (rest : List RD) (n : Nat) (D : DataW Unit) (m : Int → Option Nat),
      e = .returned (.pointer (some ⟨r.g, 0, none⟩)) ∧ RuX w' (u.rowed (r :: rest) n D m) ∧ OutZ (u.rowed (r :: rest) n D m).U w' Vo zs ∧ r.s = s ∧ n ≤ u.n0 + 1 ∧ ButO (fun k => k = u.mp) w w' ∧ (∀ k, (u.rowed (r :: rest) n D m).U k → u.U k ∨ w.heap.size ≤ k) ∧
      (u.rows.Perm (r :: rest) ∨ (rest = u.rows ∧ (∀ q, q ∈ u.rows → q.s ≠ s) ∧ ∃ gr L xs, r = ⟨s, gr, .slice none 0 0, L, [], xs, []⟩ ∧ NewL s u.qs xs)) := by
  cases hm : u.m s with
  | some gr =>
    obtain ⟨r, hr, e⟩ : ∃ r, r ∈ u.rows ∧ r.s = s := by
      refine Classical.byContradiction fun hc => ?_
      have := h.mOut s fun r hr e => hc ⟨r, hr, e⟩
      rw [hm] at this
      cases this
    have hg : r.g = gr := by
      have := h.mIn r hr
      rw [e, hm] at this
      injection this with this
      exact this.symm
    obtain ⟨A, B, hAB⟩ := List.append_of_mem hr
    have hp : u.rows.Perm (r :: (A ++ B)) := by rw [hAB]; exact List.perm_middle
    refine (rowof_some h.st rfl h.map hs hm).mono ?_
    rintro en w' ⟨rfl, rfl⟩
    have h2 := h.perm hp
    suffices hsub : ∀ k, (u.rowed (r :: (A ++ B)) u.n0 u.D u.m).U k → u.U k from
      ⟨r, A ++ B, u.n0, u.D, u.m, by rw [hg], h2, hZ.mono fun k _ hk => hsub k hk, e, by omega, below_butO (Below.refl _ _) _, fun k hk => .inl (hsub k hk), .inl hp⟩
    intro k hk
    rcases hk with hk | hk | ⟨q, hq, hk⟩
    · exact .inl hk
    · exact .inr (.inl hk)
    · exact .inr (.inr ⟨q, hp.mem_iff.2 hq, hk⟩)
  | none =>
    have hne : ∀ q, q ∈ u.rows → q.s ≠ s := fun q hq e => by
      have := h.mIn q hq
      rw [e, hm] at this
      cases this
    refine (rowof_new h.st (ruC_frC u) rfl h.map hn0 hs hm h.frq).mono ?_
    rintro en w' ⟨gr, L, xs, rfl, hrow, hnew, hmap, hU, hb⟩
    have h2 := h.addRow (r := ⟨s, gr, .slice none 0 0, L, [], xs, []⟩) hs hm hrow hmap hb hU
    suffices hsub : ∀ k, (u.rowed (⟨s, gr, .slice none 0 0, L, [], xs, []⟩ :: u.rows) (u.n0 + 1) (u.D.put (.int .i64 s) (ptrD (some gr))) (fun x => if x = s then some gr else u.m x)).U k → u.U k ∨ w.heap.size ≤ k by
      refine ⟨⟨s, gr, .slice none 0 0, L, [], xs, []⟩, u.rows, _, _, _, rfl, h2, ?_, rfl, Nat.le_refl _, hb, hsub, .inr ⟨rfl, hne, gr, L, xs, rfl, hnew⟩⟩
      have h3 : OutZ (fun k => u.U k ∨ w.heap.size ≤ k) w Vo zs := hZ.mono fun k hk h2 => h2.resolve_right (by omega)
      exact (h3.butO hb fun k hk => .inl (.inl (.inr (.inl hk)))).mono fun k _ hk => hsub k hk
    intro k hk
    rcases hk with hk | hk | ⟨q, hq, hk⟩
    · exact .inl (.inl hk)
    · exact .inl (.inr (.inl hk))
    · rcases List.mem_cons.1 hq with rfl | hq
      · exact .inr (hU k hk)
      · exact .inl (.inr (.inr ⟨q, hq, hk⟩))
end Go.Proofs.YtbpaepkcchpmbaaGreat
namespace Go.Proofs.YtbpaepkcchpmbaaGreat
open Go.RowKit
def RuD.heaped (u : RuD) (gs : List Nat) (wt : List It) : RuD := { u with gs := gs, wt := wt }
def RuD.counted (u : RuD) (rel : Int) : RuD := { u with rel := rel }
theorem run_pop {w : World} {u : RuD} {Vo : Value} {zs : List Rz} (h : RuX w u) (h0 : 0 < u.wt.length) (hn : u.wt.length ≤ 8192) (hZ : OutZ u.U w Vo zs) :
    Calls Tryz.prog 108 #[.pointer (some ⟨u.hp, 0, none⟩)] w fun e w' => e = .returned (.tuple #[itV (nthI u.wt 0), .int .i64 0]) ∧ RuX w' (u.heaped u.gs u.wt.tail) ∧ OutZ (u.heaped u.gs u.wt.tail).U w' Vo zs ∧ ButS u.gs w w' := by
  refine (pop_some h.hp h0 hn).mono ?_
  rintro e w' ⟨he, hp, hb⟩
  exact ⟨he, h.setHeap hb hp fun k hk => .inl hk, (hZ.butO (butS_butO (O := fun k => k ∈ u.gs) hb fun k hk => hk) fun k hk => .inr (.inl hk)), hb⟩
theorem RuX.count {w : World} {u : RuD} {Vo : Value} {zs : List Rz} (h : RuX w u) (hZ : OutZ u.U w Vo zs) (rel : Int) : RuX (w.setCell ⟨u.g, 8, none⟩ (.int .i64 rel)) (u.counted rel) ∧ OutZ (u.counted rel).U (w.setCell ⟨u.g, 8, none⟩ (.int .i64 rel)) Vo zs := by
  have hb : ButO (fun k => k = u.g) w (w.setCell ⟨u.g, 8, none⟩ (.int .i64 rel)) := ⟨rfl, rfl, rfl, by simp [World.setCell], fun k _ hn => heap_setCell_other _ _ _ _ (fun e => hn (by simp only at e; exact e))⟩
  exact ⟨h.setFront (mark := u.mark) (seq := u.seq) (rel := rel) (h.st.put 8 _) hb, hZ.butO hb fun k hk => .inl (.inl hk)⟩
end Go.Proofs.YtbpaepkcchpmbaaGreat
namespace Go.Proofs.YtbpaepkcchpmbaaGreat
open Go.RowKit
theorem RuX.delRow {w w' : World} {u : RuD} {r : RD} {rest : List RD} {n' : Nat} {D' : DataW Unit} (h : RuX w u) (e : u.rows = r :: rest) (hm : MapF w' u.mp n' D' (fun x => if x = r.s then none else u.m x)) (hb : ButO (fun k => k = u.mp) w w') :
    RuX w' (u.rowed rest n' D' fun x => if x = r.s then none else u.m x) := by
  obtain ⟨hgm, hgq⟩ := h.gNe
  have hmt : ∀ q, q ∈ rest → q ∈ u.rows := fun q hq => by rw [e]; exact List.mem_cons_of_mem _ hq
  have hd := h.dis
  have hn := h.nd
  rw [e] at hd hn
  have hn1 := (List.pairwise_cons.1 hn).1
  refine ⟨(hb.other u.g h.st.lt hgm).trans h.st, h.frq.same fun k e => hb.other k (h.frq.lt k e) (hgq k e).2, h.hp.same (fun k hk => hb.other k (h.hp.lt k hk) fun e => h.offG k hk (.inr (.inl e))) hb.size, hm, fun q hq => ?_, fun s hs2 => ?_, fun q hq => ?_, fun q hq => h.ser q (hmt q hq),
    (List.pairwise_cons.1 hn).2, (List.pairwise_cons.1 hd).2, h.offG, fun q hq => h.offR q (hmt q hq)⟩
  · show (if q.s = r.s then none else u.m q.s) = _
    rw [if_neg fun e2 => hn1 q hq e2.symm]
    exact h.mIn q (hmt q hq)
  · show (if s = r.s then none else u.m s) = none
    by_cases hs : s = r.s
    · rw [if_pos hs]
    · rw [if_neg hs]
      refine h.mOut s fun q hq => ?_
      rw [e] at hq
      rcases List.mem_cons.1 hq with rfl | hq
      · exact fun e2 => hs e2.symm
      · exact hs2 q hq
  · exact (h.row q (hmt q hq)).same hb.size fun k hk => hb.other k ((h.row q (hmt q hq)).lt k hk) fun e => (h.offR q (hmt q hq) k hk).1 (.inr (.inl e))
theorem max_ge : ∀ (l : List Nat) (a : Nat), a ≤ l.foldl max a ∧ ∀ y, y ∈ l → y ≤ l.foldl max a
  | [], a => ⟨Nat.le_refl _, fun y h => by cases h⟩
  | z :: t, a => by
    obtain ⟨h1, h2⟩ := max_ge t (max a z)
    refine ⟨by rw [List.foldl_cons]; omega, fun y hy => ?_⟩
    rw [List.foldl_cons]
    rcases List.mem_cons.1 hy with rfl | hy
    · omega
    · exact h2 y hy
theorem mostTo_ge {xs : List LX} {x : LX} (h : x ∈ xs) : x.its.length ≤ mostTo xs xs.length := by
  unfold mostTo
  rw [List.take_of_length_le (Nat.le_refl _)]
  exact (max_ge _ 0).2 _ (List.mem_map.2 ⟨x, h, rfl⟩)
theorem RowPl.settled {qs : List Rq} {r : RD} {l : Int} (hi : RowPl qs r l) {V : Value} : RowPl qs { r with V := V, its := r.its.drop (r.its.length - mostTo r.xs r.xs.length) } l := by
  refine ⟨hi.len, fun i x hx => ?_, hi.its, (List.drop_suffix _ _).trans hi.suf⟩
  obtain ⟨q, e1, e2, e3, e4, e5, e6, e7, e8⟩ := hi.ln i x hx
  refine ⟨q, e1, e2, e3, e4, e5, e6, e7, ?_⟩
  have hm : x.its.length ≤ mostTo r.xs r.xs.length := mostTo_ge (List.mem_of_getElem? hx)
  obtain ⟨G, hG⟩ := e8
  have hl : r.its.length = G.length + x.its.length := by rw [← hG, List.length_append]
  show x.its <:+ r.its.drop (r.its.length - mostTo r.xs r.xs.length)
  refine ⟨G.drop (r.its.length - mostTo r.xs r.xs.length), ?_⟩
  rw [← List.drop_append_of_le_length (by omega), hG]
end Go.Proofs.YtbpaepkcchpmbaaGreat
namespace Go.Proofs.YtbpaepkcchpmbaaGreat
open Go.RowKit
theorem run_ldHp {g k j : Nat} {w : World} (h : w.cell? ⟨g, k, none⟩ = some (.pointer (some ⟨j, 0, none⟩))) : (Instr.loadAt 101 (.pointer (some ⟨g, k, none⟩))).run Tryz.prog w = .ok (.pointer (some ⟨j, 0, none⟩)) w := by simp [go_sem, h, Instr.loadAt]
def rfe1D : List (Option Tmp) := [some 6, some 7, some 8, some 9, some 10, some 11, some 12, some 13, some 14, some 15, some 16, some 17, some 18, some 19, some 20, some 5]
def rfe1F (g hp n cx : Nat) (rel : Int) (X : Option Addr) (_gs : List Nat) (xs : List It) (_cs : Array Value) : List Fact := [isV (.pointer (some ⟨g, 0, none⟩)), isV (.pointer (some ⟨g, 0, none⟩)), isV (.pointer (some ⟨g, 0, none⟩)), isV (.pointer (some ⟨g, 0, none⟩)), isV (.pointer (some ⟨g, 0, none⟩)), isV (.pointer (some ⟨g, 8, none⟩)), isV (.int .i64 rel), isV (.pointer (some ⟨g, 0, none⟩)), isV (.pointer (some ⟨g, 0, none⟩)), isV (.pointer (some ⟨g, 6, none⟩)), isV (.pointer (some ⟨hp, 0, none⟩)), isV (.int .i64 (((xs.length : Nat) : Int))), isV (.int .i64 (rel + (((xs.length : Nat) : Int)))), isV (.slice X n cx)]
theorem rfe1F_mono (g hp n cx : Nat) (rel : Int) (X : Option Addr) (gs : List Nat) (xs : List It) (cs : Array Value) : ∀ φ ∈ rfe1F g hp n cx rel X gs xs cs, Mono φ := by
  unfold rfe1F
  refine monos_cons (mono_isV _) ?_
  refine monos_cons (mono_isV _) ?_
  refine monos_cons (mono_isV _) ?_
  refine monos_cons (mono_isV _) ?_
  refine monos_cons (mono_isV _) ?_
  refine monos_cons (mono_isV _) ?_
  refine monos_cons (mono_isV _) ?_
  refine monos_cons (mono_isV _) ?_
  refine monos_cons (mono_isV _) ?_
  refine monos_cons (mono_isV _) ?_
  refine monos_cons (mono_isV _) ?_
  refine monos_cons (mono_isV _) ?_
  refine monos_cons (mono_isV _) ?_
  refine monos_cons (mono_isV _) ?_
  exact monos_nil
structure rfe1S (g hp n cx : Nat) (rel : Int) (X : Option Addr) (gs : List Nat) (xs : List It) (cs : Array Value) (a0 : Act) (w0 : World) : Prop where
  size : a0.tmps.size = 30
  v0 : a0.tmps.getD 0 undef = .pointer (some ⟨g, 0, none⟩)
  v1 : a0.tmps.getD 1 undef = .slice X n cx
  st : Has w0 g UT cs
  c6 : cs[6]? = some (.pointer (some ⟨hp, 0, none⟩))
  c8 : cs[8]? = some (.int .i64 rel)
  hh : HpS w0 gs hp 8192 xs
  hr : 0 ≤ rel ∧ rel ≤ 8192
  hl : xs.length ≤ 8192
section
variable {g hp n cx : Nat} {rel : Int} {X : Option Addr} {gs : List Nat} {xs : List It} {cs : Array Value} {a0 : Act} {w0 : World} (S : rfe1S g hp n cx rel X gs xs cs a0 w0)
include S
set_option maxRecDepth 100000 in
set_option maxHeartbeats 8000000 in
theorem rfe1_ok : AllOps (fun j o => ∀ (a : Act) (w : World), Below w0.heap.size w0 w → FrD (rfe1D.take 14) a0 a → needs rfe1D (rfe1F g hp n cx rel X gs xs cs) a w o.after.toList → StepD Tryz.prog rfe1D (factAt (rfe1F g hp n cx rel X gs xs cs) j) o a w) 0 ((opsOf 1 Tryz.f52).take 14) := by
  simp only [opsOf, Tryz.f52, opsAt, Option.bind, Option.or, Option.getD, reduceCtorEq, if_true, if_false]
  refine ⟨?_, ?_⟩
  · intro _a _w _hB hF _hd
    exact step_move (guard_none rfl) rfl _ rfl ((hF.other 0 rfl).trans S.v0)
  refine ⟨?_, ?_⟩
  · intro a _w _hB _hF hd
    have h6 : a.tmps.getD 6 undef = .pointer (some ⟨g, 0, none⟩) := hd.1 rfl
    exact rf_nilck (guard_none rfl) rfl _ rfl _ h6 rfl
  refine ⟨?_, ?_⟩
  · intro a _w _hB _hF hd
    have h7 : a.tmps.getD 7 undef = .pointer (some ⟨g, 0, none⟩) := hd.1 rfl
    exact rf_faddr (guard_none rfl) rfl _ _ _ rfl _ _ 0 _ h7 (by omega) (fun _ _ => by kernel_rfl) rfl
  refine ⟨?_, ?_⟩
  · intro _a _w _hB hF _hd
    exact step_move (guard_none rfl) rfl _ rfl ((hF.other 0 rfl).trans S.v0)
  refine ⟨?_, ?_⟩
  · intro a _w _hB _hF hd
    have h9 : a.tmps.getD 9 undef = .pointer (some ⟨g, 0, none⟩) := hd.1 rfl
    exact rf_nilck (guard_none rfl) rfl _ rfl _ h9 rfl
  refine ⟨?_, ?_⟩
  · intro a _w _hB _hF hd
    have h10 : a.tmps.getD 10 undef = .pointer (some ⟨g, 0, none⟩) := hd.1 rfl
    exact rf_faddr (guard_none rfl) rfl _ _ _ rfl _ _ 8 _ h10 (by omega) (fun _ _ => by kernel_rfl) rfl
  refine ⟨?_, ?_⟩
  · intro a _w hB _hF hd
    have h11 : a.tmps.getD 11 undef = .pointer (some ⟨g, 8, none⟩) := hd.1 rfl
    exact rf_loadi (guard_none rfl) rfl _ rfl _ _ h11 _ ((Has.cell (S.st.below hB S.st.lt) 8).trans S.c8) rfl
  refine ⟨?_, ?_⟩
  · intro _a _w _hB hF _hd
    exact step_move (guard_none rfl) rfl _ rfl ((hF.other 0 rfl).trans S.v0)
  refine ⟨?_, ?_⟩
  · intro a _w _hB _hF hd
    have h13 : a.tmps.getD 13 undef = .pointer (some ⟨g, 0, none⟩) := hd.1 rfl
    exact rf_nilck (guard_none rfl) rfl _ rfl _ h13 rfl
  refine ⟨?_, ?_⟩
  · intro a _w _hB _hF hd
    have h14 : a.tmps.getD 14 undef = .pointer (some ⟨g, 0, none⟩) := hd.1 rfl
    exact rf_faddr (guard_none rfl) rfl _ _ _ rfl _ _ 6 _ h14 (by omega) (fun _ _ => by kernel_rfl) rfl
  refine ⟨?_, ?_⟩
  · intro a _w hB _hF hd
    have h15 : a.tmps.getD 15 undef = .pointer (some ⟨g, 6, none⟩) := hd.1 rfl
    exact rf_load1 (guard_none rfl) rfl _ _ rfl _ _ h15 (run_ldHp ((Has.cell (S.st.below hB S.st.lt) 6).trans S.c6)) rfl
  refine ⟨?_, ?_⟩
  · intro a _w hB _hF hd
    have h16 : a.tmps.getD 16 undef = .pointer (some ⟨hp, 0, none⟩) := hd.1 rfl
    refine step_call (guard_none rfl) rfl _ _ (rf_call_run Tryz.func71 (by kernel_rfl) (by kernel_rfl) _ _ rfl) ?_
    simp only [List.map_toArray, List.map_cons, List.map_nil, Act.eval, h16]
    exact (hlen_any (S.hh.below hB)).mono (by rintro e w1 ⟨rfl, rfl⟩; exact ⟨_, rfl, Below.refl _ _, rfl⟩)
  refine ⟨?_, ?_⟩
  · intro a _w _hB _hF hd
    have h12 : a.tmps.getD 12 undef = .int .i64 rel := hd.1 rfl
    have h17 : a.tmps.getD 17 undef = .int .i64 (((xs.length : Nat) : Int)) := hd.2.1 rfl
    exact rf_add (guard_none rfl) rfl _ _ rfl _ _ h12 h17 (by have := S.hr; have := S.hl; omega) (by have := S.hr; have := S.hl; omega) rfl
  refine ⟨?_, ?_⟩
  · intro _a _w _hB hF _hd
    exact step_move (guard_none rfl) rfl _ rfl ((hF.other 1 rfl).trans S.v1)
  trivial
theorem rfe1_any {Q : Exit → Act → World → Prop} {l : List Oper} (hl : opsOf 1 Tryz.f52 = l) (hend : ∀ w : World, Below w0.heap.size w0 w → wpList Tryz.prog l.toArray Q (l.drop 14) (putAll a0 [(6, .pointer (some ⟨g, 0, none⟩)), (7, .pointer (some ⟨g, 0, none⟩)), (8, .pointer (some ⟨g, 0, none⟩)), (9, .pointer (some ⟨g, 0, none⟩)), (10, .pointer (some ⟨g, 0, none⟩)), (11, .pointer (some ⟨g, 8, none⟩)), (12, .int .i64 rel), (13, .pointer (some ⟨g, 0, none⟩)), (14, .pointer (some ⟨g, 0, none⟩)), (15, .pointer (some ⟨g, 6, none⟩)), (16, .pointer (some ⟨hp, 0, none⟩)), (17, .int .i64 (((xs.length : Nat) : Int))), (18, .int .i64 (rel + (((xs.length : Nat) : Int)))), (19, .slice X n cx)]) w) :
    (Code.region 1 l.toArray true).wp Tryz.prog Q a0 w0 := by
  subst hl
  refine region_head2 (rfe1F g hp n cx rel X gs xs cs) rfe1D 14 30 S.size rfl (by kernel_rfl) (by kernel_rfl) (by kernel_rfl) (rfe1F_mono _ _ _ _ _ _ _ _ _) (rfe1_ok S) fun a w hB hF h => ?_
  have hv : valsAre a [(6, .pointer (some ⟨g, 0, none⟩)), (7, .pointer (some ⟨g, 0, none⟩)), (8, .pointer (some ⟨g, 0, none⟩)), (9, .pointer (some ⟨g, 0, none⟩)), (10, .pointer (some ⟨g, 0, none⟩)), (11, .pointer (some ⟨g, 8, none⟩)), (12, .int .i64 rel), (13, .pointer (some ⟨g, 0, none⟩)), (14, .pointer (some ⟨g, 0, none⟩)), (15, .pointer (some ⟨g, 6, none⟩)), (16, .pointer (some ⟨hp, 0, none⟩)), (17, .int .i64 (((xs.length : Nat) : Int))), (18, .int .i64 (rel + (((xs.length : Nat) : Int)))), (19, .slice X n cx)] := by
    refine ⟨?_, ?_, ?_, ?_, ?_, ?_, ?_, ?_, ?_, ?_, ?_, ?_, ?_, ?_, trivial⟩
    · exact h 0 (some 6) (by omega) rfl
    · exact h 1 (some 7) (by omega) rfl
    · exact h 2 (some 8) (by omega) rfl
    · exact h 3 (some 9) (by omega) rfl
    · exact h 4 (some 10) (by omega) rfl
    · exact h 5 (some 11) (by omega) rfl
    · exact h 6 (some 12) (by omega) rfl
    · exact h 7 (some 13) (by omega) rfl
    · exact h 8 (some 14) (by omega) rfl
    · exact h 9 (some 15) (by omega) rfl
    · exact h 10 (some 16) (by omega) rfl
    · exact h 11 (some 17) (by omega) rfl
    · exact h 12 (some 18) (by omega) rfl
    · exact h 13 (some 19) (by omega) rfl
  rw [frame_is hF _ hv (by rfl) (by rfl)]
  exact hend w hB
end
end Go.Proofs.YtbpaepkcchpmbaaGreat
