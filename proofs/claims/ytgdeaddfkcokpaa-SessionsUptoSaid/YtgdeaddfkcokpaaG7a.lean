/-
  Plain facts: what is joined of parts that fit fits; what one item more makes of sessions that may be. Rows of sessions and of parts that grow beside one another.
  Walk: the reference's addSession: one item more.
  Walk: the reference's addSession, the walk itself (written by gen/sesas.py).
-/
import Derived.Test.YtgdeaddfkcokpaaG6f
import Derived.Test.YtgdeaddfkcokpaaG7d
import Derived.Test.YtgdeaddfkcokpaaROne
import Derived.BigQuiet
namespace Go.Proofs.Ytgdeaddfkcokpaa
open Go.RowKit

theorem add_two_fit {bs : List Int} {σ : Int} {o a : Ac} (ho : PartOk bs σ o) (ha : PartOk bs σ a) (hn : o.n + a.n ≤ 8192) : PartOk bs σ (addAc o a) := by
  obtain ⟨ho, h0, hs⟩ := ho
  obtain ⟨ha, h0', hs'⟩ := ha
  simp only [fitB, Bool.and_eq_true] at ho ha
  obtain ⟨n1, g1, r1⟩ := ho
  obtain ⟨n2, g2, r2⟩ := ha
  have hg := of_decide_eq_true g1
  have hg2 := of_decide_eq_true g2
  have hw := wi_true n1
  have hw2 := wi_true n2
  have hl : o.h.length = a.h.length := by have := hg.1; have := hg2.1; omega
  rw [if_neg h0] at r1
  rw [if_neg h0'] at r2
  simp only [Bool.and_eq_true] at r1 r2
  have hE := of_decide_eq_true r1.1
  have hV := of_decide_eq_true r1.2
  have hE2 := of_decide_eq_true r2.1
  have hV2 := of_decide_eq_true r2.2
  have e2 : histB (addAc o a) (bs.length + 1) = true := by
    refine decide_eq_true ⟨by simpa [addAc] using hg.1, fun i hi => ?_, ?_⟩
    · have hi' : i < o.h.length := by simpa [addAc] using hi
      have e : nth (addAc o a).h i = nth o.h i + nth a.h i := nth_range_map _ _ hi'
      have t1 := nth_le_isum (h := o.h) (fun i hi => (hg.2.1 i hi).1) hi'
      have t2 := nth_le_isum (h := a.h) (fun i hi => (hg2.2.1 i hi).1) (i := i) (by omega)
      have a1 := (hg.2.1 i hi').1
      have a2 := (hg2.2.1 i (by omega)).1
      rw [e]
      have := hg.2.2; have := hg2.2.2; omega
    · have := isum_range_add o.h a.h hl
      show isum ((List.range o.h.length).map fun i => nth o.h i + nth a.h i) = o.n + a.n
      rw [this, hg.2.2, hg2.2.2]
  have e1 : wi (addAc o a).n 0 8192 = true := wi_mk (by simp only [addAc]; omega)
  have en : ¬ (addAc o a).n = 0 := by simp only [addAc]; omega
  have ef : (addAc o a).f = pick (beforeB a.f o.f) a.f o.f := by simp only [addAc, h0, if_false]
  have el : (addAc o a).l = pick (beforeB a.l o.l) o.l a.l := by simp only [addAc, h0, if_false]
  have emn : (addAc o a).mn = min o.mn a.mn := by simp only [addAc, h0, if_false]
  have emx : (addAc o a).mx = max o.mx a.mx := by simp only [addAc, h0, if_false]
  have es : (addAc o a).s = o.s + a.s := rfl
  have enn : (addAc o a).n = o.n + a.n := rfl
  have b1 := before_no hE.2.2.2
  have b2 := before_no hE2.2.2.2
  have e3 : endsB (addAc o a) = true := decide_eq_true (by
    rw [ef, el]
    cases h6 : beforeB a.f o.f <;> cases h7 : beforeB a.l o.l <;> simp only [pick, if_true, if_false, Bool.false_eq_true]
    · have c6 := before_no h6
      have c7 := before_no h7
      exact ⟨hE.1, hE2.2.1, by rw [hs, ← hE2.2.2.1, hs'], decide_eq_false (by omega)⟩
    · exact hE
    · exact hE2
    · have c6 := before_yes h6
      have c7 := before_yes h7
      exact ⟨hE2.1, hE.2.1, by rw [hs', ← hE.2.2.1, hs], decide_eq_false (by omega)⟩)
  have e4 : valsB (addAc o a) = true := decide_eq_true (by
    rw [ef, el, emn, emx, es, enn]
    have m1 : o.n * min o.mn a.mn ≤ o.n * o.mn := Int.mul_le_mul_of_nonneg_left (by omega) hw.1
    have m2 : o.n * o.mx ≤ o.n * max o.mx a.mx := Int.mul_le_mul_of_nonneg_left (by omega) hw.1
    have m3 : a.n * min o.mn a.mn ≤ a.n * a.mn := Int.mul_le_mul_of_nonneg_left (by omega) hw2.1
    have m4 : a.n * a.mx ≤ a.n * max o.mx a.mx := Int.mul_le_mul_of_nonneg_left (by omega) hw2.1
    rw [Int.add_mul, Int.add_mul]
    cases h6 : beforeB a.f o.f <;> cases h7 : beforeB a.l o.l <;> simp only [pick, if_true, if_false, Bool.false_eq_true] <;> omega)
  refine ⟨by unfold fitB; rw [e1, e2, e3, e4, if_neg en]; rfl, en, ?_⟩
  rw [ef]
  cases beforeB a.f o.f <;> simp [pick, hs, hs']
theorem jf_ok {bs : List Int} {σ : Int} : ∀ (P : List Ac) (z : Ac), PartOk bs σ z → (∀ q, q ∈ P → PartOk bs σ q) → z.n + totalA P ≤ 8192 → PartOk bs σ (JF z P)
  | [], z, hz, _, _ => hz
  | p :: P, z, hz, h, ht => by
    have hp := h p (by simp)
    have hp0 := (part_at hp).1
    have hrest := total_nonneg P fun q hq => (part_at (h q (by simp [hq]))).1
    have ht2 : z.n + (p.n + totalA P) ≤ 8192 := ht
    rw [jf_cons hp0]
    refine jf_ok P _ (add_two_fit hz hp (by omega)) (fun q hq => h q (by simp [hq])) ?_
    show z.n + p.n + totalA P ≤ 8192
    omega
theorem join_parts_ok {bs : List Int} {σ : Int} {P : List Ac} (hne : P ≠ []) (h : ∀ q, q ∈ P → PartOk bs σ q) (ht : totalA P ≤ 8192) : PartOk bs σ (joinAc bs P) := by
  match P, hne with
  | p :: P, _ =>
    have hp := part_at (h p (by simp))
    rw [join_cons P ⟨hp.1, hp.2.1, hp.2.2.2⟩]
    exact jf_ok P p (h p (by simp)) (fun q hq => h q (by simp [hq])) ht
/-- Sessions among which an item may come. -/
def SesF (bs : List Int) (σ : Int) (ss : List Se) : Prop := ∀ s, s ∈ ss → PartOk bs σ s.a ∧ s.f = s.a.f.t ∧ s.l = s.a.l.t
theorem sesF_of {g : Int} {bs : List Int} {σ : Int} {ss : List Se} (h : SesOk g bs σ ss) : SesF bs σ ss := fun s hs => by
  obtain ⟨a1, a2, a3, a4, a5⟩ := h.fit s hs
  exact ⟨⟨a1, a2, a5⟩, a3, a4⟩
theorem sesF_bd {bs : List Int} {σ : Int} {ss : List Se} (h : SesF bs σ ss) {i : Nat} (hi : i < ss.length) : (-1099511627776 ≤ (nthE ss i).f ∧ (nthE ss i).f ≤ 1099511627776) ∧ (-1099511627776 ≤ (nthE ss i).l ∧ (nthE ss i).l ≤ 1099511627776) := by
  obtain ⟨a1, a2, a3⟩ := h _ (nthE_mem hi)
  have := part_at a1
  rw [a2, a3]
  omega
theorem sesF_parts {bs : List Int} {σ : Int} {g : Int} {x : It} {ss : List Se} (h : SesF bs σ ss) (hx : itemB x = true) (hs : x.s = σ) : ∀ q, q ∈ partE g x ss ++ [oneAc x bs] → PartOk bs σ q := fun q hq => by
  rcases List.mem_append.1 hq with hq | hq
  · obtain ⟨s, hm, rfl⟩ := List.mem_map.1 hq
    exact (h s (List.mem_filter.1 hm).1).1
  · simp only [List.mem_singleton] at hq
    subst hq
    exact ⟨one_fit hx, by simp only [oneAc]; decide, hs⟩
theorem oneE_total {bs : List Int} {σ : Int} {g : Int} {x : It} {ss : List Se} (h : SesF bs σ ss) (hx : itemB x = true) (hs : x.s = σ) : (oneE g bs x ss).n = totalA (partE g x ss ++ [oneAc x bs]) :=
  sum_n bs _ fun q hq => (part_at (sesF_parts h hx hs q hq)).1
theorem sesF_add {bs : List Int} {σ : Int} {g : Int} {x : It} {ss : List Se} (h : SesF bs σ ss) (hx : itemB x = true) (hs : x.s = σ) (hn : (oneE g bs x ss).n ≤ 8192) : SesF bs σ (addE g bs x ss) := fun s hm => by
  rcases mem_addE.1 hm with ⟨h1, _⟩ | rfl
  · exact h s h1
  · have ht := oneE_total (g := g) h hx hs
    exact ⟨join_parts_ok (by simp) (sesF_parts h hx hs) (by omega), rfl, rfl⟩
theorem parts_tog {bs : List Int} {σ : Int} {g : Int} {x : It} {ss : List Se} (h : SesF bs σ ss) (hx : itemB x = true) (hs : x.s = σ) : togB (bs.length + 1) (-1) (partE g x ss ++ [oneAc x bs]) = true :=
  tog_good (.inl rfl) (sesF_parts h hx hs)

/-! Rows that grow beside one another. -/
def Far (u v : Value) : Prop := ∀ k, u.ownBlock = some k → v.ownBlock ≠ some k
theorem Far.symm {u v : Value} (h : Far u v) : Far v u := fun k hk e => h k e hk
theorem Far.none (v : Value) : Far (.slice none 0 0) v := fun k hk => by simp [Value.ownBlock] at hk
theorem Far.grew {w w' : World} {base : Nat} {u v v' : Value} (h : Far u v) (hu : ∀ k, u.ownBlock = some k → k < w.heap.size) (hg : Grew w w' base v v') : Far u v' := fun k hk e => by
  rcases hg.own with e1 | e1
  · exact h k hk (e1 ▸ e)
  · rw [e1] at e
    injection e with e
    have := hu k hk
    omega
/-- A row of sessions whose buckets are elder than the row. -/
structure OldE (w : World) (N : Nat) (v : Value) (rs : List Rs) : Prop where
  row : RowE w N v rs
  old : ∀ r, r ∈ rs → 0 < r.k → ∀ ad, r.A = some ad → ad.block < N
structure OldP (w : World) (N : Nat) (v : Value) (rs : List Rw) : Prop where
  row : RowP w N v rs
  old : ∀ r, r ∈ rs → 0 < r.k → ∀ ad, r.A = some ad → ad.block < N
theorem ints_far {w w' : World} {base : Nat} {v v' : Value} {A : Option Addr} {k : Nat} {xs : List Int} (h : Ints w A k xs) (hg : Grew w w' base v v') (hd : 0 < k → ∀ ad, A = some ad → v.ownBlock ≠ some ad.block) : Ints w' A k xs :=
  ⟨h.1, fun hk => by
    obtain ⟨b, o, e, hc⟩ := h.2 hk
    refine ⟨b, o, e, fun i hi => ?_⟩
    rw [← hc i hi]
    unfold World.cell?
    rw [hg.far b (block_lt_of_cell (hc i hi)) (hd hk _ e)]⟩
theorem OldE.lt {w : World} {N : Nat} {v : Value} {rs : List Rs} (h : OldE w N v rs) : ∀ k, v.ownBlock = some k → N ≤ k ∧ k < w.heap.size := fun k hk => World.ownsRow.lt h.row.row k hk
theorem OldP.lt {w : World} {N : Nat} {v : Value} {rs : List Rw} (h : OldP w N v rs) : ∀ k, v.ownBlock = some k → N ≤ k ∧ k < w.heap.size := fun k hk => World.ownsRow.lt h.row.row k hk
theorem OldE.below {w w' : World} {N : Nat} {v : Value} {rs : List Rs} (h : OldE w N v rs) (hb : Below w.heap.size w w') : OldE w' N v rs := ⟨h.row.below hb, h.old⟩
theorem OldP.below {w w' : World} {N : Nat} {v : Value} {rs : List Rw} (h : OldP w N v rs) (hb : Below w.heap.size w w') : OldP w' N v rs := ⟨h.row.below hb, h.old⟩
theorem OldE.nil (w : World) (N : Nat) : OldE w N (.slice none 0 0) [] := ⟨RowE.nil _ _, fun r hr => by cases hr⟩
theorem OldP.nil (w : World) (N : Nat) : OldP w N (.slice none 0 0) [] := ⟨RowP.nil _ _, fun r hr => by cases hr⟩
theorem old_ne {N : Nat} {v : Value} {A : Option Addr} {k : Nat} (hv : ∀ b, v.ownBlock = some b → N ≤ b) (ho : 0 < k → ∀ ad, A = some ad → ad.block < N) : 0 < k → ∀ ad, A = some ad → v.ownBlock ≠ some ad.block := fun hk ad ea e => by
  have := hv _ e
  have := ho hk ad ea
  omega
theorem OldE.grew {w w' : World} {N : Nat} {u v v' : Value} {rs : List Rs} (h : OldE w N u rs) (hg : Grew w w' N v v') (hd : Far u v) (hv : ∀ b, v.ownBlock = some b → N ≤ b) : OldE w' N u rs := by
  refine ⟨⟨⟨h.row.row.1, ?_⟩, fun r hr => ⟨ints_far (h.row.hist r hr).1 hg (old_ne hv (h.old r hr)), (h.row.hist r hr).2⟩, h.row.far⟩, h.old⟩
  rcases h.row.row.2 with h0 | ⟨g, cap, cur, e, hg2, hh, r⟩
  · exact .inl h0
  · have hk : u.ownBlock = some g := by rw [e]; rfl
    exact .inr ⟨g, cap, cur, e, hg2, (hg.far g (Has.lt (t := 60) hh) (hd g hk)).trans hh, r⟩
theorem OldP.grew {w w' : World} {N : Nat} {u v v' : Value} {rs : List Rw} (h : OldP w N u rs) (hg : Grew w w' N v v') (hd : Far u v) (hv : ∀ b, v.ownBlock = some b → N ≤ b) : OldP w' N u rs := by
  refine ⟨⟨⟨h.row.row.1, ?_⟩, fun r hr => ⟨ints_far (h.row.hist r hr).1 hg (old_ne hv (h.old r hr)), (h.row.hist r hr).2⟩, h.row.far⟩, h.old⟩
  rcases h.row.row.2 with h0 | ⟨g, cap, cur, e, hg2, hh, r⟩
  · exact .inl h0
  · have hk : u.ownBlock = some g := by rw [e]; rfl
    exact .inr ⟨g, cap, cur, e, hg2, (hg.far g (Has.lt (t := 29) hh) (hd g hk)).trans hh, r⟩

end Go.Proofs.Ytgdeaddfkcokpaa

namespace Go.Proofs.Ytgdeaddfkcokpaa
open Go.RowKit

theorem Has.grew {w w' : World} {g N : Nat} {t : TypeId} {cs : Array Value} {v v' : Value} (h : Has w g t cs) (hg : Grew w w' N v v') (hne : v.ownBlock ≠ some g) : Has w' g t cs := (hg.far g h.lt hne).trans h
theorem OldE.typed {w : World} {N : Nat} {v : Value} {rs : List Rs} (h : OldE w N v rs) {g : Nat} {t : TypeId} {cs : Array Value} (hg : Has w g t cs) (ht : t ≠ 60) : v.ownBlock ≠ some g := fun e => by
  rcases h.row.row.2 with ⟨ev, _⟩ | ⟨g', cap, cur, ev, _, hh, _⟩
  · simp [ev, Value.ownBlock] at e
  · have e1 : g' = g := by simpa [ev, Value.ownBlock] using e
    subst e1
    exact has_types hg (show Has w _ 60 cur from hh) ht
theorem OldP.typed {w : World} {N : Nat} {v : Value} {rs : List Rw} (h : OldP w N v rs) {g : Nat} {t : TypeId} {cs : Array Value} (hg : Has w g t cs) (ht : t ≠ 29) : v.ownBlock ≠ some g := fun e => by
  rcases h.row.row.2 with ⟨ev, _⟩ | ⟨g', cap, cur, ev, _, hh, _⟩
  · simp [ev, Value.ownBlock] at e
  · have e1 : g' = g := by simpa [ev, Value.ownBlock] using e
    subst e1
    exact has_types hg (show Has w _ 29 cur from hh) ht
theorem sess_of_row {w : World} {base n c : Nat} {A : Option Addr} {rs : List Rs} (hrow : w.ownsRow base 60 15 (.slice A n c) n (rowE rs)) (hl : rs.length = n) (hist : ∀ r, r ∈ rs → Ints w r.A r.k r.s.a.h ∧ r.k ≤ r.c ∧ r.c ≤ maxLen) : Sess w A n (rs.map (·.s)) := by
  refine ⟨by rw [List.length_map, hl], fun hn => ?_⟩
  rcases hrow.2 with ⟨e, h0⟩ | ⟨g, cap, cur, e, hg, hh, hn1, hc, hs, ht⟩
  · injection e with _ e2; omega
  · injection e with e1 e2 e3
    subst e1
    refine ⟨g, 0, rfl, fun i hi => ?_⟩
    have hi2 : i < rs.length := by omega
    have hm : rs[i] ∈ rs := List.getElem_mem hi2
    have es : nthE (rs.map (·.s)) i = rs[i].s := by simp [nthE, hi2]
    rw [es, Nat.zero_add]
    refine ⟨_, _, _, fun j v hv => ?_, (hist _ hm).1, (hist _ hm).2⟩
    have hj : j < 15 := by have := (List.getElem?_eq_some_iff.1 hv).1; rwa [sesC_len] at this
    rw [hrow.cellAt _ (by omega), rowE_at _ hi2 hj]
    exact hv
/-- 's = append(s, t...)' of two rows of sessions: what is read afterwards. -/
theorem app_rowsS {ops : Array Oper} {rest : List Oper} {op : Oper} {p : Act} {w : World} {Q : Exit → Act → World → Prop} (hgd : op.guard = none) (s x : Operand)
    (ho : op.op = .call { callee := .builtin .append, args := #[s, x], argTypes := #[45, 45] })
    {base n c : Nat} {A : Option Addr} {rs : List Rs} (hs : p.eval s = .slice A n c) (hown : RowE w base (.slice A n c) rs) {b2 n2 c2 : Nat} {A2 : Option Addr} {rt : List Rs} (hx : p.eval x = .slice A2 n2 c2) (hy : RowE w b2 (.slice A2 n2 c2) rt)
    (hfar : ∀ r, r ∈ rt → 0 < r.k → ∀ ad, r.A = some ad → (Value.slice A n c).ownBlock ≠ some ad.block) (hn : n + n2 ≤ 1000000000) (hbase : base ≤ w.heap.size)
    (h : ∀ A' c' w', Sess w' A' (n + n2) (rs.map (·.s) ++ rt.map (·.s)) → Grew w w' base (.slice A n c) (.slice A' (n + n2) c') → wpList Try.prog ops Q rest (p.put op.dst (.slice A' (n + n2) c')) w') : wpList Try.prog ops Q (op :: rest) p w := by
  obtain ⟨i0, hi, hz, hs0, hy0⟩ := info_parts Try.infoSes
  have l1 := hown.cap.2
  have l2 := hy.cap.2
  cases A2 with
  | none =>
    have hc : c2 = 0 ∧ n2 = 0 := by
      rcases hy.row.2 with ⟨e0, h0⟩ | ⟨g', cap, cur, e0, _⟩
      · injection e0 with _ e2 e3; omega
      · injection e0 with e1; cases e1
    obtain ⟨rfl, rfl⟩ := hc
    obtain rfl : rt = [] := List.eq_nil_of_length_eq_zero l2
    exact wpList_append_own_none hgd s x 45 ho base 60 i0 15 Try.underlying45 hi (.slice A n c) rs.length (rowE rs) hs hown.row hx (h A c w (by rw [List.map_nil, List.append_nil]; exact hown.reads) ⟨Below.refl _ _, fun _ _ _ => rfl, .inl rfl⟩)
  | some ad =>
    refine wpList_append_own_at w hgd s x 45 ho base 60 i0 _ 15 136 Try.underlying45 hi hz hs0 hy0 rfl (by omega) (.slice A n c) rs.length (rowE rs) hs hown.row ad n2 c2 (rowE rt) hx (by rw [rowE_len, l2])
      (fun j u hu => ?_) (fun u hu => ?_) (by unfold maxLen; omega) (by omega) hbase (fun v' w' h1 h2 _ h4 => ?_)
    · have hj : j < n2 * 15 := by have := (List.getElem?_eq_some_iff.1 hu).1; rwa [rowE_len, l2] at this
      obtain ⟨_, g, eg, _, _⟩ := hy.cells (by omega)
      injection eg with eg
      subst eg
      have hq := hy.row
      rw [l2] at hq
      rw [Addr.add_mid, Nat.zero_add, hq.cellAt j (by omega)]
      exact hu
    · obtain ⟨z, _, hz⟩ := List.mem_flatMap.1 hu
      have := sesC_one z.s z.A z.k z.c
      rw [Array.all_eq_true_iff_forall_mem] at this
      exact this u (by simpa using hz)
    · have hg : Grew w w' base (.slice A n c) v' := ⟨⟨h2.os, h2.tape, h2.output, h2.size, fun k hk => h2.block k (by omega) (fun e => by have := hown.row.lt k e.symm; omega)⟩, fun k hk hne => h2.block k hk (fun e => hne e.symm), h4⟩
      have hform : ∃ A' c', v' = .slice A' (n + n2) c' := by
        rcases h1.2 with ⟨e, h0⟩ | ⟨g, cap, cur, e, _⟩
        · exact ⟨none, 0, by rw [e, ← l1, h0]⟩
        · exact ⟨_, cap, by rw [e, l1]⟩
      obtain ⟨A', c', rfl⟩ := hform
      refine h A' c' w' ?_ hg
      rw [← List.map_append]
      refine sess_of_row (base := base) (c := c') (by rw [rowE_append, ← l1]; rw [← l1] at h1; exact h1) (by rw [List.length_append, l1, l2]) fun r hr => ?_
      rcases List.mem_append.1 hr with hr | hr
      · exact ⟨ints_far (hown.hist r hr).1 hg (hown.far r hr), (hown.hist r hr).2⟩
      · exact ⟨ints_far (hy.hist r hr).1 hg (hfar r hr), (hy.hist r hr).2⟩

/-- What stands at a round's head. -/
structure AsS (w0 : World) (gx : Nat) (x : It) (g : Int) (bs : List Int) (g1 gh ll : Nat) (ss : List Se) (j : Nat) (vo vb vp : Value) (ro rb : List Rs) (rp : List Rw) (wr : World) : Prop where
  xb : Has wr gx 23 #[.int .i64 x.s, .int .i64 x.t, .int .i64 x.q, .int .i64 x.v]
  o1 : Has wr g1 29 (accC (oneAc x bs) (some ⟨gh, 0, none⟩) ll ll)
  oh : OwnI wr w0.heap.size (.slice (some ⟨gh, 0, none⟩) ll ll) (oneAc x bs).h
  go : OldE wr w0.heap.size vo ro
  gb : OldE wr w0.heap.size vb rb
  gp : OldP wr w0.heap.size vp rp
  ob : Far vo vb
  op : Far vo vp
  bp : Far vb vp
  p1 : vp.ownBlock ≠ some g1
  eo : ro.map (·.s) = (ss.take j).filter (outE g x)
  eb : rb.map (·.s) = (ss.take j).filter fun s => !outE g x s && behE g x s
  ep : rp.map (·.a) = partE g x (ss.take j)
  keep : Below w0.heap.size w0 wr
theorem AsS.below {w0 : World} {gx : Nat} {x : It} {g : Int} {bs : List Int} {g1 gh ll : Nat} {ss : List Se} {j : Nat} {vo vb vp : Value} {ro rb : List Rs} {rp : List Rw} {wr wy : World} (h : AsS w0 gx x g bs g1 gh ll ss j vo vb vp ro rb rp wr) (hb : Below wr.heap.size wr wy) : AsS w0 gx x g bs g1 gh ll ss j vo vb vp ro rb rp wy :=
  ⟨has_below h.xb hb, has_below h.o1 hb, h.oh.below hb, h.go.below hb, h.gb.below hb, h.gp.below hb, h.ob, h.op, h.bp, h.p1, h.eo, h.eb, h.ep, h.keep.trans (hb.mono h.keep.size)⟩
theorem own_int_ne {w : World} {base g : Nat} {n c : Nat} {xs : List Int} (h : OwnI w base (.slice (some ⟨g, 0, none⟩) n c) xs) : ∃ cs, Has w g 3 cs := by
  rcases h.2 with ⟨e0, _⟩ | ⟨g', cap, cur, e0, _, hh, _⟩
  · cases e0
  · injection e0 with e1
    injection e1 with e1
    injection e1 with e1
    subst e1
    exact ⟨cur, hh⟩
section
variable {w0 : World} {gx : Nat} {x : It} {g : Int} {bs : List Int} {g1 gh ll : Nat} {ss : List Se} {j : Nat} {vo vb vp : Value} {ro rb : List Rs} {rp : List Rw} {wl w' : World} (h : AsS w0 gx x g bs g1 gh ll ss j vo vb vp ro rb rp wl)
include h
theorem AsS.putO {vo' : Value} {r : Rs} (hj : ss.take (j + 1) = ss.take j ++ [r.s]) (hc : outE g x r.s = true) (hold : 0 < r.k → ∀ ad, r.A = some ad → ad.block < w0.heap.size) (hown : RowE w' w0.heap.size vo' (ro ++ [r])) (hg : Grew wl w' w0.heap.size vo vo') : AsS w0 gx x g bs g1 gh ll ss (j + 1) vo' vb vp (ro ++ [r]) rb rp w' := by
  have hlt := fun k hk => (h.go.lt k hk).1
  obtain ⟨cs, hcs⟩ := own_int_ne h.oh
  refine ⟨h.xb.grew hg (h.go.typed h.xb (by decide)), h.o1.grew hg (h.go.typed h.o1 (by decide)), h.oh.grew hg (fun k hk e => ?_), ⟨hown, fun z hz => ?_⟩, h.gb.grew hg h.ob.symm hlt, h.gp.grew hg h.op.symm hlt,
    (h.ob.symm.grew (fun k hk => (h.gb.lt k hk).2) hg).symm, (h.op.symm.grew (fun k hk => (h.gp.lt k hk).2) hg).symm, h.bp, h.p1, ?_, ?_, ?_, h.keep.trans hg.below⟩
  · have e2 : gh = k := by simpa [Value.ownBlock] using hk
    subst e2
    exact h.go.typed hcs (by decide) e
  · rcases List.mem_append.1 hz with hz | hz
    · exact h.go.old z hz
    · simp only [List.mem_singleton] at hz; subst hz; exact hold
  · rw [hj, List.map_append, List.filter_append, h.eo]; simp [hc]
  · rw [hj, List.filter_append, h.eb]; simp [hc]
  · rw [hj, h.ep]; simp [partE, hc]
theorem AsS.putB {vb' : Value} {r : Rs} (hj : ss.take (j + 1) = ss.take j ++ [r.s]) (hc : outE g x r.s = false) (hc2 : behE g x r.s = true) (hold : 0 < r.k → ∀ ad, r.A = some ad → ad.block < w0.heap.size) (hown : RowE w' w0.heap.size vb' (rb ++ [r])) (hg : Grew wl w' w0.heap.size vb vb') : AsS w0 gx x g bs g1 gh ll ss (j + 1) vo vb' vp ro (rb ++ [r]) rp w' := by
  have hlt := fun k hk => (h.gb.lt k hk).1
  obtain ⟨cs, hcs⟩ := own_int_ne h.oh
  refine ⟨h.xb.grew hg (h.gb.typed h.xb (by decide)), h.o1.grew hg (h.gb.typed h.o1 (by decide)), h.oh.grew hg (fun k hk e => ?_), h.go.grew hg h.ob hlt, ⟨hown, fun z hz => ?_⟩, h.gp.grew hg h.bp.symm hlt,
    h.ob.grew (fun k hk => (h.go.lt k hk).2) hg, h.op, (h.bp.symm.grew (fun k hk => (h.gp.lt k hk).2) hg).symm, h.p1, ?_, ?_, ?_, h.keep.trans hg.below⟩
  · have e2 : gh = k := by simpa [Value.ownBlock] using hk
    subst e2
    exact h.gb.typed hcs (by decide) e
  · rcases List.mem_append.1 hz with hz | hz
    · exact h.gb.old z hz
    · simp only [List.mem_singleton] at hz; subst hz; exact hold
  · rw [hj, List.filter_append, h.eo]; simp [hc]
  · rw [hj, List.map_append, List.filter_append, h.eb]; simp [hc, hc2]
  · rw [hj, h.ep]; simp [partE, hc, hc2]
theorem AsS.putP {vp' : Value} {r : Rw} {s : Se} (hj : ss.take (j + 1) = ss.take j ++ [s]) (hr : r.a = s.a) (hc : outE g x s = false) (hc2 : behE g x s = false) (hold : 0 < r.k → ∀ ad, r.A = some ad → ad.block < w0.heap.size) (hown : RowP w' w0.heap.size vp' (rp ++ [r])) (hg : Grew wl w' w0.heap.size vp vp') : AsS w0 gx x g bs g1 gh ll ss (j + 1) vo vb vp' ro rb (rp ++ [r]) w' := by
  have hlt := fun k hk => (h.gp.lt k hk).1
  obtain ⟨cs, hcs⟩ := own_int_ne h.oh
  refine ⟨h.xb.grew hg (h.gp.typed h.xb (by decide)), h.o1.grew hg h.p1, h.oh.grew hg (fun k hk e => ?_), h.go.grew hg h.op hlt, h.gb.grew hg h.bp hlt, ⟨hown, fun z hz => ?_⟩,
    h.ob, h.op.grew (fun k hk => (h.go.lt k hk).2) hg, h.bp.grew (fun k hk => (h.gb.lt k hk).2) hg, ?_, ?_, ?_, ?_, h.keep.trans hg.below⟩
  · have e2 : gh = k := by simpa [Value.ownBlock] using hk
    subst e2
    exact h.gp.typed hcs (by decide) e
  · rcases List.mem_append.1 hz with hz | hz
    · exact h.gp.old z hz
    · simp only [List.mem_singleton] at hz; subst hz; exact hold
  · rcases hg.own with e | e
    · rw [e]; exact h.p1
    · rw [e]; intro e2; injection e2 with e2; have := h.o1.lt; omega
  · rw [hj, List.filter_append, h.eo]; simp [hc]
  · rw [hj, List.filter_append, h.eb]; simp [hc, hc2]
  · rw [hj, List.map_append, h.ep]; simp [partE, hc, hc2, hr]
end

end Go.Proofs.Ytgdeaddfkcokpaa

namespace Go.Proofs.Ytgdeaddfkcokpaa
open Go.RowKit

theorem rowP_form {w : World} {base n : Nat} {v : Value} {rs : List Rw} {r : Rw} (h : RowP w base v (rs ++ [r])) (hl : rs.length = n) : ∃ A c, v = .slice A (n + 1) c := by
  obtain ⟨A, c, e, _⟩ := h.form
  exact ⟨A, c, by rw [e, List.length_append, hl]; rfl⟩
theorem rowE_form {w : World} {base n : Nat} {v : Value} {rs : List Rs} {r : Rs} (h : RowE w base v (rs ++ [r])) (hl : rs.length = n) : ∃ A c, v = .slice A (n + 1) c := by
  obtain ⟨A, c, e, _⟩ := h.form
  exact ⟨A, c, by rw [e, List.length_append, hl]; rfl⟩
theorem rowP_len {w : World} {base : Nat} {A : Option Addr} {n c : Nat} {rs : List Rw} (h : RowP w base (.slice A n c) rs) : rs.length = n := by
  obtain ⟨_, _, e, _⟩ := h.form
  injection e with _ e2
  exact e2.symm
def GoodR (T : List Se) (w : World) (e : Ending) (w' : World) : Prop :=
  ∃ A' c', e = .returned (.tuple #[.slice A' T.length c', .int .i64 0]) ∧ Sess w' A' T.length T ∧ Below w.heap.size w w'

set_option maxRecDepth 100000 in
set_option maxHeartbeats 2000000 in
theorem raddses_any (A : Option Addr) (n c : Nat) (ss : List Se) (g : Int) (B : Option Addr) (m d : Nat) (bs : List Int) (x : It) (σ : Int) (w : World) (hs : Sess w A n ss) (hn : n ≤ 100000000) (hbs : Ints w B m bs) (hm : m ≤ maxLen) (hb : boundsB bs = true)
    (hg : 1 ≤ g ∧ g ≤ 1073741824) (hF : SesF bs σ ss) (hx : itemB x = true) (hσ : x.s = σ) :
    Calls Try.prog 58 #[.slice A n c, .int .i64 g, .slice B m d, .agg #[.int .i64 x.s, .int .i64 x.t, .int .i64 x.q, .int .i64 x.v]] w fun e w' => (8192 < (oneE g bs x ss).n ∧ BadS 101 w e w') ∨ ((oneE g bs x ss).n ≤ 8192 ∧ GoodR (addE g bs x ss) w e w') := by
  have HL := Lib.hid hs.1
  have HS := Lib.hid hs; clear hs
  have HBS := Lib.hid hbs; clear hbs
  have HBB := Lib.hid hb; clear hb
  have HF := Lib.hid hF; clear hF
  have HXI := Lib.hid hx
  have hxt := itemB_iff.1 hx
  clear hx
  have HSG := Lib.hid hσ; clear hσ
  have HHL : Hid ((oneAc x bs).h.length ≤ maxLen) := by rw [Hid, one_hlen]; have := (boundsB_true HBB.out).1; unfold maxLen; omega
  obtain ⟨N1, hN1⟩ : ∃ N1, (oneE g bs x ss).n = N1 := ⟨_, rfl⟩
  obtain ⟨T, hT⟩ : ∃ T, addE g bs x ss = T := ⟨_, rfl⟩
  rw [hN1, hT]
  have HN1 := Lib.hid hN1; clear hN1
  have HT := Lib.hid hT; clear hT
  have HAL : Hid (∀ (W : World) o, Below W.heap.size W (W.alloc o)) := fun W o => (Below.refl _ _).alloc (Nat.le_refl _) o
  have hxb0 : ∀ o, o = Obj.cells #[.int .i64 x.s, .int .i64 x.t, .int .i64 x.q, .int .i64 x.v] 23 → Has (w.alloc o) w.heap.size 23 #[.int .i64 x.s, .int .i64 x.t, .int .i64 x.q, .int .i64 x.v] := fun o e => by subst e; exact Has.made _ _ _
  have HXB0 := Lib.hid hxb0; clear hxb0
  have HIT0 : Hid (∀ o, o = Obj.cells #[.int .i64 x.s, .int .i64 x.t, .int .i64 x.q, .int .i64 x.v] 23 → (w.alloc o).rangeAt w.heap.size 0 (itemL x)) := fun o e => range_item (HXB0.out o e)
  go_enter Try.func58, Try.ntmps58
  go_upto_region 1 with fail
  obtain ⟨w1, hw1⟩ : ∃ w1, w.alloc (.cells #[.int .i64 x.s, .int .i64 x.t, .int .i64 x.q, .int .i64 x.v] 23) = w1 := ⟨_, rfl⟩
  have hX1 := HXB0.out _ rfl
  have hK1 := HAL.out w (.cells #[.int .i64 x.s, .int .i64 x.t, .int .i64 x.q, .int .i64 x.v] 23)
  rw [hw1] at hX1 hK1 ⊢
  have HX1 := Lib.hid hX1
  have HK1 := Lib.hid hK1
  clear hX1 hK1 hw1 HXB0 HIT0
  have HIT : Hid (w1.rangeAt w.heap.size 0 (itemL x)) := range_item HX1.out
  obtain ⟨gx, hgx⟩ : ∃ gx, w.heap.size = gx := ⟨_, rfl⟩
  have HGX := Lib.hid hgx
  go_upto_region 2 with (first
    | (refine load_item rfl _ rfl w.heap.size 0 rfl HIT.out ?_)
    | (go_at_call 13; refine (rone_ok x B m d bs _ (HBS.out.below HK1.out) HXI.out HBB.out).mono ?_; rintro e2 w2 ⟨gh, hgh, rfl, hh, hb2⟩; have HH2 := Lib.hid hh; have HGH := Lib.hid hgh; have HB2 := Lib.hid hb2; clear hh hgh hb2)
    | (refine store_new rfl _ _ rfl rfl rfl rfl ?_; intro w3 hb3 hs3; have HB3 := Lib.hid hb3; have HO3 := Lib.hid hs3; clear hb3 hs3))
  have HP0 : Hid (AsS w gx x g bs w2.heap.size gh (oneAc x bs).h.length ss 0 (.slice none 0 0) (.slice none 0 0) (.slice none 0 0) [] [] [] w3) := by
    have k2 : Below w.heap.size w w2 := HK1.out.trans (HB2.out.mono HK1.out.size)
    have k3 : Below w.heap.size w w3 := k2.trans (HB3.out.mono k2.size)
    refine ⟨by rw [← HGX.out]; exact has_below (has_below HX1.out HB2.out) HB3.out, HO3.out, (own_good (base := w.heap.size) (Nat.le_trans HK1.out.size HGH.out) HH2.out HHL.out).below HB3.out, OldE.nil _ _, OldE.nil _ _, OldP.nil _ _, Far.none _, Far.none _, Far.none _, fun e => by simp [Value.ownBlock] at e, rfl, rfl, rfl, k3⟩
  clear HX1 HK1 HIT HB2 HB3 HO3 HH2 HGH hgx
  generalize w2.heap.size = g1 at HP0 ⊢
  generalize (oneAc x bs).h.length = ll at HP0 HHL ⊢
  go_wp2_with fail
  go_loopw [12, 13, 14, 15] (fun ov bv pv iv wr => ∃ (j no nb np : Nat) (O : Option Addr) (co : Nat) (Bh : Option Addr) (cb : Nat) (P : Option Addr) (cp : Nat) (ro rb : List Rs) (rp : List Rw), j ≤ n ∧ no + nb + np = j ∧ ov = .slice O no co ∧ bv = .slice Bh nb cb ∧ pv = .slice P np cp ∧ iv = .int .i64 j ∧ Hid (AsS w gx x g bs g1 gh ll ss j (.slice O no co) (.slice Bh nb cb) (.slice P np cp) ro rb rp wr)) (fun _ _ _ iv _ => n - (intOf iv).toNat)
  case atStart => exact ⟨0, 0, 0, 0, none, 0, none, 0, none, 0, [], [], [], Nat.zero_le _, rfl, rfl, rfl, rfl, rfl, HP0⟩
  case round =>
    clear HP0
    obtain ⟨j, no, nb, np, O, co, Bh, cb, P, cp, ro, rb, rp, hj, hnn, rfl, rfl, rfl, rfl, HP⟩ := hrel
    by_cases hlt : j < n
    · obtain ⟨b, fo, rfl, hi⟩ := HS.out.2 (by omega)
      obtain ⟨Aj, kj, cj, hx0⟩ := hi j hlt
      clear hi
      have hjl : j < ss.length := by rw [HL.out]; exact hlt
      have hbd := sesF_bd HF.out hjl
      have HTK : Hid (ss.take (j + 1) = ss.take j ++ [nthE ss j]) := by
        rw [Hid, List.take_succ_eq_append_getElem hjl]
        simp [nthE, hjl]
      generalize nthE ss j = s at hx0 hbd HTK
      have HOLD : Hid (0 < kj → ∀ ad, Aj = some ad → ad.block < w.heap.size) := fun hk ad ea => by
        obtain ⟨b2, o2, eb, hc2⟩ := hx0.2.1.2 hk
        rw [ea] at eb
        injection eb with eb
        subst eb
        exact block_lt_of_cell (hc2 0 hk)
      have HX := Lib.hid (hx0.below HP.out.keep)
      clear hx0
      have hcx : wr.cell? ⟨gx, 1, none⟩ = some (.int .i64 x.t) := HP.out.xb.cell 1
      have hcl : wr.cell? ⟨b, fo + j * 15 + 1, none⟩ = some (.int .i64 s.l) := HX.out.at_ 1 (sesC_1 _ _ _ _)
      have hcf : wr.cell? ⟨b, fo + j * 15, none⟩ = some (.int .i64 s.f) := HX.out.cell
      by_cases h1 : s.l ≤ x.t - g
      · have hd : decide (s.l ≤ x.t - g) = true := decide_eq_true h1
        have HC1 : Hid (outE g x s = true) := hd
        go_upto_if 38 with (go_quiet (fail))
        have HWQ : Hid (Below wr.heap.size wr (wr.drewN nq)) := below_drewN (Below.refl _ _) nq
        generalize wr.drewN nq = wq at HWQ ⊢
        have HPQ : Hid (AsS w gx x g bs g1 gh ll ss j (.slice O no co) (.slice Bh nb cb) (.slice P np cp) ro rb rp wq) := HP.out.below (HWQ.out)
        have HXQ : Hid (SesAt wq b (fo + j * 15) s Aj kj cj) := HX.out.below HWQ.out
        have HLR : Hid (ro.length = no) := HP.out.go.row.cap.2
        clear HP HX hcx hcl hcf
        clear HWQ
        go_wp2_with (first
          | (refine load_ses rfl _ rfl b (fo + j * 15) rfl HXQ.out ?_)
          | (refine lit1s rfl _ rfl rfl ?_; intro w8 hb8 hv8; have HV8 := Lib.hid hv8; have HP8 := Lib.hid (HPQ.out.below hb8); have HX8 := Lib.hid (HXQ.out.below hb8); clear hv8 hb8)
          | (refine app_rowE rfl _ _ rfl rfl HP8.out.go.row rfl (r := ⟨s, Aj, kj, cj⟩) HV8.out HX8.out.2.1 HX8.out.2.2 (old_ne (fun k hk => (HP8.out.go.lt k hk).1) HOLD.out) (by rw [HLR.out]; omega) (by exact HP8.out.keep.size) ?_; intro v' w' hown hgr; obtain ⟨V2, c2, rfl, _⟩ := hown.form; have HPN := Lib.hid (HP8.out.putO HTK.out HC1.out HOLD.out hown hgr); clear hown hgr))
        have HLQ : Hid (ro.length + 1 = no + 1) := by rw [Hid, HLR.out]
        rw [show (ro ++ [(⟨s, Aj, kj, cj⟩ : Rs)]).length = no + 1 by rw [List.length_append, HLR.out]; rfl] at HPN
        clear HPQ HXQ HP8 HX8 HV8
        go_roundw
        case rel => exact ⟨j + 1, no + 1, nb, np, V2, c2, Bh, cb, P, cp, _, _, _, by omega, by omega, by rw [HLQ.out], rfl, rfl, by go_num, HPN⟩
        case measure => simp [intOf]; omega
      · have hd : decide (s.l ≤ x.t - g) = false := decide_eq_false h1
        have HC1 : Hid (outE g x s = false) := hd
        go_upto_if 38 with (go_quiet (fail))
        have hcx2 : (wr.drewN nq).cell? ⟨gx, 1, none⟩ = some (.int .i64 x.t) := hcx
        have hcf2 : (wr.drewN nq).cell? ⟨b, fo + j * 15, none⟩ = some (.int .i64 s.f) := hcf
        have HW1 : Hid (Below wr.heap.size wr (wr.drewN nq)) := below_drewN (Below.refl _ _) nq
        generalize wr.drewN nq = wp at hcx2 hcf2 HW1 ⊢
        by_cases h2 : x.t + g ≤ s.f
        · have hd2 : decide (x.t + g ≤ s.f) = true := decide_eq_true h2
          have HC2 : Hid (behE g x s = true) := hd2
          go_upto_if 56 with (go_quiet (fail))
          have HWQ : Hid (Below wr.heap.size wr (wp.drewN nq)) := below_drewN HW1.out nq
          clear hcx2 hcf2 HW1
          generalize wp.drewN nq = wq at HWQ ⊢
          have HPQ : Hid (AsS w gx x g bs g1 gh ll ss j (.slice O no co) (.slice Bh nb cb) (.slice P np cp) ro rb rp wq) := HP.out.below (HWQ.out)
          have HXQ : Hid (SesAt wq b (fo + j * 15) s Aj kj cj) := HX.out.below HWQ.out
          have HLR : Hid (rb.length = nb) := HP.out.gb.row.cap.2
          clear HP HX hcx hcl hcf
          clear HWQ
          go_wp2_with (first
            | (refine load_ses rfl _ rfl b (fo + j * 15) rfl HXQ.out ?_)
            | (refine lit1s rfl _ rfl rfl ?_; intro w8 hb8 hv8; have HV8 := Lib.hid hv8; have HP8 := Lib.hid (HPQ.out.below hb8); have HX8 := Lib.hid (HXQ.out.below hb8); clear hv8 hb8)
            | (refine app_rowE rfl _ _ rfl rfl HP8.out.gb.row rfl (r := ⟨s, Aj, kj, cj⟩) HV8.out HX8.out.2.1 HX8.out.2.2 (old_ne (fun k hk => (HP8.out.gb.lt k hk).1) HOLD.out) (by rw [HLR.out]; omega) (by exact HP8.out.keep.size) ?_; intro v' w' hown hgr; obtain ⟨V2, c2, rfl, _⟩ := hown.form; have HPN := Lib.hid (HP8.out.putB HTK.out HC1.out HC2.out HOLD.out hown hgr); clear hown hgr))
          have HLQ : Hid (rb.length + 1 = nb + 1) := by rw [Hid, HLR.out]
          rw [show (rb ++ [(⟨s, Aj, kj, cj⟩ : Rs)]).length = nb + 1 by rw [List.length_append, HLR.out]; rfl] at HPN
          clear HPQ HXQ HP8 HX8 HV8
          go_roundw
          case rel => exact ⟨j + 1, no, nb + 1, np, O, co, V2, c2, P, cp, _, _, _, by omega, by omega, rfl, by rw [HLQ.out], rfl, by go_num, HPN⟩
          case measure => simp [intOf]; omega
        · have hd2 : decide (x.t + g ≤ s.f) = false := decide_eq_false h2
          have HC2 : Hid (behE g x s = false) := hd2
          go_upto_if 56 with (go_quiet (fail))
          have HWQ : Hid (Below wr.heap.size wr (wp.drewN nq)) := below_drewN HW1.out nq
          clear hcx2 hcf2 HW1
          generalize wp.drewN nq = wq at HWQ ⊢
          have HPQ : Hid (AsS w gx x g bs g1 gh ll ss j (.slice O no co) (.slice Bh nb cb) (.slice P np cp) ro rb rp wq) := HP.out.below (HWQ.out)
          have HXQ : Hid (SesAt wq b (fo + j * 15) s Aj kj cj) := HX.out.below HWQ.out
          have HLR : Hid (rp.length = np) := rowP_len HP.out.gp.row
          clear HP HX hcx hcl hcf
          clear HWQ
          go_wp2_with (first
            | (refine load_acc rfl _ rfl b (fo + j * 15 + 2) rfl HXQ.out.acc ?_)
            | (refine lit1 rfl _ rfl rfl ?_; intro w8 hb8 hv8; have HV8 := Lib.hid hv8; have HP8 := Lib.hid (HPQ.out.below hb8); have HX8 := Lib.hid (HXQ.out.below hb8); clear hv8 hb8)
            | (refine app_rowP rfl _ _ rfl rfl HP8.out.gp.row rfl (r := ⟨s.a, Aj, kj, cj⟩) HV8.out HX8.out.2.1 HX8.out.2.2 (old_ne (fun k hk => (HP8.out.gp.lt k hk).1) HOLD.out) (by rw [HLR.out]; omega) (by exact HP8.out.keep.size) ?_; intro v' w' hown hgr; obtain ⟨V2, c2, rfl, _⟩ := hown.form; have HPN := Lib.hid (HP8.out.putP HTK.out rfl HC1.out HC2.out HOLD.out hown hgr); clear hown hgr))
          have HLQ : Hid (rp.length + 1 = np + 1) := by rw [Hid, HLR.out]
          rw [show (rp ++ [(⟨s.a, Aj, kj, cj⟩ : Rw)]).length = np + 1 by rw [List.length_append, HLR.out]; rfl] at HPN
          clear HPQ HXQ HP8 HX8 HV8
          go_roundw
          case rel => exact ⟨j + 1, no, nb, np + 1, O, co, Bh, cb, V2, c2, _, _, _, by omega, by omega, rfl, rfl, by rw [HLQ.out], by go_num, HPN⟩
          case measure => simp [intOf]; omega
    · have hjn : j = n := by omega
      subst hjn
      have HFA : Hid (0 < ll → ∀ ad, (some ⟨gh, 0, none⟩ : Option Addr) = some ad → (Value.slice P np cp).ownBlock ≠ some ad.block) := fun _ ad ea => by
        injection ea with ea
        obtain ⟨cs, hcs⟩ := own_int_ne HP.out.oh
        have h := HP.out.gp.typed hcs (by decide)
        rw [← ea]; exact h
      have HLP : Hid (rp.length = np) := rowP_len HP.out.gp.row
      have HLO : Hid (ro.length = no) := HP.out.go.row.cap.2
      have HLB : Hid (rb.length = nb) := HP.out.gb.row.cap.2
      have hta : ss.take j = ss := List.take_of_length_le (by rw [HL.out]; exact Nat.le_refl _)
      have HEP : Hid (rp.map (·.a) ++ [oneAc x bs] = partE g x ss ++ [oneAc x bs]) := by rw [Hid, HP.out.ep, hta]
      have HEO : Hid (ro.map (·.s) = ss.filter (outE g x)) := by have h := HP.out.eo; rwa [hta] at h
      have HEB : Hid (rb.map (·.s) = ss.filter fun s => !outE g x s && behE g x s) := by have h := HP.out.eb; rwa [hta] at h
      clear hta
      go_upto_region 14 with (first
        | (refine load_has rfl _ rfl g1 rfl HP.out.o1 ?_)
        | (refine lit1 rfl _ rfl rfl ?_; intro w4 hb4 hv4; have HV4 := Lib.hid hv4; have HP4 := Lib.hid (HP.out.below hb4); clear hv4 hb4)
        | (refine app_rowP rfl _ _ rfl rfl HP4.out.gp.row rfl (r := ⟨oneAc x bs, some ⟨gh, 0, none⟩, ll, ll⟩) HV4.out HP4.out.oh.ints ⟨Nat.le_refl _, HHL.out⟩ HFA.out (by rw [HLP.out]; omega) HP4.out.keep.size ?_; intro v' w5 hown hgr; obtain ⟨P2, cp2, rfl⟩ := rowP_form hown HLP.out; have HRP := Lib.hid hown; have HG5 := Lib.hid hgr; clear hown hgr))
      have HO5 : Hid (OldE w5 w.heap.size (.slice O no co) ro) := HP4.out.go.grew HG5.out HP4.out.op (fun k hk => (HP4.out.gp.lt k hk).1)
      have HB5 : Hid (OldE w5 w.heap.size (.slice Bh nb cb) rb) := HP4.out.gb.grew HG5.out HP4.out.bp (fun k hk => (HP4.out.gp.lt k hk).1)
      have HOB : Hid (Far (.slice O no co) (.slice Bh nb cb)) := HP4.out.ob
      have HK5 : Hid (Below w.heap.size w w5) := HP4.out.keep.trans HG5.out.below
      have hACC : Accs w5 P2 (np + 1) (partE g x ss ++ [oneAc x bs]) := by
        have h2 := HRP.out.reads
        rw [List.map_append] at h2
        rw [← HEP.out]
        exact h2
      have hTOG := parts_tog (g := g) HF.out HXI.out HSG.out
      have hTOT := oneE_total (g := g) HF.out HXI.out HSG.out
      rw [HN1.out] at hTOT
      have hJ := rjoin_any B m d bs P2 (np + 1) cp2 (partE g x ss ++ [oneAc x bs]) w5 (HBS.out.below HK5.out) hm hACC (by omega)
      clear hACC HP HP4 HV4 HFA HG5 HRP
      by_cases hbig : N1 ≤ 8192
      · have hJ2 : Calls Try.prog 15 #[.slice B m d, .slice P2 (np + 1) cp2] w5 (JoinOut (oneE g bs x ss) w5) := hJ.mono fun e w' h => by
          rcases h with ⟨a, _⟩ | ⟨_, _, h⟩ | ⟨_, b, _⟩
          · rw [HBB.out, hTOG] at a; cases a
          · exact h
          · omega
        clear hJ hTOG hTOT
        have HTT : Hid (T = ss.filter (outE g x) ++ [newE (oneE g bs x ss)] ++ ss.filter fun s => !outE g x s && behE g x s) := HT.out.symm
        generalize oneE g bs x ss = V at hJ2 HTT
        go_upto_region 15 with (first
          | (go_at_call 15; refine hJ2.mono ?_; rintro e6 w6 ⟨A6, n6, c6, rfl, hin, hb6⟩; have HIN := Lib.hid hin; have HB6 := Lib.hid hb6; clear hin hb6)
          | (refine store_new rfl _ _ rfl rfl rfl rfl ?_; intro w7 hb7 hs7; have HB7 := Lib.hid hb7; have HW7 := Lib.hid hs7; clear hb7 hs7))
        clear hJ2
        have hb57 : Below w5.heap.size w5 w7 := HB6.out.trans (HB7.out.mono HB6.out.size)
        have HO7 := Lib.hid (HO5.out.below hb57)
        have HB7' := Lib.hid (HB5.out.below hb57)
        have HK7 := Lib.hid (HK5.out.trans (hb57.mono HK5.out.size))
        have HIN7 : Hid (AccIn w7 w5.heap.size V A6 n6 c6) := HIN.out.below HB7.out
        have HNE : Hid (0 < n6 → ∀ ad, A6 = some ad → (Value.slice O no co).ownBlock ≠ some ad.block) := fun _ ad ea e => by
          have a := (HO5.out.lt _ e).2
          have b := HIN.out.new ad ea
          omega
        have hlt7 : w6.heap.size < w7.heap.size := HW7.out.lt
        have hc7 : ∀ i, w7.cell? ⟨w6.heap.size, i, none⟩ = (accC V A6 n6 c6)[i]? := fun i => HW7.out.cell i
        have HSZ : Hid (w.heap.size ≤ w7.heap.size) := HK7.out.size
        clear hb57 HO5 HB5 HIN HB6 HB7 HK5
        go_upto_region 17 with fail
        go_upto_region 18 with (refine app_rowE (v := .slice O no co) rfl _ _ rfl rfl (HO7.out.row.below (HAL.out _ _)) rfl (r := ⟨newE V, A6, n6, c6⟩) (Has.made _ _ _) (HIN7.out.hist.below (HAL.out _ _)) ⟨HIN7.out.cap, HIN7.out.most⟩ HNE.out (by rw [HLO.out]; omega) (by have := HSZ.out; simp; omega) ?_; intro v' w8 hown hgr; obtain ⟨O2, co2, rfl⟩ := rowE_form hown HLO.out; have HR8 := Lib.hid hown; have HG8 := Lib.hid hgr; clear hown hgr)
        have HB8 : Hid (OldE w8 w.heap.size (.slice Bh nb cb) rb) := (HB7'.out.below (HAL.out _ _)).grew HG8.out HOB.out.symm (fun k hk => (HO7.out.lt k hk).1)
        have HK8 : Hid (Below w.heap.size w w8) := (HK7.out.trans ((HAL.out _ _).mono HK7.out.size)).trans HG8.out.below
        have HLR : Hid ((ro ++ [(⟨newE V, A6, n6, c6⟩ : Rs)]).length = no + 1) := by rw [Hid, List.length_append, HLO.out]; rfl
        have HFR : Hid (∀ r, r ∈ rb → 0 < r.k → ∀ ad, r.A = some ad → (Value.slice O2 (no + 1) co2).ownBlock ≠ some ad.block) := fun r hr => old_ne (fun k hk => (World.ownsRow.lt HR8.out.row k hk).1) (HB8.out.old r hr)
        clear HO7 HB7' HK7 HIN7 HNE hlt7 hc7 HW7 HSZ HOB HG8
        go_wp2_with (refine app_rowsS rfl _ _ rfl rfl HR8.out rfl HB8.out.row HFR.out (by omega) HK8.out.size ?_; intro A9 c9 w9 hs9 hg9; have HS9 := Lib.hid hs9; have HG9 := Lib.hid hg9; clear hs9 hg9)
        go_ret2
        have hTl : T = (ro ++ [(⟨newE V, A6, n6, c6⟩ : Rs)]).map (·.s) ++ rb.map (·.s) := by rw [HTT.out, List.map_append, HEO.out, HEB.out]; rfl
        have hlen : T.length = no + 1 + nb := by rw [hTl, List.length_append, List.length_map, List.length_map, HLR.out, HLB.out]
        have hfs : Sess w9 A9 T.length T := by
          rw [hlen, hTl]
          exact HS9.out
        have hfk : Below w.heap.size w w9 := HK8.out.trans HG9.out.below
        refine .inr ⟨A9, c9, ?_, hfs, hfk⟩
        rw [hlen]
        rfl
      · have hJ2 : Calls Try.prog 15 #[.slice B m d, .slice P2 (np + 1) cp2] w5 (BadAcc 101 w5) := hJ.mono fun e w' h => by
          rcases h with ⟨a, _⟩ | ⟨_, b, _⟩ | ⟨_, _, h⟩
          · rw [HBB.out, hTOG] at a; cases a
          · omega
          · exact h
        clear hJ hTOG hTOT
        go_upto_region 15 with (first
          | (go_at_call 15; refine hJ2.mono ?_; rintro e6 w6 ⟨rfl, hb6⟩; have HK6 := Lib.hid (HK5.out.trans (hb6.mono HK5.out.size)); clear hb6)
          | (refine store_new rfl _ _ rfl rfl rfl rfl ?_; intro w7 hb7 hs7; have HK7 := Lib.hid (HK6.out.trans (hb7.mono HK6.out.size)); clear hb7 hs7))
        clear hJ2
        go_wp2_with fail
        go_ret2
        first
          | exact .inl ⟨by omega, rfl, HK7.out⟩
          | exact .inl ⟨rfl, HK7.out⟩
          | exact ⟨by omega, rfl, HK7.out⟩

end Go.Proofs.Ytgdeaddfkcokpaa
