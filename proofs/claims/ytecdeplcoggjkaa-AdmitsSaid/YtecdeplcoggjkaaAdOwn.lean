/-
  A row of queries that a call owns, each with bounds of its own; appends.
-/
import Derived.Test.YtecdeplcoggjkaaAdMem
import Derived.Laws.AppendOwnNone
namespace Go.Proofs.Ytecdeplcoggjkaa
open Go.RowKit

/-- A query with where its bounds lie. -/
structure Rq where
  q : Qu
  B : Option Addr
  m : Nat
  d : Nat
def rowQ (rs : List Rq) : List Value := rs.flatMap fun r => (quC r.q r.B r.m r.d).toList
theorem rowQ_cons (p : Rq) (r : List Rq) : rowQ (p :: r) = (quC p.q p.B p.m p.d).toList ++ rowQ r := rfl
theorem rowQ_len (rs : List Rq) : (rowQ rs).length = rs.length * 6 := by
  induction rs with
  | nil => rfl
  | cons p r ih => rw [rowQ_cons, List.length_append, ih, quC_6, List.length_cons]; omega
theorem rowQ_snoc (rs : List Rq) (r : Rq) : rowQ (rs ++ [r]) = rowQ rs ++ (quC r.q r.B r.m r.d).toList := by simp [rowQ]
theorem rowQ_at (rs : List Rq) {i j : Nat} (hi : i < rs.length) (hj : j < 6) : (rowQ rs)[i * 6 + j]? = (quC (rs[i]).q (rs[i]).B (rs[i]).m (rs[i]).d).toList[j]? := by
  induction rs generalizing i with
  | nil => simp at hi
  | cons p r ih =>
    rw [rowQ_cons]
    cases i with
    | zero => rw [List.getElem?_append_left (by rw [quC_6]; omega)]; simp
    | succ i =>
      rw [List.getElem?_append_right (by rw [quC_6]; omega), quC_6, show (i + 1) * 6 + j - 6 = i * 6 + j by omega, ih (by simpa using hi)]
      simp
structure OwnQ (w : World) (base : Nat) (v : Value) (rs : List Rq) : Prop where
  row : w.ownsRow base 42 6 v rs.length (rowQ rs)
  bnd : ∀ r, r ∈ rs → OwnI w 0 (.slice r.B r.m r.d) r.q.bs
theorem OwnQ.nil (w : World) (base : Nat) : OwnQ w base (.slice none 0 0) [] := ⟨World.ownsRow_nil _ _ _ _, fun p hp => by cases hp⟩
theorem OwnQ.below {w w' : World} {base : Nat} {v : Value} {rs : List Rq} (h : OwnQ w base v rs) (hb : Below w.heap.size w w') : OwnQ w' base v rs :=
  ⟨h.row.kept (row := none) ⟨hb.os, hb.tape, hb.output, hb.size, fun k hk _ => hb.block k hk⟩ (by
    cases e : v.ownBlock with
    | none => exact .inl rfl
    | some k => exact .inr (by simp)), fun p hp => (h.bnd p hp).below hb⟩
theorem OwnQ.form {w : World} {base : Nat} {v : Value} {rs : List Rq} (h : OwnQ w base v rs) : ∃ A c, v = .slice A rs.length c ∧ (∀ ad, A = some ad → base ≤ ad.block) := by
  rcases h.row.2 with ⟨e, h0⟩ | ⟨g, cap, cur, e, hg, _⟩
  · exact ⟨none, 0, by rw [e, h0], fun ad h => by cases h⟩
  · exact ⟨some ⟨g, 0, none⟩, cap, e, fun ad h => by injection h with h; subst h; exact hg⟩
/-- A block below its base, of another type than numbers, may be written. -/
theorem OwnQ.set {w : World} {base : Nat} {v : Value} {rs : List Rq} (h : OwnQ w base v rs) {g : Nat} {t : TypeId} {cs : Array Value} (hh : Has w g t cs) (ht : t ≠ 3) (hg : g < base) (i : Nat) (u : Value) : OwnQ (w.setCell ⟨g, i, none⟩ u) base v rs :=
  ⟨World.ownsRow.kept h.row (row := some g) ⟨rfl, rfl, rfl, by simp [World.setCell], fun k _ hne => heap_setCell_other w _ k _ (fun e => hne (by rw [e]))⟩ (by
    cases e : v.ownBlock with
    | none => exact .inl rfl
    | some k =>
      refine .inr (fun e2 => ?_)
      obtain ⟨A, c, rfl, h3⟩ := h.form
      cases A with
      | none => simp [Value.ownBlock] at e
      | some ad =>
        simp [Value.ownBlock] at e
        have := h3 ad rfl
        injection e2 with e2
        omega), fun p hp => (h.bnd p hp).set hh ht i u⟩
theorem OwnQ.rowS {w : World} {base : Nat} {v : Value} {rs : List Rq} (h : OwnQ w base v rs) {g : Nat} {t : TypeId} {cs : Array Value} (hh : Has w g t cs) (ht : t ≠ 3) (hg : g < base) (cs' : Array Value) : OwnQ (w.setRow g cs') base v rs :=
  ⟨World.ownsRow.kept h.row (row := some g) ⟨rfl, rfl, rfl, by simp, fun k _ hne => setRow_other w g k cs' (fun e => hne (by rw [e]))⟩ (by
    cases e : v.ownBlock with
    | none => exact .inl rfl
    | some k =>
      refine .inr (fun e2 => ?_)
      obtain ⟨A, c, rfl, h3⟩ := h.form
      cases A with
      | none => simp [Value.ownBlock] at e
      | some ad =>
        simp [Value.ownBlock] at e
        have := h3 ad rfl
        injection e2 with e2
        omega), fun p hp => (h.bnd p hp).row hh ht cs'⟩
theorem OwnQ.qus {w : World} {base : Nat} {A : Option Addr} {n c : Nat} {rs : List Rq} (h : OwnQ w base (.slice A n c) rs) : Qus w A n (rs.map (·.q)) := by
  rcases h.row.2 with ⟨e, h0⟩ | ⟨g, cap, cur, e, hg, hh, hn, hc, hs, ht⟩
  · injection e with e1 e2 e3
    have : rs = [] := List.eq_nil_of_length_eq_zero h0
    subst this; subst e1; subst e2
    exact Qus.nil _ _
  · injection e with e1 e2 e3
    subst e1; subst e2; subst e3
    refine ⟨by simp, fun hpos => ⟨g, 0, rfl, fun i hi => ?_⟩⟩
    have hp : rs[i] ∈ rs := List.getElem_mem hi
    have en : nthQ (rs.map (·.q)) i = (rs[i]).q := by simp [nthQ, hi]
    have ho := h.bnd _ hp
    obtain ⟨A', c', e', h1, h2, _⟩ := ho.form
    have hl : (rs[i]).m ≤ maxLen := by injection e' with _ e2 _; omega
    refine ⟨(rs[i]).B, (rs[i]).m, (rs[i]).d, ?_, ?_, hl⟩
    · rw [en]
      intro j v hv
      have hj : j < 6 := by have := (List.getElem?_eq_some_iff.1 hv).1; rwa [quC_6] at this
      rw [show 0 + i * 6 + j = i * 6 + j by omega, h.row.cellAt _ (by omega), rowQ_at _ hi hj]
      exact hv
    · rw [en]
      exact ho.ints
theorem has_apart {w : World} {g : Nat} {t t' : TypeId} {cs cs' : Array Value} (h : Has w g t cs) (h' : Has w g t' cs') (hne : t ≠ t') : False := by
  unfold Has at h h'
  rw [h] at h'
  simp only [Option.some.injEq, Obj.cells.injEq] at h'
  exact hne h'.2.1

theorem Try.qinfo : (Try.prog.info? 42).map (fun i => (i.zero, i.size, i.bytes)) = some (some (.agg (quC ⟨0, 0, 0, 0, [], 0⟩ none 0 0)), 6, 64) := by kernel_rfl
theorem qinfo_parts : ∃ i, Try.prog.info? 42 = some i ∧ i.zero = some (.agg (quC ⟨0, 0, 0, 0, [], 0⟩ none 0 0)) ∧ i.size = 6 ∧ i.bytes = 64 := by
  have h := Try.qinfo
  cases hi : Try.prog.info? 42 with
  | none => rw [hi] at h; simp at h
  | some i =>
    rw [hi] at h
    simp only [Option.map_some, Option.some.injEq, Prod.mk.injEq] at h
    exact ⟨i, rfl, h.1, h.2.1, h.2.2⟩
section
variable {ops : Array Oper} {rest : List Oper} {op : Oper} {p : Act} {w : World} {Q : Exit → Act → World → Prop}
theorem lit1q_run (q : Qu) (B : Option Addr) (m d : Nat) (w : World) :
    (Instr.buildSlice 22 1 #[(0, .agg (quC q B m d))]).run Try.prog w = .ok (.slice (some ⟨w.heap.size, 0, none⟩) 1 1) (w.alloc (.cells (quC q B m d) 42)) := by kernel_rfl
/-- '[]Query{q}' in a walk. -/
theorem lit1q (hgd : op.guard = none) (x : Operand) (ho : op.op = .buildSlice 22 1 #[(0, x)]) {q : Qu} {B : Option Addr} {m d : Nat} (hx : p.eval x = .agg (quC q B m d))
    (h : ∀ w', Below w.heap.size w w' → Has w' w.heap.size 42 (quC q B m d) → wpList Try.prog ops Q rest (p.put op.dst (.slice (some ⟨w.heap.size, 0, none⟩) 1 1)) w') : wpList Try.prog ops Q (op :: rest) p w :=
  wpList_plain hgd fun _ hK => by
    unfold Oper.wp execOp
    simp only [ho, List.map_toArray, List.map_cons, List.map_nil, hx, Sem.run_bind, lit1q_run, Result.andThen_ok]
    exact hK _ _ (h _ ((Below.refl _ _).alloc (Nat.le_refl _) _) (Has.made _ _ _))
/-- 's = append(s, q)' in a walk, q laid into a new row of one first, as many as memory bears. -/
theorem app_quG (hgd : op.guard = none) (s x : Operand)
    (ho : op.op = .call { callee := .builtin .append, args := #[s, x], argTypes := #[22, 22] })
    {base g : Nat} {v : Value} {rs : List Rq} {r : Rq} (hs : p.eval s = v) (hown : OwnQ w base v rs) (hx : p.eval x = .slice (some ⟨g, 0, none⟩) 1 1) (hg : Has w g 42 (quC r.q r.B r.m r.d)) (hh : OwnI w 0 (.slice r.B r.m r.d) r.q.bs)
    (hn : rs.length * 64 ≤ 140737488351232) (hbase : base ≤ w.heap.size)
    (h : ∀ v' w', OwnQ w' base v' (rs ++ [r]) → Below base w w' → wpList Try.prog ops Q rest (p.put op.dst v') w') : wpList Try.prog ops Q (op :: rest) p w := by
  obtain ⟨i0, hi, hz, hs0, hy0⟩ := qinfo_parts
  refine wpList_append_own w hgd s x 22 ho base 42 i0 _ 6 64 Try.underlying22 hi hz hs0 hy0 rfl (by omega) v rs.length (rowQ rs) hs hown.row ⟨g, 0, none⟩ 1 1 (quC r.q r.B r.m r.d).toList hx rfl
    (fun j u hu => ?_) (fun u hu => ?_) (by unfold maxLen; omega) (by omega) hbase (fun v' w' h1 h2 _ => ?_)
  · rw [Addr.add_mid, hg.cell]
    simpa using hu
  · have := quC_one r.q r.B r.m r.d
    rw [Array.all_eq_true_iff_forall_mem] at this
    exact this u (by simpa using hu)
  · have hkeep : ∀ z : Rq, OwnI w 0 (.slice z.B z.m z.d) z.q.bs → OwnI w' 0 (.slice z.B z.m z.d) z.q.bs := fun z hz => by
      refine ⟨hz.1, ?_⟩
      rcases hz.2 with h0 | ⟨gz, cap, cur, e, hgz, hhz, rz⟩
      · exact .inl h0
      · refine .inr ⟨gz, cap, cur, e, hgz, ?_, rz⟩
        have hlt : gz < w.heap.size := Has.lt hhz
        refine (h2.block _ hlt (fun e2 => ?_)).trans hhz
        rcases hown.row.2 with ⟨ev, _⟩ | ⟨g', cap', cur', ev, _, hh', _⟩
        · rw [ev] at e2; cases e2
        · rw [ev] at e2
          injection e2 with e2
          have h3 : Has w gz 42 cur' := by rw [e2]; exact hh'
          exact has_apart (show Has w gz 3 cur from hhz) h3 (by decide)
    refine h v' w' ⟨by rw [rowQ_snoc, List.length_append]; exact h1, fun q hq => ?_⟩ ⟨h2.os, h2.tape, h2.output, h2.size, fun k hk => h2.block k (by omega) (fun e => ?_)⟩
    · rcases List.mem_append.1 hq with hq | hq
      · exact hkeep q (hown.bnd q hq)
      · obtain rfl : q = r := by simpa using hq
        exact hkeep q hh
    · have := hown.row.lt k e.symm
      omega
theorem own_emptyI (w : World) : OwnI (w.alloc (.cells #[] 3)) w.heap.size (.slice (some ⟨w.heap.size, 0, none⟩) 0 0) [] :=
  ⟨rfl, Or.inr ⟨w.heap.size, 0, #[], rfl, Nat.le_refl _, Has.made w 3 #[], Nat.le_refl _, Nat.zero_le _, rfl, rfl⟩⟩
/-- 's = append(s, ys...)' in a walk, s empty, ys nil or not, as many as memory bears. -/
theorem app_bnd (hgd : op.guard = none) (s x : Operand)
    (ho : op.op = .call { callee := .builtin .append, args := #[s, x], argTypes := #[40, 40] })
    {base n c : Nat} {A : Option Addr} {v : Value} {ys : List Int} (hs : p.eval s = v) (hown : OwnI w base v []) (hx : p.eval x = .slice A n c) (hy : Ints w A n ys) (hnil : A = none → c = 0)
    (hn : n * 8 ≤ 140737488351232) (hbase : base ≤ w.heap.size)
    (h : ∀ A' c' w', OwnI w' base (.slice A' n c') ys → Below base w w' → wpList Try.prog ops Q rest (p.put op.dst (.slice A' n c')) w') : wpList Try.prog ops Q (op :: rest) p w := by
  obtain ⟨i0, hi, hz, hs0, hy0⟩ := rinfo_parts
  have hl := hy.1
  cases A with
  | none =>
    have hn0 : n = 0 := by
      rcases Nat.eq_zero_or_pos n with h0 | h0
      · exact h0
      · obtain ⟨b, o, e, _⟩ := hy.at_ h0
        cases e
    subst hn0
    have hc := hnil rfl
    subst hc
    obtain rfl : ys = [] := List.eq_nil_of_length_eq_zero hl
    obtain ⟨A', c', e, _⟩ := hown.form
    subst e
    exact wpList_append_own_none hgd s x 40 ho base 3 i0 1 Try.underlying40 hi _ 0 [] hs hown hx (h A' c' w hown (Below.refl _ _))
  | some ad =>
    refine wpList_append_own w hgd s x 40 ho base 3 i0 _ 1 8 Try.underlying40 hi hz hs0 hy0 rfl (by omega) v 0 [] hs hown ad n c (intL ys) hx (by simp [intL, hl])
      (fun j u hu => ?_) (fun u hu => ?_) (by unfold maxLen; omega) (by omega) hbase (fun v' w' h1 h2 _ => ?_)
    · have hj : j < n := by have := (List.getElem?_eq_some_iff.1 hu).1; simpa [intL, hl] using this
      obtain ⟨b, o, e, hc⟩ := hy.at_ (k := 0) (by omega)
      injection e with e
      subst e
      rw [Addr.add_mid, hc j hj, ← hu]
      simp [intL, nth, hl, hj]
    · obtain ⟨z, _, rfl⟩ := List.mem_map.1 hu
      rfl
    · have h3 : OwnI w' base v' ys := by unfold OwnI; rw [hl]; simpa using h1
      obtain ⟨A, c', rfl, _⟩ := h3.form
      rw [hl] at h3 ⊢
      refine h A c' w' h3 ⟨h2.os, h2.tape, h2.output, h2.size, fun k hk => h2.block k (by omega) (fun e => ?_)⟩
      have := World.ownsRow.lt hown k e.symm
      omega
end

end Go.Proofs.Ytecdeplcoggjkaa
