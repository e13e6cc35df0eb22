/-
  Rows of operations: read, owned by a call, appended to; what a call that writes one block keeps of the others.
-/
import Derived.Test.YtoechlmahckchaaScP
import Derived.Test.YtoechlmahckchaaG11f
import Derived.Test.YtoechlmahckchaaWiOp
import Derived.Maps.AppendAt
import Derived.Laws.AppendOwnNone
namespace Go.Proofs.Ytoechlmahckchaa
open Go.RowKit

section
variable {w w' w'' : World} {row row' : Option Nat}
theorem below_grow (h : Below w.heap.size w w') (row : Option Nat) : w.grownBy w' row := ⟨h.os, h.tape, h.output, h.size, fun k hk _ => h.block k hk⟩
theorem grow_below (h : w.grownBy w' none) : Below w.heap.size w w' := ⟨h.os, h.tape, h.output, h.size, fun k hk => h.block k hk (by simp)⟩
theorem grow_refl (w : World) (row : Option Nat) : w.grownBy w row := ⟨rfl, rfl, rfl, Nat.le_refl _, fun _ _ _ => rfl⟩
theorem grow_trans (h : w.grownBy w' row) (k : w'.grownBy w'' row') (hr : ∀ b, row' = some b → row = some b ∨ w.heap.size ≤ b) : w.grownBy w'' row :=
  ⟨k.os.trans h.os, k.tape.trans h.tape, k.output.trans h.output, Nat.le_trans h.size k.size, fun b hb hne => (k.block b (Nat.lt_of_lt_of_le hb h.size) (fun e => by
    rcases hr b e.symm with h1 | h1
    · exact hne h1.symm
    · omega)).trans (h.block b hb hne)⟩
theorem grow_set (h : w.grownBy w' row) {b : Nat} (hb : row = some b ∨ w.heap.size ≤ b) (p : Addr) (hp : p.block = b) (v : Value) : w.grownBy (w'.setCell p v) row :=
  grow_trans h (row' := some b) ⟨rfl, rfl, rfl, by simp [World.setCell], fun k _ hne => heap_setCell_other _ _ _ _ (by rw [hp]; exact fun e => hne (by rw [e]))⟩ (fun k hk => by injection hk with hk; subst hk; exact hb)
theorem Has.grow {g : Nat} {t : TypeId} {cs : Array Value} (h : Has w g t cs) (hg : w.grownBy w' row) (hne : row ≠ some g) : Has w' g t cs := (hg.block g h.lt (fun e => hne e.symm)).trans h
end

def opL (x : Po) : List Value := [.int .i64 x.k, .int .i64 x.so, .int .i64 x.se, .int .i64 x.ti, .int .i64 x.va]
def nthO (xs : List Po) (i : Nat) : Po := xs[i]?.getD noP
/-- The slice value '.slice A n _' reads as the operations xs. -/
def Ops (w : World) (A : Option Addr) (n : Nat) (xs : List Po) : Prop :=
  xs.length = n ∧ (0 < n → ∃ b o : Nat, A = some ⟨b, o, none⟩ ∧ ∀ i, i < n → w.rangeAt b (o + i * 5) (opL (nthO xs i)))
theorem range_keepO {w w' : World} {b o : Nat} {l : List Value} (h : w.rangeAt b o l) (hk : w'.heap[b]? = w.heap[b]?) : w'.rangeAt b o l := fun j v hv =>
  (World.cell?_of_block (w := w) (w' := w') (a := ⟨b, o + j, none⟩) hk).trans (h j v hv)
theorem range_lt {w : World} {b o : Nat} {x : Po} (h : w.rangeAt b o (opL x)) : b < w.heap.size := block_lt_of_cell (h 0 (.int .i64 x.k) rfl)
theorem Ops.nil (w : World) (A : Option Addr) : Ops w A 0 [] := ⟨rfl, fun h => absurd h (by omega)⟩
theorem Ops.at_ {w : World} {A : Option Addr} {n : Nat} {xs : List Po} (h : Ops w A n xs) (hn : 0 < n) : ∃ b o : Nat, A = some ⟨b, o, none⟩ ∧ ∀ i, i < n → w.rangeAt b (o + i * 5) (opL (nthO xs i)) := h.2 hn
theorem Ops.grow {w w' : World} {A : Option Addr} {n : Nat} {xs : List Po} {row : Option Nat} (h : Ops w A n xs) (hg : w.grownBy w' row) (hne : ∀ ad, A = some ad → row ≠ some ad.block) : Ops w' A n xs :=
  ⟨h.1, fun hn => by
    obtain ⟨b, o, rfl, hi⟩ := h.2 hn
    refine ⟨b, o, rfl, fun i hlt => range_keepO (hi i hlt) (hg.block b (range_lt (hi i hlt)) (fun e => hne _ rfl e.symm))⟩⟩
theorem Ops.below {w w' : World} {A : Option Addr} {n : Nat} {xs : List Po} (h : Ops w A n xs) (hb : Below w.heap.size w w') : Ops w' A n xs := h.grow (below_grow hb none) (fun _ _ => by simp)
theorem Ops.one {w : World} {g : Nat} {x : Po} {cs : Array Value} (h : Has w g 49 cs) (hc : cs.toList = opL x) : Ops w (some ⟨g, 0, none⟩) 1 [x] :=
  ⟨rfl, fun _ => ⟨g, 0, rfl, fun i hi => by
    obtain rfl : i = 0 := by omega
    intro j v hv
    have e : opL (nthO [x] 0) = cs.toList := hc.symm
    rw [e] at hv
    rw [h.cell]
    simpa using hv⟩⟩

theorem Try.infoOp : (Try.prog.info? 49).map (fun i => (i.zero, i.size, i.bytes)) = some (some (.agg #[.int .i64 0, .int .i64 0, .int .i64 0, .int .i64 0, .int .i64 0]), 5, 40) := by kernel_rfl
theorem oflat_len (xs : List Po) : (xs.flatMap opL).length = xs.length * 5 := by
  induction xs with
  | nil => rfl
  | cons y r ih => rw [List.flatMap_cons, List.length_append, ih, List.length_cons]; simp [opL]; omega
theorem oflat_at (ys : List Po) : ∀ i, i < ys.length → ∀ j v, (opL (nthO ys i))[j]? = some v → (ys.flatMap opL)[i * 5 + j]? = some v := by
  induction ys with
  | nil => intro i hi; simp at hi
  | cons y r ih =>
    intro i hi j v hv
    have hl : (opL y).length = 5 := rfl
    rw [List.flatMap_cons]
    cases i with
    | zero =>
      have hy : nthO (y :: r) 0 = y := rfl
      rw [hy] at hv
      have hj : j < 5 := by have := (List.getElem?_eq_some_iff.1 hv).1; rwa [hl] at this
      rw [List.getElem?_append_left (by rw [hl]; omega)]
      simpa using hv
    | succ i =>
      have hy : nthO (y :: r) (i + 1) = nthO r i := by simp [nthO]
      rw [hy] at hv
      rw [List.getElem?_append_right (by rw [hl]; omega), hl, show (i + 1) * 5 + j - 5 = i * 5 + j by omega]
      exact ih i (by simpa using hi) j v hv
/-- v is a row of operations that the call owns, from block base on. -/
def OwnO (w : World) (base : Nat) (v : Value) (xs : List Po) : Prop := w.ownsRow base 49 5 v xs.length (xs.flatMap opL)
theorem OwnO.nil (w : World) (base : Nat) : OwnO w base (.slice none 0 0) [] := World.ownsRow_nil _ _ _ _
section
variable {w w' : World} {base : Nat} {v : Value} {xs : List Po}
theorem OwnO.form (h : OwnO w base v xs) : ∃ A c, v = .slice A xs.length c ∧ (∀ ad, A = some ad → base ≤ ad.block) ∧ (A = none → c = 0) := by
  rcases h.2 with ⟨e, h0⟩ | ⟨g, cap, cur, e, hg, _⟩
  · exact ⟨none, 0, by rw [e, h0], (fun ad h => by cases h), fun _ => rfl⟩
  · exact ⟨some ⟨g, 0, none⟩, cap, e, (fun ad h => by injection h with h; subst h; exact hg), fun h => by cases h⟩
theorem OwnO.slice {A : Option Addr} {n c : Nat} (h : OwnO w base (.slice A n c) xs) : xs.length = n ∧ (∀ ad, A = some ad → base ≤ ad.block) ∧ (A = none → c = 0 ∧ n = 0) := by
  rcases h.2 with ⟨e, h0⟩ | ⟨g, cap, cur, e, hg, _⟩
  · injection e with e1 e2 e3
    subst e1 e2 e3
    exact ⟨h0, (fun ad h => by cases h), fun _ => ⟨rfl, rfl⟩⟩
  · injection e with e1 e2 e3
    subst e1 e2 e3
    exact ⟨rfl, (fun ad h => by injection h with h; subst h; exact hg), fun h => by cases h⟩
theorem OwnO.ops {A : Option Addr} {n c : Nat} (h : OwnO w base (.slice A n c) xs) : Ops w A n xs := by
  rcases h.2 with ⟨e, h0⟩ | ⟨g, cap, cur, e, hg, hh, hn, hc, hs, ht⟩
  · injection e with e1 e2 e3
    subst e2
    exact ⟨h0, fun h => absurd h (by omega)⟩
  · injection e with e1 e2 e3
    subst e1; subst e2; subst e3
    refine ⟨rfl, fun hpos => ⟨g, 0, rfl, fun i hi j v hv => ?_⟩⟩
    have hl : (opL (nthO xs i)).length = 5 := rfl
    have hj : j < 5 := by have := (List.getElem?_eq_some_iff.1 hv).1; rwa [hl] at this
    rw [show 0 + i * 5 + j = i * 5 + j by omega, World.ownsRow.cellAt h _ (by omega)]
    exact oflat_at xs i hi j v hv
theorem OwnO.grow {row : Option Nat} (h : OwnO w base v xs) (hg : w.grownBy w' row) (hne : v.ownBlock = none ∨ v.ownBlock ≠ row) : OwnO w' base v xs := World.ownsRow.kept h hg hne
theorem OwnO.below (h : OwnO w base v xs) (hb : Below w.heap.size w w') : OwnO w' base v xs := h.grow (below_grow hb none) (by
  cases e : v.ownBlock with
  | none => exact .inl rfl
  | some k => exact .inr (by simp))
theorem OwnO.mono {base' : Nat} (h : OwnO w base v xs) (hb : base' ≤ base) : OwnO w base' v xs := by
  refine ⟨h.1, ?_⟩
  rcases h.2 with h0 | ⟨g, cap, cur, e, hg, r⟩
  · exact .inl h0
  · exact .inr ⟨g, cap, cur, e, Nat.le_trans hb hg, r⟩
/-- A block of another type is no row of operations. -/
theorem OwnO.apart (h : OwnO w base v xs) {k : Nat} {t : TypeId} {cs : Array Value} (hh : Has w k t cs) (ht : t ≠ 49) : v.ownBlock ≠ some k := by
  rcases h.2 with ⟨e, _⟩ | ⟨g, cap, cur, e, hg, hr, _⟩
  · rw [e]; simp [Value.ownBlock]
  · rw [e]
    intro hk
    obtain rfl : g = k := by simpa [Value.ownBlock] using hk
    unfold Has at hh
    rw [hr] at hh
    simp only [Option.some.injEq, Obj.cells.injEq] at hh
    exact ht hh.2.1.symm
theorem OwnO.lt (h : OwnO w base v xs) {k : Nat} (hk : v.ownBlock = some k) : k < w.heap.size ∧ base ≤ k := by
  exact ⟨(World.ownsRow.lt h k hk).2, (World.ownsRow.lt h k hk).1⟩
end
theorem own_emptyO (w : World) {base : Nat} (hb : base ≤ w.heap.size) : OwnO (w.alloc (.cells #[] 49)) base (.slice (some ⟨w.heap.size, 0, none⟩) 0 0) [] :=
  ⟨rfl, Or.inr ⟨w.heap.size, 0, #[], rfl, hb, Has.made w 49 #[], Nat.le_refl _, Nat.zero_le _, rfl, rfl⟩⟩
/-- A row that is written out. -/
theorem own_litO (w : World) {base : Nat} (hb : base ≤ w.heap.size) (xs : List Po) (hx : xs.length ≤ 1000) {cs : Array Value} (hc : cs.toList = xs.flatMap opL) : OwnO (w.alloc (.cells cs 49)) base (.slice (some ⟨w.heap.size, 0, none⟩) xs.length xs.length) xs := by
  refine ⟨oflat_len xs, Or.inr ⟨w.heap.size, xs.length, cs, rfl, hb, Has.made w 49 cs, Nat.le_refl _, by unfold maxLen; omega, ?_, ?_⟩⟩
  · rw [← Array.length_toList, hc, oflat_len]
  · rw [hc, List.take_of_length_le (by rw [oflat_len]; exact Nat.le_refl _)]

set_option maxRecDepth 100000 in
/-- 's = append(s, t...)' of operations in a walk. -/
theorem app_ops {ops : Array Oper} {rest : List Oper} {op : Oper} {p : Act} {w : World} {Q : Exit → Act → World → Prop} (hgd : op.guard = none) (s x : Operand)
    (ho : op.op = .call { callee := .builtin .append, args := #[s, x], argTypes := #[34, 34] })
    {base n c n2 c2 : Nat} {A A2 : Option Addr} {xs ys : List Po} (hs : p.eval s = .slice A n c) (hown : OwnO w base (.slice A n c) xs) (hx : p.eval x = .slice A2 n2 c2) (hy : Ops w A2 n2 ys) (hnil : A2 = none → c2 = 0 ∧ n2 = 0)
    (hn : n + n2 ≤ 3500000000000) (hbase : base ≤ w.heap.size)
    (h : ∀ A' c' w', OwnO w' base (.slice A' (n + n2) c') (xs ++ ys) → w.grownBy w' (Value.slice A n c).ownBlock → ((Value.slice A' (n + n2) c').ownBlock = (Value.slice A n c).ownBlock ∨ (Value.slice A' (n + n2) c').ownBlock = some w.heap.size) → wpList Try.prog ops Q rest (p.put op.dst (.slice A' (n + n2) c')) w') : wpList Try.prog ops Q (op :: rest) p w := by
  obtain ⟨i0, hi, hz, hs0, hy0⟩ := info_parts Try.infoOp
  have hl := hy.1
  have hlx := hown.slice.1
  cases A2 with
  | none =>
    obtain ⟨rfl, rfl⟩ := hnil rfl
    obtain rfl : ys = [] := List.eq_nil_of_length_eq_zero hl
    exact wpList_append_own_none hgd s x 34 ho base 49 i0 5 Try.underlying34 hi (.slice A n c) xs.length (xs.flatMap opL) hs hown hx (h A c w (by rw [List.append_nil]; exact hown) (grow_refl w _) (.inl rfl))
  | some ad =>
    refine wpList_append_own_at w hgd s x 34 ho base 49 i0 _ 5 40 Try.underlying34 hi hz hs0 hy0 rfl (by omega) (.slice A n c) xs.length (xs.flatMap opL) hs hown ad n2 c2 (ys.flatMap opL) hx (by rw [oflat_len, hl])
      (fun j u hu => ?_) (fun u hu => ?_) (by unfold maxLen; omega) (by omega) hbase (fun v' w' h1 h2 _ h4 => ?_)
    · have hj : j < n2 * 5 := by have := (List.getElem?_eq_some_iff.1 hu).1; rwa [oflat_len, hl] at this
      obtain ⟨b, o, e, hc⟩ := hy.2 (by omega)
      injection e with e
      subst e
      have hi4 : j / 5 < n2 := by omega
      have hd : j / 5 * 5 + j % 5 = j := Nat.div_add_mod' j 5
      have hlt : j % 5 < (opL (nthO ys (j / 5))).length := Nat.mod_lt _ (by decide)
      have hv := oflat_at ys (j / 5) (by rw [hl]; exact hi4) (j % 5) _ (List.getElem?_eq_getElem hlt)
      rw [hd, hu] at hv
      rw [Addr.add_mid]
      have := hc (j / 5) hi4 (j % 5) _ (List.getElem?_eq_getElem hlt)
      rw [show o + j / 5 * 5 + j % 5 = o + j by omega] at this
      rw [this, ← hv]
    · obtain ⟨z, _, hz⟩ := List.mem_flatMap.1 hu
      simp only [opL, List.mem_cons, List.not_mem_nil, or_false] at hz
      rcases hz with rfl | rfl | rfl | rfl | rfl <;> rfl
    · have h3 : OwnO w' base v' (xs ++ ys) := by unfold OwnO; rw [List.flatMap_append, List.length_append, hl]; exact h1
      obtain ⟨A', c', rfl, _⟩ := h3.form
      have e : (xs ++ ys).length = n + n2 := by rw [List.length_append, hl, hlx]
      rw [e] at h3 h4 ⊢
      exact h A' c' w' h3 h2 h4

end Go.Proofs.Ytoechlmahckchaa
