/-
  Rows of items that are written: an item laid over another, what stays; single operations on rows of items in a drawn region.
-/
import Derived.Test.YtjgjbhbpndjnnaaG9
import Derived.Test.YtjgjbhbpndjnnaaHeadE
import Derived.Test.YtjgjbhbpndjnnaaG15
namespace Go.Proofs.Ytjgjbhbpndjnnaa
open Go.RowKit

/-! An item laid over another. -/
set_option maxRecDepth 100000 in
theorem flat_set : ∀ (ys : List It) (i : Nat) (y : It), i < ys.length → (ys.set i y).flatMap itemL = ((((ys.flatMap itemL).set (i * 4) (.int .i64 y.s)).set (i * 4 + 1) (.int .i64 y.t)).set (i * 4 + 2) (.int .i64 y.q)).set (i * 4 + 3) (.int .i64 y.v)
  | [], _, _, h => by simp at h
  | x :: r, 0, y, _ => by simp [itemL]
  | x :: r, i + 1, y, h => by
    have ih := flat_set r i y (by simpa using h)
    rw [List.set_cons_succ, List.flatMap_cons, ih, List.flatMap_cons]
    have e : ∀ (l : List Value) (k : Nat) (v : Value), itemL x ++ l.set k v = (itemL x ++ l).set (k + 4) v := fun l k v => by
      rw [List.set_append_right _ _ (by simp [itemL])]; simp [itemL]
    rw [e, e, e, e]
    have e2 : (i + 1) * 4 = i * 4 + 4 := by omega
    have e3 : ∀ k, (i + 1) * 4 + k = i * 4 + k + 4 := fun k => by omega
    rw [e3, e3, e3, e2]
section
variable {w w' : World} {base b n c : Nat} {ys : List It}
set_option maxRecDepth 100000 in
theorem OwnIt.blk (h : OwnIt w base (.slice (some ⟨b, 0, none⟩) n c) ys) : ys.length = n ∧ base ≤ b ∧ n ≤ c ∧ c ≤ maxLen ∧ ∃ cur, Has w b 23 cur ∧ cur.size = c * 4 ∧ cur.toList.take (n * 4) = ys.flatMap itemL := by
  rcases h.2 with ⟨e, h0⟩ | ⟨g, cap, cur, e, hg, hh, hn, hc, hs, ht⟩
  · cases e
  · injection e with e1 e2 e3
    injection e1 with e1
    injection e1 with e1
    subst e1; subst e2; subst e3
    exact ⟨rfl, hg, hn, hc, cur, hh, hs, ht⟩
set_option maxRecDepth 100000 in
theorem own_mk (hg : base ≤ b) (hl : ys.length = n) (hn : n ≤ c) (hc : c ≤ maxLen) {cur : Array Value} (hh : Has w b 23 cur) (hs : cur.size = c * 4) (ht : cur.toList.take (n * 4) = ys.flatMap itemL) : OwnIt w base (.slice (some ⟨b, 0, none⟩) n c) ys := by
  subst hl
  exact ⟨flat_len ys, .inr ⟨b, c, cur, rfl, hg, hh, hn, hc, hs, ht⟩⟩
set_option maxRecDepth 100000 in
theorem OwnIt.lo (h : OwnIt w base (.slice (some ⟨b, 0, none⟩) n c) ys) {m : Nat} (hm : m ≤ b) : OwnIt w m (.slice (some ⟨b, 0, none⟩) n c) ys := by
  obtain ⟨h1, _, h3, h4, cur, h5, h6, h7⟩ := h.blk
  exact own_mk hm h1 h3 h4 h5 h6 h7
set_option maxRecDepth 100000 in
theorem OwnIt.there (h : OwnIt w base (.slice (some ⟨b, 0, none⟩) n c) ys) {i : Nat} (hi : i < n) : w.there b (i * 4) 4 := fun j hj => by
  obtain ⟨_, _, h3, _, cur, h5, h6, _⟩ := h.blk
  refine ⟨?_, h5.mark _⟩
  rw [h5.cell, Array.getElem?_eq_getElem (by omega)]; rfl
set_option maxRecDepth 100000 in
theorem OwnIt.item (h : OwnIt w base (.slice (some ⟨b, 0, none⟩) n c) ys) {i : Nat} (hi : i < n) : w.rangeAt b (i * 4) (itemL (nthI ys i)) := by
  obtain ⟨b', o, e, hc⟩ := h.items.2 (by omega)
  obtain ⟨h1, _, h3, _, cur, h5, h6, h7⟩ := h.blk
  intro j v hv
  have hl : (itemL (nthI ys i)).length = 4 := rfl
  have hj : j < 4 := by have := (List.getElem?_eq_some_iff.1 hv).1; rwa [hl] at this
  rw [h5.cell]
  have hf := flat_at ys i (by omega) j v hv
  rw [← h7, List.getElem?_take, if_pos (by omega)] at hf
  simpa using hf
set_option maxRecDepth 100000 in
theorem setCell_butS (w : World) (b k : Nat) (v : Value) : ButS [b] w (w.setCell ⟨b, k, none⟩ v) := ⟨rfl, rfl, rfl, by simp [World.setCell], fun j _ hn => heap_setCell_other _ _ _ _ (fun e => hn (by simp only at e; simp [e]))⟩
set_option maxRecDepth 100000 in
/-- An item of the row is written. -/
theorem OwnIt.set (h : OwnIt w base (.slice (some ⟨b, 0, none⟩) n c) ys) {i : Nat} (hi : i < n) (y : It) : OwnIt (w.setCells b (i * 4) (itemL y)) base (.slice (some ⟨b, 0, none⟩) n c) (ys.set i y) ∧ ButS [b] w (w.setCells b (i * 4) (itemL y)) := by
  obtain ⟨h1, h2, h3, h4, cur, h5, h6, h7⟩ := h.blk
  have e : w.setCells b (i * 4) (itemL y) = (((w.setCell ⟨b, i * 4, none⟩ (.int .i64 y.s)).setCell ⟨b, i * 4 + 1, none⟩ (.int .i64 y.t)).setCell ⟨b, i * 4 + 2, none⟩ (.int .i64 y.q)).setCell ⟨b, i * 4 + 3, none⟩ (.int .i64 y.v) := rfl
  rw [e]
  refine ⟨own_mk h2 (by rw [List.length_set]; exact h1) h3 h4 ((((h5.put _ _).put _ _).put _ _).put _ _) (by simpa using h6) ?_, ?_⟩
  · rw [flat_set ys i y (by omega), ← h7]
    simp only [Array.toList_setIfInBounds, List.take_set]
  · have one : ∀ (w : World) (o : Nat) (v : Value), ButS [b] w (w.setCell ⟨b, o, none⟩ v) := fun w o v => setCell_butS w b o v
    exact (((one _ _ _).trans (one _ _ _)).trans (one _ _ _)).trans (one _ _ _)
set_option maxRecDepth 100000 in
theorem OwnIt.butS {gs : List Nat} {v : Value} (h : OwnIt w base v ys) (hb : ButS gs w w') (hne : ∀ k, v.ownBlock = some k → k ∉ gs) : OwnIt w' base v ys := by
  refine ⟨h.1, ?_⟩
  rcases h.2 with h0 | ⟨g, cap, cur, e, hg, hh, r⟩
  · exact .inl h0
  · refine .inr ⟨g, cap, cur, e, hg, ?_, r⟩
    rw [hb.other g (Array.getElem?_eq_some_iff.1 hh).1 (hne g (by rw [e]; rfl))]
    exact hh
set_option maxRecDepth 100000 in
theorem OwnIt.same {v : Value} (h : OwnIt w base v ys) (hk : ∀ k, v.ownBlock = some k → w'.heap[k]? = w.heap[k]?) : OwnIt w' base v ys := by
  refine ⟨h.1, ?_⟩
  rcases h.2 with h0 | ⟨g, cap, cur, e, hg, hh, r⟩
  · exact .inl h0
  · refine .inr ⟨g, cap, cur, e, hg, ?_, r⟩
    rw [hk g (by rw [e]; rfl)]
    exact hh
set_option maxRecDepth 100000 in
theorem OwnIt.blks {gs : List Nat} {A : Option Addr} (_ : OwnIt w base (.slice A n c) ys) (h : ∀ ad, A = some ad → ad.block ∈ gs) : ∀ k, (Value.slice A n c).ownBlock = some k → k ∈ gs := fun k hk => by
  cases A with
  | none => simp [Value.ownBlock] at hk
  | some ad =>
    have : ad.block = k := by simpa [Value.ownBlock] using hk
    rw [← this]; exact h ad rfl
set_option maxRecDepth 100000 in
theorem OwnIt.shape {A : Option Addr} (h : OwnIt w base (.slice A n c) ys) : (A = none ∧ n = 0 ∧ c = 0 ∧ ys = []) ∨ ∃ b, A = some ⟨b, 0, none⟩ := by
  rcases h.2 with ⟨e, h0⟩ | ⟨g, cap, cur, e, _⟩
  · injection e with e1 e2 e3
    exact .inl ⟨e1, e2, e3, List.length_eq_zero_iff.1 h0⟩
  · injection e with e1 e2 e3
    exact .inr ⟨g, e1⟩
set_option maxRecDepth 100000 in
theorem OwnIt.len {A : Option Addr} (h : OwnIt w base (.slice A n c) ys) : ys.length = n := h.items.1
set_option maxRecDepth 100000 in
theorem OwnIt.cap {A : Option Addr} (h : OwnIt w base (.slice A n c) ys) : n ≤ c ∧ c ≤ maxLen := by
  rcases h.shape with ⟨_, rfl, rfl, _⟩ | ⟨b, rfl⟩
  · exact ⟨Nat.le_refl _, by unfold maxLen; omega⟩
  · obtain ⟨_, _, h3, h4, _⟩ := h.blk
    exact ⟨h3, h4⟩
end
/-! A row of items that is loaded out of a field; an index as it is reckoned. -/
set_option maxRecDepth 100000 in
theorem run_ldIt {g k : Nat} {A : Option Addr} {m c : Nat} {w : World} (h : w.cell? ⟨g, k, none⟩ = some (.slice A m c)) : (Instr.loadAt 52 (.pointer (some ⟨g, k, none⟩))).run Try.prog w = .ok (.slice A m c) w := by simp [go_sem, h, Instr.loadAt]
section
variable {D : List (Option Tmp)} {Φ : Fact} {o : Oper} {a : Act} {w : World}
set_option maxRecDepth 100000 in
theorem rf_subr (hw : Region.wanted o (yieldD D a.tmps) = true) {t : Tmp} (hd : o.dst = some t) (x y : Operand) (ho : o.op = .binOp .sub 3 x y 3) (p q r : Int) (hx : a.eval x = .int .i64 p) (hy : a.eval y = .int .i64 q) (hr : p - q = r) (h1 : -9223372036854775808 ≤ r) (h2 : r ≤ 9223372036854775807) (h : Φ (.int .i64 r) w) : StepD Try.prog D Φ o a w := by
  subst hr
  exact rf_sub hw hd x y ho p q hx hy h1 h2 h
set_option maxRecDepth 100000 in
theorem rf_indexIt (hw : Region.wanted o (yieldD D a.tmps) = true) {t : Tmp} (hd : o.dst = some t) (x i : Operand) (ho : o.op = .indexAddr 52 x i)
    (b f n c k : Nat) (z : Int) (hx : a.eval x = .slice (some ⟨b, f, none⟩) n c) (hi : a.eval i = .int .i64 z) (hz : z = (k : Int)) (hk : k < n) (h : Φ (.pointer (some ⟨b, f + k * 4, none⟩)) w) : StepD Try.prog D Φ o a w :=
  rf_index (s := 4) hw hd 52 x i ho Try.underlying52 (fun _ => by kernel_rfl) b f n c k z hx hi hz hk h
set_option maxRecDepth 100000 in
theorem rf_indexIt0 (hw : Region.wanted o (yieldD D a.tmps) = true) {t : Tmp} (hd : o.dst = some t) (x i : Operand) (ho : o.op = .indexAddr 52 x i)
    (b n c k : Nat) (z : Int) (hx : a.eval x = .slice (some ⟨b, 0, none⟩) n c) (hi : a.eval i = .int .i64 z) (hz : z = (k : Int)) (hk : k < n) (h : Φ (.pointer (some ⟨b, k * 4, none⟩)) w) : StepD Try.prog D Φ o a w :=
  rf_indexIt hw hd x i ho b 0 n c k z hx hi hz hk (by rw [Nat.zero_add]; exact h)
set_option maxRecDepth 100000 in
theorem rf_loadIt (hw : Region.wanted o (yieldD D a.tmps) = true) {t : Tmp} (hd : o.dst = some t) (x : Operand) (ho : o.op = .load 23 x) (g k : Nat) (hx : a.eval x = .pointer (some ⟨g, k, none⟩)) (y : It) (hc : w.rangeAt g k (itemL y)) (h : Φ (.agg #[.int .i64 y.s, .int .i64 y.t, .int .i64 y.q, .int .i64 y.v]) w) : StepD Try.prog D Φ o a w :=
  rf_loadS hw hd 23 x ho g k hx (itemL y) hc Try.underlying23 rfl Try.sizeItem h
set_option maxRecDepth 100000 in
/-- A writing step: an item laid into its place. -/
theorem stepL_item {gs : List Nat} {I : Bool → Bool → World → Prop} {w0 : World} {c1 c2 b1 b2 : Bool} (hgd : o.guard = none) (hd : o.dst = none) (x y : Operand) (ho : o.op = .store 23 x y) (b k : Nat) (z : It)
    (hx : a.eval x = .pointer (some ⟨b, k, none⟩)) (hy : a.eval y = .agg #[.int .i64 z.s, .int .i64 z.t, .int .i64 z.q, .int .i64 z.v]) (ht : w.there b k 4)
    (hI : MI gs I w0 b1 b2 w) (hb : ButS gs w (w.setCells b k (itemL z))) (hs : I c1 c2 (w.setCells b k (itemL z))) (h : Φ undef (w.setCells b k (itemL z))) : StepL Try.prog D Φ (ButS gs) (MI gs I w0 c1 c2) o a w := by
  intro Q
  rw [if_pos (guard_none hgd)]
  refine wp_store_mid 23 x y ho b k #[.int .i64 z.s, .int .i64 z.t, .int .i64 z.q, .int .i64 z.v] hx hy ht Try.sizeItem (by simp [Value.oneCell']) ?_
  rw [hd]
  exact ⟨undef, rfl, fun _ => rfl, hb, ⟨hI.gr.trans hb, hs⟩, h⟩
end
end Go.Proofs.Ytjgjbhbpndjnnaa
