import Derived.Test.YtbpaepkcchpmbaaGreatG6
import Derived.Test.YtbpaepkcchpmbaaGreatG24
import Derived.Test.YtbpaepkcchpmbaaGreatG12
import Derived.Laws.Slices
import Derived.Laws.AppendOwnNone
namespace Go.Proofs.YtbpaepkcchpmbaaGreat
open Go.RowKit
set_option maxRecDepth 100000 in
theorem flat_set : ∀ (ys : List It) (i : Nat) (y : It), i < ys.length → (ys.set i y).flatMap itemL = ((((ys.flatMap itemL).set (i * 4) (.int .i64 y.s)).set (i * 4 + 1) (.int .i64 y.t)).set (i * 4 + 2) (.int .i64 y.q)).set (i * 4 + 3) (.int .i64 y.v)
  | [], _, _, h => by simp at h
  | x :: r, 0, y, _ => by simp [itemL]
  | x :: r, i + 1, y, h => by
    have ih := flat_set r i y (by simpa using h)
    rw [List.set_cons_succ, List.flatMap_cons, ih, List.flatMap_cons]
    have e : ∀ (l : List Value) (k : Nat) (v : Value), itemL x ++ l.set k v = (itemL x ++ l).set (k + 4) v := fun l k v => by
      rw [List.set_append_right _ _ (by simp [itemL])]; simp [itemL]
    rw [e, e, e, e]
    have e2 : (i + 1) * 4 = i * 4 + 4 := by omega
    have e3 : ∀ k, (i + 1) * 4 + k = i * 4 + k + 4 := fun k => by omega
    rw [e3, e3, e3, e2]
section
variable {w w' : World} {base b n c : Nat} {ys : List It}
set_option maxRecDepth 100000 in
theorem OwnIt.blk (h : OwnIt w base (.slice (some ⟨b, 0, none⟩) n c) ys) : ys.length = n ∧ base ≤ b ∧ n ≤ c ∧ c ≤ maxLen ∧ ∃ cur, Has w b 61 cur ∧ cur.size = c * 4 ∧ cur.toList.take (n * 4) = ys.flatMap itemL := by
  rcases h.2 with ⟨e, h0⟩ | ⟨g, cap, cur, e, hg, hh, hn, hc, hs, ht⟩
  · cases e
  · injection e with e1 e2 e3
    injection e1 with e1
    injection e1 with e1
    subst e1; subst e2; subst e3
    exact ⟨rfl, hg, hn, hc, cur, hh, hs, ht⟩
set_option maxRecDepth 100000 in
theorem own_mk (hg : base ≤ b) (hl : ys.length = n) (hn : n ≤ c) (hc : c ≤ maxLen) {cur : Array Value} (hh : Has w b 61 cur) (hs : cur.size = c * 4) (ht : cur.toList.take (n * 4) = ys.flatMap itemL) : OwnIt w base (.slice (some ⟨b, 0, none⟩) n c) ys := by
  subst hl
  exact ⟨flat_len ys, .inr ⟨b, c, cur, rfl, hg, hh, hn, hc, hs, ht⟩⟩
set_option maxRecDepth 100000 in
theorem OwnIt.lo (h : OwnIt w base (.slice (some ⟨b, 0, none⟩) n c) ys) {m : Nat} (hm : m ≤ b) : OwnIt w m (.slice (some ⟨b, 0, none⟩) n c) ys := by
  obtain ⟨h1, _, h3, h4, cur, h5, h6, h7⟩ := h.blk
  exact own_mk hm h1 h3 h4 h5 h6 h7
set_option maxRecDepth 100000 in
theorem OwnIt.there (h : OwnIt w base (.slice (some ⟨b, 0, none⟩) n c) ys) {i : Nat} (hi : i < n) : w.there b (i * 4) 4 := fun j hj => by
  obtain ⟨_, _, h3, _, cur, h5, h6, _⟩ := h.blk
  refine ⟨?_, h5.mark _⟩
  rw [h5.cell, Array.getElem?_eq_getElem (by omega)]; rfl
set_option maxRecDepth 100000 in
theorem OwnIt.item (h : OwnIt w base (.slice (some ⟨b, 0, none⟩) n c) ys) {i : Nat} (hi : i < n) : w.rangeAt b (i * 4) (itemL (nthI ys i)) := by
  obtain ⟨b', o, e, hc⟩ := h.items.2 (by omega)
  obtain ⟨h1, _, h3, _, cur, h5, h6, h7⟩ := h.blk
  intro j v hv
  have hl : (itemL (nthI ys i)).length = 4 := rfl
  have hj : j < 4 := by have := (List.getElem?_eq_some_iff.1 hv).1; rwa [hl] at this
  rw [h5.cell]
  have hf := flat_at ys i (by omega) j v hv
  rw [← h7, List.getElem?_take, if_pos (by omega)] at hf
  simpa using hf
set_option maxRecDepth 100000 in
theorem setCell_butS (w : World) (b k : Nat) (v : Value) : ButS [b] w (w.setCell ⟨b, k, none⟩ v) := ⟨rfl, rfl, rfl, by simp [World.setCell], fun j _ hn => heap_setCell_other _ _ _ _ (fun e => hn (by simp only at e; simp [e]))⟩
set_option maxRecDepth 100000 in
theorem OwnIt.set (h : OwnIt w base (.slice (some ⟨b, 0, none⟩) n c) ys) {i : Nat} (hi : i < n) (y : It) : OwnIt (w.setCells b (i * 4) (itemL y)) base (.slice (some ⟨b, 0, none⟩) n c) (ys.set i y) ∧ ButS [b] w (w.setCells b (i * 4) (itemL y)) := by
  obtain ⟨h1, h2, h3, h4, cur, h5, h6, h7⟩ := h.blk
  have e : w.setCells b (i * 4) (itemL y) = (((w.setCell ⟨b, i * 4, none⟩ (.int .i64 y.s)).setCell ⟨b, i * 4 + 1, none⟩ (.int .i64 y.t)).setCell ⟨b, i * 4 + 2, none⟩ (.int .i64 y.q)).setCell ⟨b, i * 4 + 3, none⟩ (.int .i64 y.v) := rfl
  rw [e]
  refine ⟨own_mk h2 (by rw [List.length_set]; exact h1) h3 h4 ((((h5.put _ _).put _ _).put _ _).put _ _) (by simpa using h6) ?_, ?_⟩
  · rw [flat_set ys i y (by omega), ← h7]
    simp only [Array.toList_setIfInBounds, List.take_set]
  · have one : ∀ (w : World) (o : Nat) (v : Value), ButS [b] w (w.setCell ⟨b, o, none⟩ v) := fun w o v => setCell_butS w b o v
    exact (((one _ _ _).trans (one _ _ _)).trans (one _ _ _)).trans (one _ _ _)
set_option maxRecDepth 100000 in
theorem OwnIt.butS {gs : List Nat} {v : Value} (h : OwnIt w base v ys) (hb : ButS gs w w') (hne : ∀ k, v.ownBlock = some k → k ∉ gs) : OwnIt w' base v ys := by
  refine ⟨h.1, ?_⟩
  rcases h.2 with h0 | ⟨g, cap, cur, e, hg, hh, r⟩
  · exact .inl h0
  · refine .inr ⟨g, cap, cur, e, hg, ?_, r⟩
    rw [hb.other g (Array.getElem?_eq_some_iff.1 hh).1 (hne g (by rw [e]; rfl))]
    exact hh
set_option maxRecDepth 100000 in
theorem OwnIt.same {v : Value} (h : OwnIt w base v ys) (hk : ∀ k, v.ownBlock = some k → w'.heap[k]? = w.heap[k]?) : OwnIt w' base v ys := by
  refine ⟨h.1, ?_⟩
  rcases h.2 with h0 | ⟨g, cap, cur, e, hg, hh, r⟩
  · exact .inl h0
  · refine .inr ⟨g, cap, cur, e, hg, ?_, r⟩
    rw [hk g (by rw [e]; rfl)]
    exact hh
set_option maxRecDepth 100000 in
theorem OwnIt.blks {gs : List Nat} {A : Option Addr} (_ : OwnIt w base (.slice A n c) ys) (h : ∀ ad, A = some ad → ad.block ∈ gs) : ∀ k, (Value.slice A n c).ownBlock = some k → k ∈ gs := fun k hk => by
  cases A with
  | none => simp [Value.ownBlock] at hk
  | some ad =>
    have : ad.block = k := by simpa [Value.ownBlock] using hk
    rw [← this]; exact h ad rfl
set_option maxRecDepth 100000 in
theorem OwnIt.shape {A : Option Addr} (h : OwnIt w base (.slice A n c) ys) : (A = none ∧ n = 0 ∧ c = 0 ∧ ys = []) ∨ ∃ b, A = some ⟨b, 0, none⟩ := by
  rcases h.2 with ⟨e, h0⟩ | ⟨g, cap, cur, e, _⟩
  · injection e with e1 e2 e3
    exact .inl ⟨e1, e2, e3, List.length_eq_zero_iff.1 h0⟩
  · injection e with e1 e2 e3
    exact .inr ⟨g, e1⟩
set_option maxRecDepth 100000 in
theorem OwnIt.len {A : Option Addr} (h : OwnIt w base (.slice A n c) ys) : ys.length = n := h.items.1
set_option maxRecDepth 100000 in
theorem OwnIt.cap {A : Option Addr} (h : OwnIt w base (.slice A n c) ys) : n ≤ c ∧ c ≤ maxLen := by
  rcases h.shape with ⟨_, rfl, rfl, _⟩ | ⟨b, rfl⟩
  · exact ⟨Nat.le_refl _, by unfold maxLen; omega⟩
  · obtain ⟨_, _, h3, h4, _⟩ := h.blk
    exact ⟨h3, h4⟩
end
set_option maxRecDepth 100000 in
theorem run_ldIt {g k : Nat} {A : Option Addr} {m c : Nat} {w : World} (h : w.cell? ⟨g, k, none⟩ = some (.slice A m c)) : (Instr.loadAt 38 (.pointer (some ⟨g, k, none⟩))).run Tryz.prog w = .ok (.slice A m c) w := by simp [go_sem, h, Instr.loadAt]
section
variable {D : List (Option Tmp)} {Φ : Fact} {o : Oper} {a : Act} {w : World}
set_option maxRecDepth 100000 in
theorem rf_subr (hw : Region.wanted o (yieldD D a.tmps) = true) {t : Tmp} (hd : o.dst = some t) (x y : Operand) (ho : o.op = .binOp .sub 3 x y 3) (p q r : Int) (hx : a.eval x = .int .i64 p) (hy : a.eval y = .int .i64 q) (hr : p - q = r) (h1 : -9223372036854775808 ≤ r) (h2 : r ≤ 9223372036854775807) (h : Φ (.int .i64 r) w) : StepD Tryz.prog D Φ o a w := by
  subst hr
  exact rf_sub hw hd x y ho p q hx hy h1 h2 h
set_option maxRecDepth 100000 in
theorem rf_indexIt (hw : Region.wanted o (yieldD D a.tmps) = true) {t : Tmp} (hd : o.dst = some t) (x i : Operand) (ho : o.op = .indexAddr 38 x i)
    (b f n c k : Nat) (z : Int) (hx : a.eval x = .slice (some ⟨b, f, none⟩) n c) (hi : a.eval i = .int .i64 z) (hz : z = (k : Int)) (hk : k < n) (h : Φ (.pointer (some ⟨b, f + k * 4, none⟩)) w) : StepD Tryz.prog D Φ o a w :=
  rf_index (s := 4) hw hd 38 x i ho Tryz.underlying38 (fun _ => by kernel_rfl) b f n c k z hx hi hz hk h
set_option maxRecDepth 100000 in
theorem rf_indexIt0 (hw : Region.wanted o (yieldD D a.tmps) = true) {t : Tmp} (hd : o.dst = some t) (x i : Operand) (ho : o.op = .indexAddr 38 x i)
    (b n c k : Nat) (z : Int) (hx : a.eval x = .slice (some ⟨b, 0, none⟩) n c) (hi : a.eval i = .int .i64 z) (hz : z = (k : Int)) (hk : k < n) (h : Φ (.pointer (some ⟨b, k * 4, none⟩)) w) : StepD Tryz.prog D Φ o a w :=
  rf_indexIt hw hd x i ho b 0 n c k z hx hi hz hk (by rw [Nat.zero_add]; exact h)
set_option maxRecDepth 100000 in
theorem rf_loadIt (hw : Region.wanted o (yieldD D a.tmps) = true) {t : Tmp} (hd : o.dst = some t) (x : Operand) (ho : o.op = .load 61 x) (g k : Nat) (hx : a.eval x = .pointer (some ⟨g, k, none⟩)) (y : It) (hc : w.rangeAt g k (itemL y)) (h : Φ (.agg #[.int .i64 y.s, .int .i64 y.t, .int .i64 y.q, .int .i64 y.v]) w) : StepD Tryz.prog D Φ o a w :=
  rf_loadS hw hd 61 x ho g k hx (itemL y) hc Tryz.underlying61 rfl Tryz.sizeItem h
set_option maxRecDepth 100000 in
theorem stepL_item {gs : List Nat} {I : Bool → Bool → World → Prop} {w0 : World} {c1 c2 b1 b2 : Bool} (hgd : o.guard = none) (hd : o.dst = none) (x y : Operand) (ho : o.op = .store 61 x y) (b k : Nat) (z : It)
    (hx : a.eval x = .pointer (some ⟨b, k, none⟩)) (hy : a.eval y = .agg #[.int .i64 z.s, .int .i64 z.t, .int .i64 z.q, .int .i64 z.v]) (ht : w.there b k 4)
    (hI : MI gs I w0 b1 b2 w) (hb : ButS gs w (w.setCells b k (itemL z))) (hs : I c1 c2 (w.setCells b k (itemL z))) (h : Φ undef (w.setCells b k (itemL z))) : StepL Tryz.prog D Φ (ButS gs) (MI gs I w0 c1 c2) o a w := by
  intro Q
  rw [if_pos (guard_none hgd)]
  refine wp_store_mid 61 x y ho b k #[.int .i64 z.s, .int .i64 z.t, .int .i64 z.q, .int .i64 z.v] hx hy ht Tryz.sizeItem (by simp [Value.oneCell']) ?_
  rw [hd]
  exact ⟨undef, rfl, fun _ => rfl, hb, ⟨hI.gr.trans hb, hs⟩, h⟩
end
end Go.Proofs.YtbpaepkcchpmbaaGreat
namespace Go.Proofs.YtbpaepkcchpmbaaGreat
open Go.RowKit
set_option maxRecDepth 100000 in
theorem nthI_take (xs : List It) {k i : Nat} (h : i < k) : nthI (xs.take k) i = nthI xs i := by
  unfold nthI; rw [List.getD_eq_getElem?_getD, List.getD_eq_getElem?_getD, List.getElem?_take, if_pos h]
set_option maxRecDepth 100000 in
theorem nthI_drop (xs : List It) (k i : Nat) : nthI (xs.drop k) i = nthI xs (k + i) := by
  unfold nthI; rw [List.getD_eq_getElem?_getD, List.getD_eq_getElem?_getD, List.getElem?_drop]
set_option maxRecDepth 100000 in
theorem Items.one {w : World} {g : Nat} {y : It} (h : Has w g 61 (itemL y).toArray) : Items w (some ⟨g, 0, none⟩) 1 [y] :=
  ⟨rfl, fun _ => ⟨g, 0, rfl, fun i hi => by
    obtain rfl : i = 0 := by omega
    have e : nthI [y] 0 = y := rfl
    rw [e]
    exact range_item h⟩⟩
set_option maxRecDepth 100000 in
theorem OwnIt.firsts {w : World} {base b n c : Nat} {ys : List It} (h : OwnIt w base (.slice (some ⟨b, 0, none⟩) n c) ys) {k : Nat} (hk : k ≤ n) : OwnIt w base (.slice (some ⟨b, 0, none⟩) k c) (ys.take k) := by
  obtain ⟨h1, h2, h3, h4, cur, h5, h6, h7⟩ := h.blk
  refine own_mk h2 (by rw [List.length_take]; omega) (by omega) h4 h5 h6 ?_
  have e : ∀ (l : List It) (k : Nat), (l.take k).flatMap itemL = (l.flatMap itemL).take (k * 4) := by
    intro l
    induction l with
    | nil => intro k; simp
    | cons x r ih =>
      intro k
      cases k with
      | zero => simp
      | succ k =>
        rw [List.take_succ_cons, List.flatMap_cons, List.flatMap_cons, ih k, show (k + 1) * 4 = k * 4 + 4 by omega]
        rfl
  rw [e, ← h7, List.take_take, Nat.min_eq_left (by omega)]
set_option maxRecDepth 100000 in
theorem grow_below {w w' : World} {row : Option Nat} (h : w.grownBy w' row) {B : Nat} (hr : ∀ b, row = some b → B ≤ b) (hB : B ≤ w.heap.size) : Below B w w' :=
  ⟨h.os, h.tape, h.output, h.size, fun k hk => h.block k (by omega) (fun e => by have := hr k e.symm; omega)⟩
set_option maxRecDepth 100000 in
theorem grow_refl (w : World) (row : Option Nat) : w.grownBy w row := ⟨rfl, rfl, rfl, Nat.le_refl _, fun _ _ _ => rfl⟩
section
variable {ops : Array Oper} {rest : List Oper} {op : Oper} {p : Act} {w : World} {Q : Exit → Act → World → Prop}
set_option maxRecDepth 100000 in
theorem app_its (hgd : op.guard = none) (s x : Operand)
    (ho : op.op = .call { callee := .builtin .append, args := #[s, x], argTypes := #[38, 38] })
    {base n k c : Nat} {A : Option Addr} {v : Value} {xs ys : List It} (hs : p.eval s = v) (hown : OwnIt w base v xs) (hx : p.eval x = .slice A k c) (hy : Items w A k ys) (hnil : A = none → c = 0 ∧ k = 0)
    (hnl : xs.length = n) (hn : (n + k) * 32 ≤ 140737488355328) (hbase : base ≤ w.heap.size)
    (h : ∀ A' m c' w', m = n + k → OwnIt w' base (.slice A' m c') (xs ++ ys) → w.grownBy w' v.ownBlock → (∀ ad, A' = some ad → v.ownBlock = some ad.block ∨ w.heap.size ≤ ad.block) → wpList Tryz.prog ops Q rest (p.put op.dst (.slice A' m c')) w') : wpList Tryz.prog ops Q (op :: rest) p w := by
  obtain ⟨i0, hi, hz, hs0, hy0⟩ := info_parts Tryz.infoItem
  have hl := hy.1
  subst hnl
  cases A with
  | none =>
    obtain ⟨rfl, rfl⟩ := hnil rfl
    obtain rfl : ys = [] := List.eq_nil_of_length_eq_zero hl
    obtain ⟨A', c', e, _⟩ := hown.form
    subst e
    refine wpList_append_own_none hgd s x 38 ho base 61 i0 4 Tryz.underlying38 hi _ xs.length _ hs hown hx ?_
    refine h A' xs.length c' w rfl (by rw [List.append_nil]; exact hown) (grow_refl _ _) fun ad e => ?_
    subst e
    exact .inl (by simp [Value.ownBlock])
  | some ad =>
    refine wpList_append_own_at w hgd s x 38 ho base 61 i0 _ 4 32 Tryz.underlying38 hi hz hs0 hy0 rfl (by omega) v xs.length (xs.flatMap itemL) hs hown ad k c (ys.flatMap itemL) hx (by rw [flat_len, hl])
      (fun j u hu => ?_) (fun u hu => ?_) (by unfold maxLen; omega) (by omega) hbase (fun v' w' h1 h2 _ h4 => ?_)
    · have hj : j < k * 4 := by have := (List.getElem?_eq_some_iff.1 hu).1; rwa [flat_len, hl] at this
      obtain ⟨b, o, e, hc⟩ := hy.2 (by omega)
      injection e with e
      subst e
      rw [Addr.add_mid]
      have hq := hc (j / 4) (by omega) (j % 4)
      have hlt : j % 4 < (itemL (nthI ys (j / 4))).length := Nat.mod_lt _ (by simp)
      have e2 := flat_at ys (j / 4) (by omega) (j % 4) _ (List.getElem?_eq_getElem hlt)
      rw [show j / 4 * 4 + j % 4 = j by omega, hu] at e2
      have e3 := hq _ (List.getElem?_eq_getElem hlt)
      rw [show o + j / 4 * 4 + j % 4 = o + j by omega] at e3
      rw [e3, ← e2]
    · obtain ⟨z, _, hz⟩ := List.mem_flatMap.1 hu
      simp only [itemL, List.mem_cons, List.not_mem_nil, or_false] at hz
      rcases hz with rfl | rfl | rfl | rfl <;> rfl
    · have h3 : OwnIt w' base v' (xs ++ ys) := by unfold OwnIt; rw [List.flatMap_append, List.length_append, hl]; exact h1
      obtain ⟨A', c', rfl, _⟩ := h3.form
      have e : (xs ++ ys).length = xs.length + k := by rw [List.length_append, hl]
      rw [e] at h3 h4 ⊢
      refine h A' _ c' w' rfl h3 h2 (fun ad e => ?_)
      subst e
      rcases h4 with h4 | h4
      · exact .inl (by rw [← h4]; simp [Value.ownBlock])
      · have : ad.block = w.heap.size := by simpa [Value.ownBlock] using h4
        exact .inr (by omega)
set_option maxRecDepth 100000 in
theorem size_itE (w : World) : (sizeOf (Tryz.prog.elem 38)).run Tryz.prog w = .ok 4 w := by kernel_rfl
set_option maxRecDepth 100000 in
theorem elem_it : Tryz.prog.underlying 38 = some (.slice (Tryz.prog.elem 38)) := by kernel_rfl
set_option maxRecDepth 100000 in
theorem cut_toIt (hgd : op.guard = none) (x y : Operand) (ho : op.op = .slice 38 x none (some y) none)
    {D : Option Addr} {n e u : Nat} {z : Int} (hx : p.eval x = .slice D n e) (hy : p.eval y = .int .i64 z) (hz : z = (u : Int)) (hu : u ≤ e)
    (h : wpList Tryz.prog ops Q rest (p.put op.dst (.slice D u e)) w) : wpList Tryz.prog ops Q (op :: rest) p w :=
  wpList_plain hgd fun _ hK => by
    subst hz
    have hd : D.map (·.add (0 * 4)) = D := by
      cases D with
      | none => rfl
      | some a => cases a; simp [Addr.add]
    have hs : (Instr.sliceAt 38 (.slice D n e) none (some (.int .i64 (u : Int))) none).run Tryz.prog w = .ok (.slice D u e) w := by
      rw [run_sliceAt_slice w _ _ _ _ _ elem_it, run_slice_h w _ D n e elem_it .i64 (u : Int) (by omega) (by omega), size_itE]
      simp only [Result.andThen_ok, sliced, hd, ite_self, Int.toNat_natCast, Nat.sub_zero]
    unfold Oper.wp execOp
    simp only [ho, Option.map_some, Option.map_none, hx, hy, Sem.run_bind, hs, Result.andThen_ok]
    exact hK _ _ h
end
abbrev itV (x : It) : Value := .agg #[.int .i64 x.s, .int .i64 x.t, .int .i64 x.q, .int .i64 x.v]
abbrev itA (x : It) : Array Value := #[.int .i64 x.s, .int .i64 x.t, .int .i64 x.q, .int .i64 x.v]
set_option maxRecDepth 100000 in
theorem store_hasIt {ops : Array Oper} {rest : List Oper} {op : Oper} {a : Act} {w : World} {Q : Exit → Act → World → Prop} (hgd : op.guard = none) (x y : Operand) (ho : op.op = .store 61 x y)
    (g : Nat) {old : Array Value} {z : It} (hx : a.eval x = .pointer (some ⟨g, 0, none⟩)) (hy : a.eval y = itV z) (hg : Has w g 61 old) (hold : old.size = 4)
    (h : wpList Tryz.prog ops Q rest (a.put op.dst undef) (w.setRow g (itA z))) : wpList Tryz.prog ops Q (op :: rest) a w :=
  wpList_store_row hgd 61 x y ho g _ hx hy 61 old hg Tryz.sizeItem hold (by simp [Value.oneCell']) h
set_option maxRecDepth 100000 in
theorem load_hasIt {ops : Array Oper} {rest : List Oper} {op : Oper} {a : Act} {w : World} {Q : Exit → Act → World → Prop} (hgd : op.guard = none) (x : Operand) (ho : op.op = .load 61 x)
    (g : Nat) (hx : a.eval x = .pointer (some ⟨g, 0, none⟩)) {y : It} (hc : Has w g 61 (itA y))
    (h : wpList Tryz.prog ops Q rest (a.put op.dst (itV y)) w) : wpList Tryz.prog ops Q (op :: rest) a w :=
  load_item hgd x ho g 0 hx (range_item hc) h
set_option maxRecDepth 100000 in
theorem store_item {ops : Array Oper} {rest : List Oper} {op : Oper} {a : Act} {w : World} {Q : Exit → Act → World → Prop} (hgd : op.guard = none) (x y : Operand) (ho : op.op = .store 61 x y)
    (b k : Nat) (z : It) (hx : a.eval x = .pointer (some ⟨b, k, none⟩)) (hy : a.eval y = itV z) (ht : w.there b k 4)
    (h : wpList Tryz.prog ops Q rest (a.put op.dst undef) (w.setCells b k (itemL z))) : wpList Tryz.prog ops Q (op :: rest) a w :=
  wpList_store_mid hgd 61 x y ho b k #[.int .i64 z.s, .int .i64 z.t, .int .i64 z.q, .int .i64 z.v] hx hy ht Tryz.sizeItem (by simp [Value.oneCell']) h
set_option maxRecDepth 100000 in
theorem butS_row {gs : List Nat} {w w' : World} (h : ButS gs w w') {g : Nat} (hg : w.heap.size ≤ g) (cs : Array Value) : ButS gs w (w'.setRow g cs) :=
  ⟨h.os, h.tape, h.output, by simp; exact h.size, fun k hk hn => (setRow_other w' g k cs (by omega)).trans (h.other k hk hn)⟩
def Far (gs : List Nat) (A : Option Addr) (n : Nat) : Prop := ∀ ad, 0 < n → A = some ad → ad.block ∉ gs
set_option maxRecDepth 100000 in
theorem Items.butS {gs : List Nat} {w w' : World} {A : Option Addr} {n : Nat} {zs : List It} (h : Items w A n zs) (hb : ButS gs w w') (hf : Far gs A n) : Items w' A n zs :=
  ⟨h.1, fun hn => by
    obtain ⟨b, o, rfl, hi⟩ := h.2 hn
    refine ⟨b, o, rfl, fun i hlt => ?_⟩
    have h0 := hi i hlt 0 _ rfl
    have hk := hb.other b (block_lt_of_cell h0) (hf _ hn rfl)
    intro j v hv
    rw [← hi i hlt j v hv]
    exact World.cell?_of_block (w := w) (w' := w') (a := ⟨b, o + i * 4 + j, none⟩) hk⟩
set_option maxRecDepth 100000 in
theorem items_has {w : World} {g : Nat} {xs : List It} {cs : Array Value} (h : Has w g 61 cs) (e : cs = (xs.flatMap itemL).toArray) : Items w (some ⟨g, 0, none⟩) xs.length xs :=
  ⟨rfl, fun _ => ⟨g, 0, rfl, fun i hi j v hv => by
    rw [show 0 + i * 4 + j = i * 4 + j by omega, h.cell, e]
    simpa using flat_at xs i hi j v hv⟩⟩
end Go.Proofs.YtbpaepkcchpmbaaGreat
