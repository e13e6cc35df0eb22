import Derived.Test.YtbpaepkcchpmbaaGreatG12
import Derived.Test.YtbpaepkcchpmbaaGreatStP
import Derived.Test.YtbpaepkcchpmbaaGreatG9
import Derived.Maps.AppendAt
import Derived.Deep.MidRow
import Derived.Great.Walk
import Derived.Laws.Slices
namespace Go.Proofs.YtbpaepkcchpmbaaGreat
open Go.RowKit
theorem has_cells {g : Nat} {t : TypeId} : ∀ (vs : List Value) (o : Nat) (w : World) (cur : Array Value), Has w g t cur → ∃ cur', Has (w.setCells g o vs) g t cur' ∧ cur'.size = cur.size ∧ ∀ k, k ≤ o → cur'.toList.take k = cur.toList.take k
  | [], o, w, cur, h => ⟨cur, h, rfl, fun _ _ => rfl⟩
  | v :: r, o, w, cur, h => by
    obtain ⟨cur', h1, h2, h3⟩ := has_cells r (o + 1) (w.setCell ⟨g, o, none⟩ v) _ (h.put o v)
    refine ⟨cur', h1, by simpa using h2, fun k hk => ?_⟩
    rw [h3 k (by omega), Array.toList_setIfInBounds, List.take_set_of_le hk]
theorem setCells_butS (g : Nat) : ∀ (vs : List Value) (o : Nat) (w : World), ButS [g] w (w.setCells g o vs)
  | [], _, w => ButS.refl _ _
  | v :: r, o, w => by
    have h1 : ButS [g] w (w.setCell ⟨g, o, none⟩ v) := ⟨rfl, rfl, rfl, by simp [World.setCell], fun j _ hn => heap_setCell_other _ _ _ _ (fun e => hn (by simp only at e; simp [e]))⟩
    exact h1.trans (setCells_butS g r (o + 1) _)
theorem setCell_butS1 (w : World) (b k : Nat) (v : Value) : ButS [b] w (w.setCell ⟨b, k, none⟩ v) := ⟨rfl, rfl, rfl, by simp [World.setCell], fun j _ hn => heap_setCell_other _ _ _ _ (fun e => hn (by simp only at e; simp [e]))⟩
theorem has_sets {w : World} {g : Nat} {t : TypeId} {cur : Array Value} (h : Has w g t cur) (vs : List Value) (o : Nat) (ho : o + vs.length ≤ cur.size) : ∃ cur', Has (w.setCells g o vs) g t cur' ∧ cur'.size = cur.size ∧ (∀ j, j < o ∨ o + vs.length ≤ j → cur'[j]? = cur[j]?) ∧ ∀ j, j < vs.length → cur'[o + j]? = vs[j]? := by
  obtain ⟨cur', h1, h2, _⟩ := has_cells vs o w cur h
  refine ⟨cur', h1, h2, fun j hj => ?_, fun j hj => ?_⟩
  · rw [← h1.cell, ← h.cell]
    exact World.cell?_setCells_out g vs o w ⟨g, j, none⟩ fun _ _ => hj
  · rw [← h1.cell]
    rw [List.getElem?_eq_getElem hj]
    exact (World.cell?_setCells_in g vs o w (fun i hi => by rw [h.cell, Array.getElem?_eq_getElem (by omega)]; rfl) j hj)
end Go.Proofs.YtbpaepkcchpmbaaGreat
namespace Go.Proofs.YtbpaepkcchpmbaaGreat
open Go.RowKit
structure Pt where
  a : Ac
  h : Nat
  c : Nat
  s : Ac
  H : Nat
def partC (p : Pt) : Array Value := accC p.a (some ⟨p.h, 0, none⟩) p.a.h.length p.c ++ accC p.s (some ⟨p.H, 0, none⟩) p.s.h.length p.s.h.length
def partL (p : Pt) : List Value := (partC p).toList
theorem partC_size (p : Pt) : (partC p).size = 26 := by unfold partC; rw [Array.size_append]; rfl
theorem partL_len (p : Pt) : (partL p).length = 26 := by unfold partL; rw [Array.length_toList, partC_size]
theorem partL_eq (p : Pt) : partL p = (accC p.a (some ⟨p.h, 0, none⟩) p.a.h.length p.c).toList ++ (accC p.s (some ⟨p.H, 0, none⟩) p.s.h.length p.s.h.length).toList := by unfold partL partC; rw [Array.toList_append]
theorem partC_one (p : Pt) : (partC p).all (·.oneCell') = true := by
  unfold partC
  rw [Array.all_append, accC_one, accC_one]; rfl
def rowP (ps : List Pt) : List Value := ps.flatMap partL
theorem rowP_len (ps : List Pt) : (rowP ps).length = ps.length * 26 := by
  induction ps with
  | nil => rfl
  | cons p r ih =>
    have e : rowP (p :: r) = partL p ++ rowP r := rfl
    rw [e, List.length_append, ih, partL_len, List.length_cons]; omega
theorem rowP_app (ps qs : List Pt) : rowP (ps ++ qs) = rowP ps ++ rowP qs := by simp [rowP]
theorem rowP_one (p : Pt) : rowP [p] = partL p := by simp [rowP]
theorem rowP_at (ps : List Pt) {i j : Nat} (hi : i < ps.length) (hj : j < 26) : (rowP ps)[i * 26 + j]? = (partL (ps[i]))[j]? := by
  induction ps generalizing i with
  | nil => simp at hi
  | cons p r ih =>
    have e : rowP (p :: r) = partL p ++ rowP r := rfl
    rw [e]
    cases i with
    | zero => rw [List.getElem?_append_left (by rw [partL_len]; omega)]; simp
    | succ i =>
      rw [List.getElem?_append_right (by rw [partL_len]; omega), partL_len, show (i + 1) * 26 + j - 26 = i * 26 + j by omega, ih (by simpa using hi)]
      simp
abbrev PT : TypeId := 271
abbrev QT : TypeId := 207
abbrev KT : TypeId := 205
set_option maxRecDepth 100000 in
theorem Tryz.infoPart : (Tryz.prog.info? 271).map (fun i => (i.zero, i.size, i.bytes)) = some (some (.agg (accC zeroAc none 0 0 ++ accC zeroAc none 0 0)), 26, 240) := by kernel_rfl
set_option maxRecDepth 100000 in
theorem Tryz.sizePart : (Tryz.prog.info? 271).map (·.size) = some 26 := by kernel_rfl
theorem info_partsP : ∃ i, Tryz.prog.info? 271 = some i ∧ i.zero = some (.agg (accC zeroAc none 0 0 ++ accC zeroAc none 0 0)) ∧ i.size = 26 ∧ i.bytes = 240 := by
  have h := Tryz.infoPart
  cases hi : Tryz.prog.info? 271 with
  | none => rw [hi] at h; simp at h
  | some i =>
    rw [hi] at h
    simp only [Option.map_some, Option.some.injEq, Prod.mk.injEq] at h
    exact ⟨i, rfl, h.1, h.2.1, h.2.2⟩
def OwnP (w : World) (v : Value) (ps : List Pt) : Prop := w.ownsRow 0 271 26 v ps.length (rowP ps)
section
variable {w w' : World} {v : Value} {A : Option Addr} {b n c : Nat} {ps : List Pt}
theorem OwnP.nil (w : World) : OwnP w (.slice none 0 0) [] := World.ownsRow_nil _ _ _ _
theorem OwnP.form (h : OwnP w v ps) : ∃ A c, v = .slice A ps.length c ∧ ps.length ≤ c ∧ c ≤ maxLen ∧ (A = none → c = 0) ∧ (∀ ad, A = some ad → ∃ k, ad = ⟨k, 0, none⟩) := by
  rcases h.2 with ⟨e, h0⟩ | ⟨g, cap, cur, e, hg, _, h3, h4, _⟩
  · exact ⟨none, 0, by rw [e, h0], by omega, Nat.zero_le _, fun _ => rfl, fun ad h => by cases h⟩
  · exact ⟨some ⟨g, 0, none⟩, cap, e, h3, h4, (fun h => by cases h), fun ad h => by injection h with h; exact ⟨g, h.symm⟩⟩
theorem OwnP.blk (h : OwnP w (.slice (some ⟨b, 0, none⟩) n c) ps) : ps.length = n ∧ n ≤ c ∧ c ≤ maxLen ∧ ∃ cur, Has w b 271 cur ∧ cur.size = c * 26 ∧ cur.toList.take (n * 26) = rowP ps := by
  rcases h.2 with ⟨e, h0⟩ | ⟨g, cap, cur, e, hg, hh, hn, hc, hs, ht⟩
  · cases e
  · injection e with e1 e2 e3
    injection e1 with e1
    injection e1 with e1
    subst e1; subst e2; subst e3
    exact ⟨rfl, hn, hc, cur, hh, hs, ht⟩
theorem OwnP.mk' (hl : ps.length = n) (hn : n ≤ c) (hc : c ≤ maxLen) {cur : Array Value} (hh : Has w b 271 cur) (hs : cur.size = c * 26) (ht : cur.toList.take (n * 26) = rowP ps) : OwnP w (.slice (some ⟨b, 0, none⟩) n c) ps := by
  subst hl
  exact ⟨rowP_len ps, .inr ⟨b, c, cur, rfl, Nat.zero_le _, hh, hn, hc, hs, ht⟩⟩
theorem OwnP.same (h : OwnP w v ps) (hk : ∀ k, v.ownBlock = some k → w'.heap[k]? = w.heap[k]?) : OwnP w' v ps := by
  refine ⟨h.1, ?_⟩
  rcases h.2 with h0 | ⟨g, cap, cur, e, hg, hh, r⟩
  · exact .inl h0
  · refine .inr ⟨g, cap, cur, e, hg, ?_, r⟩
    rw [hk g (by rw [e]; rfl)]
    exact hh
theorem OwnP.has (h : OwnP w v ps) {k : Nat} (hk : v.ownBlock = some k) : ∃ cur, Has w k 271 cur := by
  rcases h.2 with ⟨e, h0⟩ | ⟨g, cap, cur, e, hg, hh, _⟩
  · rw [e] at hk; simp [Value.ownBlock] at hk
  · rw [e] at hk
    obtain rfl : g = k := by simpa [Value.ownBlock] using hk
    exact ⟨cur, hh⟩
theorem OwnP.below (h : OwnP w v ps) (hb : Below w.heap.size w w') : OwnP w' v ps := h.same fun k hk => by
  obtain ⟨cur, hh⟩ := h.has hk
  exact hb.block k hh.lt
theorem OwnP.shape (h : OwnP w (.slice A n c) ps) : (A = none ∧ n = 0 ∧ c = 0 ∧ ps = []) ∨ ∃ b, A = some ⟨b, 0, none⟩ := by
  rcases h.2 with ⟨e, h0⟩ | ⟨g, cap, cur, e, _⟩
  · injection e with e1 e2 e3
    exact .inl ⟨e1, e2, e3, List.length_eq_zero_iff.1 h0⟩
  · injection e with e1 e2 e3
    exact .inr ⟨g, e1⟩
theorem OwnP.part (h : OwnP w (.slice (some ⟨b, 0, none⟩) n c) ps) {i : Nat} (hi : i < ps.length) : w.rangeAt b (i * 26) (partL (ps[i])) := by
  obtain ⟨h1, h3, _, cur, h5, h6, h7⟩ := h.blk
  intro j v hv
  have hj : j < 26 := by have := (List.getElem?_eq_some_iff.1 hv).1; rwa [partL_len] at this
  rw [h5.cell]
  have hf := rowP_at ps hi hj
  rw [hv, ← h7, List.getElem?_take, if_pos (by omega)] at hf
  simpa using hf
theorem OwnP.top {p : Pt} (h : OwnP w (.slice (some ⟨b, 0, none⟩) (n + 1) c) (ps ++ [p])) : w.rangeAt b (n * 26) (partL p) := by
  have hl := h.blk.1
  have hn : ps.length = n := by simpa using hl
  have := h.part (i := n) (by rw [hl]; omega)
  simpa [← hn] using this
theorem range_left {w : World} {b o : Nat} {xs ys : List Value} (h : w.rangeAt b o (xs ++ ys)) : w.rangeAt b o xs := fun j v hv => h j v (by
  have hj := (List.getElem?_eq_some_iff.1 hv).1
  rw [List.getElem?_append_left hj]; exact hv)
theorem range_right {w : World} {b o k : Nat} {xs ys : List Value} (h : w.rangeAt b o (xs ++ ys)) (hk : xs.length = k) : w.rangeAt b (o + k) ys := fun j v hv => by
  have := h (k + j) v (by rw [← hk, List.getElem?_append_right (by omega)]; simpa using hv)
  rwa [← Nat.add_assoc] at this
theorem OwnP.popped {p : Pt} (h : OwnP w (.slice (some ⟨b, 0, none⟩) (n + 1) c) (ps ++ [p])) (vs : List Value) : OwnP (w.setCells b (n * 26) vs) (.slice (some ⟨b, 0, none⟩) n c) ps := by
  obtain ⟨h1, h3, h4, cur, h5, h6, h7⟩ := h.blk
  have hn : ps.length = n := by simpa using h1
  obtain ⟨cur', k1, k2, k3⟩ := has_cells vs (n * 26) w cur h5
  refine OwnP.mk' hn (by omega) h4 k1 (by omega) ?_
  rw [k3 _ (Nat.le_refl _)]
  have e : cur.toList.take (n * 26) = (cur.toList.take ((n + 1) * 26)).take (n * 26) := by rw [List.take_take, Nat.min_eq_left (by omega)]
  rw [e, h7, rowP_app, List.take_append_of_le_length (by rw [rowP_len, hn]; omega), List.take_of_length_le (by rw [rowP_len, hn]; omega)]
theorem OwnP.there {p : Pt} (h : OwnP w (.slice (some ⟨b, 0, none⟩) (n + 1) c) (ps ++ [p])) : w.there b (n * 26) 26 := fun j hj => by
  obtain ⟨_, h3, _, cur, h5, h6, _⟩ := h.blk
  refine ⟨?_, h5.mark _⟩
  rw [h5.cell, Array.getElem?_eq_getElem (by omega)]; rfl
theorem OwnI.same {base : Nat} {xs : List Int} (h : OwnI w base v xs) (hk : ∀ k, v.ownBlock = some k → w'.heap[k]? = w.heap[k]?) : OwnI w' base v xs := by
  refine ⟨h.1, ?_⟩
  rcases h.2 with h0 | ⟨g, cap, cur, e, hg, hh, r⟩
  · exact .inl h0
  · refine .inr ⟨g, cap, cur, e, hg, ?_, r⟩
    rw [hk g (by rw [e]; rfl)]
    exact hh
theorem OwnI.has {base : Nat} {xs : List Int} (h : OwnI w base v xs) {k : Nat} (hk : v.ownBlock = some k) : ∃ cur, Has w k 3 cur := by
  rcases h.2 with ⟨e, h0⟩ | ⟨g, cap, cur, e, hg, hh, _⟩
  · rw [e] at hk; simp [Value.ownBlock] at hk
  · rw [e] at hk
    obtain rfl : g = k := by simpa [Value.ownBlock] using hk
    exact ⟨cur, hh⟩
theorem OwnP.apart (h : OwnP w v ps) {k : Nat} {t : TypeId} {cs : Array Value} (hh : Has w k t cs) (ht : t ≠ 271) : v.ownBlock ≠ some k := fun e => by
  obtain ⟨cur, h2⟩ := h.has e
  exact has_types hh h2 ht
end
theorem app_part {ops : Array Oper} {rest : List Oper} {op : Oper} {p : Act} {w : World} {Q : Exit → Act → World → Prop} (hgd : op.guard = none) (s x : Operand)
    (ho : op.op = .call { callee := .builtin .append, args := #[s, x], argTypes := #[205, 205] })
    {g : Nat} {v : Value} {ps : List Pt} {q : Pt} (hs : p.eval s = v) (hown : OwnP w v ps) (hx : p.eval x = .slice (some ⟨g, 0, none⟩) 1 1) (hg : Has w g 271 (partC q))
    (hn : ps.length ≤ 65536)
    (h : ∀ v' w', OwnP w' v' (ps ++ [q]) → w.grownBy w' v.ownBlock → (v'.ownBlock = v.ownBlock ∨ v'.ownBlock = some w.heap.size) → wpList Tryz.prog ops Q rest (p.put op.dst v') w') : wpList Tryz.prog ops Q (op :: rest) p w := by
  obtain ⟨i0, hi, hz, hs0, hy0⟩ := info_partsP
  refine wpList_append_own_at w hgd s x 205 ho 0 271 i0 _ 26 240 Tryz.underlying205 hi hz hs0 hy0 (by show (accC zeroAc none 0 0 ++ accC zeroAc none 0 0).size = 26; rw [Array.size_append]; rfl) (by omega) v ps.length (rowP ps) hs hown ⟨g, 0, none⟩ 1 1 (partL q) hx (by rw [partL_len])
    (fun j u hu => ?_) (fun u hu => ?_) (by unfold maxLen; omega) (by omega) (Nat.zero_le _) (fun v' w' h1 h2 _ h4 => ?_)
  · rw [Addr.add_mid, hg.cell]
    simpa [partL] using hu
  · have := partC_one q
    rw [Array.all_eq_true_iff_forall_mem] at this
    exact this u (by simpa [partL] using hu)
  · refine h v' w' ?_ h2 h4
    have e : rowP (ps ++ [q]) = rowP ps ++ partL q := by rw [rowP_app, rowP_one]
    unfold OwnP
    rw [e, List.length_append]
    exact h1
end Go.Proofs.YtbpaepkcchpmbaaGreat
namespace Go.Proofs.YtbpaepkcchpmbaaGreat
open Go.RowKit
def OutA (V : Ac) (w : World) (e : Ending) (w' : World) : Prop :=
  ∃ H, w.heap.size ≤ H ∧ e = .returned (accV V (some ⟨H, 0, none⟩) V.h.length V.h.length) ∧ Has w' H 3 (ints V.h) ∧ Below w.heap.size w w'
def OutT (V : Ac) (w : World) (e : Ending) (w' : World) : Prop :=
  ∃ H, e = .returned (accV V (some ⟨H, 0, none⟩) V.h.length V.h.length) ∧ Has w' H 3 (ints V.h) ∧ Below w.heap.size w w'
set_option maxRecDepth 100000 in
set_option maxHeartbeats 1000000 in
theorem qjoin_any (g : Nat) (bA : Option Addr) (m d : Nat) (bs : List Int) (F B : Value) (A : Option Addr) (n c : Nat) (xs : List Ac) (w : World) (hst : Has w g QT #[.slice bA m d, F, B]) (hbs : Ints w bA m bs) (hA : Accs w A n xs) (hn : n ≤ 17592186044416) (hJ : RowJ bs xs) :
    Calls Tryz.prog 189 #[.pointer (some ⟨g, 0, none⟩), .slice A n c] w (OutA (joinAc bs xs) w) := by
  have c0' : ∀ o, (w.alloc o).cell? ⟨g, 0, none⟩ = some (.slice bA m d) := fun o => (hst.alloc o).cell 0
  have HJ : Hid (∀ w', Below w.heap.size w w' → Calls Tryz.prog 219 #[.slice bA m d, .slice A n c] w' (GoodAcc (joinAc bs xs) w')) := fun w' hb => join_ok bA m d bs A n c xs w' (hbs.below hb) (hA.below hb) hn hJ.bd hJ.tog hJ.tot
  have HAL : Hid (∀ o, Below w.heap.size w (w.alloc o)) := fun o => (Below.refl _ _).alloc (Nat.le_refl _) o
  clear hst hbs hA hJ
  generalize joinAc bs xs = V at HJ ⊢
  go_enter Tryz.func189, Tryz.ntmps189
  go_wp2_with fail
  refine (HJ.out _ (HAL.out _)).mono ?_
  rintro e w2 ⟨H, hH, rfl, hh, hb⟩
  have H4 := Lib.hid (show Has w2 w.heap.size 144 (accC zeroAc none 0 0) from (Has.made w _ _).below hb (by simp))
  have HH := Lib.hid (show Has w2 H 3 (ints V.h) from hh)
  have HLT := Lib.hid (show w.heap.size + 1 ≤ H by simpa using hH)
  have HB := Lib.hid ((HAL.out _).trans (hb.mono (by simp)))
  clear hb hh hH HAL HJ
  go_wp2_with (first | (refine store_made rfl _ _ rfl (ac := V) (A := some ⟨H, 0, none⟩) (k := V.h.length) (c := V.h.length) rfl rfl rfl ?_) | (refine load_has rfl _ rfl w2.heap.size rfl (Has.made _ _ _) ?_) | (refine store_has rfl _ _ rfl w.heap.size rfl rfl (H4.out.alloc _) rfl ?_))
  refine bodyPost_ret (ret_row1 rfl _ _ _ 144 (accC V (some ⟨H, 0, none⟩) V.h.length V.h.length) _ rfl ((H4.out.alloc _).row _) Tryz.underlying144 rfl (by exact Tryz.sizeAcc)) rfl ?_
  have hlt := HLT.out
  exact ⟨H, by omega, rfl, (HH.out.alloc _).rowFar (by omega) _, below_row (below_alloc HB.out (Nat.le_refl _) _) (Nat.le_refl _) _⟩
theorem load_accR {ops : Array Oper} {rest : List Oper} {op : Oper} {a : Act} {w : World} {Q : Exit → Act → World → Prop} (hgd : op.guard = none) (x : Operand) (ho : op.op = .load 144 x)
    (b o : Nat) (hx : a.eval x = .pointer (some ⟨b, o, none⟩)) {ac : Ac} {A : Option Addr} {k c : Nat} (hc : w.rangeAt b o (accC ac A k c).toList)
    (h : wpList Tryz.prog ops Q rest (a.put op.dst (.agg (accC ac A k c))) w) : wpList Tryz.prog ops Q (op :: rest) a w :=
  wpList_load_mid hgd 144 x ho b o hx _ _ hc Tryz.underlying144 rfl Tryz.sizeAcc (by simpa using h)
def topV (bs : List Int) : List Pt → Ac
  | [] => joinAc bs []
  | p :: _ => p.s
set_option maxRecDepth 100000 in
set_option maxHeartbeats 1000000 in
theorem stk_none (g : Nat) (bA : Option Addr) (m d : Nat) (bs : List Int) (F B : Value) (w : World) (hst : Has w g QT #[.slice bA m d, F, B]) (hbs : Ints w bA m bs) (hbd : boundsB bs = true) (A : Option Addr) (c : Nat) :
    Calls Tryz.prog 190 #[.pointer (some ⟨g, 0, none⟩), .slice A 0 c] w (OutA (joinAc bs []) w) := by
  have HJ : Hid (∀ w', Below w.heap.size w w' → Calls Tryz.prog 189 #[.pointer (some ⟨g, 0, none⟩), .slice none 0 0] w' (OutA (joinAc bs []) w')) := fun w' hb => qjoin_any g bA m d bs F B none 0 0 [] w' (hst.below hb hst.lt) (hbs.below hb) (Accs.nil _ _) (by omega) (RowJ.nil hbd)
  have HAL : Hid (∀ o, Below w.heap.size w (w.alloc o)) := fun o => (Below.refl _ _).alloc (Nat.le_refl _) o
  clear hst hbs hbd
  generalize joinAc bs [] = V at HJ ⊢
  go_enter Tryz.func190, Tryz.ntmps190
  go_wp2_with fail
  refine (HJ.out _ (HAL.out _)).mono ?_
  rintro e w2 ⟨H, hH, rfl, hh, hb⟩
  have H4 := Lib.hid (show Has w2 w.heap.size 144 (accC zeroAc none 0 0) from (Has.made w _ _).below hb (by simp))
  have HH := Lib.hid hh
  have HLT := Lib.hid (show w.heap.size + 1 ≤ H by simpa using hH)
  have HB := Lib.hid ((HAL.out _).trans (hb.mono (by simp)))
  clear hb hh hH HAL HJ
  go_wp2_with (refine store_has rfl _ _ rfl w.heap.size (ac := V) (A := some ⟨H, 0, none⟩) (k := V.h.length) (c := V.h.length) rfl rfl H4.out rfl ?_)
  refine bodyPost_ret (ret_row1 rfl _ _ _ 144 (accC V (some ⟨H, 0, none⟩) V.h.length V.h.length) _ rfl (H4.out.row _) Tryz.underlying144 rfl (by exact Tryz.sizeAcc)) rfl ?_
  have hlt := HLT.out
  exact ⟨H, by omega, rfl, HH.out.rowFar (by omega) _, below_row HB.out (Nat.le_refl _) _⟩
set_option maxRecDepth 100000 in
set_option maxHeartbeats 1000000 in
theorem stk_some (g : Nat) (w : World) (b n c : Nat) (ps : List Pt) (p : Pt) (ho : OwnP w (.slice (some ⟨b, 0, none⟩) (n + 1) c) (ps ++ [p])) (hn : n ≤ 65536) (hh : Has w p.H 3 (ints p.s.h)) :
    Calls Tryz.prog 190 #[.pointer (some ⟨g, 0, none⟩), .slice (some ⟨b, 0, none⟩) (n + 1) c] w (OutT p.s w) := by
  have hr : w.rangeAt b (n * 26 + 13) (accC p.s (some ⟨p.H, 0, none⟩) p.s.h.length p.s.h.length).toList := range_right (by rw [← partL_eq]; exact ho.top) (by rw [accC_len])
  have HR : Hid (∀ o, (w.alloc o).rangeAt b (n * 26 + 13) (accC p.s (some ⟨p.H, 0, none⟩) p.s.h.length p.s.h.length).toList) := fun o => rangeAt_keep hr (by rw [accC_len]; omega) fun _ hp => ((Below.refl _ w).alloc (Nat.le_refl _) o).cell hp
  have HAL : Hid (∀ o, Below w.heap.size w (w.alloc o)) := fun o => (Below.refl _ _).alloc (Nat.le_refl _) o
  have HH : Hid (∀ o, Has (w.alloc o) p.H 3 (ints p.s.h)) := fun o => hh.alloc o
  have HNE : Hid (p.H ≠ w.heap.size) := fun e => by have := hh.lt; omega
  clear hr ho hh
  generalize p.H = H at HR HH HNE
  generalize p.s = V at HR HH ⊢
  have hz : ((n + 1 : Nat) : Int) - 1 = (n : Int) := by omega
  have hlt : (n : Int) < ((n + 1 : Nat) : Int) := by omega
  have hne : ¬ ((n + 1 : Nat) : Int) = 0 := by omega
  go_enter Tryz.func190, Tryz.ntmps190
  go_wp2_with (first | (refine load_accR rfl _ rfl b (n * 26 + 13) (by simp [go_sem]) (HR.out _) ?_) | (refine store_has rfl _ _ rfl w.heap.size (ac := V) (A := some ⟨H, 0, none⟩) (k := V.h.length) (c := V.h.length) rfl rfl (Has.made _ _ _) rfl ?_))
  refine bodyPost_ret (ret_row1 rfl _ _ _ 144 (accC V (some ⟨H, 0, none⟩) V.h.length V.h.length) _ rfl ((Has.made _ _ _).row _) Tryz.underlying144 rfl (by exact Tryz.sizeAcc)) rfl ?_
  exact ⟨H, rfl, (HH.out _).rowFar HNE.out _, below_row (HAL.out _) (Nat.le_refl _) _⟩
theorem zero26 : (accC zeroAc none 0 0 ++ accC zeroAc none 0 0).size = 26 := by rw [Array.size_append]; rfl
theorem zero26_one : (accC zeroAc none 0 0 ++ accC zeroAc none 0 0).all (·.oneCell') = true := by rw [Array.all_append, accC_one]; rfl
set_option maxRecDepth 100000 in
theorem store_noPart {ops : Array Oper} {rest : List Oper} {op : Oper} {a : Act} {w : World} {Q : Exit → Act → World → Prop} (hgd : op.guard = none) (x y : Operand) (ho : op.op = .store 271 x y)
    (b o : Nat) (hx : a.eval x = .pointer (some ⟨b, o, none⟩)) (hy : a.eval y = .agg (accC zeroAc none 0 0 ++ accC zeroAc none 0 0)) (ht : w.there b o 26)
    (h : wpList Tryz.prog ops Q rest (a.put op.dst undef) (w.setCells b o (accC zeroAc none 0 0 ++ accC zeroAc none 0 0).toList)) : wpList Tryz.prog ops Q (op :: rest) a w :=
  wpList_store_mid hgd 271 x y ho b o _ hx hy (by rw [zero26]; exact ht) (by rw [zero26]; exact Tryz.sizePart) zero26_one h
set_option maxRecDepth 100000 in
theorem size_part (w : World) : (sizeOf (Tryz.prog.elem 205)).run Tryz.prog w = .ok 26 w := by kernel_rfl
set_option maxRecDepth 100000 in
theorem elem_part : Tryz.prog.underlying 205 = some (.slice (Tryz.prog.elem 205)) := by kernel_rfl
set_option maxRecDepth 100000 in
theorem cut_toP {ops : Array Oper} {rest : List Oper} {op : Oper} {p : Act} {w : World} {Q : Exit → Act → World → Prop} (hgd : op.guard = none) (x y : Operand) (ho : op.op = .slice 205 x none (some y) none)
    {D : Option Addr} {n e u : Nat} {z : Int} (hx : p.eval x = .slice D n e) (hy : p.eval y = .int .i64 z) (hz : z = (u : Int)) (hu : u ≤ e)
    (h : wpList Tryz.prog ops Q rest (p.put op.dst (.slice D u e)) w) : wpList Tryz.prog ops Q (op :: rest) p w :=
  wpList_plain hgd fun _ hK => by
    subst hz
    have hd : D.map (·.add (0 * 26)) = D := by
      cases D with
      | none => rfl
      | some a => cases a; simp [Addr.add]
    have hs : (Instr.sliceAt 205 (.slice D n e) none (some (.int .i64 (u : Int))) none).run Tryz.prog w = .ok (.slice D u e) w := by
      rw [run_sliceAt_slice w _ _ _ _ _ elem_part, run_slice_h w _ D n e elem_part .i64 (u : Int) (by omega) (by omega), size_part]
      simp only [Result.andThen_ok, sliced, hd, ite_self, Int.toNat_natCast, Nat.sub_zero]
    unfold Oper.wp execOp
    simp only [ho, Option.map_some, Option.map_none, hx, hy, Sem.run_bind, hs, Result.andThen_ok]
    exact hK _ _ h
structure PopS (w : World) (g b n c : Nat) (ps : List Pt) (cs xs : Array Value) (x : Nat) (wr : World) : Prop where
  st : Has wr g QT cs
  row : OwnP wr (.slice (some ⟨b, 0, none⟩) n c) ps
  res : Has wr w.heap.size 144 (accC zeroAc none 0 0)
  box : Has wr x 144 xs
  keep : ButS [g, b] w wr
set_option maxRecDepth 100000 in
set_option maxHeartbeats 2000000 in
theorem spop_any (g i b n c : Nat) (ps : List Pt) (p : Pt) (cs : Array Value) (w : World) (hst : Has w g QT cs) (hc : cs[i]? = some (.slice (some ⟨b, 0, none⟩) (n + 1) c)) (ho : OwnP w (.slice (some ⟨b, 0, none⟩) (n + 1) c) (ps ++ [p])) (hn : n ≤ 65536) :
    Calls Tryz.prog 194 #[.pointer (some ⟨g, i, none⟩)] w fun e w' => e = .returned (accV p.a (some ⟨p.h, 0, none⟩) p.a.h.length p.c) ∧ Has w' g QT (cs.setIfInBounds i (.slice (some ⟨b, 0, none⟩) n c)) ∧ OwnP w' (.slice (some ⟨b, 0, none⟩) n c) ps ∧ ButS [g, b] w w' := by
  have HBW := Lib.hid (show b < w.heap.size ∧ b ≠ g ∧ n + 1 ≤ c by
    obtain ⟨_, h3, _, cur, h5, _⟩ := ho.blk
    exact ⟨h5.lt, fun e => has_types (e ▸ h5) hst (by decide), h3⟩)
  have HGW := Lib.hid hst.lt
  have hz : ((n + 1 : Nat) : Int) - 1 = (n : Int) := by omega
  have hlt : (n : Int) < ((n + 1 : Nat) : Int) := by omega
  have HCI := Lib.hid hc
  have HW1 : Hid (Has (w.alloc (.cells (accC zeroAc none 0 0) 144)) g QT cs ∧ OwnP (w.alloc (.cells (accC zeroAc none 0 0) 144)) (.slice (some ⟨b, 0, none⟩) (n + 1) c) (ps ++ [p]) ∧ Has (w.alloc (.cells (accC zeroAc none 0 0) 144)) w.heap.size 144 (accC zeroAc none 0 0) ∧ Below w.heap.size w (w.alloc (.cells (accC zeroAc none 0 0) 144))) :=
    ⟨hst.alloc _, ho.below ((Below.refl _ _).alloc (Nat.le_refl _) _), Has.made _ _ _, (Below.refl _ _).alloc (Nat.le_refl _) _⟩
  clear hst hc ho
  go_enter Tryz.func194, Tryz.ntmps194
  go_upto_region 1 with fail
  generalize hw0 : w.alloc (.cells #[.int .i64 0, .int .i64 0, .int .i64 0, .int .i64 0, .int .i64 0, .int .i64 0, .int .i64 0, .int .i64 0, .int .i64 0, .int .i64 0, .int .i64 0, .int .i64 0, .slice none 0 0] 144) = w1
  have hw2 : Has w1 g QT cs ∧ OwnP w1 (.slice (some ⟨b, 0, none⟩) (n + 1) c) (ps ++ [p]) ∧ Has w1 w.heap.size 144 (accC zeroAc none 0 0) ∧ Below w.heap.size w w1 := by rw [← hw0]; exact HW1.out
  clear HW1 hw0
  obtain ⟨h1, h2, h3, h4⟩ := hw2
  have hc1 : w1.cell? ⟨g, i, none⟩ = some (.slice (some ⟨b, 0, none⟩) (n + 1) c) := (h1.cell i).trans HCI.out
  have hc2 : ∀ o, (w1.alloc o).cell? ⟨g, i, none⟩ = some (.slice (some ⟨b, 0, none⟩) (n + 1) c) := fun o => ((h1.alloc o).cell i).trans HCI.out
  have HR := Lib.hid (show w1.rangeAt b (n * 26) (accC p.a (some ⟨p.h, 0, none⟩) p.a.h.length p.c).toList from range_left (by rw [← partL_eq]; exact h2.top))
  have HT := Lib.hid (show ∀ o, (w1.alloc o).there b (n * 26) 26 from fun o => (h2.below ((Below.refl _ _).alloc (Nat.le_refl _) o)).there)
  have HS3 : Hid (∀ o, PopS w g b n c ps cs o w1.heap.size (((w1.alloc (.cells o 144)).setCells b (n * 26) (accC zeroAc none 0 0 ++ accC zeroAc none 0 0).toList))) := by
    intro o
    have hb := setCells_butS b (accC zeroAc none 0 0 ++ accC zeroAc none 0 0).toList (n * 26) (w1.alloc (.cells o 144))
    have ha : Below w.heap.size w (w1.alloc (.cells o 144)) := below_alloc h4 (Nat.le_refl _) _
    have h5 := HBW.out
    have h6 := HGW.out
    have h7 := h3.lt
    refine ⟨(h1.alloc _).butS hb (by simp; omega), (h2.below ((Below.refl _ _).alloc (Nat.le_refl _) _)).popped _, (h3.alloc _).butS hb (by simp; omega), (Has.made _ _ _).butS hb (by simp; omega), (below_butS ha [g, b]).andThen hb (fun k hk => .inl (by simp at hk; simp [hk]))⟩
  clear h1 h2 h3 h4
  go_upto_region 4 with (first | (refine load_accR rfl _ rfl b (n * 26) (by simp [go_sem]) HR.out ?_) | (refine store_made rfl _ _ rfl rfl rfl rfl ?_) | (refine store_noPart rfl _ _ rfl b (n * 26) (by simp [go_sem]) rfl (HT.out _) ?_))
  have hs3 := HS3.out (accC p.a (some ⟨p.h, 0, none⟩) p.a.h.length p.c)
  clear HS3 HR HT hc1 hc2
  generalize (World.setCells _ b _ _) = w3 at hs3 ⊢
  generalize w1.heap.size = y at hs3 ⊢
  have hc3 : w3.cell? ⟨g, i, none⟩ = some (.slice (some ⟨b, 0, none⟩) (n + 1) c) := (hs3.st.cell i).trans HCI.out
  have hf3 : w3.frozen? ⟨g, i, none⟩ = false := hs3.st.mark i
  have HS3 := Lib.hid hs3
  clear hs3
  have hnc : n ≤ c := by have := HBW.out; omega
  go_upto_region 5 with (refine cut_toP rfl _ _ rfl (u := n) rfl rfl rfl hnc ?_)
  have HG := Lib.hid (show w.heap.size ≠ g ∧ y ≠ g ∧ w.heap.size ≠ b from ⟨by have := HGW.out; omega, fun e => has_types (e ▸ HS3.out.box) HS3.out.st (by decide), by have := HBW.out; omega⟩)
  have h8 := HS3.out.box.putFar (show y ≠ (⟨g, i, none⟩ : Addr).block from HG.out.2.1) (.slice (some ⟨b, 0, none⟩) n c)
  have h9 := HS3.out.res.putFar (show w.heap.size ≠ (⟨g, i, none⟩ : Addr).block from HG.out.1) (.slice (some ⟨b, 0, none⟩) n c)
  have H10 := Lib.hid (show Has (w3.setCell ⟨g, i, none⟩ (.slice (some ⟨b, 0, none⟩) n c)) g QT (cs.setIfInBounds i (.slice (some ⟨b, 0, none⟩) n c)) ∧ OwnP (w3.setCell ⟨g, i, none⟩ (.slice (some ⟨b, 0, none⟩) n c)) (.slice (some ⟨b, 0, none⟩) n c) ps ∧ ButS [g, b] w (w3.setCell ⟨g, i, none⟩ (.slice (some ⟨b, 0, none⟩) n c)) from by
    have h := HS3.out
    refine ⟨h.st.put i _, h.row.same fun k hk => ?_, h.keep.trans ⟨rfl, rfl, rfl, by simp [World.setCell], fun j _ hn => heap_setCell_other _ _ _ _ (fun e => hn (by simp only at e; simp [e]))⟩⟩
    obtain rfl : b = k := by simpa [Value.ownBlock] using hk
    exact heap_setCell_other _ _ _ _ (by have := HBW.out; simpa using this.2.1))
  have H8 := Lib.hid h8
  have H9 := Lib.hid h9
  clear h8 h9 hc3 hf3 HS3
  generalize w3.setCell _ _ = w4 at H8 H9 H10 ⊢
  go_wp2_with (first | (refine load_has rfl _ rfl y rfl H8.out ?_) | (refine store_has rfl _ _ rfl w.heap.size rfl rfl H9.out rfl ?_))
  refine bodyPost_ret (ret_row1 rfl _ _ _ 144 (accC p.a (some ⟨p.h, 0, none⟩) p.a.h.length p.c) _ rfl (H9.out.row _) Tryz.underlying144 rfl (by exact Tryz.sizeAcc)) rfl ?_
  obtain ⟨k1, k2, k3⟩ := H10.out
  refine ⟨rfl, k1.rowFar HG.out.1.symm _, k2.same fun k hk => ?_, k3.os, k3.tape, k3.output, by simpa using k3.size, fun k hk hn => (setRow_other _ _ _ _ (by omega)).trans (k3.other k hk hn)⟩
  obtain rfl : b = k := by simpa [Value.ownBlock] using hk
  exact setRow_other _ _ _ _ HG.out.2.2.symm
end Go.Proofs.YtbpaepkcchpmbaaGreat
