/-
  An empty row of ints, and what is appended to a row of ints.
  append(s, ys...) of integers in a walk, ys nil or not.
  Walk: slices.Clone of a []int. (Out of XStRaw.)
  Cells laid over a block's. (Out of layers 17 and 18.) No program here.
  The program's tree as its callers see it: the row that it holds, the blocks that it owns; New, Items, Range, Evict.
-/
import Derived.Test.YtjgjbhbpndjnnaaG10
import Derived.Test.YtjgjbhbpndjnnaaG15
import Derived.Lib.LazyBuf
import Derived.Test.YtjgjbhbpndjnnaaG6
import Derived.Laws.AppendOwnNone
import Derived.Laws.Slices
import Derived.BigQuiet
import Derived.Deep.QuietTactic
import Derived.Test.YtjgjbhbpndjnnaaG23
import Derived.Test.YtjgjbhbpndjnnaaTrReg6
import Derived.Test.YtjgjbhbpndjnnaaG31
import Derived.Test.YtjgjbhbpndjnnaaG32
import Derived.Test.YtjgjbhbpndjnnaaTrWin
import Derived.Test.YtjgjbhbpndjnnaaG2
namespace Go.Proofs.Ytjgjbhbpndjnnaa
open Go.RowKit

theorem has3 (w : World) (x y : Obj) (t : TypeId) (cs : Array Value) : Has (((w.alloc x).alloc y).alloc (.cells cs t)) (w.heap.size + 1 + 1) t cs := by
  have h := Has.made ((w.alloc x).alloc y) t cs
  have e : ((w.alloc x).alloc y).heap.size = w.heap.size + 1 + 1 := by simp
  rw [e] at h
  exact h
theorem below3 (w : World) (x y z : Obj) : Below w.heap.size w (((w.alloc x).alloc y).alloc z) := below_alloc (below_alloc (below_alloc (Below.refl _ _) (Nat.le_refl _) _) (Nat.le_refl _) _) (Nat.le_refl _) _

theorem own_empty (w : World) : OwnI (w.alloc (.cells #[] 3)) w.heap.size (.slice (some ⟨w.heap.size, 0, none⟩) 0 0) [] :=
  ⟨rfl, Or.inr ⟨w.heap.size, 0, #[], rfl, Nat.le_refl _, Has.made w 3 #[], Nat.le_refl _, Nat.zero_le _, rfl, rfl⟩⟩
/-- 's = append(s, ys...)' in a walk, s empty. -/
theorem app_ints {ops : Array Oper} {rest : List Oper} {op : Oper} {p : Act} {w : World} {Q : Exit → Act → World → Prop} (hgd : op.guard = none) (s x : Operand)
    (ho : op.op = .call { callee := .builtin .append, args := #[s, x], argTypes := #[25, 25] })
    {base b o n c : Nat} {v : Value} {ys : List Int} (hs : p.eval s = v) (hown : OwnI w base v []) (hx : p.eval x = .slice (some ⟨b, o, none⟩) n c) (hy : Ints w (some ⟨b, o, none⟩) n ys)
    (hn0 : 0 < n) (hn : n ≤ 8192) (hbase : base ≤ w.heap.size)
    (h : ∀ A c' w', OwnI w' base (.slice A n c') ys → Below base w w' → wpList Try.prog ops Q rest (p.put op.dst (.slice A n c')) w') : wpList Try.prog ops Q (op :: rest) p w := by
  obtain ⟨i0, hi, hz, hs0, hy0⟩ := info_parts Try.infoInt
  have hl := hy.1
  obtain ⟨b', o', e, hc⟩ := hy.at_ hn0
  injection e with e
  injection e with e1 e2
  subst e1 e2
  refine wpList_append_own w hgd s x 25 ho base 3 i0 _ 1 8 Try.underlying25 hi hz hs0 hy0 rfl (by omega) v 0 [] hs hown ⟨b, o, none⟩ n c (intL ys) hx (by simp [intL, hl])
    (fun j u hu => ?_) (fun u hu => ?_) (by unfold maxLen; omega) (by omega) hbase (fun v' w' h1 h2 _ => ?_)
  · have hj : j < n := by have := (List.getElem?_eq_some_iff.1 hu).1; simpa [intL, hl] using this
    rw [Addr.add_mid, hc j hj, ← hu]
    simp [intL, nth, hl, hj]
  · obtain ⟨z, _, rfl⟩ := List.mem_map.1 hu
    rfl
  · have h3 : OwnI w' base v' ys := by unfold OwnI; rw [hl]; simpa using h1
    obtain ⟨A, c', rfl, _⟩ := h3.form
    rw [hl] at h3 ⊢
    refine h A c' w' h3 ⟨h2.os, h2.tape, h2.output, h2.size, fun k hk => h2.block k (by omega) (fun e => ?_)⟩
    have := World.ownsRow.lt hown k e.symm
    omega

end Go.Proofs.Ytjgjbhbpndjnnaa

namespace Go.Proofs.Ytjgjbhbpndjnnaa
open Go.RowKit

set_option maxRecDepth 100000 in
/-- 's = append(s, ys...)' in a walk, s empty, ys nil or not, as many as memory bears. -/
theorem app_intsA {ops : Array Oper} {rest : List Oper} {op : Oper} {p : Act} {w : World} {Q : Exit → Act → World → Prop} (hgd : op.guard = none) (s x : Operand)
    (ho : op.op = .call { callee := .builtin .append, args := #[s, x], argTypes := #[25, 25] })
    {base n c : Nat} {A : Option Addr} {v : Value} {ys : List Int} (hs : p.eval s = v) (hown : OwnI w base v []) (hx : p.eval x = .slice A n c) (hy : Ints w A n ys) (hnil : A = none → c = 0)
    (hn : n * 8 ≤ 140737488351232) (hbase : base ≤ w.heap.size)
    (h : ∀ A' c' w', OwnI w' base (.slice A' n c') ys → Below base w w' → wpList Try.prog ops Q rest (p.put op.dst (.slice A' n c')) w') : wpList Try.prog ops Q (op :: rest) p w := by
  obtain ⟨i0, hi, hz, hs0, hy0⟩ := info_parts Try.infoInt
  have hl := hy.1
  cases A with
  | none =>
    have hn0 : n = 0 := by
      rcases Nat.eq_zero_or_pos n with h0 | h0
      · exact h0
      · obtain ⟨b, o, e, _⟩ := hy.at_ h0
        cases e
    subst hn0
    have hc := hnil rfl
    subst hc
    obtain rfl : ys = [] := List.eq_nil_of_length_eq_zero hl
    obtain ⟨A', c', e, _⟩ := hown.form
    subst e
    exact wpList_append_own_none hgd s x 25 ho base 3 i0 1 Try.underlying25 hi _ 0 [] hs hown hx (h A' c' w hown (Below.refl _ _))
  | some ad =>
    refine wpList_append_own w hgd s x 25 ho base 3 i0 _ 1 8 Try.underlying25 hi hz hs0 hy0 rfl (by omega) v 0 [] hs hown ad n c (intL ys) hx (by simp [intL, hl])
      (fun j u hu => ?_) (fun u hu => ?_) (by unfold maxLen; omega) (by omega) hbase (fun v' w' h1 h2 _ => ?_)
    · have hj : j < n := by have := (List.getElem?_eq_some_iff.1 hu).1; simpa [intL, hl] using this
      obtain ⟨b, o, e, hc⟩ := hy.at_ (k := 0) (by omega)
      injection e with e
      subst e
      rw [Addr.add_mid, hc j hj, ← hu]
      simp [intL, nth, hl, hj]
    · obtain ⟨z, _, rfl⟩ := List.mem_map.1 hu
      rfl
    · have h3 : OwnI w' base v' ys := by unfold OwnI; rw [hl]; simpa using h1
      obtain ⟨A, c', rfl, _⟩ := h3.form
      rw [hl] at h3 ⊢
      refine h A c' w' h3 ⟨h2.os, h2.tape, h2.output, h2.size, fun k hk => h2.block k (by omega) (fun e => ?_)⟩
      have := World.ownsRow.lt hown k e.symm
      omega

end Go.Proofs.Ytjgjbhbpndjnnaa

namespace Go.Proofs.Ytjgjbhbpndjnnaa
open Go.RowKit

set_option maxRecDepth 100000 in
set_option maxHeartbeats 2000000 in
theorem sclone_some (ad : Addr) (n c : Nat) (xs : List Int) (w : World) (hr : Ints w (some ad) n xs) (hn : n * 8 ≤ 140737488351232) :
    Calls Try.prog 57 #[.slice (some ad) n c] w fun e w' => ∃ A' c', e = .returned (.slice A' n c') ∧ OwnI w' w.heap.size (.slice A' n c') xs ∧ Below w.heap.size w w' := by
  have hnil : ∀ W, (binOp .eql 25 (.slice (some ad) n c) (.slice none 0 0)).run Try.prog W = .ok (.bool false) W := fun W => Lib.run_eql_slice_nil (w := W) (h := Try.underlying25) ..
  go_enter Try.func57, Try.ntmps57
  go_wp2_with (refine app_intsA rfl _ _ rfl rfl (own_empty w) rfl (hr.below ((Below.refl _ _).alloc (Nat.le_refl _) _)) (fun e => by cases e) hn (by simp) ?_; intro A2 c2 wn hwn hbn)
  have hB : Below w.heap.size w wn := ((Below.refl _ _).alloc (Nat.le_refl _) _).trans hbn
  go_ret
  exact ⟨A2, _, rfl, hwn, hB⟩
set_option maxRecDepth 100000 in
set_option maxHeartbeats 400000 in
theorem sclone_none (w : World) :
    Calls Try.prog 57 #[.slice none 0 0] w fun e w' => e = .returned (.slice none 0 0) ∧ w = w' := by
  have hnil : ∀ W, (binOp .eql 25 (.slice none 0 0) (.slice none 0 0)).run Try.prog W = .ok (.bool true) W := fun W => Lib.run_eql_slice_nil (w := W) (h := Try.underlying25) ..
  go_enter Try.func57, Try.ntmps57
  go_wp2_with fail
  go_ret
  exact ⟨rfl, rfl⟩
theorem sclone_any (A : Option Addr) (n c : Nat) (xs : List Int) (w : World) (hr : Ints w A n xs) (hnil : A = none → c = 0) (hn : n * 8 ≤ 140737488351232) :
    Calls Try.prog 57 #[.slice A n c] w fun e w' => ∃ A' c', e = .returned (.slice A' n c') ∧ OwnI w' w.heap.size (.slice A' n c') xs ∧ Below w.heap.size w w' := by
  cases A with
  | some ad => exact sclone_some ad n c xs w hr hn
  | none =>
    have hc := hnil rfl
    subst hc
    have h0 : n = 0 := by
      rcases Nat.eq_zero_or_pos n with h | h
      · exact h
      · obtain ⟨b, o, e, _⟩ := hr.at_ h
        cases e
    subst h0
    obtain rfl : xs = [] := List.eq_nil_of_length_eq_zero hr.1
    refine (sclone_none w).mono ?_
    rintro e w' ⟨rfl, rfl⟩
    exact ⟨none, 0, rfl, OwnI.nil _ _, Below.refl _ _⟩

end Go.Proofs.Ytjgjbhbpndjnnaa

namespace Go.Proofs.Ytjgjbhbpndjnnaa
open Go.RowKit

theorem has_cells {g : Nat} {t : TypeId} : ∀ (vs : List Value) (o : Nat) (w : World) (cur : Array Value), Has w g t cur → ∃ cur', Has (w.setCells g o vs) g t cur' ∧ cur'.size = cur.size ∧ ∀ k, k ≤ o → cur'.toList.take k = cur.toList.take k
  | [], o, w, cur, h => ⟨cur, h, rfl, fun _ _ => rfl⟩
  | v :: r, o, w, cur, h => by
    obtain ⟨cur', h1, h2, h3⟩ := has_cells r (o + 1) (w.setCell ⟨g, o, none⟩ v) _ (h.put o v)
    refine ⟨cur', h1, by simpa using h2, fun k hk => ?_⟩
    rw [h3 k (by omega), Array.toList_setIfInBounds, List.take_set_of_le hk]
theorem setCells_butS (g : Nat) : ∀ (vs : List Value) (o : Nat) (w : World), ButS [g] w (w.setCells g o vs)
  | [], _, w => ButS.refl _ _
  | v :: r, o, w => by
    have h1 : ButS [g] w (w.setCell ⟨g, o, none⟩ v) := ⟨rfl, rfl, rfl, by simp [World.setCell], fun j _ hn => heap_setCell_other _ _ _ _ (fun e => hn (by simp only at e; simp [e]))⟩
    exact h1.trans (setCells_butS g r (o + 1) _)
theorem setCell_butS1 (w : World) (b k : Nat) (v : Value) : ButS [b] w (w.setCell ⟨b, k, none⟩ v) := ⟨rfl, rfl, rfl, by simp [World.setCell], fun j _ hn => heap_setCell_other _ _ _ _ (fun e => hn (by simp only at e; simp [e]))⟩
/-- Cells laid over a block's. -/
theorem has_sets {w : World} {g : Nat} {t : TypeId} {cur : Array Value} (h : Has w g t cur) (vs : List Value) (o : Nat) (ho : o + vs.length ≤ cur.size) : ∃ cur', Has (w.setCells g o vs) g t cur' ∧ cur'.size = cur.size ∧ (∀ j, j < o ∨ o + vs.length ≤ j → cur'[j]? = cur[j]?) ∧ ∀ j, j < vs.length → cur'[o + j]? = vs[j]? := by
  obtain ⟨cur', h1, h2, _⟩ := has_cells vs o w cur h
  refine ⟨cur', h1, h2, fun j hj => ?_, fun j hj => ?_⟩
  · rw [← h1.cell, ← h.cell]
    exact World.cell?_setCells_out g vs o w ⟨g, j, none⟩ fun _ _ => hj
  · rw [← h1.cell]
    rw [List.getElem?_eq_getElem hj]
    exact (World.cell?_setCells_in g vs o w (fun i hi => by rw [h.cell, Array.getElem?_eq_getElem (by omega)]; rfl) j hj)

end Go.Proofs.Ytjgjbhbpndjnnaa

namespace Go.Proofs.Ytjgjbhbpndjnnaa
open Go.RowKit

/-- The tree at g, with these bounds, holds the row R; it lies in blocks out of O. -/
def PTr (O : Nat → Prop) (g : Nat) (bs : List Int) (R : List It) (w : World) : Prop := ∃ (T : Tr) (A : Option Addr) (m d : Nat), TBd O w g bs A m d T.ptr ∧ T.At bs O w ∧ T.row = R ∧ StrS R ∧ ItsT bs R
def GrowT (O : Nat → Prop) (w w' : World) : Nat → Prop := fun k => O k ∨ (w.heap.size ≤ k ∧ k < w'.heap.size)
section
variable {O O' : Nat → Prop} {g m d : Nat} {A root : Option Addr} {bs : List Int} {R : List It} {w w' : World}
theorem TBd.mono (h : TBd O w g bs A m d root) (ho : ∀ k, k < w.heap.size → O k → O' k) : TBd O' w g bs A m d root :=
  ⟨h.st, h.bd, ho g h.st.lt h.inG, fun k hk => ho k (World.ownsRow.lt h.bd k hk).2 (h.inD k hk)⟩
theorem PTr.same (h : PTr O g bs R w) (hk : ∀ k, k < w.heap.size → O k → w'.heap[k]? = w.heap[k]?) : PTr O g bs R w' := by
  obtain ⟨T, A, m, d, h1, h2, h3, h4, h5⟩ := h
  exact ⟨T, A, m, d, h1.same hk, h2.same hk, h3, h4, h5⟩
theorem PTr.mono (h : PTr O g bs R w) (ho : ∀ k, k < w.heap.size → O k → O' k) : PTr O' g bs R w := by
  obtain ⟨T, A, m, d, h1, h2, h3, h4, h5⟩ := h
  exact ⟨T, A, m, d, h1.mono ho, h2.mono ho, h3, h4, h5⟩
theorem PTr.below (h : PTr O g bs R w) (hb : Below w.heap.size w w') : PTr O g bs R w' := h.same fun k hk _ => hb.block k hk
theorem PTr.its (h : PTr O g bs R w) : ItsT bs R := by obtain ⟨_, _, _, _, _, _, _, _, h5⟩ := h; exact h5
theorem PTr.str (h : PTr O g bs R w) : StrS R := by obtain ⟨_, _, _, _, _, _, _, h4, _⟩ := h; exact h4
theorem PTr.gO (h : PTr O g bs R w) : O g ∧ g < w.heap.size := by obtain ⟨_, _, _, _, h1, _⟩ := h; exact ⟨h1.inG, h1.st.lt⟩
theorem butO_nil {c : Nat} (h : ButO (slB (.slice none 0 c)) w w') : Below w.heap.size w w' := ⟨h.os, h.tape, h.output, h.size, fun k hk => h.other k hk (fun e => by simp [slB, Value.ownBlock] at e)⟩

/-- Items: all, in a row of the caller's. -/
theorem PTr.items (h : PTr O g bs R w) :
    Calls Try.prog 35 #[.pointer (some ⟨g, 0, none⟩)] w fun e w' => ∃ A c, e = .returned (.slice A R.length c) ∧ OwnIt w' w.heap.size (.slice A R.length c) R ∧ Below w.heap.size w w' := by
  obtain ⟨T, A, m, d, h1, h2, rfl, h4, h5⟩ := h
  have HC := Lib.hid (titems_any (P := fun k => O k ∧ k < w.heap.size) (bs := bs) w.heap.size w.heap.size (fun k hk => hk.2) T w (.slice none 0 0) [] (h2.mono fun k hk ho => ⟨ho, hk⟩) (Nat.le_refl _) (World.ownsRow_nil _ _ _ _) (Nat.le_refl _) (fun k _ e => by simp [Value.ownBlock] at e) (by have := h5.le; simp; omega))
  have hc1 : w.cell? ⟨g, 1, none⟩ = some (.pointer T.ptr) := h1.st.cell 1
  clear h1 h2 h4 h5
  generalize T.ptr = tp at hc1 HC
  rw [List.nil_append] at HC
  generalize T.row = R at HC ⊢
  go_enter Try.func35, Try.ntmps35
  go_wp2_with (refine HC.out.mono ?_; clear HC; rintro e w1 ⟨v, rfl, k1, k2, k3⟩)
  go_ret
  obtain ⟨A2, c2, rfl, _⟩ := k1.form
  exact ⟨A2, c2, rfl, k1, butO_nil k2⟩

set_option maxRecDepth 100000 in
set_option maxHeartbeats 1000000 in
/-- Range: what is known of all in the span. -/
theorem PTr.range (h : PTr O g bs R w) (sa sb : Int) :
    Calls Try.prog 31 #[.pointer (some ⟨g, 0, none⟩), .agg #[.int .i64 sa, .int .i64 sb]] w (AcO (foldA bs (inS sa sb R)) w) := by
  obtain ⟨T, A, m, d, h1, h2, rfl, h4, h5⟩ := h
  have hfl := Tr.told_flat bs sa sb T h5
  have hits : ItsT bs (T.told bs sa sb).flatten := hfl ▸ h5.sublist List.filter_sublist
  have hln := Tr.told_len bs sa sb T
  have HJ : Hid (∀ w' C n c, Below w.heap.size w w' → Accs w' C n ((T.told bs sa sb).map (foldA bs)) → Calls Try.prog 64 #[.pointer (some ⟨g, 0, none⟩), .slice C n c] w' (AcO (foldA bs (inS sa sb T.row)) w')) := fun w' C n c hb hA => by
    rw [← hfl, ← groups_join hits]
    exact tjoin_any (h1.below hb) C n c _ hA (by have := hA.1; rw [List.length_map] at this; have := h5.le; omega) (groups_row hits)
  have HC : Hid (∀ w', Below w.heap.size w w' → Calls Try.prog 65 #[.pointer (some ⟨g, 0, none⟩), .pointer T.ptr, .agg #[.int .i64 sa, .int .i64 sb], .slice none 0 0] w' fun e w1 => ∃ A n c, e = .returned (.slice A n c) ∧ Accs w1 A n ((T.told bs sa sb).map (foldA bs)) ∧ Below w'.heap.size w' w1) := fun w' hb => by
    have := twithin_any (P := fun k => O k ∧ k < w'.heap.size) (g := g) (m := m) (d := d) (A := A) (root := T.ptr) (bs := bs) w'.heap.size w'.heap.size (fun k hk => hk.2) sa sb T w' (.slice none 0 0) [] ((h1.below hb).mono fun k hk ho => ⟨ho, hk⟩) ((h2.below hb).mono fun k hk ho => ⟨ho, hk⟩) (Nat.le_refl _) (Own.nil _ _) (Nat.le_refl _) (fun k _ e => by simp [Value.ownBlock] at e) (by have := h5.le; simp; omega) h5
    refine this.mono ?_
    rintro e w1 ⟨v, qs, rfl, k1, k2, k3, k4⟩
    rw [List.nil_append] at k1
    obtain ⟨A2, c2, rfl, _⟩ := k1.form
    refine ⟨A2, _, c2, rfl, ?_, butO_nil k3⟩
    rw [← k2]
    refine k1.accs fun p hp => ?_
    have hm : p.1 ∈ (T.told bs sa sb).map (foldA bs) := by rw [← k2]; exact List.mem_map.2 ⟨p, hp, rfl⟩
    obtain ⟨y, _, e⟩ := List.mem_map.1 hm
    rw [← e, foldA_len]
    have := (boundsB_true h5.bd).1
    unfold maxLen
    omega
  have HST := Lib.hid h1.st
  have HAL : Hid (∀ o o', Below w.heap.size w ((w.alloc o).alloc o')) := fun o o' => below_alloc ((Below.refl _ _).alloc (Nat.le_refl _) o) (Nat.le_refl _) o'
  clear h1 h2 h4 h5 hfl hits hln
  generalize T.ptr = tp at HC HST
  generalize (T.told bs sa sb).map (foldA bs) = xs at HC HJ
  generalize foldA bs (inS sa sb T.row) = V at HJ ⊢
  go_enter Try.func31, Try.ntmps31
  go_upto_region 3 with fail
  refine trg_any (g := g) (y := w.heap.size) (m := m) (d := d) (z := w.heap.size + 2) (A := A) (root := tp) (sa := sa) (sb := sb) (V := V) (xs := xs) ⟨rfl, rfl, rfl, (HST.out.alloc _).alloc _, (Has.made _ _ _).alloc _, by simp, fun w' hb => HC.out w' ((HAL.out _ _).trans (hb.mono (by simp; omega))), fun w' C n c hb hA => HJ.out w' C n c ((HAL.out _ _).trans (hb.mono (by simp; omega))) hA⟩ (by kernel_rfl) ?_
  intro A15 n15 c15 H16 w9 hB9 _ hV
  have H4 := Lib.hid (show Has w9 (w.heap.size + 1) 29 (accC zeroAc none 0 0) from (made2 w _ _ _).below hB9 (by simp))
  have HB9 := Lib.hid ((HAL.out _ _).trans (hB9.mono (by simp; omega)))
  have HV := Lib.hid hV
  clear hB9 hV HAL HJ HC HST
  simp only [putAll, Act.put, List.setIfInBounds_toArray, List.set_cons_succ, List.set_cons_zero, List.drop_succ_cons, List.drop_zero]
  refine store_has rfl _ _ rfl (w.heap.size + 1) (ac := V) (A := some ⟨H16, 0, none⟩) (k := V.h.length) (c := V.h.length) rfl rfl H4.out rfl ?_
  go_wp2_with fail
  refine bodyPost_ret (ret_row1 rfl _ _ _ 29 (accC V (some ⟨H16, 0, none⟩) V.h.length V.h.length) _ rfl (H4.out.row _) Try.underlying29 rfl (by exact Try.sizeAcc)) rfl ?_
  have h1 := HV.out.2
  exact ⟨H16, by omega, rfl, HV.out.1.rowFar (by omega) _, below_row HB9.out (by omega) _⟩

/-! The root turned. -/
theorem Tr.At.putG {P : Nat → Prop} {cs : Array Value} (hg : Has w g TT cs) (i : Nat) (v : Value) : ∀ {t : Tr}, t.At bs P w → t.At bs P (w.setCell ⟨g, i, none⟩ v)
  | .nil, _ => trivial
  | .node b H l x r, h => by
    obtain ⟨h1, h2, h3, h4, h5, h6⟩ := h
    exact ⟨h1, h2, h3.putFar (fun e => has_types (e ▸ h3) hg (by decide)) v, h4.putFar (fun e => has_types (e ▸ h4) hg (by decide)) v, Tr.At.putG hg i v h5, Tr.At.putG hg i v h6⟩
theorem TBd.putG {P : Nat → Prop} (h : TBd P w g bs A m d root) (r : Option Addr) : TBd P (w.setCell ⟨g, 1, none⟩ (.pointer r)) g bs A m d r :=
  ⟨h.st.put 1 (.pointer r), ownI_same h.bd fun k hk e => by
    obtain ⟨cur, hh⟩ : ∃ cur, Has w k 3 cur := by
      rcases h.bd.2 with ⟨e1, _⟩ | ⟨g', cap, cur, e1, _, hh, _⟩
      · rw [e1] at e; simp [Value.ownBlock] at e
      · rw [e1] at e
        have : g' = k := by simpa [Value.ownBlock] using e
        exact ⟨cur, this ▸ hh⟩
    exact heap_setCell_other _ _ _ _ (fun e => has_types (e ▸ hh) h.st (by decide)), h.inG, h.inD⟩
/-- What an eviction leaves. -/
def EvO (O : Nat → Prop) (g : Nat) (bs : List Int) (R : List It) (w w' : World) : Prop := ButS [g] w w' ∧ PTr (GrowT O w w') g bs R w'
set_option maxRecDepth 100000 in
set_option maxHeartbeats 1000000 in
theorem PTr.evict (h : PTr O g bs R w) (u : Int) :
    Calls Try.prog 33 #[.pointer (some ⟨g, 0, none⟩), .int .i64 u] w fun e w' => e = .returned (.int .i64 ((R.length : Nat) - ((stay u R).length : Nat))) ∧ EvO O g bs (stay u R) w w' := by
  obtain ⟨T, A, m, d, h1, h2, rfl, h4, h5⟩ := h
  have h1' : TBd (fun k => O k ∨ w.heap.size ≤ k) w g bs A m d T.ptr := h1.mono fun _ _ h => .inl h
  have h2' : T.At bs (fun k => O k ∨ w.heap.size ≤ k) w := h2.mono fun _ _ h => .inl h
  have HE := Lib.hid (tevict_any u T w h1' h2' (fun k hk => .inr hk) h4 h5)
  have HCT := Lib.hid (tcount_any bs _ T w h2)
  have HT1 := Lib.hid h1'
  have HS4 := Lib.hid (show StrS (stay u T.row) from h4.filter fun x => decide (¬ x.t < u))
  have HI5 := Lib.hid (h5.sublist (xs := stay u T.row) List.filter_sublist)
  have hc1 : w.cell? ⟨g, 1, none⟩ = some (.pointer T.ptr) := h1.st.cell 1
  have hle : (stay u T.row).length ≤ T.row.length := List.length_filter_le _ _
  have h8 := h5.le
  clear h1 h2 h4 h5 h1' h2'
  generalize T.ptr = tp at hc1 HE HCT HT1
  generalize T.row.length = N at HCT hle h8 ⊢
  generalize stay u T.row = SR at HE hle HI5 HS4 ⊢
  go_enter Try.func33, Try.ntmps33
  go_upto_region 4 with (refine HCT.out.mono ?_; clear HCT; rintro e w1 ⟨rfl, rfl⟩)
  have HC2 : Hid (∀ (w2 : World) (T2 : Tr) (r : Option Addr), T2.ptr = r → T2.At bs (fun k => O k ∨ w.heap.size ≤ k) w2 → Calls Try.prog 67 #[.pointer r] w2 fun e w' => e = .returned (.int .i64 (T2.row.length : Nat)) ∧ w2 = w') := fun w2 T2 r e h => e ▸ tcount_any bs _ T2 w2 h
  go_wp2_with fail
  refine HE.out.mono ?_
  clear HE
  rintro e w2 ⟨T2, rfl, k1, k2, k3⟩
  have K := Lib.hid (show TBd (fun k => O k ∨ w.heap.size ≤ k) w2 g bs A m d tp ∧ T2.At bs (fun k => O k ∨ w.heap.size ≤ k) w2 ∧ T2.row = SR ∧ Below w.heap.size w w2 from ⟨HT1.out.below k3, k1, k2, k3⟩)
  have hc2 : w2.cell? ⟨g, 1, none⟩ = some (.pointer tp) := K.out.1.st.cell 1
  have hf2 : w2.frozen? ⟨g, 1, none⟩ = false := K.out.1.st.mark 1
  clear k1 k2 k3 hc1
  go_upto_region 5 with fail
  have K2 := Lib.hid (show TBd (fun k => O k ∨ w.heap.size ≤ k) (w2.setCell ⟨g, 1, none⟩ (.pointer T2.ptr)) g bs A m d T2.ptr ∧ T2.At bs (fun k => O k ∨ w.heap.size ≤ k) (w2.setCell ⟨g, 1, none⟩ (.pointer T2.ptr)) ∧ T2.row = SR ∧ ButS [g] w (w2.setCell ⟨g, 1, none⟩ (.pointer T2.ptr)) from
    ⟨K.out.1.putG _, Tr.At.putG K.out.1.st _ _ K.out.2.1, K.out.2.2.1, (below_butS K.out.2.2.2 [g]).trans (setCell_butS1 _ _ _ _)⟩)
  generalize w2.setCell ⟨g, 1, none⟩ (.pointer T2.ptr) = w3 at K2 ⊢
  have hc3 : w3.cell? ⟨g, 1, none⟩ = some (.pointer T2.ptr) := K2.out.1.st.cell 1
  clear K hc2 hf2 HT1
  have HC3 := Lib.hid (HC2.out w3 T2 _ rfl K2.out.2.1)
  rw [K2.out.2.2.1] at HC3
  clear HC2
  have hN : (0 : Int) ≤ (N : Nat) ∧ ((N : Nat) : Int) ≤ 8192 ∧ (0 : Int) ≤ (SR.length : Nat) ∧ ((SR.length : Nat) : Int) ≤ (N : Nat) := by omega
  generalize hr : T2.ptr = r at hc3 HC3
  clear hr
  clear hle
  go_wp2_with (refine HC3.out.mono ?_; clear HC3; rintro e w4 ⟨rfl, rfl⟩)
  go_ret
  refine ⟨rfl, K2.out.2.2.2, T2, A, m, d, K2.out.1.mono ?_, K2.out.2.1.mono ?_, K2.out.2.2.1, HS4.out, HI5.out⟩
  all_goals
    intro k hk hp
    rcases hp with hp | hp
    · exact .inl hp
    · exact .inr ⟨hp, hk⟩
end

/-! New. -/
set_option maxRecDepth 100000 in
set_option maxHeartbeats 1000000 in
theorem tnew_no (B : Option Addr) (m d : Nat) (bs : List Int) (w : World) (hbs : Ints w B m bs) (hm : m ≤ maxLen) (h : boundsB bs = false) :
    Calls Try.prog 23 #[.slice B m d] w fun e w' => e = .returned (.tuple #[.pointer none, .int .i64 1900]) ∧ Below w.heap.size w w' := by
  have HBS := Lib.hid hbs
  have H1 := Lib.hid h
  clear hbs h
  go_enter Try.func23, Try.ntmps23
  go_wp2_with fail
  refine (bounds_any B m d bs _ HBS.out hm).mono ?_
  rintro e w1 ⟨rfl, k, rfl⟩
  rw [H1.out]
  go_wp2_with fail
  go_ret2
  exact ⟨rfl, below_drewN (Below.refl _ _) _⟩
set_option maxRecDepth 100000 in
set_option maxHeartbeats 1000000 in
theorem tnew_ok (B : Option Addr) (m d : Nat) (bs : List Int) (w : World) (hbs : Ints w B m bs) (hnil : B = none → d = 0) (h : boundsB bs = true) :
    Calls Try.prog 23 #[.slice B m d] w fun e w' => ∃ g, e = .returned (.tuple #[.pointer (some ⟨g, 0, none⟩), .int .i64 0]) ∧ PTr (fun k => w.heap.size ≤ k ∧ k < w'.heap.size) g bs [] w' ∧ Below w.heap.size w w' := by
  obtain rfl : bs.length = m := hbs.1
  have h8 : bs.length ≤ 8 := (boundsB_true h).1
  have HBS := Lib.hid hbs
  have H1 := Lib.hid h
  have HNIL := Lib.hid hnil
  clear hbs h hnil
  go_enter Try.func23, Try.ntmps23
  go_wp2_with fail
  refine (bounds_any B bs.length d bs _ HBS.out (by unfold maxLen; omega)).mono ?_
  rintro e w1 ⟨rfl, k, hk⟩
  have HB1 := Lib.hid (show Below w.heap.size w w1 from hk ▸ below_drewN (Below.refl _ _) _)
  clear hk
  rw [H1.out]
  go_wp2_with fail
  refine (sclone_any B bs.length d bs w1 (HBS.out.below HB1.out) HNIL.out (by omega)).mono ?_
  rintro e w2 ⟨A2, c2, rfl, ho, hb⟩
  have HO := Lib.hid (ho.mono HB1.out.size)
  have HB2 := Lib.hid (HB1.out.trans (hb.mono HB1.out.size))
  clear ho hb
  go_wp2_with fail
  go_ret2
  have hal : Below w2.heap.size w2 (w2.alloc (.cells #[.slice A2 bs.length c2, .pointer none] TT)) := (Below.refl _ _).alloc (Nat.le_refl _) _
  have hown := HO.out.below hal
  refine ⟨w2.heap.size, rfl, ⟨.nil, A2, bs.length, c2, ⟨Has.made _ _ _, hown.mono (Nat.zero_le _), ⟨HB2.out.size, by simp⟩, fun k hk => ?_⟩, trivial, rfl, List.Pairwise.nil, ItsT.nil H1.out⟩, below_alloc HB2.out (Nat.le_refl _) _⟩
  exact World.ownsRow.lt hown k hk

end Go.Proofs.Ytjgjbhbpndjnnaa
