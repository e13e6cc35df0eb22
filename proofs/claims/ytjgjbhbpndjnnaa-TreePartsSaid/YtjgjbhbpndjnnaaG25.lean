/-
  Drawn regions with one call that writes a row of the caller's; appends that say what stays.
  Single operations of the laws' regions: a shift by six, a new item.
  Single operations of the tree's drawn regions.
  A row of aggregates, as a call hands it out.
-/
import Derived.Test.YtjgjbhbpndjnnaaG24
import Derived.Test.YtjgjbhbpndjnnaaG15
import Derived.Test.YtjgjbhbpndjnnaaHeadM
import Derived.Maps.AppendAt
namespace Go.Proofs.Ytjgjbhbpndjnnaa
open Go.RowKit

/-- The block of a slice that is owned. -/
def slB (v : Value) : Nat → Prop := fun k => v.ownBlock = some k
/-- Ahead of the call J holds; nothing turns but v's block and what is new. -/
def OI (v : Value) (J : World → Prop) (w0 : World) (b1 _b2 : Bool) (w : World) : Prop := ButO (slB v) w0 w ∧ (b1 = false → J w)
theorem ButO.refl (O : Nat → Prop) (w : World) : ButO O w w := ⟨rfl, rfl, rfl, Nat.le_refl _, fun _ _ _ => rfl⟩
theorem ButO.tr {O : Nat → Prop} {w w' w'' : World} (h : ButO O w w') (k : ButO O w' w'') : ButO O w w'' := h.andThen k fun _ hi _ => hi
theorem ButO.thenB {O : Nat → Prop} {w w' w'' : World} (h : ButO O w w') (k : Below w'.heap.size w' w'') : ButO O w w'' := h.tr (below_butO k O)
theorem butO_grown {v : Value} {w w' : World} (h : w.grownBy w' v.ownBlock) : ButO (slB v) w w' := ⟨h.os, h.tape, h.output, h.size, fun k hk hn => h.block k hk (fun e => hn e.symm)⟩
/-- Row v' lies where v lay or in new memory. -/
def SameB (v v' : Value) (w : World) : Prop := ∀ k, v'.ownBlock = some k → v.ownBlock = some k ∨ w.heap.size ≤ k
theorem SameB.butO {v v' : Value} {w w' w'' : World} (h : SameB v v' w) (h1 : ButO (slB v) w w') (h2 : ButO (slB v') w' w'') : ButO (slB v) w w'' := h1.andThen h2 fun k hk hl => by
  rcases h k hk with h3 | h3
  · exact h3
  · omega
theorem SameB.trans {v v' v'' : Value} {w w' : World} (h : SameB v v' w) (h2 : SameB v' v'' w') (hs : w.heap.size ≤ w'.heap.size) : SameB v v'' w := fun k hk => by
  rcases h2 k hk with h3 | h3
  · exact h k h3
  · exact .inr (by omega)
/-- Facts that say no word of the world, one that the call lays, facts that bear the call. -/
theorem late_mono {fs : List Fact} {l1 : List Value} {f : Fact} {l2 : List Fact} (e : fs = l1.map isV ++ f :: l2) (K : World → World → Prop) (h2 : ∀ g ∈ l2, ∀ (v : Value) (w w' : World), K w w' → g v w → g v w') : ∀ j, j ≠ l1.length → ∀ (v : Value) (w w' : World), K w w' → factAt fs j v w → factAt fs j v w' := fun j hj v w w' hk h => by
  subst e
  unfold factAt at *
  rw [List.getD_eq_getElem?_getD] at h ⊢
  rcases Nat.lt_or_gt_of_ne hj with h1 | h1
  · rw [List.getElem?_append_left (by simpa using h1), List.getElem?_map] at h ⊢
    cases e2 : l1[j]? with
    | none => rw [e2] at h; exact h
    | some c => rw [e2] at h; exact h
  · rw [List.getElem?_append_right (by simp; omega)] at h ⊢
    obtain ⟨q, hq⟩ : ∃ q, j - (l1.map isV).length = q + 1 := ⟨j - l1.length - 1, by simp; omega⟩
    rw [hq, List.getElem?_cons_succ] at h ⊢
    cases e2 : l2[q]? with
    | none => rw [e2] at h; exact h
    | some c => rw [e2] at h; exact h2 c (List.mem_of_getElem? e2) v w w' hk h
/-- A row of one item, apart from the caller's. -/
def itmV (vo : Value) (y : It) : Fact := fun v w => ∃ e, v = .slice (some ⟨e, 0, none⟩) 1 1 ∧ Has w e 23 (itemL y).toArray ∧ vo.ownBlock ≠ some e
theorem itmV_mono (vo : Value) (y : It) : Mono (itmV vo y) := fun _ _ _ hb ⟨e, h1, h2, h3⟩ => ⟨e, h1, h2.below hb h2.lt, h3⟩
theorem itmV_butB (vo : Value) (y : It) : ∀ (v : Value) (w w' : World), ButO (slB vo) w w' → itmV vo y v w → itmV vo y v w' := fun _ _ _ hb ⟨e, h1, h2, h3⟩ => ⟨e, h1, (hb.other e h2.lt h3).trans h2, h3⟩
theorem run_itm (y : It) (w : World) : (Instr.buildSlice 52 1 #[(0, .agg #[.int .i64 y.s, .int .i64 y.t, .int .i64 y.q, .int .i64 y.v])]).run Try.prog w = .ok (.slice (some ⟨w.heap.size, 0, none⟩) 1 1) (w.alloc (.cells (itemL y).toArray 23)) := by kernel_rfl
theorem rf_itm {D : List (Option Tmp)} {Φ : Fact} {o : Oper} {a : Act} {w : World} (hw : Region.wanted o (yieldD D a.tmps) = true) {t : Tmp} (hd : o.dst = some t) (x : Operand) (ho : o.op = .buildSlice 52 1 #[(0, x)]) (y : It) (hx : a.eval x = .agg #[.int .i64 y.s, .int .i64 y.t, .int .i64 y.q, .int .i64 y.v]) (vo : Value) (hv : ∀ k, vo.ownBlock = some k → k < w.heap.size)
    (h : ∀ v w', itmV vo y v w' → Φ v w') : StepD Try.prog D Φ o a w := by
  refine step_val hw hd _ (w.alloc (.cells (itemL y).toArray 23)) ?_ ((Below.refl _ _).alloc (Nat.le_refl _) _) (h _ _ ⟨w.heap.size, rfl, Has.made _ _ _, fun e => by have := hv _ e; omega⟩)
  unfold execOp
  rw [ho]
  generalize a.eval = ev at hx ⊢
  simp only [List.map_toArray, List.map_cons, List.map_nil, hx, Sem.run_bind, run_itm, Result.andThen_ok]
  rfl
/-- The slot holds a row of items of the caller's. -/
def itsV (base : Nat) (R : List It) : Fact := fun v w => ∃ v1, v = v1 ∧ OwnIt w base v1 R
theorem OwnIt.keepB {w w' : World} {base : Nat} {v : Value} {xs : List It} (h : OwnIt w base v xs) (hk : ∀ k, k < w.heap.size → v.ownBlock = some k → w'.heap[k]? = w.heap[k]?) : OwnIt w' base v xs := by
  rcases h.2 with ⟨rfl, h0⟩ | ⟨g, cap, cur, rfl, hg, hh, h1, h2, h3, h4⟩
  · exact ⟨h.1, .inl ⟨rfl, h0⟩⟩
  · exact ⟨h.1, .inr ⟨g, cap, cur, rfl, hg, (hk g (Has.lt (w := w) hh) rfl).trans hh, h1, h2, h3, h4⟩⟩
theorem OwnIt.belowT {w w' : World} {base : Nat} {v : Value} {xs : List It} (h : OwnIt w base v xs) (hb : Below w.heap.size w w') : OwnIt w' base v xs := h.keepB fun k hk _ => hb.block k hk
/-- The same, where it lies. -/
def itsB (base : Nat) (R : List It) (vo : Value) (z : Nat) : Fact := fun v w => ∃ v1, v = v1 ∧ OwnIt w base v1 R ∧ ∀ k, v1.ownBlock = some k → vo.ownBlock = some k ∨ z ≤ k
theorem itsB_mono (base : Nat) (R : List It) (vo : Value) (z : Nat) : Mono (itsB base R vo z) := fun _ _ _ hb ⟨v1, h1, h2, h3⟩ => ⟨v1, h1, h2.belowT hb, h3⟩
theorem OwnIt.ltT {w : World} {base : Nat} {v : Value} {xs : List It} (h : OwnIt w base v xs) {k : Nat} (hk : v.ownBlock = some k) : k < w.heap.size := (World.ownsRow.lt h k hk).2
theorem itsV_mono (base : Nat) (R : List It) : Mono (itsV base R) := fun _ _ _ hb ⟨v1, h1, h2⟩ => ⟨v1, h1, h2.belowT hb⟩
/-- 's = append(s, y)' of items: what stays, where it lies. -/
theorem app_itemO {ops : Array Oper} {rest : List Oper} {op : Oper} {p : Act} {w : World} {Q : Exit → Act → World → Prop} (hgd : op.guard = none) (s x : Operand)
    (ho : op.op = .call { callee := .builtin .append, args := #[s, x], argTypes := #[52, 52] })
    {base g : Nat} {v : Value} {xs : List It} {y : It} (hs : p.eval s = v) (hown : OwnIt w base v xs) (hx : p.eval x = .slice (some ⟨g, 0, none⟩) 1 1) (hg : Has w g 23 (itemL y).toArray)
    (hn : xs.length ≤ 8192) (hbase : base ≤ w.heap.size)
    (h : ∀ v' w', OwnIt w' base v' (xs ++ [y]) → ButO (slB v) w w' → SameB v v' w → wpList Try.prog ops Q rest (p.put op.dst v') w') : wpList Try.prog ops Q (op :: rest) p w := by
  obtain ⟨i0, hi, hz, hs0, hy0⟩ := info_parts Try.infoItem
  refine wpList_append_own_at w hgd s x 52 ho base 23 i0 _ 4 32 Try.underlying52 hi hz hs0 hy0 rfl (by omega) v xs.length (xs.flatMap itemL) hs hown ⟨g, 0, none⟩ 1 1 (itemL y) hx rfl
    (fun j u hu => ?_) (fun u hu => ?_) (by unfold maxLen; omega) (by omega) hbase (fun v' w' h1 h2 _ h4 => ?_)
  · rw [Addr.add_mid, hg.cell, Nat.zero_add]
    simpa using hu
  · simp only [itemL, List.mem_cons, List.not_mem_nil, or_false] at hu
    rcases hu with rfl | rfl | rfl | rfl <;> rfl
  · have h3 : OwnIt w' base v' (xs ++ [y]) := by unfold OwnIt; simpa [List.flatMap_append] using h1
    refine h v' w' h3 (butO_grown h2) fun k hk => ?_
    rcases h4 with h4 | h4
    · exact .inl (h4 ▸ hk)
    · rw [h4] at hk
      injection hk with e
      exact .inr (by omega)
/-- 's = append(s, a)' of aggregates: what stays, where it lies. -/
theorem app_accO {ops : Array Oper} {rest : List Oper} {op : Oper} {p : Act} {w : World} {Q : Exit → Act → World → Prop} (hgd : op.guard = none) (s x : Operand)
    (ho : op.op = .call { callee := .builtin .append, args := #[s, x], argTypes := #[24, 24] })
    {base g y : Nat} {v : Value} {ps : List (Ac × Nat)} {a : Ac} (hs : p.eval s = v) (hown : Own w base v ps) (hx : p.eval x = .slice (some ⟨g, 0, none⟩) 1 1) (hg : Has w g 29 (accC a (some ⟨y, 0, none⟩) a.h.length a.h.length)) (hh : Has w y 3 (ints a.h))
    (hn : ps.length ≤ 8192) (hbase : base ≤ w.heap.size)
    (h : ∀ v' w', Own w' base v' (ps ++ [(a, y)]) → ButO (slB v) w w' → SameB v v' w → wpList Try.prog ops Q rest (p.put op.dst v') w') : wpList Try.prog ops Q (op :: rest) p w := by
  obtain ⟨i0, hi, hz, hs0, hy0⟩ := info_parts Try.infoAcc
  refine wpList_append_own_at w hgd s x 24 ho base 29 i0 _ 13 120 Try.underlying24 hi hz hs0 hy0 rfl (by omega) v ps.length (rowC ps) hs hown.row ⟨g, 0, none⟩ 1 1 (accC a (some ⟨y, 0, none⟩) a.h.length a.h.length).toList hx rfl
    (fun j u hu => ?_) (fun u hu => ?_) (by unfold maxLen; omega) (by omega) hbase (fun v' w' h1 h2 _ h4 => ?_)
  · rw [Addr.add_mid, hg.cell]
    simpa using hu
  · have := accC_one a (some ⟨y, 0, none⟩) a.h.length a.h.length
    rw [Array.all_eq_true_iff_forall_mem] at this
    exact this u (by simpa using hu)
  · have hne : ∀ z xs, Has w z 3 xs → some z ≠ v.ownBlock := fun z xs hz e => by
      rcases hown.row.2 with ⟨ev, _⟩ | ⟨g', cap, cur, ev, _, hh', _⟩
      · rw [ev] at e; cases e
      · rw [ev] at e
        injection e with e
        have h2 : Has w z 29 cur := by rw [e]; exact hh'
        exact has_types hz h2 (by decide)
    refine h v' w' ⟨by rw [rowC_snoc, List.length_append]; exact h1, fun q hq => ?_⟩ (butO_grown h2) fun k hk => ?_
    · rcases List.mem_append.1 hq with hq | hq
      · exact (h2.block _ (hown.hist q hq).lt (hne _ _ (hown.hist q hq))).trans (hown.hist q hq)
      · obtain rfl : q = (a, y) := by simpa using hq
        exact (h2.block _ hh.lt (hne _ _ hh)).trans hh
    · rcases h4 with h4 | h4
      · exact .inl (h4 ▸ hk)
      · rw [h4] at hk
        injection hk with e
        exact .inr (by omega)
/-- The slot holds a row of aggregates of the caller's. -/
def accsV (base : Nat) (A : List (Ac × Nat) → Prop) : Fact := fun v w => ∃ v1, v = v1 ∧ ∃ ps, Own w base v1 ps ∧ A ps
theorem accsV_mono (base : Nat) (A : List (Ac × Nat) → Prop) : Mono (accsV base A) := fun _ _ _ hb ⟨v1, h1, ps, h2, h3⟩ => ⟨v1, h1, ps, h2.below hb, h3⟩
/-- The slot holds a row of aggregates of the caller's, laid behind ps. -/
def accsB (base : Nat) (ps : List (Ac × Nat)) (R : List Ac) (vo : Value) (z : Nat) : Fact := fun v w => ∃ v1, v = v1 ∧ (∃ qs, Own w base v1 (ps ++ qs) ∧ qs.map (·.1) = R) ∧ ∀ k, v1.ownBlock = some k → vo.ownBlock = some k ∨ z ≤ k
theorem accsB_mono (base : Nat) (ps : List (Ac × Nat)) (R : List Ac) (vo : Value) (z : Nat) : Mono (accsB base ps R vo z) := fun _ _ _ hb ⟨v1, h1, ⟨qs, h2, h3⟩, h4⟩ => ⟨v1, h1, ⟨qs, h2.below hb, h3⟩, h4⟩
theorem Own.ltT {w : World} {base : Nat} {v : Value} {ps : List (Ac × Nat)} (h : Own w base v ps) {k : Nat} (hk : v.ownBlock = some k) : k < w.heap.size := (World.ownsRow.lt h.row k hk).2
theorem Has.butB {w w' : World} {g : Nat} {t : TypeId} {cs : Array Value} {v : Value} (h : Has w g t cs) (hb : ButO (slB v) w w') (hg : v.ownBlock ≠ some g) : Has w' g t cs := (hb.other g h.lt hg).trans h
theorem Tr.At.butB {bs : List Int} {P : Nat → Prop} {w w' : World} {t : Tr} {v : Value} (h : t.At bs P w) (hb : ButO (slB v) w w') (hP : ∀ k, P k → v.ownBlock ≠ some k) : t.At bs P w' := h.same fun k hk hp => hb.other k hk (hP k hp)
theorem TBd.butB {bs : List Int} {P : Nat → Prop} {w w' : World} {g m d : Nat} {A root : Option Addr} {v : Value} (h : TBd P w g bs A m d root) (hb : ButO (slB v) w w') (hP : ∀ k, P k → v.ownBlock ≠ some k) : TBd P w' g bs A m d root := h.same fun k hk hp => hb.other k hk (hP k hp)

end Go.Proofs.Ytjgjbhbpndjnnaa

namespace Go.Proofs.Ytjgjbhbpndjnnaa
open Go.RowKit

def tNewI (B : Nat) : Fact := fun v w => ∃ y, v = .pointer (some ⟨y, 0, none⟩) ∧ Has w y 23 #[.int .i64 0, .int .i64 0, .int .i64 0, .int .i64 0] ∧ B ≤ y
theorem tNewI_mono (B : Nat) : Mono (tNewI B) := fun _ _ _ hb ⟨e, he, h, h2⟩ => ⟨e, he, h.below hb h.lt, h2⟩
theorem runNewI (w : World) : (Instr.alloc 23 true (.tuple #[])).run Try.prog w = .ok (.pointer (some ⟨w.heap.size, 0, none⟩)) (w.alloc (.cells #[.int .i64 0, .int .i64 0, .int .i64 0, .int .i64 0] 23)) := by kernel_rfl
section
variable {D : List (Option Tmp)} {Φ : Fact} {o : Oper} {a : Act} {w : World}
theorem rf_newI (hw : Region.wanted o (yieldD D a.tmps) = true) {t : Tmp} (hd : o.dst = some t) (ho : o.op = .alloc 23) {B : Nat} (hB : B ≤ w.heap.size) (h : ∀ v w', tNewI B v w' → Φ v w') : StepD Try.prog D Φ o a w := by
  refine step_val hw hd _ (w.alloc (.cells #[.int .i64 0, .int .i64 0, .int .i64 0, .int .i64 0] 23)) ?_ ((Below.refl _ _).alloc (Nat.le_refl _) _) (h _ _ ⟨_, rfl, Has.made _ _ _, hB⟩)
  unfold execOp
  rw [ho]
  simp only [Sem.run_bind, runNewI, Result.andThen_ok]
  rfl
set_option maxRecDepth 100000 in
theorem rf_shr6 (hw : Region.wanted o (yieldD D a.tmps) = true) {t : Tmp} (hd : o.dst = some t) (x y : Operand) (ho : o.op = .binOp .shr 3 x y 69) (m : Int) (hx : a.eval x = .int .i64 m) (hy : a.eval y = .int .u64 6)
    (h : Φ (.int .i64 (m / 64)) w) : StepD Try.prog D Φ o a w := by
  refine step_val hw hd _ _ ?_ (Below.refl _ _) h
  unfold execOp
  rw [ho]
  simp only [hx, hy]
  simp [go_sem]
end

end Go.Proofs.Ytjgjbhbpndjnnaa

namespace Go.Proofs.Ytjgjbhbpndjnnaa
open Go.RowKit

/-- An aggregate, its buckets from block z on. -/
def tAcc (z : Nat) (V : Ac) : Fact := fun v w => ∃ H, v = .agg (accC V (some ⟨H, 0, none⟩) V.h.length V.h.length) ∧ Has w H 3 (ints V.h) ∧ z ≤ H
theorem tAcc_mono (z : Nat) (V : Ac) : Mono (tAcc z V) := fun _ _ _ hb ⟨e, he, h, h2⟩ => ⟨e, he, h.below hb h.lt, h2⟩
def tTup (z : Nat) (V : Ac) : Fact := fun v w => ∃ H, v = .tuple #[.agg (accC V (some ⟨H, 0, none⟩) V.h.length V.h.length), .int .i64 0] ∧ Has w H 3 (ints V.h) ∧ z ≤ H
theorem tTup_mono (z : Nat) (V : Ac) : Mono (tTup z V) := fun _ _ _ hb ⟨e, he, h, h2⟩ => ⟨e, he, h.below hb h.lt, h2⟩
def tNew (B : Nat) : Fact := fun v w => ∃ y, v = .pointer (some ⟨y, 0, none⟩) ∧ Has w y 29 (accC zeroAc none 0 0) ∧ B ≤ y
theorem tNew_mono (B : Nat) : Mono (tNew B) := fun _ _ _ hb ⟨e, he, h, h2⟩ => ⟨e, he, h.below hb h.lt, h2⟩
/-- A part as it is built. -/
def tPrt (z : Nat) (p : Option Addr) (x : It) (q : Option Addr) (V : Ac) : Fact := fun v w => ∃ H, v = .agg (prtC p x q V H) ∧ Has w H 3 (ints V.h) ∧ z ≤ H
theorem tPrt_mono (z : Nat) (p : Option Addr) (x : It) (q : Option Addr) (V : Ac) : Mono (tPrt z p x q V) := fun _ _ _ hb ⟨e, he, h, h2⟩ => ⟨e, he, h.below hb h.lt, h2⟩
theorem runNewT (w : World) : (Instr.alloc 29 true (.tuple #[])).run Try.prog w = .ok (.pointer (some ⟨w.heap.size, 0, none⟩)) (w.alloc (.cells (accC zeroAc none 0 0) 29)) := by kernel_rfl
theorem run_prt (p q : Option Addr) (x : It) (V : Ac) (H : Nat) (w : World) : (Instr.build PT #[(0, .pointer p), (1, .agg #[.int .i64 x.s, .int .i64 x.t, .int .i64 x.q, .int .i64 x.v]), (2, .pointer q), (3, .agg (accC V (some ⟨H, 0, none⟩) V.h.length V.h.length))]).run Try.prog w = .ok (.agg (prtC p x q V H)) w := by kernel_rfl
theorem run_boxPrt (p q : Option Addr) (x : It) (V : Ac) (H : Nat) (w : World) : (Instr.box PT (.agg (prtC p x q V H))).run Try.prog w = .ok (.pointer (some ⟨w.heap.size, 0, none⟩)) (w.alloc (.cells (prtC p x q V H) PT)) := by kernel_rfl
section
variable {D : List (Option Tmp)} {Φ : Fact} {o : Oper} {a : Act} {w : World}
theorem sizeItemP : (Try.prog.info? 23).map (·.size) = some 4 := by kernel_rfl
/-- The load of an item out of a part. -/
theorem rf_loadItP (hw : Region.wanted o (yieldD D a.tmps) = true) {t : Tmp} (hd : o.dst = some t) (x : Operand) (ho : o.op = .load 23 x) (g k : Nat) (hx : a.eval x = .pointer (some ⟨g, k, none⟩)) (y : It) (hc : w.rangeAt g k (itemL y)) (h : Φ (.agg #[.int .i64 y.s, .int .i64 y.t, .int .i64 y.q, .int .i64 y.v]) w) : StepD Try.prog D Φ o a w :=
  rf_loadS hw hd 23 x ho g k hx (itemL y) hc Try.underlying23 rfl sizeItemP h
theorem rf_newT (hw : Region.wanted o (yieldD D a.tmps) = true) {t : Tmp} (hd : o.dst = some t) (ho : o.op = .alloc 29) {B : Nat} (hB : B ≤ w.heap.size) (h : ∀ v w', tNew B v w' → Φ v w') : StepD Try.prog D Φ o a w := by
  refine step_val hw hd _ (w.alloc (.cells (accC zeroAc none 0 0) 29)) ?_ ((Below.refl _ _).alloc (Nat.le_refl _) _) (h _ _ ⟨_, rfl, Has.made _ _ _, hB⟩)
  unfold execOp
  rw [ho]
  simp only [Sem.run_bind, runNewT, Result.andThen_ok]
  rfl
theorem rf_prt (hw : Region.wanted o (yieldD D a.tmps) = true) {t : Tmp} (hd : o.dst = some t) (x0 x1 x2 x3 : Operand) (ho : o.op = .build PT #[(0, x0), (1, x1), (2, x2), (3, x3)]) (p q : Option Addr) (x : It) (V : Ac) (H : Nat)
    (h0 : a.eval x0 = .pointer p) (h1 : a.eval x1 = .agg #[.int .i64 x.s, .int .i64 x.t, .int .i64 x.q, .int .i64 x.v]) (h2 : a.eval x2 = .pointer q) (h3 : a.eval x3 = .agg (accC V (some ⟨H, 0, none⟩) V.h.length V.h.length)) (hT : Has w H 3 (ints V.h)) {z : Nat} (hz : z ≤ H)
    (h : ∀ v w', tPrt z p x q V v w' → Φ v w') : StepD Try.prog D Φ o a w := by
  refine step_val hw hd (.agg (prtC p x q V H)) w ?_ (Below.refl _ _) (h _ _ ⟨H, rfl, hT, hz⟩)
  unfold execOp
  rw [ho]
  generalize a.eval = ev at h0 h1 h2 h3 ⊢
  simp only [List.map_toArray, List.map_cons, List.map_nil, h0, h1, h2, h3, Sem.run_bind, run_prt, Result.andThen_ok]
  rfl
/-- A part laid in a block of its own. -/
theorem rf_boxPrt (hw : Region.wanted o (yieldD D a.tmps) = true) {t : Tmp} (hd : o.dst = some t) (x0 : Operand) (ho : o.op = .box PT x0) (bs : List Int) (P : Nat → Prop) (L R : Tr) (x : It) (V : Ac) (H z : Nat)
    (h0 : a.eval x0 = .agg (prtC L.ptr x R.ptr V H)) (hV : V = foldA bs (L.row ++ x :: R.row)) (hT : Has w H 3 (ints V.h)) (hz : z ≤ H) (hw0 : z ≤ w.heap.size) (hP : ∀ k, z ≤ k → P k) (hL : L.At bs P w) (hR : R.At bs P w)
    (h : ∀ v w', trV bs P (L.row ++ x :: R.row) v w' → Φ v w') : StepD Try.prog D Φ o a w := by
  subst hV
  have hb := (Below.refl w.heap.size w).alloc (Nat.le_refl _) (.cells (prtC L.ptr x R.ptr (foldA bs (L.row ++ x :: R.row)) H) PT)
  refine step_val hw hd _ (w.alloc (.cells (prtC L.ptr x R.ptr (foldA bs (L.row ++ x :: R.row)) H) PT)) ?_ hb
    (h _ _ ⟨.node w.heap.size H L x R, rfl, ⟨hP _ hw0, hP _ hz, Has.made _ _ _, hT.alloc _, hL.below hb, hR.below hb⟩, rfl⟩)
  unfold execOp
  rw [ho]
  generalize a.eval = ev at h0 ⊢
  simp only [h0, Sem.run_bind, run_boxPrt, Result.andThen_ok]
  rfl
end

end Go.Proofs.Ytjgjbhbpndjnnaa

namespace Go.Proofs.Ytjgjbhbpndjnnaa
open Go.RowKit

def rowX (xs : List Ac) : Fact := fun v w => ∃ A n c, v = .slice A n c ∧ Accs w A n xs
theorem rowX_mono (xs : List Ac) : Mono (rowX xs) := fun _ _ _ hb ⟨A, n, c, h1, h2⟩ => ⟨A, n, c, h1, h2.below hb⟩

end Go.Proofs.Ytjgjbhbpndjnnaa
