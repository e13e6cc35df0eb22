/-
  Walks: the laws' item; the program's heap as a law sees it: made since w0.
  Plain: what HeapForms pushes; a row's item one number of which is written; the heap and a row made behind it.
  A row of one item that a region lays out, and its push.
-/
import Derived.Test.YtmhmekmacdkdgaaHpPush
import Derived.Test.YtmhmekmacdkdgaaItH
import Derived.Test.YtmhmekmacdkdgaaPlain
import Derived.IntWalk
namespace Go.Proofs.Ytmhmekmacdkdgaa
open Go.RowKit

set_option maxRecDepth 100000 in
set_option maxHeartbeats 400000 in
theorem item0_any (s t q v : Int) (w : World) :
    Calls Try.prog 22 #[.int .i64 s, .int .i64 t, .int .i64 q, .int .i64 v] w fun e w' => e = .returned (.agg #[.int .i64 s, .int .i64 t, .int .i64 q, .int .i64 v]) ∧ Below w.heap.size w w' := by
  go_enter Try.func22, Try.ntmps22
  go_wp2
  exact bodyPost_ret (v := .agg #[.int .i64 s, .int .i64 t, .int .i64 q, .int .i64 v]) (by simp [results, Try.results22, go_sem]) rfl ⟨rfl, (Below.refl _ _).alloc (Nat.le_refl _) _⟩

/-- The program's heap holds xs, in blocks made since w0, none of which is among bs; nothing older was turned. -/
def HpK (w0 : World) (bs : List Nat) (g : Nat) (m : Int) (xs : List It) (w : World) : Prop :=
  ∃ gs, HpS w gs g m xs ∧ (∀ k ∈ gs, w0.heap.size ≤ k ∧ k ∉ bs) ∧ Below w0.heap.size w0 w ∧ ∀ b ∈ bs, b < w.heap.size
section
variable {w0 w w' : World} {bs : List Nat} {g : Nat} {m : Int} {xs : List It}
theorem HpK.keep (h : HpK w0 bs g m xs w) : Below w0.heap.size w0 w := by
  obtain ⟨gs, _, _, h3, _⟩ := h
  exact h3
theorem HpK.size (h : HpK w0 bs g m xs w) : w0.heap.size ≤ w.heap.size := h.keep.size
theorem HpK.below (h : HpK w0 bs g m xs w) (hb : Below w.heap.size w w') : HpK w0 bs g m xs w' := by
  obtain ⟨gs, h1, h2, h3, h4⟩ := h
  exact ⟨gs, h1.below hb, h2, h3.trans (hb.mono h3.size), fun b hb2 => Nat.lt_of_lt_of_le (h4 b hb2) hb.size⟩
/-- A block more that is not the heap's. -/
theorem HpK.more (h : HpK w0 bs g m xs w) {b : Nat} (hb : ∀ gs, HpS w gs g m xs → b ∉ gs) (hlt : b < w.heap.size) : HpK w0 (b :: bs) g m xs w := by
  obtain ⟨gs, h1, h2, h3, h4⟩ := h
  refine ⟨gs, h1, fun k hk => ⟨(h2 k hk).1, fun e => ?_⟩, h3, fun i hi => ?_⟩
  · rcases List.mem_cons.1 e with e | e
    · exact hb gs h1 (e ▸ hk)
    · exact (h2 k hk).2 e
  · rcases List.mem_cons.1 hi with rfl | hi
    · exact hlt
    · exact h4 i hi
theorem HpK.fresh (h : HpK w0 bs g m xs w) (o : Obj) : HpK w0 (w.heap.size :: bs) g m xs (w.alloc o) := by
  obtain ⟨gs, h1, h2, h3, h4⟩ := h
  have hb : Below w.heap.size w (w.alloc o) := (Below.refl _ _).alloc (Nat.le_refl _) _
  refine ⟨gs, h1.below hb, fun k hk => ⟨(h2 k hk).1, fun e => ?_⟩, h3.trans (hb.mono h3.size), fun i hi => ?_⟩
  · rcases List.mem_cons.1 e with e | e
    · have := h1.lt k hk; omega
    · exact (h2 k hk).2 e
  · rcases List.mem_cons.1 hi with rfl | hi
    · simp
    · exact Nat.lt_of_lt_of_le (h4 i hi) hb.size
theorem HpK.less (h : HpK w0 bs g m xs w) {cs : List Nat} (hc : ∀ b ∈ cs, b ∈ bs) : HpK w0 cs g m xs w := by
  obtain ⟨gs, h1, h2, h3, h4⟩ := h
  exact ⟨gs, h1, fun k hk => ⟨(h2 k hk).1, fun e => (h2 k hk).2 (hc k e)⟩, h3, fun i hi => h4 i (hc i hi)⟩
theorem HpK.srd (h : HpK w0 bs g m xs w) : Srd xs := by
  obtain ⟨gs, h1, _⟩ := h
  exact h1.srd
theorem HpK.len (h : HpK w0 bs g m xs w) : Calls Try.prog 21 #[.pointer (some ⟨g, 0, none⟩)] w fun e w' => e = .returned (.int .i64 (xs.length : Nat)) ∧ w = w' := by
  obtain ⟨gs, h1, _⟩ := h
  exact hlen_any h1
theorem HpK.wrote (h : HpK w0 bs g m xs w) {ys : List It} {gs : List Nat} (hs : ∀ k ∈ gs, w0.heap.size ≤ k ∧ k ∉ bs) (hw : WrO (fun w gs => HpS w gs g m ys) gs w w') : HpK w0 bs g m ys w' := by
  obtain ⟨gs1, h1, h2, h3, h4⟩ := h
  obtain ⟨gs2, k1, k2, k3⟩ := hw
  have hz := h3.size
  refine ⟨gs2, k1, fun k hk => ?_, k2.below h3 hz (fun k hk => (hs k hk).1), fun b hb => Nat.lt_of_lt_of_le (h4 b hb) k2.size⟩
  rcases k3 k hk with h5 | h5
  · exact hs k h5
  · exact ⟨by omega, fun e => by have := h4 k e; omega⟩
/-- A push of items that lie in a block of bs, or below w0. -/
theorem HpK.push (h : HpK w0 bs g m xs w) (A : Option Addr) (n c : Nat) (zs : List It) (hz : Items w A n zs) (hfar : ∀ ad, 0 < n → A = some ad → ad.block ∈ bs ∨ ad.block < w0.heap.size) (hm : 1 ≤ m ∧ m ≤ 8192) (hl : xs.length ≤ 8192) (hn : n ≤ 17592186044416) :
    Calls Try.prog 15 #[.pointer (some ⟨g, 0, none⟩), .slice A n c] w fun e w' => e = .returned (.int .i64 (pushN m xs zs)) ∧ HpK w0 bs g m (pushL m xs zs) w' ∧ ∀ k, (k ∈ bs ∨ k < w0.heap.size) → w'.heap[k]? = w.heap[k]? := by
  have h0 := h
  obtain ⟨gs, h1, h2, h3, h4⟩ := h
  have hout : ∀ k, (k ∈ bs ∨ k < w0.heap.size) → k ∉ gs := fun k hk e => by
    rcases hk with hk | hk
    · exact (h2 k e).2 hk
    · have := (h2 k e).1; omega
  refine (hpush_any A n c zs h1 hz (fun ad h5 e => hout _ (hfar ad h5 e)) hm hl hn).mono fun e w' h6 => ⟨h6.1, h0.wrote h2 h6.2, fun k hk => ?_⟩
  obtain ⟨gs2, k1, k2, k3⟩ := h6.2
  have hs := h3.size
  exact k2.other k (by rcases hk with hk | hk; exact h4 k hk; omega) (hout k hk)
/-- Pop, Peek. -/
theorem HpK.pop (h : HpK w0 bs g m xs w) (h0 : 0 < xs.length) (hn : xs.length ≤ 8192) :
    Calls Try.prog 12 #[.pointer (some ⟨g, 0, none⟩)] w fun e w' => e = .returned (.tuple #[itV (nthI xs 0), .int .i64 0]) ∧ HpK w0 bs g m xs.tail w' ∧ ∀ k, (k ∈ bs ∨ k < w0.heap.size) → w'.heap[k]? = w.heap[k]? := by
  have h5 := h
  obtain ⟨gs, h1, h2, h3, h4⟩ := h
  have hs := h3.size
  refine (pop_some h1 h0 hn).mono fun e w' h6 => ⟨h6.1, h5.wrote h2 ⟨gs, h6.2.1, h6.2.2, fun _ hk => .inl hk⟩, fun k hk => h6.2.2.other k (by rcases hk with hk | hk; exact h4 k hk; omega) fun e => ?_⟩
  rcases hk with hk | hk
  · exact (h2 k e).2 hk
  · have := (h2 k e).1; omega
theorem HpK.popNone (h : HpK w0 bs g m [] w) :
    Calls Try.prog 12 #[.pointer (some ⟨g, 0, none⟩)] w fun e w' => e = .returned (.tuple #[itV zeroIt, .int .i64 1502]) ∧ Below w.heap.size w w' := by
  obtain ⟨gs, h1, h2, h3, h4⟩ := h
  exact pop_none h1
theorem HpK.peek (h : HpK w0 bs g m xs w) (h0 : 0 < xs.length) (hn : xs.length ≤ 8192) :
    Calls Try.prog 19 #[.pointer (some ⟨g, 0, none⟩)] w fun e w' => e = .returned (.tuple #[itV (nthI xs 0), .int .i64 0]) ∧ Below w.heap.size w w' := by
  obtain ⟨gs, h1, h2, h3, h4⟩ := h
  exact peek_some h1 h0 hn
theorem HpK.peekNone (h : HpK w0 bs g m [] w) :
    Calls Try.prog 19 #[.pointer (some ⟨g, 0, none⟩)] w fun e w' => e = .returned (.tuple #[itV zeroIt, .int .i64 1502]) ∧ Below w.heap.size w w' := by
  obtain ⟨gs, h1, h2, h3, h4⟩ := h
  exact peek_none h1
theorem hpK_new {e : Ending} (h : NewO (fun w gs g => HpS w gs g m []) e w w') (hk : Below w0.heap.size w0 w) : ∃ g, e = .returned (.tuple #[.pointer (some ⟨g, 0, none⟩), .int .i64 0]) ∧ HpK w0 [] g m [] w' := by
  obtain ⟨g, gs, rfl, h1, h2, h3⟩ := h
  have := hk.size
  exact ⟨g, rfl, gs, h1, fun k hk2 => ⟨by have := h2 k hk2; omega, by simp⟩, hk.trans (h3.mono hk.size), by simp⟩
end

end Go.Proofs.Ytmhmekmacdkdgaa

namespace Go.Proofs.Ytmhmekmacdkdgaa
open Go.RowKit

def fmX (i : Nat) : It := ⟨0, i, (i : Int) + 1, 0⟩
def fmXs (m : Nat) : List It := (List.range m).map fmX
theorem fmXs_len (m : Nat) : (fmXs m).length = m := by simp [fmXs]
theorem fmXs_succ (m : Nat) : fmXs m ++ [fmX m] = fmXs (m + 1) := by simp [fmXs, List.range_succ]
theorem fmXs_good {m : Nat} (h : m ≤ 30) : goodAll (fmXs m) = true := by
  unfold goodAll fmXs
  rw [List.all_eq_true]
  intro x hx
  obtain ⟨i, hi, rfl⟩ := List.mem_map.1 hx
  have := List.mem_range.1 hi
  refine itemB_iff.2 ?_
  simp only [fmX]
  omega
theorem goodAll_bad {zs : List It} {i : Nat} (hi : i < zs.length) (h : itemB (nthI zs i) = false) : goodAll zs = false := by
  cases hg : goodAll zs with
  | false => rfl
  | true => rw [goodAll_at hg hi] at h; cases h
theorem uLow (a : Int) (q : Nat) (hq : 0 < q) (hq2 : q ≤ 1000) : ∃ k : Nat, k < q ∧ wrap64 ((IntKind.u64.wrap a).tmod (q : Int)) = k := by
  have h : 0 ≤ IntKind.u64.wrap a := by simp [IntKind.wrap, IntKind.bits, IntKind.signed]; omega
  have e : (IntKind.u64.wrap a).tmod (q : Int) = IntKind.u64.wrap a % (q : Int) := Int.tmod_eq_emod_of_nonneg h
  have h1 := Int.emod_nonneg (IntKind.u64.wrap a) (show (q : Int) ≠ 0 by omega)
  have h2 := Int.emod_lt_of_pos (IntKind.u64.wrap a) (show (0 : Int) < q by omega)
  rw [e]
  refine ⟨(IntKind.u64.wrap a % (q : Int)).toNat, by omega, ?_⟩
  rw [IntWalk.wrap64_in _ ⟨by omega, by omega⟩]
  omega

theorem set_there {α : Type} {l : List α} {p : Nat} {a : α} (h : l[p]? = some a) : l.set p a = l := by
  obtain ⟨hp, he⟩ := List.getElem?_eq_some_iff.1 h
  subst he
  exact List.set_getElem_self hp
theorem OwnIt.setQ {w : World} {base b n c : Nat} {ys : List It} (h : OwnIt w base (.slice (some ⟨b, 0, none⟩) n c) ys) {i : Nat} (hi : i < n) (v : Int) : OwnIt (w.setCell ⟨b, i * 4 + 2, none⟩ (.int .i64 v)) base (.slice (some ⟨b, 0, none⟩) n c) (ys.set i ⟨(nthI ys i).s, (nthI ys i).t, v, (nthI ys i).v⟩) := by
  obtain ⟨h1, h2, h3, h4, cur, h5, h6, h7⟩ := h.blk
  refine own_mk h2 (by rw [List.length_set]; exact h1) h3 h4 (h5.put _ _) (by simpa using h6) ?_
  rw [flat_set ys i _ (by omega), Array.toList_setIfInBounds, List.take_set, h7]
  have f0 := flat_at ys i (by omega) 0 _ rfl
  have f1 := flat_at ys i (by omega) 1 _ rfl
  have f3 := flat_at ys i (by omega) 3 _ rfl
  rw [Nat.add_zero] at f0
  rw [set_there f0, set_there f1]
  exact (set_there (by rw [List.getElem?_set_ne (by omega)]; exact f3)).symm

section
variable {w0 w w' : World} {bs : List Nat} {g : Nat} {m : Int} {xs : List It}
/-- A block that was made since. -/
theorem HpK.since (h : HpK w0 bs g m xs w) (hb : Below w.heap.size w w') {b : Nat} (h1 : w.heap.size ≤ b) (h2 : b < w'.heap.size) : HpK w0 (b :: bs) g m xs w' := by
  obtain ⟨gs, k1, k2, k3, k4⟩ := h
  refine ⟨gs, k1.below hb, fun k hk => ⟨(k2 k hk).1, fun e => ?_⟩, k3.trans (hb.mono k3.size), fun i hi => ?_⟩
  · rcases List.mem_cons.1 e with e | e
    · have := k1.lt k hk; omega
    · exact (k2 k hk).2 e
  · rcases List.mem_cons.1 hi with rfl | hi
    · exact h2
    · exact Nat.lt_of_lt_of_le (k4 i hi) hb.size
/-- A store into such a block. -/
theorem HpK.stored (h : HpK w0 bs g m xs w) {b : Nat} (hb : b ∈ bs) (hlt : w0.heap.size ≤ b) (k : Nat) (v : Value) : HpK w0 bs g m xs (w.setCell ⟨b, k, none⟩ v) := by
  obtain ⟨gs, k1, k2, k3, k4⟩ := h
  have hs := setCell_butS w b k v
  refine ⟨gs, k1.butS hs (fun i hi e => ?_), k2, hs.below k3 k3.size (fun i hi => by have e : i = b := (by simpa using hi); omega), fun i hi => Nat.lt_of_lt_of_le (k4 i hi) hs.size⟩
  have e2 : i = b := by simpa using e
  exact (k2 i hi).2 (e2 ▸ hb)
end

end Go.Proofs.Ytmhmekmacdkdgaa

namespace Go.Proofs.Ytmhmekmacdkdgaa
open Go.RowKit

def row1B (B : Nat) (x : It) : Fact := fun v w => ∃ e, v = .slice (some ⟨e, 0, none⟩) 1 1 ∧ B ≤ e ∧ Has w e 34 (itemL x).toArray
theorem row1B_mono (B : Nat) (x : It) : Mono (row1B B x) := fun _ _ _ hb ⟨e, he, h1, h⟩ => ⟨e, he, h1, h.below hb h.lt⟩
theorem rf_oneB {D : List (Option Tmp)} {Φ : Fact} {o : Oper} {a : Act} {w : World} (hw : Region.wanted o (yieldD D a.tmps) = true) {t : Tmp} (hd : o.dst = some t) (x : Operand) (ho : o.op = .buildSlice 22 1 #[(0, x)]) (y : It) {B : Nat} (hx : a.eval x = .agg #[.int .i64 y.s, .int .i64 y.t, .int .i64 y.q, .int .i64 y.v]) (hB : B ≤ w.heap.size) (h : ∀ v w', row1B B y v w' → Φ v w') : StepD Try.prog D Φ o a w := by
  have e : (Instr.buildSlice 22 1 #[(0, .agg #[.int .i64 y.s, .int .i64 y.t, .int .i64 y.q, .int .i64 y.v])]).run Try.prog w = .ok (.slice (some ⟨w.heap.size, 0, none⟩) 1 1) (w.alloc (.cells (itemL y).toArray 34)) := by kernel_rfl
  refine step_val hw hd (.slice (some ⟨w.heap.size, 0, none⟩) 1 1) (w.alloc (.cells (itemL y).toArray 34)) ?_ ((Below.refl _ w).alloc (Nat.le_refl _) _) (h _ _ ⟨_, rfl, hB, Has.made _ _ _⟩)
  unfold execOp
  rw [ho]
  generalize a.eval = ev at hx ⊢
  simp only [List.map_toArray, List.map_cons, List.map_nil, hx, Sem.run_bind, e, Result.andThen_ok]
  rfl

theorem push1_eq {m : Int} {xs : List It} {z : It} (hz : itemB z = true) (hl : (xs.length : Int) < m) : pushN m xs [z] = 0 ∧ pushL m xs [z] = ins z xs := by
  have hg : goodAll [z] = true := by unfold goodAll; simp [hz]
  unfold pushN pushL
  rw [hg, if_pos rfl, if_pos rfl, if_neg (by simp; omega), if_neg (by simp; omega)]
  exact ⟨rfl, rfl⟩
section
variable {w0 w w' : World} {bs : List Nat} {g : Nat} {m : Int} {xs : List It}
/-- A push of one item that was just laid out. -/
theorem HpK.push1 (h : HpK w0 bs g m xs w) (hb : Below w.heap.size w w') {e : Nat} {z : It} (he : w.heap.size ≤ e) (hh : Has w' e 34 (itemL z).toArray) (hz : itemB z = true) (hl : (xs.length : Int) < m) (hm : m ≤ 8192) :
    Calls Try.prog 15 #[.pointer (some ⟨g, 0, none⟩), .slice (some ⟨e, 0, none⟩) 1 1] w' fun e w2 => e = .returned (.int .i64 0) ∧ HpK w0 bs g m (ins z xs) w2 ∧ ∀ k, (k ∈ bs ∨ k < w0.heap.size) → w2.heap[k]? = w'.heap[k]? := by
  have h1 := h.since hb he hh.lt
  obtain ⟨e1, e2⟩ := push1_eq hz hl
  refine (h1.push (some ⟨e, 0, none⟩) 1 1 [z] (Items.one hh) (fun ad _ e => by injection e with e; subst e; exact .inl (List.mem_cons_self ..)) (by omega) (by omega) (by omega)).mono fun r w2 h2 => ?_
  rw [e1, e2] at h2
  exact ⟨h2.1, h2.2.1.less (fun b hb => List.mem_cons_of_mem _ hb), fun k hk => h2.2.2 k (hk.imp (fun h => List.mem_cons_of_mem _ h) id)⟩
end

end Go.Proofs.Ytmhmekmacdkdgaa
