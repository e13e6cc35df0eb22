/-
  Walks: the laws' item; the program's heap as a law sees it: made since w0.
-/
import Derived.Test.YtmhmekmacdkdgaaHpPush
import Derived.Test.YtmhmekmacdkdgaaItH
namespace Go.Proofs.Ytmhmekmacdkdgaa
open Go.RowKit

set_option maxRecDepth 100000 in
set_option maxHeartbeats 400000 in
theorem item0_any (s t q v : Int) (w : World) :
    Calls Try.prog 22 #[.int .i64 s, .int .i64 t, .int .i64 q, .int .i64 v] w fun e w' => e = .returned (.agg #[.int .i64 s, .int .i64 t, .int .i64 q, .int .i64 v]) ∧ Below w.heap.size w w' := by
  go_enter Try.func22, Try.ntmps22
  go_wp2
  exact bodyPost_ret (v := .agg #[.int .i64 s, .int .i64 t, .int .i64 q, .int .i64 v]) (by simp [results, Try.results22, go_sem]) rfl ⟨rfl, (Below.refl _ _).alloc (Nat.le_refl _) _⟩

/-- The program's heap holds xs, in blocks made since w0, none of which is among bs; nothing older was turned. -/
def HpK (w0 : World) (bs : List Nat) (g : Nat) (m : Int) (xs : List It) (w : World) : Prop :=
  ∃ gs, HpS w gs g m xs ∧ (∀ k ∈ gs, w0.heap.size ≤ k ∧ k ∉ bs) ∧ Below w0.heap.size w0 w ∧ ∀ b ∈ bs, b < w.heap.size
section
variable {w0 w w' : World} {bs : List Nat} {g : Nat} {m : Int} {xs : List It}
theorem HpK.keep (h : HpK w0 bs g m xs w) : Below w0.heap.size w0 w := by
  obtain ⟨gs, _, _, h3, _⟩ := h
  exact h3
theorem HpK.size (h : HpK w0 bs g m xs w) : w0.heap.size ≤ w.heap.size := h.keep.size
theorem HpK.below (h : HpK w0 bs g m xs w) (hb : Below w.heap.size w w') : HpK w0 bs g m xs w' := by
  obtain ⟨gs, h1, h2, h3, h4⟩ := h
  exact ⟨gs, h1.below hb, h2, h3.trans (hb.mono h3.size), fun b hb2 => Nat.lt_of_lt_of_le (h4 b hb2) hb.size⟩
/-- A block more that is not the heap's. -/
theorem HpK.more (h : HpK w0 bs g m xs w) {b : Nat} (hb : ∀ gs, HpS w gs g m xs → b ∉ gs) (hlt : b < w.heap.size) : HpK w0 (b :: bs) g m xs w := by
  obtain ⟨gs, h1, h2, h3, h4⟩ := h
  refine ⟨gs, h1, fun k hk => ⟨(h2 k hk).1, fun e => ?_⟩, h3, fun i hi => ?_⟩
  · rcases List.mem_cons.1 e with e | e
    · exact hb gs h1 (e ▸ hk)
    · exact (h2 k hk).2 e
  · rcases List.mem_cons.1 hi with rfl | hi
    · exact hlt
    · exact h4 i hi
theorem HpK.fresh (h : HpK w0 bs g m xs w) (o : Obj) : HpK w0 (w.heap.size :: bs) g m xs (w.alloc o) := by
  obtain ⟨gs, h1, h2, h3, h4⟩ := h
  have hb : Below w.heap.size w (w.alloc o) := (Below.refl _ _).alloc (Nat.le_refl _) _
  refine ⟨gs, h1.below hb, fun k hk => ⟨(h2 k hk).1, fun e => ?_⟩, h3.trans (hb.mono h3.size), fun i hi => ?_⟩
  · rcases List.mem_cons.1 e with e | e
    · have := h1.lt k hk; omega
    · exact (h2 k hk).2 e
  · rcases List.mem_cons.1 hi with rfl | hi
    · simp
    · exact Nat.lt_of_lt_of_le (h4 i hi) hb.size
theorem HpK.less (h : HpK w0 bs g m xs w) {cs : List Nat} (hc : ∀ b ∈ cs, b ∈ bs) : HpK w0 cs g m xs w := by
  obtain ⟨gs, h1, h2, h3, h4⟩ := h
  exact ⟨gs, h1, fun k hk => ⟨(h2 k hk).1, fun e => (h2 k hk).2 (hc k e)⟩, h3, fun i hi => h4 i (hc i hi)⟩
theorem HpK.srd (h : HpK w0 bs g m xs w) : Srd xs := by
  obtain ⟨gs, h1, _⟩ := h
  exact h1.srd
theorem HpK.len (h : HpK w0 bs g m xs w) : Calls Try.prog 21 #[.pointer (some ⟨g, 0, none⟩)] w fun e w' => e = .returned (.int .i64 (xs.length : Nat)) ∧ w = w' := by
  obtain ⟨gs, h1, _⟩ := h
  exact hlen_any h1
theorem HpK.wrote (h : HpK w0 bs g m xs w) {ys : List It} {gs : List Nat} (hs : ∀ k ∈ gs, w0.heap.size ≤ k ∧ k ∉ bs) (hw : WrO (fun w gs => HpS w gs g m ys) gs w w') : HpK w0 bs g m ys w' := by
  obtain ⟨gs1, h1, h2, h3, h4⟩ := h
  obtain ⟨gs2, k1, k2, k3⟩ := hw
  have hz := h3.size
  refine ⟨gs2, k1, fun k hk => ?_, k2.below h3 hz (fun k hk => (hs k hk).1), fun b hb => Nat.lt_of_lt_of_le (h4 b hb) k2.size⟩
  rcases k3 k hk with h5 | h5
  · exact hs k h5
  · exact ⟨by omega, fun e => by have := h4 k e; omega⟩
/-- A push of items that lie in a block of bs, or below w0. -/
theorem HpK.push (h : HpK w0 bs g m xs w) (A : Option Addr) (n c : Nat) (zs : List It) (hz : Items w A n zs) (hfar : ∀ ad, 0 < n → A = some ad → ad.block ∈ bs ∨ ad.block < w0.heap.size) (hm : 1 ≤ m ∧ m ≤ 8192) (hl : xs.length ≤ 8192) (hn : n ≤ 17592186044416) :
    Calls Try.prog 15 #[.pointer (some ⟨g, 0, none⟩), .slice A n c] w fun e w' => e = .returned (.int .i64 (pushN m xs zs)) ∧ HpK w0 bs g m (pushL m xs zs) w' ∧ ∀ k, (k ∈ bs ∨ k < w0.heap.size) → w'.heap[k]? = w.heap[k]? := by
  have h0 := h
  obtain ⟨gs, h1, h2, h3, h4⟩ := h
  have hout : ∀ k, (k ∈ bs ∨ k < w0.heap.size) → k ∉ gs := fun k hk e => by
    rcases hk with hk | hk
    · exact (h2 k e).2 hk
    · have := (h2 k e).1; omega
  refine (hpush_any A n c zs h1 hz (fun ad h5 e => hout _ (hfar ad h5 e)) hm hl hn).mono fun e w' h6 => ⟨h6.1, h0.wrote h2 h6.2, fun k hk => ?_⟩
  obtain ⟨gs2, k1, k2, k3⟩ := h6.2
  have hs := h3.size
  exact k2.other k (by rcases hk with hk | hk; exact h4 k hk; omega) (hout k hk)
/-- Pop, Peek. -/
theorem HpK.pop (h : HpK w0 bs g m xs w) (h0 : 0 < xs.length) (hn : xs.length ≤ 8192) :
    Calls Try.prog 12 #[.pointer (some ⟨g, 0, none⟩)] w fun e w' => e = .returned (.tuple #[itV (nthI xs 0), .int .i64 0]) ∧ HpK w0 bs g m xs.tail w' ∧ ∀ k, (k ∈ bs ∨ k < w0.heap.size) → w'.heap[k]? = w.heap[k]? := by
  have h5 := h
  obtain ⟨gs, h1, h2, h3, h4⟩ := h
  have hs := h3.size
  refine (pop_some h1 h0 hn).mono fun e w' h6 => ⟨h6.1, h5.wrote h2 ⟨gs, h6.2.1, h6.2.2, fun _ hk => .inl hk⟩, fun k hk => h6.2.2.other k (by rcases hk with hk | hk; exact h4 k hk; omega) fun e => ?_⟩
  rcases hk with hk | hk
  · exact (h2 k e).2 hk
  · have := (h2 k e).1; omega
theorem HpK.popNone (h : HpK w0 bs g m [] w) :
    Calls Try.prog 12 #[.pointer (some ⟨g, 0, none⟩)] w fun e w' => e = .returned (.tuple #[itV zeroIt, .int .i64 1502]) ∧ Below w.heap.size w w' := by
  obtain ⟨gs, h1, h2, h3, h4⟩ := h
  exact pop_none h1
theorem HpK.peek (h : HpK w0 bs g m xs w) (h0 : 0 < xs.length) (hn : xs.length ≤ 8192) :
    Calls Try.prog 19 #[.pointer (some ⟨g, 0, none⟩)] w fun e w' => e = .returned (.tuple #[itV (nthI xs 0), .int .i64 0]) ∧ Below w.heap.size w w' := by
  obtain ⟨gs, h1, h2, h3, h4⟩ := h
  exact peek_some h1 h0 hn
theorem HpK.peekNone (h : HpK w0 bs g m [] w) :
    Calls Try.prog 19 #[.pointer (some ⟨g, 0, none⟩)] w fun e w' => e = .returned (.tuple #[itV zeroIt, .int .i64 1502]) ∧ Below w.heap.size w w' := by
  obtain ⟨gs, h1, h2, h3, h4⟩ := h
  exact peek_none h1
theorem hpK_new {e : Ending} (h : NewO (fun w gs g => HpS w gs g m []) e w w') (hk : Below w0.heap.size w0 w) : ∃ g, e = .returned (.tuple #[.pointer (some ⟨g, 0, none⟩), .int .i64 0]) ∧ HpK w0 [] g m [] w' := by
  obtain ⟨g, gs, rfl, h1, h2, h3⟩ := h
  have := hk.size
  exact ⟨g, rfl, gs, h1, fun k hk2 => ⟨by have := h2 k hk2; omega, by simp⟩, hk.trans (h3.mono hk.size), by simp⟩
end

end Go.Proofs.Ytmhmekmacdkdgaa
