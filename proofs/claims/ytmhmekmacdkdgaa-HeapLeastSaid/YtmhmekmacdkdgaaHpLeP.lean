/-
  Plain: HeapLeast's own row beside the heap; its memory.
-/
import Derived.Test.YtmhmekmacdkdgaaHpOne
namespace Go.Proofs.Ytmhmekmacdkdgaa
open Go.RowKit

/-- What HeapLeast pushed so far: at most i items, each of a value of its own. -/
structure LeOk (i : Nat) (R : List It) : Prop where
  item : ∀ y ∈ R, itemB y = true ∧ 0 ≤ y.v ∧ y.v < (i : Int)
  nd : R.Pairwise fun a b => a.v ≠ b.v
  len : R.length ≤ i
def same4 (x y : It) : Bool := x.s == y.s && (x.t == y.t && (x.q == y.q && x.v == y.v))
theorem same4_self (x : It) : same4 x x = true := by simp [same4]
theorem LeOk.sub {i : Nat} {R S : List It} (h : LeOk i R) (hs : S.Sublist R) : LeOk i S :=
  ⟨fun y hy => h.item y (hs.subset hy), h.nd.sublist hs, Nat.le_trans hs.length_le h.len⟩
theorem LeOk.up {i : Nat} {R : List It} (h : LeOk i R) : LeOk (i + 1) R :=
  ⟨fun y hy => by have := h.item y hy; exact ⟨this.1, this.2.1, by omega⟩, h.nd, by have := h.len; omega⟩
theorem LeOk.push {i : Nat} {R : List It} (h : LeOk i R) {z : It} (hz : itemB z = true) (hv : z.v = i) : LeOk (i + 1) (R ++ [z]) := by
  refine ⟨fun y hy => ?_, ?_, by have := h.len; simp; omega⟩
  · rcases List.mem_append.1 hy with hy | hy
    · exact h.up.item y hy
    · obtain rfl : y = z := by simpa using hy
      exact ⟨hz, by omega, by omega⟩
  · refine List.pairwise_append.2 ⟨h.nd, List.pairwise_singleton _ _, fun a ha b hb => ?_⟩
    obtain rfl : b = z := by simpa using hb
    have := (h.item a ha).2.2
    omega
/-- The row without one. -/
def cutAt (R : List It) (p : Nat) : List It := R.take p ++ R.drop (p + 1)
theorem cutAt_len {R : List It} {p : Nat} (h : p < R.length) : (cutAt R p).length = R.length - 1 := by
  unfold cutAt
  rw [List.length_append, List.length_take, List.length_drop]; omega
theorem cutAt_perm {R : List It} {p : Nat} (h : p < R.length) : R.Perm (nthI R p :: cutAt R p) := by
  have e : R = R.take p ++ nthI R p :: R.drop (p + 1) := by
    have h1 : nthI R p = R[p] := by simp [nthI, h]
    rw [h1, ← List.drop_eq_getElem_cons h, List.take_append_drop]
  exact (show R.Perm _ from (by rw [← e] : R.Perm (R.take p ++ nthI R p :: R.drop (p + 1)))).trans List.perm_middle
theorem cutAt_sub (R : List It) (p : Nat) : (cutAt R p).Sublist R := by
  have h : (R.drop (p + 1)).Sublist (R.drop p) := by rw [← List.drop_drop]; exact List.drop_sublist 1 _
  have h2 := List.Sublist.append_left h (R.take p)
  rw [List.take_append_drop] at h2
  exact h2
theorem le_first {i : Nat} {xs R : List It} (hp : xs.Perm R) (hk : LeOk i R) (h0 : 0 < R.length) : ∃ x p, nthI xs 0 = x ∧ p < R.length ∧ (∀ q, q < R.length → same4 (nthI R q) x = decide (q = p)) ∧ xs.tail.Perm (cutAt R p) ∧ LeOk i (cutAt R p) := by
  have hl := hp.length_eq
  cases xs with
  | nil => simp at hl; omega
  | cons x r =>
    have hx : x ∈ R := hp.mem_iff.1 (List.mem_cons_self ..)
    obtain ⟨p, hlt, he⟩ := List.mem_iff_getElem.1 hx
    have hpx : nthI R p = x := by simp [nthI, hlt, he]
    refine ⟨x, p, rfl, hlt, fun q hq => ?_, ?_, hk.sub (cutAt_sub R p)⟩
    · by_cases e : q = p
      · subst e; rw [hpx, same4_self]; simp
      · rw [decide_eq_false e]
        have hne : (nthI R q).v ≠ x.v := by
          rw [← hpx]
          have h1 : nthI R q = R[q] := by simp [nthI, hq]
          have h2 : nthI R p = R[p] := by simp [nthI, hlt]
          rw [h1, h2]
          rcases Nat.lt_or_ge q p with h | h
          · exact List.pairwise_iff_getElem.1 hk.nd q p hq hlt h
          · exact fun e2 => List.pairwise_iff_getElem.1 hk.nd p q hlt hq (by omega) e2.symm
        unfold same4
        rw [show ((nthI R q).v == x.v) = false by simpa using hne]
        simp
    · have := hp.trans (cutAt_perm hlt)
      rw [hpx] at this
      exact this.cons_inv
theorem le_least {xs R : List It} (hs : Srd xs) (hp : xs.Perm R) {q : Nat} (hq : q < R.length) : ¬ (nthI R q).t < (nthI xs 0).t ∧ ((nthI R q).t = (nthI xs 0).t → ¬ (nthI R q).q < (nthI xs 0).q) := by
  have h1 : nthI R q = R[q] := by simp [nthI, hq]
  have hm : nthI R q ∈ xs := by rw [h1]; exact hp.mem_iff.2 (List.getElem_mem hq)
  cases xs with
  | nil => cases hm
  | cons x r =>
    have e : nthI (x :: r) 0 = x := rfl
    rw [e]
    have hle : lt4 (nthI R q) x = false := by
      rcases List.mem_cons.1 hm with h | h
      · rw [h]; exact lt4_self _
      · exact hs.head _ h
    rw [lt4_no] at hle
    omega

/-! Memory. -/
def bsOf (A : Option Addr) : List Nat := match A with
  | some ad => [ad.block]
  | none => []
theorem bsOf_mem {A : Option Addr} {b : Nat} (h : b ∈ bsOf A) : ∃ ad, A = some ad ∧ ad.block = b := by
  cases A with
  | none => simp [bsOf] at h
  | some ad => exact ⟨ad, rfl, (by simpa [bsOf] using h : b = ad.block).symm⟩
structure LeS (w : World) (g i : Nat) (A : Option Addr) (c : Nat) (R xs : List It) (wr : World) : Prop where
  hp : HpK w (bsOf A) g 64 xs wr
  own : OwnIt wr w.heap.size (.slice A R.length c) R
  perm : xs.Perm R
  ok : LeOk i R
section
variable {w0 w w' : World} {g c c' n k : Nat} {m : Int} {xs R S : List It} {A A' : Option Addr}
theorem OwnIt.inBs {base : Nat} (_ : OwnIt w base (.slice A n c) R) : ∀ j, (Value.slice A n c).ownBlock = some j → j ∈ bsOf A := fun j hj => by
  cases A with
  | none => simp [Value.ownBlock] at hj
  | some ad => have : ad.block = j := by simpa [Value.ownBlock] using hj
               simp [bsOf, this]
/-- The law's own row has grown. -/
theorem HpK.app (h : HpK w0 (bsOf A) g m xs w) (ho : OwnIt w w0.heap.size (.slice A n c) R) (hg : w.grownBy w' (Value.slice A n c).ownBlock) (hl : ∀ ad, A' = some ad → (Value.slice A n c).ownBlock = some ad.block ∨ w.heap.size ≤ ad.block) (ho' : OwnIt w' w0.heap.size (.slice A' k c') S) : HpK w0 (bsOf A') g m xs w' := by
  obtain ⟨gs, k1, k2, k3, k4⟩ := h
  have hb : ButS (bsOf A) w w' := ⟨hg.os, hg.tape, hg.output, hg.size, fun j hj hn => hg.block j hj (fun e => hn (ho.inBs j e.symm))⟩
  refine ⟨gs, k1.butS hb (fun j hj => (k2 j hj).2), fun j hj => ⟨(k2 j hj).1, fun e => ?_⟩, hb.below k3 k3.size (fun j hj => ?_), fun j hj => ?_⟩
  · obtain ⟨ad, rfl, rfl⟩ := bsOf_mem e
    rcases hl ad rfl with h1 | h1
    · exact (k2 _ hj).2 (ho.inBs _ h1)
    · have := k1.lt _ hj; omega
  · obtain ⟨ad, rfl, rfl⟩ := bsOf_mem hj
    exact (World.ownsRow.lt ho _ (by simp [Value.ownBlock])).1
  · obtain ⟨ad, rfl, rfl⟩ := bsOf_mem hj
    exact (World.ownsRow.lt ho' _ (by simp [Value.ownBlock])).2
/-- A row that was made since. -/
theorem HpK.sinceOwn {bs : List Nat} (h : HpK w0 bs g m xs w) (hb : Below w.heap.size w w') (ho : OwnIt w' w.heap.size (.slice A' k c') S) : HpK w0 (bsOf A') g m xs w' := by
  cases A' with
  | none => exact (h.below hb).less (fun b hb => by cases hb)
  | some ad =>
    have h1 := World.ownsRow.lt ho ad.block (by simp [Value.ownBlock])
    exact (h.since hb h1.1 h1.2).less (fun b hb => by simp [bsOf] at hb; simp [hb])
theorem OwnIt.heldBy {base : Nat} (h : OwnIt w base (.slice A n c) R) (hk : ∀ j, (j ∈ bsOf A ∨ j < w0.heap.size) → w'.heap[j]? = w.heap[j]?) : OwnIt w' base (.slice A n c) R :=
  h.same fun j hj => hk j (.inl (h.inBs j hj))
end

end Go.Proofs.Ytmhmekmacdkdgaa
