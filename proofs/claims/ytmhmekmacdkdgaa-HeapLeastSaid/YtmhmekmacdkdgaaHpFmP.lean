/-
  Plain: what HeapForms pushes; a row's item one number of which is written; the heap and a row made behind it.
-/
import Derived.Test.YtmhmekmacdkdgaaHpItem
import Derived.Test.YtmhmekmacdkdgaaPlain
import Derived.IntWalk
namespace Go.Proofs.Ytmhmekmacdkdgaa
open Go.RowKit

def fmX (i : Nat) : It := ⟨0, i, (i : Int) + 1, 0⟩
def fmXs (m : Nat) : List It := (List.range m).map fmX
theorem fmXs_len (m : Nat) : (fmXs m).length = m := by simp [fmXs]
theorem fmXs_succ (m : Nat) : fmXs m ++ [fmX m] = fmXs (m + 1) := by simp [fmXs, List.range_succ]
theorem fmXs_good {m : Nat} (h : m ≤ 30) : goodAll (fmXs m) = true := by
  unfold goodAll fmXs
  rw [List.all_eq_true]
  intro x hx
  obtain ⟨i, hi, rfl⟩ := List.mem_map.1 hx
  have := List.mem_range.1 hi
  refine itemB_iff.2 ?_
  simp only [fmX]
  omega
theorem goodAll_bad {zs : List It} {i : Nat} (hi : i < zs.length) (h : itemB (nthI zs i) = false) : goodAll zs = false := by
  cases hg : goodAll zs with
  | false => rfl
  | true => rw [goodAll_at hg hi] at h; cases h
theorem uLow (a : Int) (q : Nat) (hq : 0 < q) (hq2 : q ≤ 1000) : ∃ k : Nat, k < q ∧ wrap64 ((IntKind.u64.wrap a).tmod (q : Int)) = k := by
  have h : 0 ≤ IntKind.u64.wrap a := by simp [IntKind.wrap, IntKind.bits, IntKind.signed]; omega
  have e : (IntKind.u64.wrap a).tmod (q : Int) = IntKind.u64.wrap a % (q : Int) := Int.tmod_eq_emod_of_nonneg h
  have h1 := Int.emod_nonneg (IntKind.u64.wrap a) (show (q : Int) ≠ 0 by omega)
  have h2 := Int.emod_lt_of_pos (IntKind.u64.wrap a) (show (0 : Int) < q by omega)
  rw [e]
  refine ⟨(IntKind.u64.wrap a % (q : Int)).toNat, by omega, ?_⟩
  rw [IntWalk.wrap64_in _ ⟨by omega, by omega⟩]
  omega

theorem set_there {α : Type} {l : List α} {p : Nat} {a : α} (h : l[p]? = some a) : l.set p a = l := by
  obtain ⟨hp, he⟩ := List.getElem?_eq_some_iff.1 h
  subst he
  exact List.set_getElem_self hp
theorem OwnIt.setQ {w : World} {base b n c : Nat} {ys : List It} (h : OwnIt w base (.slice (some ⟨b, 0, none⟩) n c) ys) {i : Nat} (hi : i < n) (v : Int) : OwnIt (w.setCell ⟨b, i * 4 + 2, none⟩ (.int .i64 v)) base (.slice (some ⟨b, 0, none⟩) n c) (ys.set i ⟨(nthI ys i).s, (nthI ys i).t, v, (nthI ys i).v⟩) := by
  obtain ⟨h1, h2, h3, h4, cur, h5, h6, h7⟩ := h.blk
  refine own_mk h2 (by rw [List.length_set]; exact h1) h3 h4 (h5.put _ _) (by simpa using h6) ?_
  rw [flat_set ys i _ (by omega), Array.toList_setIfInBounds, List.take_set, h7]
  have f0 := flat_at ys i (by omega) 0 _ rfl
  have f1 := flat_at ys i (by omega) 1 _ rfl
  have f3 := flat_at ys i (by omega) 3 _ rfl
  rw [Nat.add_zero] at f0
  rw [set_there f0, set_there f1]
  exact (set_there (by rw [List.getElem?_set_ne (by omega)]; exact f3)).symm

section
variable {w0 w w' : World} {bs : List Nat} {g : Nat} {m : Int} {xs : List It}
/-- A block that was made since. -/
theorem HpK.since (h : HpK w0 bs g m xs w) (hb : Below w.heap.size w w') {b : Nat} (h1 : w.heap.size ≤ b) (h2 : b < w'.heap.size) : HpK w0 (b :: bs) g m xs w' := by
  obtain ⟨gs, k1, k2, k3, k4⟩ := h
  refine ⟨gs, k1.below hb, fun k hk => ⟨(k2 k hk).1, fun e => ?_⟩, k3.trans (hb.mono k3.size), fun i hi => ?_⟩
  · rcases List.mem_cons.1 e with e | e
    · have := k1.lt k hk; omega
    · exact (k2 k hk).2 e
  · rcases List.mem_cons.1 hi with rfl | hi
    · exact h2
    · exact Nat.lt_of_lt_of_le (k4 i hi) hb.size
/-- A store into such a block. -/
theorem HpK.stored (h : HpK w0 bs g m xs w) {b : Nat} (hb : b ∈ bs) (hlt : w0.heap.size ≤ b) (k : Nat) (v : Value) : HpK w0 bs g m xs (w.setCell ⟨b, k, none⟩ v) := by
  obtain ⟨gs, k1, k2, k3, k4⟩ := h
  have hs := setCell_butS w b k v
  refine ⟨gs, k1.butS hs (fun i hi e => ?_), k2, hs.below k3 k3.size (fun i hi => by have e : i = b := (by simpa using hi); omega), fun i hi => Nat.lt_of_lt_of_le (k4 i hi) hs.size⟩
  have e2 : i = b := by simpa using e
  exact (k2 i hi).2 (e2 ▸ hb)
end

end Go.Proofs.Ytmhmekmacdkdgaa
