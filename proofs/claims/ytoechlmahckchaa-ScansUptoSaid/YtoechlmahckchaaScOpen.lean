/-
  What arguments that came in look like: a slice of integers, of texts, with what they weigh. No program's own steps here.
-/
import Derived.Test.YtoechlmahckchaaMem
import Derived.Test.YtoechlmahckchaaProg
import Derived.SizedLaws
import Derived.Deep.MidRow
import Derived.ProofKit
import Derived.OpenShut
import Derived.ChangeOld
import Derived.Lib.SmallJoins
import Derived.Deep.Strs
namespace Go.Proofs.Ytoechlmahckchaa
open Go.ChangeShapes Go.WideShapes Go.ChangeAt Go.RowKit Go.Joins Go.Deep

/-- The slice value '.slice A n _' reads as the texts Sx. -/
def Txts (w : World) (A : Option Addr) (n : Nat) (Sx : Nat → ByteArray) : Prop := 0 < n → ∃ b o : Nat, A = some ⟨b, o, none⟩ ∧ ∀ i, i < n → w.cell? ⟨b, o + i, none⟩ = some (.string (Sx i))
theorem Txts.below {w w' : World} {A : Option Addr} {n : Nat} {Sx : Nat → ByteArray} (h : Txts w A n Sx) (hb : Below w.heap.size w w') : Txts w' A n Sx := fun h0 => by
  obtain ⟨b, o, e, hc⟩ := h h0
  refine ⟨b, o, e, fun i hi => ?_⟩
  rw [hb.cell (block_lt_of_cell (hc i hi))]
  exact hc i hi
theorem cellsTxt : Try.prog.cellsOf 9 = 1 := by kernel_rfl
theorem spot_of {w : World} {x : Addr} {v : Value} (h : w.cell? x = some v) : x.spot = none := by
  unfold World.cell? at h
  split at h
  · cases e : x.spot with
    | none => rfl
    | some y => rw [e] at h; simp at h
  · cases h
section
variable {H : Type} {enc : TypeId × Value → H} {W : World} {base : Nat} {sp : Nat → Bool} {held : Bool}
/-- A slice of integers in a struct's field. -/
theorem rowU_cell {n : Nat} {c : Value} {y : DataW H × List MemPlace} (h : DataW.trod enc Try.prog W base sp held n 43 [c] = some y) (hsp : ∀ b, sp b = true) :
    ∃ (A : Option Addr) (len cap : Nat) (xs : List Int), c = .slice A len cap ∧ Ints W A len xs ∧ len ≤ cap ∧ cap ≤ maxLen ∧ (A = none → cap = 0) ∧ (cap = 0 ∨ ∃ elems spare, y.1 = .slice elems spare ∧ elems.length + spare.length = cap) := by
  rcases open_ints Try.underlying43 Try.underlying3 (by kernel_rfl) h with ⟨hcs, _⟩ | ⟨x, l, cp, zs, hcs, _, hl, hm, hz, hd, hcell, hwz⟩
  · simp only [List.cons.injEq, and_true] at hcs
    exact ⟨none, 0, 0, [], hcs, Ints.nil, Nat.le_refl _, Nat.zero_le _, fun _ => rfl, .inl rfl⟩
  · simp only [List.cons.injEq, and_true] at hcs
    subst hcs
    have hz' : zs.length = cp := by rw [hz, if_pos (hsp _)]
    refine ⟨some x, l, cp, zs.take l, rfl, ⟨by simp only [List.length_take]; omega, fun hn => ⟨x.block, x.off, ?_, fun k hk => ?_⟩⟩, hl, hm, (fun e => by cases e), Or.inr ⟨_, _, (by rw [hd]), (by simp [lits]; omega)⟩⟩
    · have h0 := hcell 0 (by omega)
      have hs := spot_of h0
      simp only [Addr.add, if_true] at hs
      obtain ⟨b, o, s⟩ := x
      simp only at hs
      rw [hs]
    · have h1 := hcell k (by omega)
      have e : x.add k = ⟨x.block, x.off + k, none⟩ := by
        have hs := spot_of (hcell 0 (by omega))
        simp only [Addr.add, if_true] at hs
        obtain ⟨b, o, s⟩ := x
        simp only at hs
        subst hs
        by_cases h : k = 0
        · subst h; rfl
        · simp [Addr.add, h]
      rw [e] at h1
      rw [h1]
      have hk2 : k < zs.length := by omega
      simp [nth, hk, hk2]
theorem open_intsU {d : DataW H} {p : List MemPlace} {A : Option Addr} {len cap : Nat} (h : DataW.Trod enc Try.prog W base sp held 43 (.slice A len cap) d p) (hsp : ∀ b, sp b = true) :
    ∃ xs : List Int, Ints W A len xs ∧ (len = 0 ∨ ∃ elems spare, d = .slice elems spare ∧ len ≤ elems.length + spare.length) := by
  obtain ⟨fuel, hf⟩ := h
  obtain ⟨A', len', cap', xs, e, hI, hlc, hm, hnil, hw⟩ := rowU_cell (by simpa [Value.cells] using hf) hsp
  injection e with e1 e2 e3
  subst e1; subst e2; subst e3
  refine ⟨xs, hI, ?_⟩
  rcases hw with h0 | ⟨elems, spare, e, hl⟩
  · exact .inl (by omega)
  · exact .inr ⟨elems, spare, e, by omega⟩
/-- A slice of texts that came in. -/
theorem open_textsU {d : DataW H} {p : List MemPlace} {A : Option Addr} {len cap : Nat} (h : DataW.Trod enc Try.prog W base sp held 22 (.slice A len cap) d p) (hsp : ∀ b, sp b = true) :
    ∃ Sx : Nat → ByteArray, Txts W A len Sx ∧ (len = 0 ∨ ∃ elems spare, d = .slice elems spare ∧ len ≤ elems.length + spare.length) ∧ (∀ i, i < len → ∃ elems spare, d = .slice elems spare ∧ .lit (.string (Sx i).data.toList) ∈ elems) ∧ len ≤ maxLen ∧ ∀ i, i < len → (Sx i).size ≤ maxLen := by
  obtain ⟨fuel, hf⟩ := h
  rcases Deep.open_strs Try.underlying22 Try.underlying9 cellsTxt hf with ⟨hcs, _⟩ | ⟨x, l, cp, m, Sx, hcs, _, hl, hm, hmm, hd, hx⟩
  · simp only [Value.cells, List.cons.injEq, and_true] at hcs
    injection hcs with e1 e2 e3
    subst e1; subst e2; subst e3
    exact ⟨fun _ => ⟨#[]⟩, fun h => absurd h (by omega), .inl rfl, fun i hi => absurd hi (by omega), by unfold maxLen; omega, fun i hi => absurd hi (by omega)⟩
  · simp only [Value.cells, List.cons.injEq, and_true] at hcs
    injection hcs with e1 e2 e3
    subst e1; subst e2; subst e3
    rw [if_pos (hsp _)] at hmm
    subst hmm
    injection hd with hd1 hd2
    refine ⟨Sx, fun h0 => ?_, .inr ⟨_, _, hd1, by simp⟩, fun i hi => ⟨_, _, hd1, List.mem_map.2 ⟨i, List.mem_range.2 hi, rfl⟩⟩, by omega, fun i hi => (hx i (by omega)).2⟩
    have hc0 := (hx 0 (by omega)).1
    have hs := spot_of hc0
    obtain ⟨b, o, s⟩ := x
    simp only [Addr.add] at hs
    subst hs
    exact ⟨b, o, rfl, fun i hi => by have := (hx i (by omega)).1; rwa [Addr.add_mid] at this⟩
end

end Go.Proofs.Ytoechlmahckchaa
