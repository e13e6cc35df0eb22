/-
  What an argument that came in looks like: a slice of texts. No program's own steps here.
-/
import Derived.Test.YtbdlncfdjmgmdaaFrRowsW
import Derived.ProofKit
import Derived.OpenShut
import Derived.ChangeOld
import Derived.Lib.SmallJoins
import Derived.Deep.Strs
namespace Go.Proofs.Ytbdlncfdjmgmdaa
open Go.ChangeShapes Go.WideShapes Go.ChangeAt Go.RowKit

theorem cellsStr : Try.prog.cellsOf 9 = 1 := by kernel_rfl
theorem spot_nil {w : World} {x : Addr} {v : Value} (h : w.cell? x = some v) : x.spot = none := by
  unfold World.cell? at h
  split at h
  · cases e : x.spot with
    | none => rfl
    | some y => rw [e] at h; simp at h
  · cases h
section
variable {H : Type} {enc : TypeId × Value → H} {W : World} {base : Nat} {sp : Nat → Bool} {held : Bool}
/-- A slice of texts that came in. -/
theorem open_texts {d : DataW H} {p : List MemPlace} {A : Option Addr} {len cap : Nat} (h : DataW.Trod enc Try.prog W base sp held 38 (.slice A len cap) d p) (hsp : ∀ b, sp b = true) :
    ∃ Sx : Nat → ByteArray, Texts W A len Sx ∧ len ≤ maxLen := by
  obtain ⟨fuel, hf⟩ := h
  rcases Deep.open_strs Try.underlying38 Try.underlying9 cellsStr hf with ⟨hcs, _⟩ | ⟨x, l, cp, m, Sx, hcs, _, hl, hm, hmm, _, hx⟩
  · simp only [Value.cells, List.cons.injEq, and_true] at hcs
    injection hcs with e1 e2 e3
    subst e1; subst e2; subst e3
    exact ⟨fun _ => ⟨#[]⟩, fun h => absurd h (by omega), by unfold maxLen; omega⟩
  · simp only [Value.cells, List.cons.injEq, and_true] at hcs
    injection hcs with e1 e2 e3
    subst e1; subst e2; subst e3
    rw [if_pos (hsp _)] at hmm
    subst hmm
    refine ⟨Sx, fun h0 => ?_, by omega⟩
    have hc0 := (hx 0 (by omega)).1
    have hs := spot_nil hc0
    obtain ⟨b, o, s⟩ := x
    simp only [Addr.add] at hs
    subst hs
    exact ⟨b, o, rfl, fun i hi => by have := (hx i (by omega)).1; rwa [Addr.add_mid] at this⟩
end

end Go.Proofs.Ytbdlncfdjmgmdaa
