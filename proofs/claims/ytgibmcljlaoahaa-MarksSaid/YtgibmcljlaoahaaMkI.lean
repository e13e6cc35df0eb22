/-
  A drawn region that holds one call of Set: the marks ahead of it and behind it.
-/
import Derived.Test.YtgibmcljlaoahaaMkMem
import Derived.Test.YtgibmcljlaoahaaGRows
namespace Go.Proofs.Ytgibmcljlaoahaa
open Go.RowKit

/-- Marks hold xs; xs' once Set has run. -/
def MkI (T : TypeId) (g rb rc : Nat) (xs xs' : List Int) : Bool → Bool → World → Prop := fun p _ w => Mk T w g rb rc (if p = true then xs' else xs)
theorem MkI.below {T : TypeId} {g rb rc : Nat} {xs xs' : List Int} {p q : Bool} {w w' : World} (h : MkI T g rb rc xs xs' p q w) (hb : Below w.heap.size w w') : MkI T g rb rc xs xs' p q w' := Mk.below h hb
theorem MkI.pre {T : TypeId} {g rb rc : Nat} {xs xs' : List Int} {q : Bool} {w : World} (h : MkI T g rb rc xs xs' false q w) : Mk T w g rb rc xs := h
theorem MkI.post {T : TypeId} {g rb rc : Nat} {xs xs' : List Int} {q : Bool} {w : World} (h : MkI T g rb rc xs xs' true q w) : Mk T w g rb rc xs' := h
theorem MkI.set {T : TypeId} {g rb rc : Nat} {xs xs' : List Int} {q : Bool} {w0 w w' : World} {e : Ending} {s t N : Int} {B : Bool} (hI : MI [rb] (MkI T g rb rc xs xs') w0 false q w) (h : SetO T g rb rc xs s t e w w') (hB : setB xs s t = B) (hN : setN xs s t = N) (hi : setI xs s t = xs') :
    ∃ v, e = .returned v ∧ ButS [rb] w w' ∧ MI [rb] (MkI T g rb rc xs xs') w0 true false w' ∧ v = .tuple #[.bool B, .int .i64 N] := by
  subst hB hN hi
  obtain ⟨rfl, h1, h2⟩ := h
  exact ⟨_, rfl, h2, ⟨hI.gr.trans h2, h1⟩, rfl⟩
theorem cell_but1 {rb : Nat} {w w' : World} {b o : Nat} {v : Value} (h : w.cell? ⟨b, o, none⟩ = some v) (hb : ButS [rb] w w') (hn : b ≠ rb) : w'.cell? ⟨b, o, none⟩ = some v :=
  (World.cell?_of_block (w := w) (w' := w') (a := ⟨b, o, none⟩) (hb.other b (block_lt_of_cell h) (by simpa using hn))).trans h

end Go.Proofs.Ytgibmcljlaoahaa
