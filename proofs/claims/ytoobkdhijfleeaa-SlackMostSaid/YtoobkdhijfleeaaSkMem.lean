/-
  The memory of a slack, the program's and the reference's: a struct of its own.
-/
import Derived.Test.YtoobkdhijfleeaaSkP
import Derived.Test.YtoobkdhijfleeaaBut
namespace Go.Proofs.Ytoobkdhijfleeaa
open Go.RowKit

def slC (L T K : Int) : Array Value := #[.int .i64 L, .int .i64 T, .int .i64 K]
def srC (L : Int) (b : Bool) (M K : Int) : Array Value := #[.int .i64 L, .bool b, .int .i64 M, .int .i64 K]
/-- What a call of See leaves: the struct at g holds cs; no other block was turned. -/
structure Wrote (ty : TypeId) (g : Nat) (cs : Array Value) (w w' : World) : Prop where
  st : Has w' g ty cs
  but : ButS [g] w w'
theorem Wrote.refl {ty : TypeId} {g : Nat} {cs : Array Value} {w : World} (h : Has w g ty cs) : Wrote ty g cs w w := ⟨h, ButS.refl _ _⟩
theorem setCell_but (w : World) (g k : Nat) (v : Value) : ButS [g] w (w.setCell ⟨g, k, none⟩ v) := ⟨rfl, rfl, rfl, by simp [World.setCell], fun j _ hn => heap_setCell_other _ _ _ _ (fun e => hn (by simp only at e; simp [e]))⟩
theorem Wrote.below {ty : TypeId} {g : Nat} {cs : Array Value} {w w' : World} (h : Has w g ty cs) (hb : Below w.heap.size w w') : Wrote ty g cs w w' := ⟨h.below hb h.lt, below_butS hb _⟩
theorem Wrote.put {ty : TypeId} {g : Nat} {cs : Array Value} {w w' : World} (h : Wrote ty g cs w w') (k : Nat) (v : Value) : Wrote ty g (cs.setIfInBounds k v) w (w'.setCell ⟨g, k, none⟩ v) := ⟨h.st.put k v, h.but.trans (setCell_but _ _ _ _)⟩
/-- A slack was made: its struct is a new block, the last one. -/
structure MadeS (ty : TypeId) (g : Nat) (cs : Array Value) (w w' : World) : Prop where
  st : Has w' g ty cs
  new : w.heap.size ≤ g
  keep : Below w.heap.size w w'
theorem MadeS.mk' (ty : TypeId) (cs : Array Value) (w : World) : MadeS ty w.heap.size cs w (w.alloc (.cells cs ty)) := ⟨Has.made _ _ _, Nat.le_refl _, (Below.refl _ _).alloc (Nat.le_refl _) _⟩

/-- While the reference's See runs: the program's slack stays; the reference's holds cs, or cs' once it has run. -/
def SkI (g y : Nat) (ps cs cs' : Array Value) : Bool → Bool → World → Prop := fun p _ w =>
  Has w g 43 ps ∧ Has w y 37 (if p = true then cs' else cs)
section
variable {g y : Nat} {ps cs cs' : Array Value} {w w' w0 : World} {p q : Bool}
theorem SkI.below (h : SkI g y ps cs cs' p q w) (hb : Below w.heap.size w w') : SkI g y ps cs cs' p q w' := ⟨h.1.below hb h.1.lt, h.2.below hb h.2.lt⟩
theorem SkI.pre (h : SkI g y ps cs cs' false q w) : Has w y 37 cs := h.2
theorem SkI.post (h : SkI g y ps cs cs' true q w) : Has w y 37 cs' := h.2
theorem SkI.see {v : Value} {e : Ending} (hI : MI [y] (SkI g y ps cs cs') w0 false q w) (hne : g ≠ y) (he : e = .returned v) (h : Wrote 37 y cs' w w') :
    ∃ u, e = .returned u ∧ ButS [y] w w' ∧ MI [y] (SkI g y ps cs cs') w0 true false w' ∧ u = v :=
  ⟨v, he, h.but, ⟨hI.gr.trans h.but, hI.st.1.butS h.but (by simpa using hne), h.st⟩, rfl⟩
theorem cell_far {gs : List Nat} {w w' : World} {b o : Nat} {v : Value} (h : w.cell? ⟨b, o, none⟩ = some v) (hb : ButS gs w w') (hn : b ∉ gs) : w'.cell? ⟨b, o, none⟩ = some v :=
  (World.cell?_of_block (w := w) (w' := w') (a := ⟨b, o, none⟩) (hb.other b (block_lt_of_cell h) hn)).trans h
end

end Go.Proofs.Ytoobkdhijfleeaa
