/-
  The memory of marks, the program's and the reference's: a struct of one row of integers; what keeps it.
-/
import Derived.Test.YtgibmcljlaoahaaMkP
import Derived.Test.YtgibmcljlaoahaaRcInt
import Derived.Test.YtgibmcljlaoahaaBut
namespace Go.Proofs.Ytgibmcljlaoahaa
open Go.RowKit

/-- Marks (of type T) at g, their row at b, hold xs. -/
structure Mk (T : TypeId) (w : World) (g b c : Nat) (xs : List Int) : Prop where
  st : Has w g T #[.slice (some ⟨b, 0, none⟩) xs.length c]
  own : OwnI w 0 (.slice (some ⟨b, 0, none⟩) xs.length c) xs
  pos : 0 < xs.length
  small : xs.length ≤ 8
  ne : g ≠ b
section
variable {T : TypeId} {w w' : World} {g b c : Nat} {xs : List Int}
theorem OwnI.at_b (h : OwnI w 0 (.slice (some ⟨b, 0, none⟩) xs.length c) xs) : ∃ cur, Has w b 3 cur ∧ xs.length ≤ cur.size := by
  rcases h.2 with ⟨e, _⟩ | ⟨g', cap, cur, e, _, hh, hn, _, hs, _⟩
  · cases e
  · injection e with e1 e2 e3
    injection e1 with e1
    injection e1 with e1 e4 e5
    subst e1
    exact ⟨cur, hh, by omega⟩
theorem Mk.gLt (h : Mk T w g b c xs) : g < w.heap.size := h.st.lt
theorem Mk.bLt (h : Mk T w g b c xs) : b < w.heap.size := by
  obtain ⟨cur, hh, _⟩ := h.own.at_b
  exact hh.lt
theorem Mk.keep (h : Mk T w g b c xs) (hg : w'.heap[g]? = w.heap[g]?) (hb : w'.heap[b]? = w.heap[b]?) : Mk T w' g b c xs := by
  refine ⟨hg.trans h.st, ⟨h.own.1, ?_⟩, h.pos, h.small, h.ne⟩
  rcases h.own.2 with h0 | ⟨k, cap, cur, e, hk, hh, r⟩
  · exact .inl h0
  · refine .inr ⟨k, cap, cur, e, hk, ?_, r⟩
    injection e with e1 e2 e3
    injection e1 with e1
    injection e1 with e1 e4 e5
    subst e1
    exact hb.trans hh
theorem Mk.butS {hs : List Nat} (h : Mk T w g b c xs) (hb : ButS hs w w') (h1 : g ∉ hs) (h2 : b ∉ hs) : Mk T w' g b c xs := h.keep (hb.other g h.gLt h1) (hb.other b h.bLt h2)
theorem Mk.under (h : Mk T w g b c xs) {B : Nat} (hb : Below B w w') (h1 : g < B) (h2 : b < B) : Mk T w' g b c xs := h.keep (hb.block g h1) (hb.block b h2)
theorem Mk.below (h : Mk T w g b c xs) (hb : Below w.heap.size w w') : Mk T w' g b c xs := h.under hb h.gLt h.bLt
theorem Mk.drew (h : Mk T w g b c xs) (k : Nat) : Mk T (w.drewN k) g b c xs := h.keep rfl rfl
theorem Mk.cell0 (h : Mk T w g b c xs) : w.cell? ⟨g, 0, none⟩ = some (.slice (some ⟨b, 0, none⟩) xs.length c) := h.st.cell 0
theorem Mk.cellAt (h : Mk T w g b c xs) (k : Nat) (hk : k < xs.length) : w.cell? ⟨b, k, none⟩ = some (.int .i64 (nth xs k)) := by
  have := World.ownsRow.cellAt h.own k (by omega)
  rw [this]
  simp [intL, nth, hk]
theorem Mk.markAt (h : Mk T w g b c xs) (k : Nat) : w.frozen? ⟨b, k, none⟩ = false := World.ownsRow.frozenAt h.own k
theorem OwnI.stored {base : Nat} (h : OwnI w base (.slice (some ⟨b, 0, none⟩) xs.length c) xs) (k : Nat) (v : Int) : OwnI (w.setCell ⟨b, k, none⟩ (.int .i64 v)) base (.slice (some ⟨b, 0, none⟩) xs.length c) (xs.set k v) := by
  have := (World.ownsRow.stored h k (.int .i64 v)).1
  unfold OwnI intL at *
  simpa [List.map_set] using this
theorem setCell_butS (w : World) (b k : Nat) (v : Value) : ButS [b] w (w.setCell ⟨b, k, none⟩ v) := ⟨rfl, rfl, rfl, by simp [World.setCell], fun j _ hn => heap_setCell_other _ _ _ _ (fun e => hn (by simp only at e; simp [e]))⟩
/-- One source's number was written. -/
theorem Mk.put (h : Mk T w g b c xs) (k : Nat) (v : Int) : Mk T (w.setCell ⟨b, k, none⟩ (.int .i64 v)) g b c (xs.set k v) := by
  have e : (xs.set k v).length = xs.length := by simp
  refine ⟨?_, ?_, by rw [e]; exact h.pos, by rw [e]; exact h.small, h.ne⟩
  · rw [e]
    exact h.st.putFar (p := ⟨b, k, none⟩) h.ne _
  · rw [e]
    exact h.own.stored k v
end
/-- What Set answers and leaves. -/
def SetO (T : TypeId) (g b c : Nat) (xs : List Int) (s t : Int) (e : Ending) (w w' : World) : Prop :=
  e = .returned (.tuple #[.bool (setB xs s t), .int .i64 (setN xs s t)]) ∧ Mk T w' g b c (setI xs s t) ∧ ButS [b] w w'

end Go.Proofs.Ytgibmcljlaoahaa
