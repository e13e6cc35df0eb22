/-
  The memory of a heap (the program's and the reference's: a number and a row of items).
-/
import Derived.Test.YtmhmekmacdkdgaaHpP
import Derived.Test.YtmhmekmacdkdgaaItM
namespace Go.Proofs.Ytmhmekmacdkdgaa
open Go.RowKit

/-! A heap: at most m items; it holds ys, in the row's order. -/
def hpC (m : Int) (A : Option Addr) (n c : Nat) : Array Value := #[.int .i64 m, .slice A n c]
structure HpAt (T : TypeId) (w : World) (gs : List Nat) (g : Nat) (m : Int) (ys : List It) (A : Option Addr) (c : Nat) : Prop where
  st : Has w g T (hpC m A ys.length c)
  own : OwnIt w 0 (.slice A ys.length c) ys
  inG : g ∈ gs
  inA : ∀ ad, A = some ad → ad.block ∈ gs
  lt : ∀ k ∈ gs, k < w.heap.size
def Hp (T : TypeId) (w : World) (gs : List Nat) (g : Nat) (m : Int) (ys : List It) : Prop := ∃ A c, HpAt T w gs g m ys A c
section
variable {T : TypeId} {w w' : World} {gs hs : List Nat} {g c : Nat} {m : Int} {ys : List It} {A : Option Addr}
theorem HpAt.butS (h : HpAt T w gs g m ys A c) (hb : ButS hs w w') (hn : ∀ k ∈ gs, k ∉ hs) : HpAt T w' gs g m ys A c :=
  ⟨h.st.butS hb (hn _ h.inG), h.own.butS hb (fun k hk => hn k (h.own.blks h.inA k hk)), h.inG, h.inA, fun k hk => Nat.lt_of_lt_of_le (h.lt k hk) hb.size⟩
theorem HpAt.below (h : HpAt T w gs g m ys A c) (hb : Below w.heap.size w w') : HpAt T w' gs g m ys A c := h.butS (below_butS hb []) (fun _ _ h => by cases h)
theorem Hp.butS (h : Hp T w gs g m ys) (hb : ButS hs w w') (hn : ∀ k ∈ gs, k ∉ hs) : Hp T w' gs g m ys := by
  obtain ⟨A, c, h⟩ := h
  exact ⟨A, c, h.butS hb hn⟩
theorem Hp.below (h : Hp T w gs g m ys) (hb : Below w.heap.size w w') : Hp T w' gs g m ys := h.butS (below_butS hb []) (fun _ _ h => by cases h)
theorem Hp.same (h : Hp T w gs g m ys) (hk : ∀ k ∈ gs, w'.heap[k]? = w.heap[k]?) (hs : w.heap.size ≤ w'.heap.size) : Hp T w' gs g m ys := by
  obtain ⟨A, c, h⟩ := h
  exact ⟨A, c, (hk g h.inG).trans h.st, h.own.same (fun k e => hk k (h.own.blks h.inA k e)), h.inG, h.inA, fun k hk => Nat.lt_of_lt_of_le (h.lt k hk) hs⟩
theorem Hp.lt (h : Hp T w gs g m ys) : ∀ k ∈ gs, k < w.heap.size := by
  obtain ⟨A, c, h⟩ := h
  exact h.lt
theorem HpAt.c0 (h : HpAt T w gs g m ys A c) : w.cell? ⟨g, 0, none⟩ = some (.int .i64 m) := h.st.cell 0
theorem HpAt.c1 (h : HpAt T w gs g m ys A c) : w.cell? ⟨g, 1, none⟩ = some (.slice A ys.length c) := h.st.cell 1
theorem HpAt.ablk (h : HpAt T w gs g m ys A c) (h0 : 0 < ys.length) : ∃ b, A = some ⟨b, 0, none⟩ := by
  rcases h.own.shape with ⟨_, h1, _⟩ | h1
  · omega
  · exact h1
end

/-- A row whose item changes between. -/
def RowI (T g b n c : Nat) (m : Int) (ys ys' : List It) : Bool → Bool → World → Prop := fun p _ w => Has w g T (hpC m (some ⟨b, 0, none⟩) n c) ∧ OwnIt w 0 (.slice (some ⟨b, 0, none⟩) n c) (if p = true then ys' else ys)
theorem RowI.below {T g b n c : Nat} {m : Int} {ys ys' : List It} {p q : Bool} {w w' : World} (h : RowI T g b n c m ys ys' p q w) (hb : Below w.heap.size w w') : RowI T g b n c m ys ys' p q w' := ⟨h.1.below hb h.1.lt, h.2.below hb⟩

end Go.Proofs.Ytmhmekmacdkdgaa
