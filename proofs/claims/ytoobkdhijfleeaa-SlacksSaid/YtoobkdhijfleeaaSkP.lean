/-
  Plain facts of layer 16: what See leaves and answers, the program's and the reference's. No program here.
-/
import Derived.Test.YtoobkdhijfleeaaPure
namespace Go.Proofs.Ytoobkdhijfleeaa

/-- A time that may be seen. -/
def okT (t : Int) : Prop := -1099511627776 ≤ t ∧ t ≤ 1099511627776
instance (t : Int) : Decidable (okT t) := inferInstanceAs (Decidable (_ ∧ _))
def seeN (t : Int) : Int := if okT t then 0 else 1600
/-- The program's greatest time, its greatest difference. -/
def seeT (T t : Int) : Int := if okT t then max T t else T
def seeK (L T K t : Int) : Int := if okT t then max K (min L (T - t)) else K
/-- The reference's. -/
def seeB (b : Bool) (t : Int) : Bool := if okT t then true else b
def seeM (b : Bool) (M t : Int) : Int := if okT t then (if b = true ∧ t ≤ M then M else t) else M
def seeR (L : Int) (b : Bool) (M K t : Int) : Int := if okT t then max K (min (seeM b M t - t) L) else K
/-- Both tell the same. -/
structure Tie (L T K : Int) (b : Bool) (M : Int) : Prop where
  l0 : 0 ≤ L
  l1 : L ≤ 1073741824
  t0 : -1099511627776 ≤ T
  t1 : T ≤ 1099511627776
  k0 : 0 ≤ K
  k1 : K ≤ L
  m0 : -1099511627776 ≤ M
  m1 : M ≤ 1099511627776
  same : (b = true ∧ M = T) ∨ (b = false ∧ T = -1099511627776)
theorem Tie.start {L : Int} (h : 0 ≤ L ∧ L ≤ 1073741824) : Tie L (-1099511627776) 0 false 0 := ⟨h.1, h.2, by omega, by omega, by omega, h.1, by omega, by omega, .inr ⟨rfl, rfl⟩⟩
theorem Tie.step {L T K M : Int} {b : Bool} (h : Tie L T K b M) (t : Int) : Tie L (seeT T t) (seeK L T K t) (seeB b t) (seeM b M t) ∧ seeR L b M K t = seeK L T K t := by
  obtain ⟨l0, l1, t0, t1, k0, k1, m0, m1, hs⟩ := h
  unfold seeT seeK seeB seeM seeR seeM
  by_cases ht : okT t
  · simp only [if_pos ht]
    obtain ⟨h1, h2⟩ := ht
    rcases hs with ⟨rfl, rfl⟩ | ⟨rfl, rfl⟩
    · by_cases hm : t ≤ M
      · rw [if_pos ⟨rfl, hm⟩]
        exact ⟨⟨l0, l1, by omega, by omega, by omega, by omega, by omega, by omega, .inl ⟨rfl, by omega⟩⟩, by omega⟩
      · rw [if_neg (by intro h; exact hm h.2)]
        exact ⟨⟨l0, l1, by omega, by omega, by omega, by omega, by omega, by omega, .inl ⟨rfl, by omega⟩⟩, by omega⟩
    · rw [if_neg (by intro h; cases h.1)]
      exact ⟨⟨l0, l1, by omega, by omega, by omega, by omega, by omega, by omega, .inl ⟨rfl, by omega⟩⟩, by omega⟩
  · simp only [if_neg ht]
    exact ⟨⟨l0, l1, t0, t1, k0, k1, m0, m1, hs⟩, trivial⟩
/-- A line: what Line answers. -/
def okL (m L : Int) : Prop := -4398046511104 ≤ m ∧ m ≤ 4398046511104 ∧ 0 ≤ L ∧ L ≤ 1073741824
instance (m L : Int) : Decidable (okL m L) := inferInstanceAs (Decidable (_ ∧ _))
def lineN (m L : Int) : Int := if okL m L then max (m - L) (-4398046511104) else -4398046511104

end Go.Proofs.Ytoobkdhijfleeaa
