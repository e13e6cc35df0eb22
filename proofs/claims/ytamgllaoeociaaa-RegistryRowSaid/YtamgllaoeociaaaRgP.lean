/-
  Plain facts on a registry (chapter 12): what an id asks for, what stands then; a map's reading that holds just these keys. No program here.
-/
import Derived.Test.YtamgllaoeociaaaPure
import Derived.Maps.OwnSet
namespace Go.Proofs.Ytamgllaoeociaaa

/-- The number that Add answers. -/
def regN (m : Int) (ids : List Int) (x : Int) : Int := if x < 0 ∨ 1048575 < x then 1200 else if x ∈ ids then 0 else if m ≤ ids.length then 1201 else 0
/-- What stands behind Add. -/
def regI (m : Int) (ids : List Int) (x : Int) : List Int := if x < 0 ∨ 1048575 < x then ids else if x ∈ ids then ids else if m ≤ ids.length then ids else ids ++ [x]
section
variable {m x : Int} {ids : List Int}
theorem reg_form (h : x < 0 ∨ 1048575 < x) : regN m ids x = 1200 ∧ regI m ids x = ids := by simp [regN, regI, h]
theorem reg_there (h : 0 ≤ x ∧ x ≤ 1048575) (h2 : x ∈ ids) : regN m ids x = 0 ∧ regI m ids x = ids := by
  have h1 : ¬ (x < 0 ∨ 1048575 < x) := by omega
  simp [regN, regI, h1, h2]
theorem reg_full (h : 0 ≤ x ∧ x ≤ 1048575) (h2 : x ∉ ids) (h3 : m ≤ ids.length) : regN m ids x = 1201 ∧ regI m ids x = ids := by
  have h1 : ¬ (x < 0 ∨ 1048575 < x) := by omega
  simp [regN, regI, h1, h2, h3]
theorem reg_new (h : 0 ≤ x ∧ x ≤ 1048575) (h2 : x ∉ ids) (h3 : (ids.length : Int) < m) : regN m ids x = 0 ∧ regI m ids x = ids ++ [x] := by
  have h1 : ¬ (x < 0 ∨ 1048575 < x) := by omega
  have h4 : ¬ m ≤ ids.length := by omega
  simp [regN, regI, h1, h2, h4]
theorem reg_cases (m : Int) (ids : List Int) (x : Int) : (x < 0 ∨ 1048575 < x) ∨ ((0 ≤ x ∧ x ≤ 1048575) ∧ x ∈ ids) ∨ ((0 ≤ x ∧ x ≤ 1048575) ∧ x ∉ ids ∧ m ≤ ids.length) ∨ ((0 ≤ x ∧ x ≤ 1048575) ∧ x ∉ ids ∧ (ids.length : Int) < m) := by
  by_cases h1 : x < 0 ∨ 1048575 < x
  · exact .inl h1
  · by_cases h2 : x ∈ ids
    · exact .inr (.inl ⟨by omega, h2⟩)
    · by_cases h3 : m ≤ ids.length
      · exact .inr (.inr (.inl ⟨by omega, h2, h3⟩))
      · exact .inr (.inr (.inr ⟨by omega, h2, by omega⟩))
theorem regI_room {M : Nat} (hm : m ≤ M) (h : ids.length ≤ M) : (regI m ids x).length ≤ M := by
  rcases reg_cases m ids x with h1 | ⟨h1, h2⟩ | ⟨h1, h2, h3⟩ | ⟨h1, h2, h3⟩
  · rw [(reg_form h1).2]; exact h
  · rw [(reg_there h1 h2).2]; exact h
  · rw [(reg_full h1 h2 h3).2]; exact h
  · rw [(reg_new h1 h2 h3).2, List.length_append, List.length_singleton]; omega
end

/-- A map, as it reads, whose keys are just these numbers. -/
structure Keys1 {H : Type} (D : DataW H) (ids : List Int) : Prop where
  map : Maps.IsMap D
  has : ∀ x : Int, Maps.has D (.int .i64 x) = decide (x ∈ ids)
theorem Keys1.nil {H : Type} : Keys1 (H := H) (.map []) [] := ⟨Maps.isMap_empty, fun x => by simp [Maps.has]⟩
theorem Keys1.put {H : Type} {D : DataW H} {ids : List Int} (h : Keys1 D ids) (x : Int) (d : DataW H) : Keys1 (D.put (.int .i64 x) d) (ids ++ [x]) :=
  ⟨h.map.put _ _, fun y => by
    by_cases e : y = x
    · subst e
      rw [Maps.has_put_same h.map (show WideAt.IsKeyLit (Lit.int .i64 y) from trivial)]
      simp
    · rw [Maps.has_put_other (fun h => e (by injection h)), h.has y]
      simp [e]⟩

end Go.Proofs.Ytamgllaoeociaaa
