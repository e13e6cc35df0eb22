/-
  Plain facts: items of like stamps, one behind the other.
-/
import Derived.Test.YtinaddcmaaegeaaOneP
import Derived.Test.YtinaddcmaaegeaaApp
namespace Go.Proofs.Ytinaddcmaaegeaa
open Go.RowKit

theorem ones_tog {bs : List Int} {σ : Int} (xs : List It) (hx : ∀ i, i < xs.length → itemB (nthI xs i) = true ∧ (nthI xs i).s = σ) : ∀ s, s = -1 ∨ s = σ → togB (bs.length + 1) s (ones bs xs) = true := by
  induction xs with
  | nil => intro s _; rfl
  | cons x r ih =>
    intro s hs
    have h0 := hx 0 (by simp)
    have e0 : nthI (x :: r) 0 = x := rfl
    rw [e0] at h0
    have hr : ∀ i, i < r.length → itemB (nthI r i) = true ∧ (nthI r i).s = σ := fun i hi => by
      have := hx (i + 1) (by simpa using hi)
      have e : nthI (x :: r) (i + 1) = nthI r i := by simp [nthI]
      rwa [e] at this
    have hn : ¬ (oneAc x bs).n = 0 := by simp only [oneAc]; decide
    have hf : (oneAc x bs).f.s = σ := h0.2
    show togB (bs.length + 1) s (oneAc x bs :: ones bs r) = true
    simp only [togB]
    rw [one_fit h0.1, if_neg hn, hf, if_neg (by rcases hs with h | h <;> omega), ih hr σ (Or.inr rfl)]
    rfl

def tieV (x : Int) : Int := x % 256
def tieX (vs : List Int) (m : Nat) : List It := (List.range m).map fun (i : Nat) => ⟨4, 7, 9, tieV (nth vs i)⟩
theorem tie_len (vs : List Int) (m : Nat) : (tieX vs m).length = m := by simp [tieX]
theorem tie_at (vs : List Int) {m i : Nat} (h : i < m) : nthI (tieX vs m) i = ⟨4, 7, 9, tieV (nth vs i)⟩ := by
  simp [nthI, tieX, List.getElem?_range h]
theorem tie_bd (x : Int) : 0 ≤ tieV x ∧ tieV x ≤ 255 := by unfold tieV; omega
theorem tie_item (v : Int) (h : 0 ≤ v ∧ v ≤ 255) : itemB ⟨4, 7, 9, v⟩ = true := itemB_iff.2 (by simp only; omega)
theorem tie_ok (vs : List Int) (m : Nat) : ∀ i, i < (tieX vs m).length → itemB (nthI (tieX vs m) i) = true ∧ (nthI (tieX vs m) i).s = 4 := fun i hi => by
  rw [tie_len] at hi
  rw [tie_at vs hi]
  exact ⟨tie_item _ (tie_bd _), rfl⟩
theorem tie_known (vs : List Int) {m : Nat} : ∀ j, 0 < j → j ≤ m → (foldTo [] (tieX vs m) j).n = j ∧ (foldTo [] (tieX vs m) j).f = ⟨4, 7, 9, tieV (nth vs 0)⟩ ∧ (foldTo [] (tieX vs m) j).l = ⟨4, 7, 9, tieV (nth vs (j - 1))⟩ := by
  intro j
  induction j with
  | zero => intro h; omega
  | succ j ih =>
    intro _ hj
    have hx := tie_at vs (m := m) (i := j) (by omega)
    rw [foldTo_succ [] _ (by rw [tie_len]; omega), hx]
    by_cases h0 : j = 0
    · subst h0
      rw [foldTo_zero, add_start _ _ (one_hlen _ _)]
      exact ⟨rfl, rfl, rfl⟩
    · obtain ⟨k1, k2, k3⟩ := ih (by omega) (by omega)
      have hn : ¬ (foldTo [] (tieX vs m) j).n = 0 := by rw [k1]; omega
      have hb1 : beforeB ⟨4, 7, 9, tieV (nth vs j)⟩ (foldTo [] (tieX vs m) j).f = false := by rw [k2]; exact decide_eq_false (by simp only; omega)
      have hb2 : beforeB ⟨4, 7, 9, tieV (nth vs j)⟩ (foldTo [] (tieX vs m) j).l = false := by rw [k3]; exact decide_eq_false (by simp only; omega)
      refine ⟨?_, ?_, ?_⟩
      · simp only [addAc, oneAc, k1]; omega
      · simp only [addAc, oneAc, hn, if_false, pick, hb1]; exact k2
      · simp only [addAc, oneAc, hn, if_false, pick, hb2, Nat.add_sub_cancel]; rfl
theorem tie_fold (vs : List Int) (m : Nat) : foldTo [] (tieX vs m) m = joinAc [] (ones [] (tieX vs m)) := foldTo_all [] _ (by rw [tie_len]; exact Nat.le_refl _)
theorem tie_two (v u : Int) : (joinAc [] [oneAc ⟨4, 7, 9, v⟩ [], oneAc ⟨4, 7, 9, u⟩ []]).f = ⟨4, 7, 9, v⟩ ∧ (joinAc [] [oneAc ⟨4, 7, 9, v⟩ [], oneAc ⟨4, 7, 9, u⟩ []]).l = ⟨4, 7, 9, u⟩ := by
  simp [joinAc, joinStep, oneAc, addAc, pick, beforeB]

end Go.Proofs.Ytinaddcmaaegeaa
