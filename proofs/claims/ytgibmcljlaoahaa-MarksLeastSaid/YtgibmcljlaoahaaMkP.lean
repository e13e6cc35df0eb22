/-
  Plain facts on marks (chapter 13): the least of a row, what a mark leaves, whether the least rose. No program here.
-/
import Derived.Test.YtgibmcljlaoahaaPure
namespace Go.Proofs.Ytgibmcljlaoahaa

theorem nth_lt (xs : List Int) {k : Nat} (h : k < xs.length) : nth xs k = xs[k] := by simp [nth, h]
theorem nth_set (xs : List Int) (k : Nat) (v : Int) (j : Nat) (hk : k < xs.length) : nth (xs.set k v) j = if k = j then v else nth xs j := by
  unfold nth
  by_cases e : k = j
  · subst e; simp [hk]
  · simp [e]
/-- The least of a row's numbers 0 to j. -/
def minTo (xs : List Int) : Nat → Int
  | 0 => nth xs 0
  | j + 1 => min (minTo xs j) (nth xs (j + 1))
/-- The least of a row. -/
def least (xs : List Int) : Int := minTo xs (xs.length - 1)
theorem minTo_le (xs ys : List Int) (j : Nat) (h : ∀ k, k ≤ j → nth xs k ≤ nth ys k) : minTo xs j ≤ minTo ys j := by
  induction j with
  | zero => exact h 0 (Nat.le_refl _)
  | succ j ih =>
    have h1 := ih (fun k hk => h k (by omega))
    have h2 := h (j + 1) (Nat.le_refl _)
    simp only [minTo]
    omega
theorem least_at (xs : List Int) {n : Nat} (h : xs.length = n + 1) : least xs = minTo xs n := by unfold least; rw [h]; rfl
/-- What a mark leaves. -/
def putM (xs : List Int) (s : Nat) (t : Int) : List Int := xs.set s (max (nth xs s) t)
theorem putM_length (xs : List Int) (s : Nat) (t : Int) : (putM xs s t).length = xs.length := by simp [putM]
theorem putM_rise (xs : List Int) (s : Nat) (t : Int) (h : s < xs.length) : least xs ≤ least (putM xs s t) := by
  unfold least
  rw [putM_length]
  refine minTo_le _ _ _ fun k _ => ?_
  unfold putM
  rw [nth_set _ _ _ _ h]
  split
  · rename_i e; subst e; omega
  · exact Int.le_refl _
/-- May source s tell time t, of so many? -/
def okM (n : Nat) (s t : Int) : Prop := 0 ≤ s ∧ s < n ∧ -4398046511104 < t ∧ t ≤ 4398046511104
instance (n : Nat) (s t : Int) : Decidable (okM n s t) := inferInstanceAs (Decidable (0 ≤ s ∧ s < n ∧ -4398046511104 < t ∧ t ≤ 4398046511104))
/-- Set's number; what stands behind it; did the least rise? -/
def setN (xs : List Int) (s t : Int) : Int := if okM xs.length s t then 0 else 1300
def setI (xs : List Int) (s t : Int) : List Int := if okM xs.length s t then putM xs s.toNat t else xs
def setB (xs : List Int) (s t : Int) : Bool := decide (least xs < least (setI xs s t))
section
variable {xs : List Int} {s t : Int}
theorem set_no (h : ¬ okM xs.length s t) : setN xs s t = 1300 ∧ setI xs s t = xs ∧ setB xs s t = false := by
  have e : setI xs s t = xs := by simp [setI, h]
  exact ⟨by simp [setN, h], e, by unfold setB; rw [e]; simp⟩
theorem set_ok (h : okM xs.length s t) : setN xs s t = 0 ∧ setI xs s t = putM xs s.toNat t := ⟨by simp [setN, h], by simp [setI, h]⟩
theorem setI_length : (setI xs s t).length = xs.length := by
  unfold setI
  split
  · exact putM_length _ _ _
  · rfl
theorem setI_rise : least xs ≤ least (setI xs s t) := by
  unfold setI
  split
  · rename_i h
    exact putM_rise _ _ _ (by obtain ⟨h1, h2, _⟩ := h; omega)
  · exact Int.le_refl _
end

end Go.Proofs.Ytgibmcljlaoahaa
