/-
  Plain facts on what Join gives.
-/
import Derived.Test.YtdoflmphkalicaaTog
namespace Go.Proofs.Ytdoflmphkalicaa
open Go.RowKit

theorem togB_fit {m s : Int} {xs : List Ac} (h : togB m s xs = true) {i : Nat} (hi : i < xs.length) : fitB (nthA xs i) m = true := by
  induction xs generalizing s i with
  | nil => simp at hi
  | cons a r ih =>
    simp only [togB, Bool.and_eq_true] at h
    cases i with
    | zero => exact h.1
    | succ i =>
      have e : nthA (a :: r) (i + 1) = nthA r i := by simp [nthA]
      rw [e]
      have h2 := h.2
      split at h2
      · exact ih h2 (by simpa using hi)
      · split at h2
        · cases h2
        · exact ih h2 (by simpa using hi)

theorem isum_nonneg {h : List Int} (hh : ∀ i, i < h.length → 0 ≤ nth h i) : 0 ≤ isum h := by
  induction h with
  | nil => simp [isum]
  | cons b r ih =>
    have h0 := hh 0 (by simp)
    rw [nth_cons_zero] at h0
    have h1 := ih (fun i hi => by have := hh (i + 1) (by simpa using hi); rwa [nth_cons_succ] at this)
    simp only [isum]; omega
theorem nth_le_isum {h : List Int} (hh : ∀ i, i < h.length → 0 ≤ nth h i) {i : Nat} (hi : i < h.length) : nth h i ≤ isum h := by
  induction h generalizing i with
  | nil => simp at hi
  | cons b r ih =>
    have h0 := hh 0 (by simp)
    rw [nth_cons_zero] at h0
    have hr : ∀ i, i < r.length → 0 ≤ nth r i := fun i hi => by have := hh (i + 1) (by simpa using hi); rwa [nth_cons_succ] at this
    cases i with
    | zero => have := isum_nonneg hr; simp only [isum, nth_cons_zero]; omega
    | succ i =>
      have := ih hr (i := i) (by simpa using hi)
      simp only [isum, nth_cons_succ]; omega
theorem isum_append (p q : List Int) : isum (p ++ q) = isum p + isum q := by
  induction p with
  | nil => simp [isum]
  | cons b r ih => simp only [List.cons_append, isum, ih]; omega
theorem isum_take_le {h : List Int} (hh : ∀ i, i < h.length → 0 ≤ nth h i) (j : Nat) : isum (h.take j) ≤ isum h := by
  have e := isum_append (h.take j) (h.drop j)
  rw [List.take_append_drop] at e
  have := isum_nonneg (h := h.drop j) (fun i hi => by
    have e2 : nth (h.drop j) i = nth h (j + i) := by simp [nth]
    rw [e2]; exact hh _ (by simp at hi; omega))
  omega

/-- What a fitting aggregate that is not empty is known for. -/
structure Fit (m : Nat) (a : Ac) : Prop where
  n0 : 0 ≤ a.n
  n1 : a.n ≤ 8192
  s0 : -1099511627776 * a.n ≤ a.s
  s1 : a.s ≤ 1099511627776 * a.n
  len : a.h.length = m
  low : ∀ i, i < m → 0 ≤ nth a.h i
  top : ∀ i, i < m → nth a.h i ≤ a.n
theorem fit_of {m : Nat} {a : Ac} (h : fitB a m = true) : Fit m a := by
  simp only [fitB, Bool.and_eq_true] at h
  obtain ⟨h1, h2, h3⟩ := h
  have hn := wi_true h1
  have hh := of_decide_eq_true h2
  have hl : a.h.length = m := by have := hh.1; omega
  have low : ∀ i, i < a.h.length → 0 ≤ nth a.h i := fun i hi => (hh.2.1 i hi).1
  have hs : -1099511627776 * a.n ≤ a.s ∧ a.s ≤ 1099511627776 * a.n := by
    split at h3
    · rename_i hz
      have hz2 := of_decide_eq_true h3
      rw [hz, hz2.1]; omega
    · simp only [Bool.and_eq_true] at h3
      obtain ⟨g1, g2, g3, -, -, -, -, g8, g9⟩ := of_decide_eq_true h3.2
      have e1 : a.n * (-1099511627776) ≤ a.n * a.mn := Int.mul_le_mul_of_nonneg_left g1 hn.1
      have e2 : a.n * a.mx ≤ a.n * 1099511627776 := Int.mul_le_mul_of_nonneg_left g3 hn.1
      omega
  exact ⟨hn.1, hn.2, hs.1, hs.2, hl, fun i hi => low i (by omega), fun i hi => by have := nth_le_isum low (i := i) (by omega); rw [hh.2.2] at this; exact this⟩
theorem fit_add {m : Nat} {o a : Ac} (ho : Fit m o) (ha : Fit m a) (hs : o.n + a.n ≤ 8192) : Fit m (addAc o a) := by
  obtain ⟨o1, o2, o3, o4, o5, o6, o7⟩ := ho
  obtain ⟨a1, a2, a3, a4, a5, a6, a7⟩ := ha
  refine ⟨?_, ?_, ?_, ?_, ?_, ?_, ?_⟩
  · simp only [addAc]; omega
  · simp only [addAc]; omega
  · simp only [addAc]; omega
  · simp only [addAc]; omega
  · simp [addAc, o5]
  · intro i hi
    simp only [addAc]
    rw [nth_range_map _ _ (by omega)]
    have := o6 i hi; have := a6 i hi; omega
  · intro i hi
    simp only [addAc]
    rw [nth_range_map _ _ (by omega)]
    have := o7 i hi; have := a7 i hi; omega
theorem fit_start (m : Nat) : Fit m ⟨0, 0, 0, 0, zeroIt, zeroIt, List.replicate m 0⟩ := by
  have e : ∀ i, i < m → nth (List.replicate m 0) i = 0 := fun i hi => by simp [nth, hi]
  refine ⟨by simp, by simp, by simp, by simp, by simp, fun i hi => ?_, fun i hi => ?_⟩
  · simp only; rw [e i hi]; omega
  · simp only; rw [e i hi]; omega
/-- The first j joined. -/
def joinTo (m : Nat) (xs : List Ac) (j : Nat) : Ac := (xs.take j).foldl joinStep ⟨0, 0, 0, 0, zeroIt, zeroIt, List.replicate m 0⟩
theorem joinTo_succ {m : Nat} {xs : List Ac} {j : Nat} (h : j < xs.length) : joinTo m xs (j + 1) = joinStep (joinTo m xs j) (nthA xs j) := by
  unfold joinTo
  rw [List.take_succ_eq_append_getElem h, List.foldl_append]
  simp [nthA, h]
theorem joinTo_all {bs : List Int} {xs : List Ac} {j : Nat} (h : xs.length ≤ j) : joinTo (bs.length + 1) xs j = joinAc bs xs := by
  unfold joinTo joinAc
  rw [List.take_of_length_le h]
theorem joinTo_n {m : Nat} {xs : List Ac} {j : Nat} (h : j ≤ xs.length) : (joinTo m xs j).n = isum ((xs.take j).map (·.n)) := by
  induction j with
  | zero => simp [joinTo, isum]
  | succ j ih =>
    rw [joinTo_succ (by omega), isum_map_take (by omega), ← ih (by omega)]
    unfold joinStep
    split
    · rename_i hz; rw [hz]; omega
    · simp [addAc]
theorem joinTo_fit {m : Nat} {xs : List Ac} (ha : ∀ i, i < xs.length → Fit m (nthA xs i)) (ht : totalA xs ≤ 8192) {j : Nat} (h : j ≤ xs.length) : Fit m (joinTo m xs j) := by
  induction j with
  | zero => exact fit_start m
  | succ j ih =>
    have hj := ih (by omega)
    have e := joinTo_n (m := m) (xs := xs) (j := j + 1) h
    have e0 := joinTo_n (m := m) (xs := xs) (j := j) (by omega)
    have es := isum_map_take (xs := xs) (j := j) (by omega)
    have hle : isum ((xs.take (j + 1)).map (·.n)) ≤ totalA xs := by
      rw [List.map_take]
      exact isum_take_le (fun i hi => by
        have := (ha i (by simpa using hi)).n0
        simpa [nth, nthA, show i < xs.length by simpa using hi] using this) _
    rw [joinTo_succ (by omega)] at e ⊢
    unfold joinStep at e ⊢
    split
    · exact hj
    · exact fit_add hj (ha j (by omega)) (by omega)
theorem addAc_hlen (o a : Ac) : (addAc o a).h.length = o.h.length := by simp [addAc]

end Go.Proofs.Ytdoflmphkalicaa
