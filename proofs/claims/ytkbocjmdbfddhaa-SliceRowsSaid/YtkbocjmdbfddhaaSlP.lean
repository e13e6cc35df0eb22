/-
  Plain facts of slices: their length, of which a window is made. No program here.
-/
import Derived.Test.YtkbocjmdbfddhaaWinP
namespace Go.Proofs.Ytkbocjmdbfddhaa

/-- How long the slices of a query are. -/
def unitQ (kd sz sl : Int) : Int := if kd = 0 then sz else gcdI sz sl
theorem unitQ_bd {kd ag sz sl rk : Int} {bs : List Int} (h : mayQ kd ag sz sl bs rk = true) (hk : kd ≠ 2) :
    1 ≤ unitQ kd sz sl ∧ unitQ kd sz sl ≤ sz ∧ unitQ kd sz sl ∣ sz ∧ unitQ kd sz sl ∣ stepQ kd sz sl ∧ sz / unitQ kd sz sl ≤ 256 := by
  unfold mayQ at h
  simp only [Bool.and_eq_true] at h
  obtain ⟨h1, h2, h3, h4, _⟩ := h
  have h1 := wi_true h1
  have h3 := wi_true h3
  unfold slideB at h4
  unfold unitQ stepQ
  by_cases e : kd = 1
  · subst e
    rw [if_pos rfl] at h4
    rw [if_neg (by decide), if_pos rfl]
    have h5 := of_decide_eq_true h4
    exact ⟨gcd_pos sz sl h3.1, gcd_le sz sl h3.1, gcd_left sz sl, gcd_right sz sl, h5.2.2.2⟩
  · obtain rfl : kd = 0 := by omega
    rw [if_pos rfl, if_neg e]
    refine ⟨h3.1, by omega, Int.dvd_refl _, Int.dvd_refl _, ?_⟩
    rw [Int.ediv_self (by omega)]; omega
/-- Slices, one behind the other. -/
def cutL (s u : Int) : Nat → List (Int × Int)
  | 0 => []
  | n + 1 => cutL s u n ++ [(s + n * u, s + n * u + u)]
theorem cutL_len (s u : Int) (n : Nat) : (cutL s u n).length = n := by
  induction n with
  | zero => rfl
  | succ n ih => rw [cutL, List.length_append, ih]; rfl
theorem cutL_at (s u : Int) {n i : Nat} (h : i < n) : (cutL s u n)[i]? = some (s + i * u, s + i * u + u) := by
  induction n with
  | zero => omega
  | succ n ih =>
    rw [cutL]
    by_cases e : i < n
    · rw [List.getElem?_append_left (by rw [cutL_len]; exact e), ih e]
    · obtain rfl : i = n := by omega
      rw [List.getElem?_append_right (by rw [cutL_len]; omega), cutL_len, Nat.sub_self]; rfl
/-- May a span be one of the query's windows? -/
def cutB (kd sz sl s e : Int) : Bool := decide (-1099511627776 - 1073741824 ≤ s ∧ s ≤ 1099511627776 ∧ e = s + sz ∧ -1099511627776 < e ∧ s % stepQ kd sz sl = 0)
/-- How many slices a window has, and where the j-th one begins. -/
theorem cut_count {u sz : Int} (h1 : 1 ≤ u) (h2 : u ∣ sz) (h3 : 1 ≤ sz) (h4 : sz / u ≤ 256) : ∃ n : Nat, (n : Int) = sz / u ∧ (n : Int) * u = sz ∧ 1 ≤ n ∧ n ≤ 256 := by
  have e := Int.ediv_mul_cancel h2
  have h5 : 0 ≤ sz / u := Int.ediv_nonneg (by omega) (by omega)
  have h6 : 1 ≤ sz / u := by
    rcases Int.lt_or_le 0 (sz / u) with h | h
    · omega
    · have : sz / u = 0 := by omega
      rw [this] at e; omega
  exact ⟨(sz / u).toNat, by omega, by rw [Int.toNat_of_nonneg h5]; exact e, by omega, by omega⟩
theorem cut_step {u sz : Int} {n j : Nat} (h1 : 1 ≤ u) (hn : (n : Int) * u = sz) (hj : j ≤ n) : 0 ≤ (j : Int) * u ∧ (j : Int) * u ≤ sz ∧ (j < n → (j : Int) * u + u ≤ sz) ∧ ((j : Int) * u < sz → j < n) ∧ ((j + 1 : Nat) : Int) * u = (j : Int) * u + u := by
  have e1 : ((j + 1 : Nat) : Int) * u = (j : Int) * u + u := by rw [show ((j + 1 : Nat) : Int) = (j : Int) + 1 by omega, Int.add_mul, Int.one_mul]
  refine ⟨Int.mul_nonneg (by omega) (by omega), ?_, fun h => ?_, fun h => ?_, e1⟩
  · rw [← hn]; exact Int.mul_le_mul_of_nonneg_right (by omega) (by omega)
  · rw [← e1, ← hn]; exact Int.mul_le_mul_of_nonneg_right (by omega) (by omega)
  · rw [← hn] at h
    have := Int.lt_of_mul_lt_mul_right h (by omega)
    omega
/-- The slice that holds a time. -/
theorem at_bd (t u : Int) (h : 1 ≤ u) : t / u * u ≤ t ∧ t < t / u * u + u := by
  have e := Int.ediv_mul_add_emod t u
  have r1 := Int.emod_nonneg t (show u ≠ 0 by omega)
  have r2 := Int.emod_lt_of_pos t (show 0 < u by omega)
  omega

theorem mem_winL (a k m s e : Int) (n : Nat) : (s, e) ∈ winL a k m n ↔ ∃ i : Nat, i < n ∧ (a + 1 + (i : Int)) * k = s ∧ e = s + m := by
  constructor
  · intro h
    obtain ⟨i, hi⟩ := List.mem_iff_getElem?.1 h
    have hl : i < n := by
      have := (List.getElem?_eq_some_iff.1 hi).1
      rwa [winL_len] at this
    rw [winL_at a k m hl] at hi
    injection hi with hi
    injection hi with h1 h2
    exact ⟨i, hl, h1, by rw [← h1]; exact h2.symm⟩
  · rintro ⟨i, hi, rfl, rfl⟩
    exact List.mem_iff_getElem?.2 ⟨i, winL_at a k m hi⟩
/-- The time at which a span is looked for. -/
def lookT (s : Int) : Int := if s < -1099511627776 then -1099511627776 else s
theorem cut_mem {kd ag sz sl rk : Int} {bs : List Int} (h : mayQ kd ag sz sl bs rk = true) (s e : Int) :
    cutB kd sz sl s e = (wi (lookT s) (-1099511627776) 1099511627776 && decide ((s, e) ∈ winL ((lookT s - sz) / stepQ kd sz sl) (stepQ kd sz sl) sz (lookT s / stepQ kd sz sl - (lookT s - sz) / stepQ kd sz sl).toNat)) := by
  obtain ⟨s1, s2, s3, s4, s5⟩ := stepQ_bd h
  unfold cutB
  have hg := fun t => win_begin t (stepQ kd sz sl) sz s1
  generalize stepQ kd sz sl = k at *
  have ht : (s < -1099511627776 ∧ lookT s = -1099511627776) ∨ (-1099511627776 ≤ s ∧ lookT s = s) := by unfold lookT; split <;> omega
  by_cases h1 : s ≤ 1099511627776
  · rw [wi_mk (by omega), Bool.true_and]
    refine decide_eq_decide.2 ?_
    rw [mem_winL]
    constructor
    · rintro ⟨g1, g2, g3, g4, g5⟩
      obtain ⟨q, hq⟩ := Int.dvd_of_emod_eq_zero g5
      rw [Int.mul_comm] at hq
      have i1 := (hg (lookT s) q).1.2 (by omega)
      have i2 := (hg (lookT s) q).2.2 (by omega)
      refine ⟨(q - (lookT s - sz) / k - 1).toNat, by omega, ?_, g3⟩
      rw [show (lookT s - sz) / k + 1 + (((q - (lookT s - sz) / k - 1).toNat : Nat) : Int) = q by omega, hq]
    · rintro ⟨i, hi, hs, he⟩
      have i1 := (hg (lookT s) ((lookT s - sz) / k + 1 + (i : Int))).1.1 (by omega)
      have i2 := (hg (lookT s) ((lookT s - sz) / k + 1 + (i : Int))).2.1 (by omega)
      rw [hs] at i1 i2
      exact ⟨by omega, h1, he, by omega, by rw [← hs]; exact Int.mul_emod_left _ _⟩
  · rw [wi_false (by omega), Bool.false_and]
    exact decide_eq_false (by omega)

end Go.Proofs.Ytkbocjmdbfddhaa
