/-
  Plain facts of windows: which queries may be, which windows hold a time. No program here.
-/
import Derived.Test.YtkbocjmdbfddhaaWFloorP
import Derived.Test.YtkbocjmdbfddhaaPure
namespace Go.Proofs.Ytkbocjmdbfddhaa

/-- May a query's slide be? -/
def slideB (kd sz sl : Int) : Bool := if kd = 1 then decide (1 ≤ sl ∧ sl ≤ sz ∧ (sz + sl - 1) / sl ≤ 64 ∧ sz / gcdI sz sl ≤ 256) else decide (sl = 0)
/-- May its bounds be? -/
def bndB (ag : Int) (bs : List Int) : Bool := if ag = 6 ∨ ag = 7 then decide (0 < bs.length) && boundsB bs else decide (bs.length = 0)
/-- May its rank be? -/
def rankB (ag rk : Int) : Bool := if ag = 7 then wi rk 0 1000 else decide (rk = 0)
def mayQ (kd ag sz sl : Int) (bs : List Int) (rk : Int) : Bool := wi kd 0 2 && (wi ag 0 7 && (wi sz 1 1073741824 && (slideB kd sz sl && (bndB ag bs && rankB ag rk))))
/-- How far windows are apart. -/
def stepQ (kd sz sl : Int) : Int := if kd = 1 then sl else sz

/-- Windows, begin by begin: the first at step a + 1. -/
def winL (a k m : Int) : Nat → List (Int × Int)
  | 0 => []
  | n + 1 => winL a k m n ++ [((a + 1 + n) * k, (a + 1 + n) * k + m)]
theorem winL_len (a k m : Int) (n : Nat) : (winL a k m n).length = n := by
  induction n with
  | zero => rfl
  | succ n ih => rw [winL, List.length_append, ih]; rfl
theorem winL_at (a k m : Int) {n i : Nat} (h : i < n) : (winL a k m n)[i]? = some ((a + 1 + i) * k, (a + 1 + i) * k + m) := by
  induction n with
  | zero => omega
  | succ n ih =>
    rw [winL]
    by_cases e : i < n
    · rw [List.getElem?_append_left (by rw [winL_len]; exact e), ih e]
    · obtain rfl : i = n := by omega
      rw [List.getElem?_append_right (by rw [winL_len]; omega), winL_len, Nat.sub_self]; rfl
/-- What of a query that may be the walks lean on. -/
theorem stepQ_bd {kd ag sz sl rk : Int} {bs : List Int} (h : mayQ kd ag sz sl bs rk = true) : 1 ≤ stepQ kd sz sl ∧ stepQ kd sz sl ≤ sz ∧ 1 ≤ sz ∧ sz ≤ 1073741824 ∧ (sz + stepQ kd sz sl - 1) / stepQ kd sz sl ≤ 64 := by
  unfold mayQ at h
  simp only [Bool.and_eq_true] at h
  obtain ⟨h1, h2, h3, h4, _⟩ := h
  have h1 := wi_true h1
  have h3 := wi_true h3
  unfold slideB at h4
  unfold stepQ
  by_cases e : kd = 1
  · rw [if_pos e] at h4 ⊢
    have := of_decide_eq_true h4
    exact ⟨this.1, this.2.1, h3.1, h3.2, this.2.2.1⟩
  · rw [if_neg e] at h4 ⊢
    refine ⟨h3.1, by omega, h3.1, h3.2, ?_⟩
    have : (sz + sz - 1) / sz < 2 := Int.ediv_lt_of_lt_mul (by omega) (by omega)
    omega
/-- The steps of the last begin ahead of a window's reach, of the last window, and how many there are. -/
theorem win_bd (t k m : Int) (hk : 1 ≤ k) (hkm : k ≤ m) (hp : (m + k - 1) / k ≤ 64) : (t - m) / k + 1 ≤ t / k ∧ t / k - (t - m) / k ≤ 64 ∧ t / k - (t - m) / k ≤ (m - 1) / k + 1 ∧ 0 ≤ (m - 1) / k := by
  have e1 := Int.ediv_mul_add_emod t k
  have r1 := Int.emod_nonneg t (show k ≠ 0 by omega)
  have r2 := Int.emod_lt_of_pos t (show 0 < k by omega)
  have a1 : (t - m) / k ≤ (t - k) / k := Int.ediv_le_ediv (by omega) (by omega)
  have a2 : (t - k) / k = t / k - 1 := by
    rw [show t - k = t + (-1) * k by omega, Int.add_mul_ediv_right _ _ (by omega)]; omega
  have f1 := Int.ediv_mul_add_emod (m - 1) k
  have s1 := Int.emod_nonneg (m - 1) (show k ≠ 0 by omega)
  have s2 := Int.emod_lt_of_pos (m - 1) (show 0 < k by omega)
  have p0 : 0 ≤ (m - 1) / k := Int.ediv_nonneg (by omega) (by omega)
  have p1 : (m + k - 1) / k = (m - 1) / k + 1 := by
    rw [show m + k - 1 = (m - 1) + 1 * k by omega, Int.add_mul_ediv_right _ _ (by omega)]
  have b1 : t / k - ((m - 1) / k + 1) ≤ (t - m) / k := by
    apply Int.le_ediv_of_mul_le (by omega)
    rw [Int.sub_mul, Int.add_mul]
    omega
  omega
/-- The begin of a window, held against the time. -/
theorem win_begin (t k m : Int) (hk : 1 ≤ k) (i : Int) : ((t - m) / k < i ↔ t - m < i * k) ∧ (i ≤ t / k ↔ i * k ≤ t) :=
  ⟨Int.ediv_lt_iff_lt_mul (by omega), Int.le_ediv_iff_mul_le (by omega)⟩

end Go.Proofs.Ytkbocjmdbfddhaa
