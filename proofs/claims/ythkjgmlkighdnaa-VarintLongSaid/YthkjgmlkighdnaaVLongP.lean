/-
  How many bytes a number of so many bits has; 1 << k | x & (1 << k - 1). Plain facts.
-/
import Derived.Test.YthkjgmlkighdnaaVBack
import Derived.Test.YthkjgmlkighdnaaFMask
namespace Go.Proofs.Ythkjgmlkighdnaa
open Go.RowKit

theorem encL_size {k f : Nat} (h1 : 2 ^ (k + 1) ≤ f) (h2 : f < 2 ^ (k + 2)) : (encL f).length = (k + 1) / 7 + 1 := by
  by_cases h : k + 1 < 7
  · rw [encL_end (Nat.lt_of_lt_of_le h2 (Nat.le_trans (Nat.pow_le_pow_right (by decide) (show k + 2 ≤ 7 by omega)) (by decide)))]
    have : (k + 1) / 7 = 0 := by omega
    rw [this]; rfl
  · obtain ⟨m, hm⟩ : ∃ m, (k + 1) / 7 = m + 1 := ⟨(k + 1) / 7 - 1, by omega⟩
    rw [encL_count m f (Nat.le_trans (Nat.pow_le_pow_right (by decide) (by omega)) h1) (Nat.lt_of_lt_of_le h2 (Nat.pow_le_pow_right (by decide) (by omega))), hm]
theorem encS_count {k : Nat} {y : Int} (h1 : (2 ^ k : Nat) ≤ y) (h2 : y < (2 ^ (k + 1) : Nat)) :
    (encS y).size = (k + 1) / 7 + 1 ∧ (encS (-y - 1)).size = (k + 1) / 7 + 1 := by
  have hp : 0 < 2 ^ k := Nat.two_pow_pos k
  have e1 : 2 ^ (k + 1) = 2 ^ k * 2 := Nat.pow_succ 2 k
  have e2 : 2 ^ (k + 2) = 2 ^ (k + 1) * 2 := Nat.pow_succ 2 (k + 1)
  constructor
  · rw [encS_size]
    unfold encX
    have hf : (foldI y).toNat = (2 * y).toNat := by rw [foldI_pos (by omega)]
    rw [hf]
    exact encL_size (by omega) (by omega)
  · rw [encS_size]
    unfold encX
    have hf : (foldI (-y - 1)).toNat = (2 * y + 1).toNat := by rw [foldI_neg (by omega)]; congr 1; omega
    rw [hf]
    exact encL_size (by omega) (by omega)

/-- The number that the law makes. -/
theorem long_y (x : Int) (k : Nat) (hk : k ≤ 61) : ∃ y : Int, bits .or .i64 ((2 ^ k : Nat) : Int) (bits .and .i64 x (((2 ^ k : Nat) : Int) - 1)) = y ∧ (2 ^ k : Nat) ≤ y ∧ y < (2 ^ (k + 1) : Nat) := by
  have hp : 0 < 2 ^ k := Nat.two_pow_pos k
  have hle : 2 ^ k ≤ 2 ^ 61 := Nat.pow_le_pow_right (by decide) hk
  have e1 : 2 ^ (k + 1) = 2 ^ k * 2 := Nat.pow_succ 2 k
  have hb : (BitVec.ofInt 64 (((2 ^ k : Nat) : Int) - 1)).toNat = 2 ^ k - 1 := by
    rw [BitVec.toNat_ofInt]
    have e : (((2 ^ k : Nat) : Int) - 1) = ((2 ^ k - 1 : Nat) : Int) := by omega
    rw [e, ← Int.natCast_emod, Int.toNat_natCast, Nat.mod_eq_of_lt (by omega)]
  have hm := mask_of x k _ (by omega) hb
  have h0 := Int.emod_nonneg x (show ((2 ^ k : Nat) : Int) ≠ 0 by omega)
  have h1 := Int.emod_lt_of_pos x (show (0 : Int) < ((2 ^ k : Nat) : Int) by omega)
  rw [hm]
  generalize x % ((2 ^ k : Nat) : Int) = r at h0 h1
  refine ⟨((2 ^ k : Nat) : Int) + r, ?_, by omega, by omega⟩
  have hc : ((2 : Int) ^ k) = ((2 ^ k : Nat) : Int) := by simp
  refine bits_join .i64 63 (by decide) (fun n h0 h1 => by rw [IntKind.wrap_i64]; omega) k _ r (by omega) ?_ ?_ h0 ?_ ?_
  · rw [hc, Int.emod_self]
  · omega
  · rw [hc]; exact h1
  · omega

end Go.Proofs.Ythkjgmlkighdnaa
