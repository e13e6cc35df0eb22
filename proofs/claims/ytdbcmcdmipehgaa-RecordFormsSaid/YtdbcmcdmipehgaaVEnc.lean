/-
  A number's bytes: plain facts. No program here.
-/
import Derived.Test.YtdbcmcdmipehgaaVP
import Derived.Test.YtdbcmcdmipehgaaVBits
namespace Go.Proofs.Ytdbcmcdmipehgaa

/-- Seven bits a byte, the lowest first. -/
def encL (u : Nat) : List UInt8 := if h : u < 128 then [UInt8.ofNat u] else UInt8.ofNat (u % 128 + 128) :: encL (u / 128)
termination_by u
decreasing_by omega
theorem encL_end {u : Nat} (h : u < 128) : encL u = [UInt8.ofNat u] := by rw [encL, dif_pos h]
theorem encL_more {u : Nat} (h : ¬ u < 128) : encL u = UInt8.ofNat (u % 128 + 128) :: encL (u / 128) := by rw [encL, dif_neg h]
theorem encL_ne (u : Nat) : encL u ≠ [] := by
  by_cases h : u < 128
  · rw [encL_end h]; simp
  · rw [encL_more h]; simp
theorem encL_bits : ∀ (n u : Nat), u < 2 ^ (7 * (n + 1)) → (encL u).length ≤ n + 1
  | 0, u, h => by rw [encL_end (by simpa using h)]; simp
  | n + 1, u, h => by
    by_cases h1 : u < 128
    · rw [encL_end h1]; simp
    · rw [encL_more h1]
      have h2 : u / 128 < 2 ^ (7 * (n + 1)) := by
        rw [Nat.div_lt_iff_lt_mul (by decide)]
        rwa [show 7 * (n + 1 + 1) = 7 * (n + 1) + 7 by omega, Nat.pow_add] at h
      have := encL_bits n (u / 128) h2
      simp only [List.length_cons]
      omega
theorem encL_len {u : Nat} (h : u < 18446744073709551616) : (encL u).length ≤ 10 :=
  encL_bits 9 u (Nat.lt_trans h (by decide))
/-- A number as bytes. -/
def encS (x : Int) : ByteArray := ⟨(encL (foldI x).toNat).toArray⟩

end Go.Proofs.Ytdbcmcdmipehgaa
