/-
  Bits of numbers of 64 bits as sums, rests, quotients. No program here.
-/
import Derived.Laws.BitsLemmas
import Derived.Laws.Bits64
import Derived.Laws.Bits64b
import Derived.WalkKit
namespace Go.Proofs.Ytdbcmcdmipehgaa

theorem wraps_u64 (n : Int) (h0 : 0 ≤ n) (h1 : n < 2 ^ 64) : IntKind.u64.wrap n = n := by rw [IntKind.wrap_u64]; omega
theorem not_u64 (v : Int) (h0 : 0 ≤ v) (h1 : v < 18446744073709551616) : bits .xor .u64 IntKind.u64.max v = 18446744073709551615 - v := by
  obtain ⟨n, rfl⟩ := Int.eq_ofNat_of_zero_le h0
  have hn : n < 18446744073709551616 := by omega
  have e : IntKind.u64.max = ((18446744073709551615 : Nat) : Int) := by decide
  rw [e, bits_xor_u64_nat _ _ (by decide) hn]
  have hb : (BitVec.allOnes 64 ^^^ BitVec.ofNat 64 n).toNat = 18446744073709551615 ^^^ n := by
    rw [BitVec.toNat_xor, BitVec.toNat_allOnes, BitVec.toNat_ofNat, Nat.mod_eq_of_lt hn]
  rw [BitVec.allOnes_xor, BitVec.toNat_not, BitVec.toNat_ofNat, Nat.mod_eq_of_lt hn] at hb
  rw [← hb]
  omega
theorem and127_u64 (u : Int) (h0 : 0 ≤ u) (h1 : u < 18446744073709551616) : bits .and .u64 u 127 = u % 128 := bits_mask .u64 64 (by decide) wraps_u64 7 (by decide) u h0 (by simpa using h1)
theorem and1_u64 (u : Int) (h0 : 0 ≤ u) (h1 : u < 18446744073709551616) : bits .and .u64 u 1 = u % 2 := bits_mask .u64 64 (by decide) wraps_u64 1 (by decide) u h0 (by simpa using h1)
theorem and127_u8 (c : Int) (h0 : 0 ≤ c) (h1 : c ≤ 255) : bits .and .u8 c 127 = c % 128 := bits_mask .u8 8 (by decide) wraps_u8 7 (by decide) c h0 (by omega)
/-- What lies above is joined as a sum. -/
theorem or_above (X m p : Nat) (hX : X < 2 ^ p) (h : m * 2 ^ p < 18446744073709551616) (hX' : X < 18446744073709551616) :
    bits .or .u64 (X : Int) ((m * 2 ^ p : Nat) : Int) = ((X + m * 2 ^ p : Nat) : Int) := by
  rw [bits_or_u64_nat X (m * 2 ^ p) hX' h]
  congr 1
  rw [Nat.or_comm, Nat.mul_comm, Nat.add_comm]
  exact (Nat.two_pow_add_eq_or_of_lt hX m).symm
theorem or128_u64 (u : Int) (h0 : 0 ≤ u) (h1 : u < 128) : bits .or .u64 u 128 = u + 128 := by
  obtain ⟨n, rfl⟩ := Int.eq_ofNat_of_zero_le h0
  have h := or_above n 1 7 (by omega) (by decide) (by omega)
  simpa using h
theorem or128_i64 (u : Int) (h0 : 0 ≤ u) (h1 : u < 128) : bits .or .i64 128 u = u + 128 := by
  have h := bits_join .i64 63 (by decide) (fun n h0 h1 => by rw [IntKind.wrap_i64]; omega) 7 128 u (by omega) (by decide) (by decide) h0 (by simpa using h1) (by omega)
  omega

theorem shl_mod (c k : Nat) (hk : k ≤ 9) : c * 2 ^ (7 * k) % 18446744073709551616 = c % 2 ^ (64 - 7 * k) * 2 ^ (7 * k) := by
  have e : (18446744073709551616 : Nat) = 2 ^ (64 - 7 * k) * 2 ^ (7 * k) := by
    rw [← Nat.pow_add, show 64 - 7 * k + 7 * k = 64 by omega]
  rw [e, Nat.mul_mod_mul_right]
/-- A further byte's seven bits. -/
theorem or_step (X c k : Nat) (hk : k ≤ 9) (hX : X < 2 ^ (7 * k)) :
    bits .or .u64 (X : Int) (IntKind.u64.wrap ((c : Int) % 128 * 2 ^ (7 * k))) = ((X + c % 128 * 2 ^ (7 * k) % 18446744073709551616 : Nat) : Int) := by
  have e : IntKind.u64.wrap ((c : Int) % 128 * 2 ^ (7 * k)) = ((c % 128 * 2 ^ (7 * k) % 18446744073709551616 : Nat) : Int) := by
    rw [IntKind.wrap_u64]
    simp
  have hlt : c % 128 * 2 ^ (7 * k) % 18446744073709551616 < 18446744073709551616 := Nat.mod_lt _ (by decide)
  rw [e]
  rw [shl_mod _ _ hk] at hlt ⊢
  refine or_above X _ (7 * k) hX hlt (Nat.lt_of_lt_of_le hX ?_)
  exact Nat.le_trans (Nat.pow_le_pow_right (by decide) (show 7 * k ≤ 63 by omega)) (by decide)
theorem step_in (X c k : Nat) (hk : k ≤ 9) (hX : X < 2 ^ (7 * k)) : X + c % 128 * 2 ^ (7 * k) % 18446744073709551616 < 18446744073709551616 := by
  rw [shl_mod _ _ hk]
  have h1 : c % 128 % 2 ^ (64 - 7 * k) + 1 ≤ 2 ^ (64 - 7 * k) := Nat.mod_lt _ (Nat.two_pow_pos _)
  have h2 := Nat.mul_le_mul_right (2 ^ (7 * k)) h1
  rw [← Nat.pow_add, show 64 - 7 * k + 7 * k = 64 by omega, Nat.add_mul] at h2
  have e : (2 : Nat) ^ 64 = 18446744073709551616 := by decide
  omega
theorem step_lt (X c k : Nat) (hX : X < 2 ^ (7 * k)) : X + c % 128 * 2 ^ (7 * k) % 18446744073709551616 < 2 ^ (7 * (k + 1)) := by
  have h1 : c % 128 * 2 ^ (7 * k) % 18446744073709551616 ≤ c % 128 * 2 ^ (7 * k) := Nat.mod_le _ _
  have h2 : c % 128 * 2 ^ (7 * k) ≤ 127 * 2 ^ (7 * k) := Nat.mul_le_mul_right _ (by omega)
  have h3 : 2 ^ (7 * (k + 1)) = 128 * 2 ^ (7 * k) := by rw [show 7 * (k + 1) = 7 + 7 * k by omega, Nat.pow_add]
  omega

end Go.Proofs.Ytdbcmcdmipehgaa
