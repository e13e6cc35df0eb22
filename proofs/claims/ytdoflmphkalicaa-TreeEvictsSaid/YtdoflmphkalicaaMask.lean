/-
  'x & (2^p - 1)' is the rest by 2^p. No program here.
-/
import Derived.Laws.BitsLemmas
import Derived.WalkKit
namespace Go.Proofs.Ytdoflmphkalicaa

theorem mask_of (n : Int) (p : Nat) (q : Int) (hp : p ≤ 62) (h : (BitVec.ofInt 64 q).toNat = 2 ^ p - 1) : bits .and .i64 n q = n % ((2 ^ p : Nat) : Int) := by
  have e : (BitVec.ofInt 64 n &&& BitVec.ofInt 64 q).toNat = (n % ((2 ^ 64 : Nat) : Int)).toNat % 2 ^ p := by
    rw [BitVec.toNat_and, BitVec.toNat_ofInt, h, Nat.and_two_pow_sub_one_eq_mod]
  show IntKind.i64.wrap ((BitVec.ofInt 64 n &&& BitVec.ofInt 64 q).toNat : Nat) = _
  rw [e, IntKind.wrap_i64]
  have hd : (2 ^ p : Nat) ∣ 2 ^ 64 := Nat.pow_dvd_pow 2 (by omega)
  have hlt : (n % ((2 ^ 64 : Nat) : Int)).toNat % 2 ^ p < 2 ^ 62 + 1 := by
    have h1 := Nat.mod_lt (n % ((2 ^ 64 : Nat) : Int)).toNat (Nat.pow_pos (n := p) (show 0 < 2 by decide))
    have h2 : 2 ^ p ≤ 2 ^ 62 := Nat.pow_le_pow_right (by decide) hp
    omega
  have hn : 0 ≤ n % ((2 ^ 64 : Nat) : Int) := Int.emod_nonneg _ (by decide)
  have h3 : (((n % ((2 ^ 64 : Nat) : Int)).toNat % 2 ^ p : Nat) : Int) = n % ((2 ^ p : Nat) : Int) := by
    rw [Int.natCast_emod, Int.toNat_of_nonneg hn]
    exact Int.emod_emod_of_dvd n (Int.natCast_dvd_natCast.2 hd)
  rw [← h3]
  omega
theorem mask3 (n : Int) : bits .and .i64 n 3 = n % 4 := mask_of n 2 3 (by decide) (by decide)
theorem mask7 (n : Int) : bits .and .i64 n 7 = n % 8 := mask_of n 3 7 (by decide) (by decide)
theorem mask255 (n : Int) : bits .and .i64 n 255 = n % 256 := mask_of n 8 255 (by decide) (by decide)
theorem mask1023 (n : Int) : bits .and .i64 n 1023 = n % 1024 := mask_of n 10 1023 (by decide) (by decide)

end Go.Proofs.Ytdoflmphkalicaa
