/-
  Numbers folded, as bytes, and back: plain facts. No program here.
  Bits of numbers of 64 bits as sums, rests, quotients. No program here.
  A number's bytes: plain facts. No program here.
  There and back, cut, too long: plain facts of a number's bytes. No program here.
-/
import Derived.WalkKit
import Derived.Lib.Hide
import Derived.Laws.BitsLemmas
import Derived.Laws.Bits64
import Derived.Laws.Bits64b
namespace Go.Proofs.Ytoechlmahckchaa

/-- x folded: from 0 on the even numbers, below it the odd ones. -/
def foldI (x : Int) : Int := if x < 0 then -2 * x - 1 else 2 * x
/-- The number that was folded to u. -/
def unfI (u : Int) : Int := if u % 2 = 1 then -(u / 2) - 1 else u / 2
/-- May c, below 128, end a number behind i bytes? -/
def endB (i : Nat) (c : Int) : Bool := !(decide (0 < i) && decide (c = 0)) && (decide (i < 9) || decide (c ≤ 1))

theorem foldI_pos {x : Int} (h : ¬ x < 0) : foldI x = 2 * x := if_neg h
theorem foldI_neg {x : Int} (h : x < 0) : foldI x = -2 * x - 1 := if_pos h
theorem foldI_bd {x : Int} (l : -9223372036854775808 ≤ x) (u : x ≤ 9223372036854775807) : 0 ≤ foldI x ∧ foldI x < 18446744073709551616 := by
  by_cases h : x < 0
  · rw [foldI_neg h]; omega
  · rw [foldI_pos h]; omega
theorem unf_fold (x : Int) : unfI (foldI x) = x := by
  unfold unfI
  by_cases h : x < 0
  · rw [foldI_neg h]
    rw [if_pos (by omega)]; omega
  · rw [foldI_pos h]
    rw [if_neg (by omega)]; omega
theorem foldI_inj {x y : Int} (h : foldI x = foldI y) : x = y := by
  rw [← unf_fold x, ← unf_fold y, h]

theorem endB_true {i : Nat} {c : Int} (h1 : ¬ (0 < i ∧ c = 0)) (h2 : i < 9 ∨ c ≤ 1) : endB i c = true := by
  unfold endB
  by_cases a : 0 < i <;> by_cases b : c = 0 <;> by_cases d : i < 9 <;> simp_all
theorem endB_zero {i : Nat} {c : Int} (h1 : 0 < i) (h2 : c = 0) : endB i c = false := by
  unfold endB; simp [h1, h2]
theorem endB_last {i : Nat} {c : Int} (h1 : ¬ i < 9) (h2 : ¬ c ≤ 1) : endB i c = false := by
  unfold endB; simp [h1, h2]

/-- A number read out of bytes, k bytes and X ahead: what is folded, its bytes, the error. -/
def decL (k : Nat) (X : Nat) : List UInt8 → Nat × Nat × Nat
  | [] => if 10 ≤ k then (0, 0, 700) else (0, 0, 701)
  | b :: r => if 10 ≤ k then (0, 0, 700) else
      if 128 ≤ b.toNat then decL (k + 1) (X + b.toNat % 128 * 2 ^ (7 * k) % 18446744073709551616) r
      else if endB k b.toNat then (X + b.toNat % 128 * 2 ^ (7 * k) % 18446744073709551616, k + 1, 0) else (0, 0, 700)
/-- What Get answers of bytes at a place. -/
def getT (l : List UInt8) (a : Int) : Int × Int × Int :=
  if a < 0 ∨ (l.length : Int) < a then (0, 0, 700) else
    let d := decL 0 0 (l.drop a.toNat)
    if d.2.2 = 0 then (unfI d.1, a + d.2.1, 0) else (0, 0, d.2.2)

theorem decL_form {k X : Nat} (h : 10 ≤ k) (l : List UInt8) : decL k X l = (0, 0, 700) := by
  cases l <;> simp [decL, h]
theorem decL_cut {k X : Nat} (h : k < 10) : decL k X [] = (0, 0, 701) := by
  simp [decL, show ¬ 10 ≤ k by omega]
theorem decL_more {k X : Nat} (h : k < 10) {b : UInt8} (hb : 128 ≤ b.toNat) (r : List UInt8) :
    decL k X (b :: r) = decL (k + 1) (X + b.toNat % 128 * 2 ^ (7 * k) % 18446744073709551616) r := by
  simp [decL, show ¬ 10 ≤ k by omega, hb]
theorem decL_end {k X : Nat} (h : k < 10) {b : UInt8} (hb : ¬ 128 ≤ b.toNat) (he : endB k b.toNat = true) (r : List UInt8) :
    decL k X (b :: r) = (X + b.toNat % 128 * 2 ^ (7 * k) % 18446744073709551616, k + 1, 0) := by
  simp [decL, show ¬ 10 ≤ k by omega, hb, he]
theorem decL_bad {k X : Nat} (h : k < 10) {b : UInt8} (hb : ¬ 128 ≤ b.toNat) (he : endB k b.toNat = false) (r : List UInt8) :
    decL k X (b :: r) = (0, 0, 700) := by
  simp [decL, show ¬ 10 ≤ k by omega, hb, he]
theorem getT_none {l : List UInt8} {a : Int} (h : a < 0 ∨ (l.length : Int) < a) : getT l a = (0, 0, 700) := if_pos h
theorem getT_err {l : List UInt8} {a e : Nat} (h : a ≤ l.length) (he : e ≠ 0) (hd : decL 0 0 (l.drop a) = (0, 0, e)) : getT l a = (0, 0, (e : Int)) := by
  unfold getT
  rw [if_neg (by omega), Int.toNat_natCast, hd]
  simp [he]
theorem getT_ok {l : List UInt8} {a u k : Nat} (h : a ≤ l.length) (hd : decL 0 0 (l.drop a) = (u, k, 0)) : getT l a = (unfI u, (a : Int) + k, 0) := by
  unfold getT
  rw [if_neg (by omega), Int.toNat_natCast, hd]
  simp
theorem drop_at (s : ByteArray) (j : Nat) (h : j < s.size) : s.data.toList.drop j = s[j] :: s.data.toList.drop (j + 1) := by
  rw [List.drop_eq_getElem_cons (by simpa using h)]; rfl
theorem drop_all (s : ByteArray) (j : Nat) (h : s.size ≤ j) : s.data.toList.drop j = [] := List.drop_eq_nil_of_le (by simpa using h)

end Go.Proofs.Ytoechlmahckchaa

namespace Go.Proofs.Ytoechlmahckchaa

theorem wraps_u64 (n : Int) (h0 : 0 ≤ n) (h1 : n < 2 ^ 64) : IntKind.u64.wrap n = n := by rw [IntKind.wrap_u64]; omega
theorem not_u64 (v : Int) (h0 : 0 ≤ v) (h1 : v < 18446744073709551616) : bits .xor .u64 IntKind.u64.max v = 18446744073709551615 - v := by
  obtain ⟨n, rfl⟩ := Int.eq_ofNat_of_zero_le h0
  have hn : n < 18446744073709551616 := by omega
  have e : IntKind.u64.max = ((18446744073709551615 : Nat) : Int) := by decide
  rw [e, bits_xor_u64_nat _ _ (by decide) hn]
  have hb : (BitVec.allOnes 64 ^^^ BitVec.ofNat 64 n).toNat = 18446744073709551615 ^^^ n := by
    rw [BitVec.toNat_xor, BitVec.toNat_allOnes, BitVec.toNat_ofNat, Nat.mod_eq_of_lt hn]
  rw [BitVec.allOnes_xor, BitVec.toNat_not, BitVec.toNat_ofNat, Nat.mod_eq_of_lt hn] at hb
  rw [← hb]
  omega
theorem and127_u64 (u : Int) (h0 : 0 ≤ u) (h1 : u < 18446744073709551616) : bits .and .u64 u 127 = u % 128 := bits_mask .u64 64 (by decide) wraps_u64 7 (by decide) u h0 (by simpa using h1)
theorem and1_u64 (u : Int) (h0 : 0 ≤ u) (h1 : u < 18446744073709551616) : bits .and .u64 u 1 = u % 2 := bits_mask .u64 64 (by decide) wraps_u64 1 (by decide) u h0 (by simpa using h1)
theorem and127_u8 (c : Int) (h0 : 0 ≤ c) (h1 : c ≤ 255) : bits .and .u8 c 127 = c % 128 := bits_mask .u8 8 (by decide) wraps_u8 7 (by decide) c h0 (by omega)
/-- What lies above is joined as a sum. -/
theorem or_above (X m p : Nat) (hX : X < 2 ^ p) (h : m * 2 ^ p < 18446744073709551616) (hX' : X < 18446744073709551616) :
    bits .or .u64 (X : Int) ((m * 2 ^ p : Nat) : Int) = ((X + m * 2 ^ p : Nat) : Int) := by
  rw [bits_or_u64_nat X (m * 2 ^ p) hX' h]
  congr 1
  rw [Nat.or_comm, Nat.mul_comm, Nat.add_comm]
  exact (Nat.two_pow_add_eq_or_of_lt hX m).symm
theorem or128_u64 (u : Int) (h0 : 0 ≤ u) (h1 : u < 128) : bits .or .u64 u 128 = u + 128 := by
  obtain ⟨n, rfl⟩ := Int.eq_ofNat_of_zero_le h0
  have h := or_above n 1 7 (by omega) (by decide) (by omega)
  simpa using h
theorem or128_i64 (u : Int) (h0 : 0 ≤ u) (h1 : u < 128) : bits .or .i64 128 u = u + 128 := by
  have h := bits_join .i64 63 (by decide) (fun n h0 h1 => by rw [IntKind.wrap_i64]; omega) 7 128 u (by omega) (by decide) (by decide) h0 (by simpa using h1) (by omega)
  omega

theorem shl_mod (c k : Nat) (hk : k ≤ 9) : c * 2 ^ (7 * k) % 18446744073709551616 = c % 2 ^ (64 - 7 * k) * 2 ^ (7 * k) := by
  have e : (18446744073709551616 : Nat) = 2 ^ (64 - 7 * k) * 2 ^ (7 * k) := by
    rw [← Nat.pow_add, show 64 - 7 * k + 7 * k = 64 by omega]
  rw [e, Nat.mul_mod_mul_right]
/-- A further byte's seven bits. -/
theorem or_step (X c k : Nat) (hk : k ≤ 9) (hX : X < 2 ^ (7 * k)) :
    bits .or .u64 (X : Int) (IntKind.u64.wrap ((c : Int) % 128 * 2 ^ (7 * k))) = ((X + c % 128 * 2 ^ (7 * k) % 18446744073709551616 : Nat) : Int) := by
  have e : IntKind.u64.wrap ((c : Int) % 128 * 2 ^ (7 * k)) = ((c % 128 * 2 ^ (7 * k) % 18446744073709551616 : Nat) : Int) := by
    rw [IntKind.wrap_u64]
    simp
  have hlt : c % 128 * 2 ^ (7 * k) % 18446744073709551616 < 18446744073709551616 := Nat.mod_lt _ (by decide)
  rw [e]
  rw [shl_mod _ _ hk] at hlt ⊢
  refine or_above X _ (7 * k) hX hlt (Nat.lt_of_lt_of_le hX ?_)
  exact Nat.le_trans (Nat.pow_le_pow_right (by decide) (show 7 * k ≤ 63 by omega)) (by decide)
theorem step_in (X c k : Nat) (hk : k ≤ 9) (hX : X < 2 ^ (7 * k)) : X + c % 128 * 2 ^ (7 * k) % 18446744073709551616 < 18446744073709551616 := by
  rw [shl_mod _ _ hk]
  have h1 : c % 128 % 2 ^ (64 - 7 * k) + 1 ≤ 2 ^ (64 - 7 * k) := Nat.mod_lt _ (Nat.two_pow_pos _)
  have h2 := Nat.mul_le_mul_right (2 ^ (7 * k)) h1
  rw [← Nat.pow_add, show 64 - 7 * k + 7 * k = 64 by omega, Nat.add_mul] at h2
  have e : (2 : Nat) ^ 64 = 18446744073709551616 := by decide
  omega
theorem step_lt (X c k : Nat) (hX : X < 2 ^ (7 * k)) : X + c % 128 * 2 ^ (7 * k) % 18446744073709551616 < 2 ^ (7 * (k + 1)) := by
  have h1 : c % 128 * 2 ^ (7 * k) % 18446744073709551616 ≤ c % 128 * 2 ^ (7 * k) := Nat.mod_le _ _
  have h2 : c % 128 * 2 ^ (7 * k) ≤ 127 * 2 ^ (7 * k) := Nat.mul_le_mul_right _ (by omega)
  have h3 : 2 ^ (7 * (k + 1)) = 128 * 2 ^ (7 * k) := by rw [show 7 * (k + 1) = 7 + 7 * k by omega, Nat.pow_add]
  omega

end Go.Proofs.Ytoechlmahckchaa

namespace Go.Proofs.Ytoechlmahckchaa

/-- Seven bits a byte, the lowest first. -/
def encL (u : Nat) : List UInt8 := if h : u < 128 then [UInt8.ofNat u] else UInt8.ofNat (u % 128 + 128) :: encL (u / 128)
termination_by u
decreasing_by omega
theorem encL_end {u : Nat} (h : u < 128) : encL u = [UInt8.ofNat u] := by rw [encL, dif_pos h]
theorem encL_more {u : Nat} (h : ¬ u < 128) : encL u = UInt8.ofNat (u % 128 + 128) :: encL (u / 128) := by rw [encL, dif_neg h]
theorem encL_ne (u : Nat) : encL u ≠ [] := by
  by_cases h : u < 128
  · rw [encL_end h]; simp
  · rw [encL_more h]; simp
theorem encL_bits : ∀ (n u : Nat), u < 2 ^ (7 * (n + 1)) → (encL u).length ≤ n + 1
  | 0, u, h => by rw [encL_end (by simpa using h)]; simp
  | n + 1, u, h => by
    by_cases h1 : u < 128
    · rw [encL_end h1]; simp
    · rw [encL_more h1]
      have h2 : u / 128 < 2 ^ (7 * (n + 1)) := by
        rw [Nat.div_lt_iff_lt_mul (by decide)]
        rwa [show 7 * (n + 1 + 1) = 7 * (n + 1) + 7 by omega, Nat.pow_add] at h
      have := encL_bits n (u / 128) h2
      simp only [List.length_cons]
      omega
theorem encL_len {u : Nat} (h : u < 18446744073709551616) : (encL u).length ≤ 10 :=
  encL_bits 9 u (Nat.lt_trans h (by decide))
/-- A number as bytes. -/
def encS (x : Int) : ByteArray := ⟨(encL (foldI x).toNat).toArray⟩

end Go.Proofs.Ytoechlmahckchaa

namespace Go.Proofs.Ytoechlmahckchaa

theorem ofNat_lt {u : Nat} (h : u < 256) : (UInt8.ofNat u).toNat = u := by simp; omega

/-- What was written is read again, whatever comes behind it. -/
theorem decL_enc (rest : List UInt8) : ∀ (n u k X : Nat), u ≤ n → X + u * 2 ^ (7 * k) < 18446744073709551616 → (0 < k → 0 < u) →
    decL k X (encL u ++ rest) = (X + u * 2 ^ (7 * k), k + (encL u).length, 0) := by
  intro n
  induction n with
  | zero =>
    intro u k X hn hu hk
    obtain rfl : u = 0 := by omega
    obtain rfl : k = 0 := by omega
    rw [encL_end (by omega)]
    have e : endB 0 ((UInt8.ofNat 0).toNat : Int) = true := by decide
    show decL 0 X (UInt8.ofNat 0 :: rest) = _
    rw [decL_end (by decide) (by decide) e]
    simp
  | succ n ih =>
    intro u k X hn hu hk
    have hk10 : k < 10 := by
      by_cases h : k < 10
      · exact h
      · exfalso
        have h1 := hk (by omega)
        have h2 : (2 : Nat) ^ 70 ≤ 2 ^ (7 * k) := Nat.pow_le_pow_right (by decide) (by omega)
        have h3 : 1 * 2 ^ (7 * k) ≤ u * 2 ^ (7 * k) := Nat.mul_le_mul_right _ h1
        have h4 : (18446744073709551616 : Nat) < 2 ^ 70 := by decide
        omega
    by_cases h : u < 128
    · rw [encL_end h]
      have hb := ofNat_lt (show u < 256 by omega)
      have h9 : k < 9 ∨ (u : Int) ≤ 1 := by
        by_cases h9 : k < 9
        · exact .inl h9
        · obtain rfl : k = 9 := by omega
          simp only [show 7 * 9 = 63 by decide] at hu
          omega
      have he : endB k ((UInt8.ofNat u).toNat : Int) = true := by
        rw [hb]
        exact endB_true (by rintro ⟨h1, h2⟩; have := hk h1; omega) h9
      show decL k X (UInt8.ofNat u :: rest) = _
      rw [decL_end hk10 (by rw [hb]; omega) he, hb, Nat.mod_eq_of_lt h, Nat.mod_eq_of_lt (by omega)]
      rfl
    · have hb := ofNat_lt (show u % 128 + 128 < 256 by omega)
      have hp : 2 ^ (7 * (k + 1)) = 128 * 2 ^ (7 * k) := by rw [show 7 * (k + 1) = 7 + 7 * k by omega, Nat.pow_add]
      have hsum : u % 128 * 2 ^ (7 * k) + u / 128 * 2 ^ (7 * (k + 1)) = u * 2 ^ (7 * k) := by
        rw [hp, ← Nat.mul_assoc, ← Nat.add_mul]
        congr 1
        omega
      rw [encL_more h]
      show decL k X (UInt8.ofNat (u % 128 + 128) :: (encL (u / 128) ++ rest)) = _
      rw [decL_more hk10 (by rw [hb]; omega), hb, show (u % 128 + 128) % 128 = u % 128 by omega, Nat.mod_eq_of_lt (by omega),
        ih (u / 128) (k + 1) _ (by omega) (by omega) (fun _ => by omega)]
      simp only [List.length_cons]
      rw [Prod.mk.injEq, Prod.mk.injEq]
      refine ⟨by omega, by omega, rfl⟩

/-- Bytes that all go on: cut, or too long. -/
theorem decL_on : ∀ (l : List UInt8) (k X : Nat), (∀ b ∈ l, 128 ≤ b.toNat) → k + l.length < 10 → decL k X l = (0, 0, 701)
  | [], k, X, _, h => decL_cut (by simpa using h)
  | b :: l, k, X, hl, h => by
    simp only [List.length_cons] at h
    rw [decL_more (by omega) (hl b (by simp))]
    exact decL_on l (k + 1) _ (fun c hc => hl c (by simp [hc])) (by omega)
theorem decL_long : ∀ (l : List UInt8) (t : List UInt8) (k X : Nat), (∀ b ∈ l, 128 ≤ b.toNat) → 10 ≤ k + l.length → decL k X (l ++ t) = (0, 0, 700)
  | [], t, k, X, _, h => decL_form (by simpa using h) t
  | b :: l, t, k, X, hl, h => by
    simp only [List.length_cons] at h
    by_cases hk : 10 ≤ k
    · exact decL_form hk _
    · show decL k X (b :: (l ++ t)) = _
      rw [decL_more (by omega) (hl b (by simp))]
      exact decL_long l t (k + 1) _ (fun c hc => hl c (by simp [hc])) (by omega)
theorem decL_then : ∀ (l : List UInt8) (t : List UInt8) (c : UInt8) (k X : Nat), (∀ b ∈ l, 128 ≤ b.toNat) → k + l.length < 10 → ¬ 128 ≤ c.toNat →
    (endB (k + l.length) c.toNat = false → decL k X (l ++ c :: t) = (0, 0, 700)) ∧ (endB (k + l.length) c.toNat = true → ∃ u, decL k X (l ++ c :: t) = (u, k + l.length + 1, 0))
  | [], t, c, k, X, _, h, hc => by
    have h' : k < 10 := by simpa using h
    exact ⟨fun he => decL_bad h' hc he t, fun he => ⟨_, decL_end h' hc he t⟩⟩
  | b :: l, t, c, k, X, hl, h, hc => by
    simp only [List.length_cons] at h
    have ih := decL_then l t c (k + 1) (X + b.toNat % 128 * 2 ^ (7 * k) % 18446744073709551616) (fun c hc => hl c (by simp [hc])) (by omega) hc
    have e : (b :: l).length = l.length + 1 := rfl
    rw [e, show k + (l.length + 1) = k + 1 + l.length by omega]
    show (_ → decL k X (b :: (l ++ c :: t)) = _) ∧ (_ → ∃ u, decL k X (b :: (l ++ c :: t)) = _)
    rw [decL_more (by omega) (hl b (by simp))]
    exact ih
/-- All bytes but the last one go on. -/
theorem encL_init : ∀ (n u : Nat), u ≤ n → ∃ l c, encL u = l ++ [c] ∧ ∀ b ∈ l, 128 ≤ b.toNat
  | n, u, hn => by
    by_cases h : u < 128
    · exact ⟨[], _, encL_end h, by simp⟩
    · cases n with
      | zero => omega
      | succ n =>
        obtain ⟨l, c, e, hl⟩ := encL_init n (u / 128) (by omega)
        refine ⟨UInt8.ofNat (u % 128 + 128) :: l, c, by rw [encL_more h, e]; rfl, fun b hb => ?_⟩
        rcases List.mem_cons.1 hb with rfl | hb
        · rw [ofNat_lt (by omega)]; omega
        · exact hl b hb
/-- So many bytes. -/
theorem encL_count : ∀ (n u : Nat), 2 ^ (7 * (n + 1)) ≤ u → u < 2 ^ (7 * (n + 2)) → (encL u).length = n + 2
  | 0, u, h1, h2 => by
    simp only [show 7 * (0 + 1) = 7 by decide] at h1
    simp only [show 7 * (0 + 2) = 14 by decide] at h2
    rw [encL_more (by omega), encL_end (by omega)]
    rfl
  | n + 1, u, h1, h2 => by
    have p1 : 2 ^ (7 * (n + 1 + 1)) = 2 ^ (7 * (n + 1)) * 128 := by rw [show 7 * (n + 1 + 1) = 7 * (n + 1) + 7 by omega, Nat.pow_add]
    have p2 : 2 ^ (7 * (n + 1 + 2)) = 2 ^ (7 * (n + 2)) * 128 := by rw [show 7 * (n + 1 + 2) = 7 * (n + 2) + 7 by omega, Nat.pow_add]
    have p3 : 0 < 2 ^ (7 * (n + 1)) := Nat.two_pow_pos _
    rw [encL_more (by omega), List.length_cons, encL_count n (u / 128) (by omega) (by omega)]

/-- The bytes of x. -/
def encX (x : Int) : List UInt8 := encL (foldI x).toNat
theorem encS_list (x : Int) : (encS x).data.toList = encX x := by simp [encS, encX]
theorem encS_size (x : Int) : (encS x).size = (encX x).length := by
  show (encL (foldI x).toNat).toArray.size = _
  simp [encX]
section
variable {x y : Int} (l : -9223372036854775808 ≤ x) (u : x ≤ 9223372036854775807)
include l u
theorem encX_len : 0 < (encX x).length ∧ (encX x).length ≤ 10 := by
  have := foldI_bd l u
  refine ⟨List.length_pos_iff.2 (encL_ne _), encL_len (by omega)⟩
theorem dec_encX (rest : List UInt8) : decL 0 0 (encX x ++ rest) = ((foldI x).toNat, (encX x).length, 0) := by
  have := foldI_bd l u
  have h := decL_enc rest _ (foldI x).toNat 0 0 (Nat.le_refl _) (by simp; omega) (by omega)
  unfold encX
  rw [h]
  simp
theorem unf_encX : unfI ((foldI x).toNat : Int) = x := by
  have := foldI_bd l u
  rw [Int.toNat_of_nonneg (by omega), unf_fold]
theorem getT_encX (pre rest : List UInt8) : getT (pre ++ (encX x ++ rest)) pre.length = (x, (pre.length : Int) + (encX x).length, 0) := by
  have h : decL 0 0 ((pre ++ (encX x ++ rest)).drop pre.length) = ((foldI x).toNat, (encX x).length, 0) := by
    rw [List.drop_left]; exact dec_encX l u rest
  rw [getT_ok (by simp) h, unf_encX l u]
theorem getT_cut : getT ((encX x).take ((encX x).length - 1)) 0 = (0, 0, 701) := by
  obtain ⟨i, c, e, hi⟩ := encL_init _ (foldI x).toNat (Nat.le_refl _)
  have hl := (encX_len l u).2
  have he : encX x = i ++ [c] := e
  rw [he] at hl ⊢
  have e1 : (i ++ [c]).take ((i ++ [c]).length - 1) = i := by simp
  rw [e1]
  simp only [List.length_append, List.length_cons, List.length_nil] at hl
  exact getT_err (e := 701) (a := 0) (by omega) (by decide) (by rw [List.drop_zero]; exact decL_on i 0 0 hi (by omega))
theorem encX_inj (l2 : -9223372036854775808 ≤ y) (u2 : y ≤ 9223372036854775807) (h : encX x = encX y) : x = y := by
  have h1 := dec_encX l u []
  have h2 := dec_encX l2 u2 []
  rw [h, h2] at h1
  have h3 := unf_encX l u
  have h4 := unf_encX l2 u2
  injection h1 with h5
  rw [← h3, ← h4, h5]
end
theorem encS_inj {x y : Int} (l : -9223372036854775808 ≤ x) (u : x ≤ 9223372036854775807) (l2 : -9223372036854775808 ≤ y) (u2 : y ≤ 9223372036854775807) (h : encS x = encS y) : x = y :=
  encX_inj l u l2 u2 (by rw [← encS_list, ← encS_list, h])

end Go.Proofs.Ytoechlmahckchaa
