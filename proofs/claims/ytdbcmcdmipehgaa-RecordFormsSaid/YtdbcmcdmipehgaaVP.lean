/-
  Numbers folded, as bytes, and back: plain facts. No program here.
-/
import Derived.WalkKit
import Derived.Lib.Hide
namespace Go.Proofs.Ytdbcmcdmipehgaa

/-- x folded: from 0 on the even numbers, below it the odd ones. -/
def foldI (x : Int) : Int := if x < 0 then -2 * x - 1 else 2 * x
/-- The number that was folded to u. -/
def unfI (u : Int) : Int := if u % 2 = 1 then -(u / 2) - 1 else u / 2
/-- May c, below 128, end a number behind i bytes? -/
def endB (i : Nat) (c : Int) : Bool := !(decide (0 < i) && decide (c = 0)) && (decide (i < 9) || decide (c ≤ 1))

theorem foldI_pos {x : Int} (h : ¬ x < 0) : foldI x = 2 * x := if_neg h
theorem foldI_neg {x : Int} (h : x < 0) : foldI x = -2 * x - 1 := if_pos h
theorem foldI_bd {x : Int} (l : -9223372036854775808 ≤ x) (u : x ≤ 9223372036854775807) : 0 ≤ foldI x ∧ foldI x < 18446744073709551616 := by
  by_cases h : x < 0
  · rw [foldI_neg h]; omega
  · rw [foldI_pos h]; omega
theorem unf_fold (x : Int) : unfI (foldI x) = x := by
  unfold unfI
  by_cases h : x < 0
  · rw [foldI_neg h]
    rw [if_pos (by omega)]; omega
  · rw [foldI_pos h]
    rw [if_neg (by omega)]; omega
theorem foldI_inj {x y : Int} (h : foldI x = foldI y) : x = y := by
  rw [← unf_fold x, ← unf_fold y, h]

theorem endB_true {i : Nat} {c : Int} (h1 : ¬ (0 < i ∧ c = 0)) (h2 : i < 9 ∨ c ≤ 1) : endB i c = true := by
  unfold endB
  by_cases a : 0 < i <;> by_cases b : c = 0 <;> by_cases d : i < 9 <;> simp_all
theorem endB_zero {i : Nat} {c : Int} (h1 : 0 < i) (h2 : c = 0) : endB i c = false := by
  unfold endB; simp [h1, h2]
theorem endB_last {i : Nat} {c : Int} (h1 : ¬ i < 9) (h2 : ¬ c ≤ 1) : endB i c = false := by
  unfold endB; simp [h1, h2]

/-- A number read out of bytes, k bytes and X ahead: what is folded, its bytes, the error. -/
def decL (k : Nat) (X : Nat) : List UInt8 → Nat × Nat × Nat
  | [] => if 10 ≤ k then (0, 0, 700) else (0, 0, 701)
  | b :: r => if 10 ≤ k then (0, 0, 700) else
      if 128 ≤ b.toNat then decL (k + 1) (X + b.toNat % 128 * 2 ^ (7 * k) % 18446744073709551616) r
      else if endB k b.toNat then (X + b.toNat % 128 * 2 ^ (7 * k) % 18446744073709551616, k + 1, 0) else (0, 0, 700)
/-- What Get answers of bytes at a place. -/
def getT (l : List UInt8) (a : Int) : Int × Int × Int :=
  if a < 0 ∨ (l.length : Int) < a then (0, 0, 700) else
    let d := decL 0 0 (l.drop a.toNat)
    if d.2.2 = 0 then (unfI d.1, a + d.2.1, 0) else (0, 0, d.2.2)

theorem decL_form {k X : Nat} (h : 10 ≤ k) (l : List UInt8) : decL k X l = (0, 0, 700) := by
  cases l <;> simp [decL, h]
theorem decL_cut {k X : Nat} (h : k < 10) : decL k X [] = (0, 0, 701) := by
  simp [decL, show ¬ 10 ≤ k by omega]
theorem decL_more {k X : Nat} (h : k < 10) {b : UInt8} (hb : 128 ≤ b.toNat) (r : List UInt8) :
    decL k X (b :: r) = decL (k + 1) (X + b.toNat % 128 * 2 ^ (7 * k) % 18446744073709551616) r := by
  simp [decL, show ¬ 10 ≤ k by omega, hb]
theorem decL_end {k X : Nat} (h : k < 10) {b : UInt8} (hb : ¬ 128 ≤ b.toNat) (he : endB k b.toNat = true) (r : List UInt8) :
    decL k X (b :: r) = (X + b.toNat % 128 * 2 ^ (7 * k) % 18446744073709551616, k + 1, 0) := by
  simp [decL, show ¬ 10 ≤ k by omega, hb, he]
theorem decL_bad {k X : Nat} (h : k < 10) {b : UInt8} (hb : ¬ 128 ≤ b.toNat) (he : endB k b.toNat = false) (r : List UInt8) :
    decL k X (b :: r) = (0, 0, 700) := by
  simp [decL, show ¬ 10 ≤ k by omega, hb, he]
theorem getT_none {l : List UInt8} {a : Int} (h : a < 0 ∨ (l.length : Int) < a) : getT l a = (0, 0, 700) := if_pos h
theorem getT_err {l : List UInt8} {a e : Nat} (h : a ≤ l.length) (he : e ≠ 0) (hd : decL 0 0 (l.drop a) = (0, 0, e)) : getT l a = (0, 0, (e : Int)) := by
  unfold getT
  rw [if_neg (by omega), Int.toNat_natCast, hd]
  simp [he]
theorem getT_ok {l : List UInt8} {a u k : Nat} (h : a ≤ l.length) (hd : decL 0 0 (l.drop a) = (u, k, 0)) : getT l a = (unfI u, (a : Int) + k, 0) := by
  unfold getT
  rw [if_neg (by omega), Int.toNat_natCast, hd]
  simp
theorem drop_at (s : ByteArray) (j : Nat) (h : j < s.size) : s.data.toList.drop j = s[j] :: s.data.toList.drop (j + 1) := by
  rw [List.drop_eq_getElem_cons (by simpa using h)]; rfl
theorem drop_all (s : ByteArray) (j : Nat) (h : s.size ≤ j) : s.data.toList.drop j = [] := List.drop_eq_nil_of_le (by simpa using h)

end Go.Proofs.Ytdbcmcdmipehgaa
