/-
  A frame is told as its body; a beginning of it is cut; with one byte another it is none: plain facts. No program here.
-/
import Derived.Test.YtbdlncfdjmgmdaaFrP
namespace Go.Proofs.Ytbdlncfdjmgmdaa
open Go.RowKit

theorem len_byte {l : List UInt8} (h : l.length ≤ 60) : (UInt8.ofNat l.length).toNat = l.length := by
  rw [UInt8.toNat_ofNat']; omega
theorem len_may {l : List UInt8} (h1 : 1 ≤ l.length) (h : l.length ≤ 60) : ¬ ((UInt8.ofNat l.length).toNat < 1 ∨ 60 < (UInt8.ofNat l.length).toNat) := by
  rw [len_byte h]; omega
theorem hi_lo {X : Nat} (h : X < 65536) : X = (UInt8.ofNat (X / 256)).toNat * 256 + (UInt8.ofNat (X % 256)).toNat := by
  rw [UInt8.toNat_ofNat', UInt8.toNat_ofNat']; omega
theorem putL_eq (l : List UInt8) : putL l = 181 :: UInt8.ofNat l.length :: (l ++ [UInt8.ofNat (sumL (lenL l) / 256), UInt8.ofNat (sumL (lenL l) % 256)]) := rfl

/-- There and back, whatever stands behind. -/
theorem getL_put {l : List UInt8} (h1 : 1 ≤ l.length) (h : l.length ≤ 60) (q : List UInt8) : getL (putL l ++ q) = (l, l.length + 4, 0) := by
  rw [putL_eq, List.cons_append, List.cons_append]
  have hd : (l ++ [UInt8.ofNat (sumL (lenL l) / 256), UInt8.ofNat (sumL (lenL l) % 256)] ++ q).drop (UInt8.ofNat l.length).toNat = UInt8.ofNat (sumL (lenL l) / 256) :: UInt8.ofNat (sumL (lenL l) % 256) :: q := by
    rw [len_byte h, List.append_assoc, List.drop_left]; rfl
  have ht : (l ++ [UInt8.ofNat (sumL (lenL l) / 256), UInt8.ofNat (sumL (lenL l) % 256)] ++ q).take (UInt8.ofNat l.length).toNat = l := by
    rw [len_byte h, List.append_assoc, List.take_left]
  rw [getL_ok (len_may h1 h) hd (by rw [ht]; exact hi_lo (sumL_lt (lenL l))), ht, len_byte h]

theorem getL_begin {l : List UInt8} (h1 : 1 ≤ l.length) (h : l.length ≤ 60) {n : Nat} (hn : n < l.length + 4) : getL ((putL l).take n) = ([], 0, 801) := by
  rw [putL_eq]
  match n with
  | 0 => rfl
  | 1 => exact getL_one
  | n + 2 =>
    rw [List.take_succ_cons, List.take_succ_cons]
    refine getL_cut (len_may h1 h) ?_
    rw [len_byte h, List.length_take]
    simp
    omega

theorem getL_turn {l : List UInt8} (h1 : 1 ≤ l.length) (h : l.length ≤ 60) {j : Nat} (hj : j < (putL l).length) (hj1 : j ≠ 1) {c : UInt8} (hc : (putL l)[j] ≠ c) : getL ((putL l).set j c) = ([], 0, 800) := by
  rw [putL_len] at hj
  have hX := hi_lo (sumL_lt (lenL l))
  match j with
  | 0 => exact getL_mark (fun e => hc e.symm)
  | 1 => exact absurd rfl hj1
  | j + 2 =>
    have hc2 : (l ++ [UInt8.ofNat (sumL (lenL l) / 256), UInt8.ofNat (sumL (lenL l) % 256)])[j]'(by simp; omega) ≠ c := hc
    show getL (181 :: UInt8.ofNat l.length :: ((l ++ [UInt8.ofNat (sumL (lenL l) / 256), UInt8.ofNat (sumL (lenL l) % 256)]).set j c)) = _
    by_cases hjl : j < l.length
    · rw [List.set_append_left _ _ hjl]
      have hd : ((l.set j c) ++ [UInt8.ofNat (sumL (lenL l) / 256), UInt8.ofNat (sumL (lenL l) % 256)]).drop (UInt8.ofNat l.length).toNat = [UInt8.ofNat (sumL (lenL l) / 256), UInt8.ofNat (sumL (lenL l) % 256)] := by
        rw [len_byte h]; exact List.drop_left' (by simp)
      have ht : ((l.set j c) ++ [UInt8.ofNat (sumL (lenL l) / 256), UInt8.ofNat (sumL (lenL l) % 256)]).take (UInt8.ofNat l.length).toNat = l.set j c := by
        rw [len_byte h]; exact List.take_left' (by simp)
      refine getL_sum (len_may h1 h) hd ?_
      rw [ht, ← hX]
      have hcl : l[j] ≠ c := by rwa [List.getElem_append_left hjl] at hc2
      have h2 := sumL_set (l := lenL l) (k := j + 1) (by simp [lenL]; omega) (c := c) (by simpa [lenL] using hcl)
      exact fun e => h2 e.symm
    · have hd : ∀ a b : UInt8, (l ++ [a, b]).drop (UInt8.ofNat l.length).toNat = [a, b] := fun a b => by rw [len_byte h, List.drop_left]
      have ht : ∀ a b : UInt8, (l ++ [a, b]).take (UInt8.ofNat l.length).toNat = l := fun a b => by rw [len_byte h, List.take_left]
      have hm : j = l.length ∨ j = l.length + 1 := by omega
      rcases hm with rfl | rfl
      · have e : (l ++ [UInt8.ofNat (sumL (lenL l) / 256), UInt8.ofNat (sumL (lenL l) % 256)]).set l.length c = l ++ [c, UInt8.ofNat (sumL (lenL l) % 256)] := by
          rw [List.set_append_right _ _ (Nat.le_refl _)]; simp
        rw [e]
        refine getL_sum (len_may h1 h) (hd _ _) ?_
        rw [ht]
        have hcl : UInt8.ofNat (sumL (lenL l) / 256) ≠ c := by simpa using hc2
        intro e2
        have e3 := hX.symm.trans e2
        exact hcl (UInt8.toNat_inj.1 (by omega))
      · have e : (l ++ [UInt8.ofNat (sumL (lenL l) / 256), UInt8.ofNat (sumL (lenL l) % 256)]).set (l.length + 1) c = l ++ [UInt8.ofNat (sumL (lenL l) / 256), c] := by
          rw [List.set_append_right _ _ (by omega)]; simp
        rw [e]
        refine getL_sum (len_may h1 h) (hd _ _) ?_
        rw [ht]
        have hcl : UInt8.ofNat (sumL (lenL l) % 256) ≠ c := by simpa [List.getElem_append_right] using hc2
        intro e2
        have e3 := hX.symm.trans e2
        exact hcl (UInt8.toNat_inj.1 (by omega))

end Go.Proofs.Ytbdlncfdjmgmdaa
