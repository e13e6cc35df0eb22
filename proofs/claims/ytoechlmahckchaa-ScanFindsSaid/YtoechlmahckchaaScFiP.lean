/-
  Operations out of rubbish between them: plain facts. No program here.
-/
import Derived.Test.YtoechlmahckchaaScFaP
namespace Go.Proofs.Ytoechlmahckchaa
open Go.RowKit

/-- Rubbish: of the first k bytes those that begin nothing. -/
def junkU (J : List UInt8) (k : Nat) : List UInt8 := (J.take k).filter fun x => !(x == 181)
theorem junkU_zero (J : List UInt8) : junkU J 0 = [] := rfl
theorem junkU_len (J : List UInt8) (k : Nat) : (junkU J k).length ≤ k := by
  unfold junkU
  have h1 := List.length_filter_le (fun x => !(x == (181 : UInt8))) (J.take k)
  have h2 := List.length_take_le k J
  omega
theorem junkU_skip {J : List UInt8} {k : Nat} (hk : k < J.length) (h : J[k] = 181) : junkU J (k + 1) = junkU J k := by
  unfold junkU
  rw [List.take_succ_eq_append_getElem hk, List.filter_append, h]
  simp
theorem junkU_more {J : List UInt8} {k : Nat} (hk : k < J.length) (h : J[k] ≠ 181) : junkU J (k + 1) = junkU J k ++ [J[k]] := by
  unfold junkU
  rw [List.take_succ_eq_append_getElem hk, List.filter_append]
  simp [h]
theorem junkU_none (J : List UInt8) (k : Nat) : ∀ x ∈ junkU J k, x ≠ 181 := by
  intro x hx
  have := (List.mem_filter.1 hx).2
  simpa using this
theorem tellB_pos {b : Nat} (h : 0 < b) : tellB b = [badP b] := if_neg (by omega)
/-- The text so far, what is to come of it: W told, b bytes none since; at most so many. -/
structure FindQ (s : List UInt8) (want W : List Po) (b B L S : Nat) : Prop where
  eq : want = W ++ tellB b
  last : ∀ y, W.getLast? = some y → y.k ≠ 3
  run : ∀ m, runL true (s ++ m) 0 = (W ++ (runL true m b).1, (runL true m b).2)
  bd : b ≤ B
  len : want.length ≤ L
  size : s.length ≤ S
theorem FindQ.zero : FindQ [] [] [] 0 0 0 0 := ⟨rfl, fun y h => (by cases h), fun m => rfl, Nat.le_refl _, Nat.le_refl _, Nat.le_refl _⟩
theorem FindQ.junk {s : List UInt8} {want W : List Po} {b B L S : Nat} (h : FindQ s want W b B L S) {j : List UInt8} (hj : ∀ x ∈ j, x ≠ 181) (hl : j.length ≤ 40) (h0 : 0 < j.length) (hB : B + 40 ≤ 1073741823) : FindQ (s ++ j) (W ++ tellB (b + j.length)) W (b + j.length) (B + 40) (L + 1) (S + 40) := by
  have hb := h.bd
  have hlen := h.len
  have hsz := h.size
  refine ⟨rfl, h.last, fun m => ?_, by omega, ?_, by rw [List.length_append]; omega⟩
  · rw [List.append_assoc, h.run, runL_junk true j m b hj (by omega)]
  · rw [h.eq, List.length_append] at hlen
    rw [tellB_pos (by omega), List.length_append, List.length_singleton]
    omega
theorem FindQ.op {s : List UInt8} {want W : List Po} {b B L S : Nat} (h : FindQ s want W b B L S) {o : Po} (hM : MayP o) : FindQ (s ++ frameO o) (want ++ [o]) (want ++ [o]) 0 B (L + 1) (S + 54) := by
  have h5 := frameO_len hM
  have hlen := h.len
  have hsz := h.size
  refine ⟨by simp [tellB], fun y hy => ?_, fun m => ?_, by omega, by rw [List.length_append, List.length_singleton]; omega, by rw [List.length_append]; omega⟩
  · rw [List.getLast?_append] at hy
    obtain rfl : o = y := by simpa using hy
    have := hM.wide
    omega
  · rw [List.append_assoc, h.run, runL_op (look_frame hM m) (by omega), List.drop_left' rfl, h.eq]
    simp
theorem FindQ.all {s : List UInt8} {want W : List Po} {b B L S : Nat} (h : FindQ s want W b B L S) : allL s 0 = want := by
  have := h.run []
  rw [List.append_nil, runL_nil] at this
  unfold allL
  rw [this, h.eq]
  simp
theorem FindQ.more {s : List UInt8} {want W : List Po} {b B L S B' L' S' : Nat} (h : FindQ s want W b B L S) (hB : B ≤ B') (hL : L ≤ L') (hS : S ≤ S') : FindQ s want W b B' L' S' :=
  ⟨h.eq, h.last, h.run, Nat.le_trans h.bd hB, Nat.le_trans h.len hL, Nat.le_trans h.size hS⟩

end Go.Proofs.Ytoechlmahckchaa
