/-
  Operations: which may be; their bytes; numbers read one behind the other: plain words. No program here.
  There and back, cut, and back and there: plain facts of an operation's bytes. No program here.
  What is read is written as it stood: plain facts. No program here.
-/
import Derived.Test.YtoechlmahckchaaG11b
import Derived.Test.YtoechlmahckchaaPure
namespace Go.Proofs.Ytoechlmahckchaa

/-- May this be an operation? -/
def MayO (kd so se ti va : Int) : Prop :=
  (kd = 0 ∧ (0 ≤ so ∧ so ≤ 7) ∧ (0 ≤ se ∧ se ≤ 1048575) ∧ (-1099511627776 ≤ ti ∧ ti ≤ 1099511627776) ∧ (-1099511627776 ≤ va ∧ va ≤ 1099511627776)) ∨
  (kd = 1 ∧ (0 ≤ so ∧ so ≤ 7) ∧ se = 0 ∧ (-4398046511104 < ti ∧ ti ≤ 4398046511104) ∧ va = 0) ∨
  (kd = 2 ∧ so = 0 ∧ se = 0 ∧ ti = 0 ∧ va = 0)
instance mayODec (kd so se ti va : Int) : Decidable (MayO kd so se ti va) := by unfold MayO; infer_instance
def mayB (kd so se ti va : Int) : Bool := decide (MayO kd so se ti va)
section
variable {kd so se ti va : Int}
theorem mayB_yes (h : MayO kd so se ti va) : mayB kd so se ti va = true := decide_eq_true h
theorem mayB_no (h : ¬ MayO kd so se ti va) : mayB kd so se ti va = false := decide_eq_false h
theorem mayB_iff : mayB kd so se ti va = true ↔ MayO kd so se ti va := by unfold mayB; exact decide_eq_true_iff
theorem MayO.wide (h : MayO kd so se ti va) : (0 ≤ kd ∧ kd ≤ 2) ∧ (0 ≤ so ∧ so ≤ 7) ∧ (0 ≤ se ∧ se ≤ 1048575) ∧ (-4398046511104 ≤ ti ∧ ti ≤ 4398046511104) ∧ (-1099511627776 ≤ va ∧ va ≤ 1099511627776) := by
  unfold MayO at h; omega
end

/-- Numbers' bytes, one behind the other. -/
def encs : List Int → List UInt8
  | [] => []
  | x :: r => (encL (foldI x).toNat) ++ encs r
theorem encs_append (a b : List Int) : encs (a ++ b) = encs a ++ encs b := by
  induction a with
  | nil => rfl
  | cons x r ih => simp [encs, ih]
/-- What of an operation is written. -/
def numsO (kd so se ti va : Int) : List Int := if kd = 0 then [0, so, se, ti, va] else if kd = 1 then [1, so, ti] else [kd]
/-- What Put gives. -/
def putO (kd so se ti va : Int) : ByteArray × Int := if mayB kd so se ti va = true then (⟨(encs (numsO kd so se ti va)).toArray⟩, 0) else (⟨#[]⟩, 900)

/-- A number more is read: it, where the next one stands, has it failed? -/
def nextR (l : List UInt8) (a : Int) (b : Bool) : Int × Int × Bool :=
  if b = true then (0, a, true) else if (getT l a).2.2 = 0 then ((getT l a).1, (getT l a).2.1, false) else (0, a, true)
theorem nextR_bad (l : List UInt8) (a : Int) : nextR l a true = (0, a, true) := rfl
theorem nextR_ok {l : List UInt8} {a x e : Int} (h : getT l a = (x, e, 0)) : nextR l a false = (x, e, false) := by unfold nextR; rw [h]; rfl
theorem nextR_err {l : List UInt8} {a x e z : Int} (h : getT l a = (x, e, z)) (hz : z ≠ 0) : nextR l a false = (0, a, true) := by unfold nextR; rw [h]; simp [hz]

/-- What Get answers: an operation's five numbers and the code. -/
def finO (l : List UInt8) (kd so se ti va a : Int) (b : Bool) : (Int × Int × Int × Int × Int) × Int :=
  if b = false ∧ a = l.length ∧ mayB kd so se ti va = true then ((kd, so, se, ti, va), 0) else ((0, 0, 0, 0, 0), 900)
def getO (l : List UInt8) : (Int × Int × Int × Int × Int) × Int :=
  let r0 := nextR l 0 false
  if r0.1 = 0 then
    let r1 := nextR l r0.2.1 r0.2.2
    let r2 := nextR l r1.2.1 r1.2.2
    let r3 := nextR l r2.2.1 r2.2.2
    let r4 := nextR l r3.2.1 r3.2.2
    finO l 0 r1.1 r2.1 r3.1 r4.1 r4.2.1 r4.2.2
  else if r0.1 = 1 then
    let r1 := nextR l r0.2.1 r0.2.2
    let r2 := nextR l r1.2.1 r1.2.2
    finO l 1 r1.1 0 r2.1 0 r2.2.1 r2.2.2
  else finO l r0.1 0 0 0 0 r0.2.1 r0.2.2
theorem getO_0 {l : List UInt8} {a0 a1 a2 a3 a4 so se ti va : Int} {b0 b1 b2 b3 b4 : Bool} (h0 : nextR l 0 false = (0, a0, b0)) (h1 : nextR l a0 b0 = (so, a1, b1)) (h2 : nextR l a1 b1 = (se, a2, b2)) (h3 : nextR l a2 b2 = (ti, a3, b3)) (h4 : nextR l a3 b3 = (va, a4, b4)) :
    getO l = finO l 0 so se ti va a4 b4 := by
  simp only [getO, h0, h1, h2, h3, h4, if_true]
theorem getO_1 {l : List UInt8} {a0 a1 a2 so ti : Int} {b0 b1 b2 : Bool} (h0 : nextR l 0 false = (1, a0, b0)) (h1 : nextR l a0 b0 = (so, a1, b1)) (h2 : nextR l a1 b1 = (ti, a2, b2)) :
    getO l = finO l 1 so 0 ti 0 a2 b2 := by
  simp [getO, h0, h1, h2]
theorem getO_2 {l : List UInt8} {a0 x : Int} {b0 : Bool} (h0 : nextR l 0 false = (x, a0, b0)) (n0 : x ≠ 0) (n1 : x ≠ 1) :
    getO l = finO l x 0 0 0 0 a0 b0 := by
  simp [getO, h0, n0, n1]
theorem finO_yes {l : List UInt8} {kd so se ti va a : Int} (ha : a = l.length) (h : mayB kd so se ti va = true) : finO l kd so se ti va a false = ((kd, so, se, ti, va), 0) := if_pos ⟨rfl, ha, h⟩
theorem finO_bad (l : List UInt8) (kd so se ti va a : Int) : finO l kd so se ti va a true = ((0, 0, 0, 0, 0), 900) := if_neg (fun h => by simpa using h.1)
theorem finO_far {l : List UInt8} {kd so se ti va a : Int} {b : Bool} (h : a ≠ l.length) : finO l kd so se ti va a b = ((0, 0, 0, 0, 0), 900) := if_neg (fun k => h k.2.1)
theorem finO_not {l : List UInt8} {kd so se ti va a : Int} {b : Bool} (h : mayB kd so se ti va = false) : finO l kd so se ti va a b = ((0, 0, 0, 0, 0), 900) := if_neg (fun k => by rw [h] at k; simpa using k.2.2)

end Go.Proofs.Ytoechlmahckchaa

namespace Go.Proofs.Ytoechlmahckchaa

def InI (x : Int) : Prop := -9223372036854775808 ≤ x ∧ x ≤ 9223372036854775807
theorem encs_cons (x : Int) (r : List Int) : encs (x :: r) = encX x ++ encs r := rfl
theorem encs_one (x : Int) : encs [x] = encX x := by simp [encs, encX]
theorem encs_split (xs : List Int) {i : Nat} (h : i < xs.length) : encs xs = encs (xs.take i) ++ (encX xs[i] ++ encs (xs.drop (i + 1))) := by
  have e : xs = xs.take i ++ (xs[i] :: xs.drop (i + 1)) := by rw [← List.drop_eq_getElem_cons h, List.take_append_drop]
  conv => lhs; rw [e]
  rw [encs_append, encs_cons]
/-- Where the i-th number begins. -/
def posE (xs : List Int) (i : Nat) : Nat := (encs (xs.take i)).length
theorem posE_succ (xs : List Int) {i : Nat} (h : i < xs.length) : posE xs (i + 1) = posE xs i + (encX xs[i]).length := by
  unfold posE
  rw [List.take_succ_eq_append_getElem h, encs_append, List.length_append, encs_one]
theorem posE_zero (xs : List Int) : posE xs 0 = 0 := by simp [posE, encs]
theorem posE_all (xs : List Int) {i : Nat} (h : xs.length ≤ i) : posE xs i = (encs xs).length := by unfold posE; rw [List.take_of_length_le h]
theorem nextR_at {xs : List Int} (hx : ∀ x ∈ xs, InI x) {i : Nat} (h : i < xs.length) {n : Nat} (hn : posE xs (i + 1) ≤ n) : nextR ((encs xs).take n) (posE xs i) false = (xs[i], (posE xs (i + 1) : Int), false) := by
  have hi := hx xs[i] (List.getElem_mem h)
  have e := encs_split xs h
  have hp := posE_succ xs h
  rw [e]
  have e1 : (encs (xs.take i) ++ (encX xs[i] ++ encs (xs.drop (i + 1)))).take n = encs (xs.take i) ++ (encX xs[i] ++ (encs (xs.drop (i + 1))).take (n - posE xs (i + 1))) := by
    rw [List.take_append, List.take_of_length_le (show (encs (xs.take i)).length ≤ n by unfold posE at hn hp; omega), List.take_append, List.take_of_length_le (show (encX xs[i]).length ≤ n - (encs (xs.take i)).length by unfold posE at hn hp; omega)]
    congr 3
    unfold posE at hp ⊢
    omega
  rw [e1]
  have h2 := getT_encX hi.1 hi.2 (encs (xs.take i)) ((encs (xs.drop (i + 1))).take (n - posE xs (i + 1)))
  refine nextR_ok ?_
  have e2 : ((posE xs (i + 1) : Nat) : Int) = ((encs (xs.take i)).length : Int) + ((encX xs[i]).length : Int) := by rw [hp]; unfold posE; omega
  rw [e2]
  exact h2
theorem nextR_whole {xs : List Int} (hx : ∀ x ∈ xs, InI x) {i : Nat} (h : i < xs.length) : nextR (encs xs) (posE xs i) false = (xs[i], (posE xs (i + 1) : Int), false) := by
  have hle : posE xs (i + 1) ≤ (encs xs).length := by
    have e := encs_split xs h
    have hp := posE_succ xs h
    have : (encs xs).length = posE xs i + ((encX xs[i]).length + (encs (xs.drop (i + 1))).length) := by
      conv => lhs; rw [e]
      simp [posE]
    omega
  have := nextR_at hx h hle
  rwa [List.take_of_length_le (Nat.le_refl _)] at this
/-- A number that is cut. -/
theorem getT_short {pre : List UInt8} {x : Int} {m : Nat} (hx : InI x) (hm : m < (encX x).length) : getT (pre ++ (encX x).take m) pre.length = (0, 0, 701) := by
  obtain ⟨l, c, e, hl⟩ := encL_init _ (foldI x).toNat (Nat.le_refl _)
  have he : encX x = l ++ [c] := e
  have h10 := (encX_len hx.1 hx.2).2
  rw [he] at hm h10 ⊢
  simp only [List.length_append, List.length_cons, List.length_nil] at hm h10
  rw [List.take_append_of_le_length (by omega)]
  refine getT_err (e := 701) (by simp) (by decide) ?_
  rw [List.drop_left]
  exact decL_on _ 0 0 (fun b hb => hl b (List.mem_of_mem_take hb)) (by rw [List.length_take]; omega)
theorem nextR_cut {xs : List Int} (hx : ∀ x ∈ xs, InI x) {i : Nat} (h : i < xs.length) {n : Nat} (h1 : posE xs i ≤ n) (h2 : n < posE xs (i + 1)) : nextR ((encs xs).take n) (posE xs i) false = (0, (posE xs i : Int), true) := by
  have hi := hx xs[i] (List.getElem_mem h)
  have hp := posE_succ xs h
  have e1 : (encs xs).take n = encs (xs.take i) ++ (encX xs[i]).take (n - posE xs i) := by
    rw [encs_split xs h, List.take_append, List.take_of_length_le (show (encs (xs.take i)).length ≤ n by unfold posE at h1; omega), List.take_append_of_le_length (show n - (encs (xs.take i)).length ≤ (encX xs[i]).length by unfold posE at h1 h2 hp; omega)]
    rfl
  rw [e1]
  exact nextR_err (getT_short hi (by omega)) (by decide)

section
variable {kd so se ti va : Int} (hm : MayO kd so se ti va)
include hm
theorem numsO_in : ∀ x ∈ numsO kd so se ti va, InI x := by
  have h := hm.wide
  unfold numsO InI
  intro x hx
  split at hx
  · simp at hx; omega
  · split at hx
    · simp at hx; omega
    · simp at hx; omega
/-- What was written is read again. -/
theorem getO_put : getO (encs (numsO kd so se ti va)) = ((kd, so, se, ti, va), 0) := by
  have hin := numsO_in hm
  have hb := mayB_yes hm
  have hk : kd = 0 ∨ kd = 1 ∨ kd = 2 := by have := hm.wide; omega
  rcases hk with rfl | rfl | rfl
  · have e : numsO 0 so se ti va = [0, so, se, ti, va] := rfl
    rw [e] at hin ⊢
    have h0 := nextR_whole hin (i := 0) (by simp)
    have h1 := nextR_whole hin (i := 1) (by simp)
    have h2 := nextR_whole hin (i := 2) (by simp)
    have h3 := nextR_whole hin (i := 3) (by simp)
    have h4 := nextR_whole hin (i := 4) (by simp)
    rw [posE_zero] at h0
    rw [getO_0 h0 h1 h2 h3 h4]
    exact finO_yes (by rw [posE_all _ (by simp)]) hb
  · have e : numsO 1 so se ti va = [1, so, ti] := rfl
    have h3 : se = 0 ∧ va = 0 := by unfold MayO at hm; omega
    obtain ⟨rfl, rfl⟩ := h3
    rw [e] at hin ⊢
    have h0 := nextR_whole hin (i := 0) (by simp)
    have h1 := nextR_whole hin (i := 1) (by simp)
    have h2 := nextR_whole hin (i := 2) (by simp)
    rw [posE_zero] at h0
    rw [getO_1 h0 h1 h2]
    exact finO_yes (by rw [posE_all _ (by simp)]) hb
  · have e : numsO 2 so se ti va = [2] := rfl
    have h3 : so = 0 ∧ se = 0 ∧ ti = 0 ∧ va = 0 := by unfold MayO at hm; omega
    obtain ⟨rfl, rfl, rfl, rfl⟩ := h3
    rw [e] at hin ⊢
    have h0 := nextR_whole hin (i := 0) (by simp)
    rw [posE_zero] at h0
    rw [getO_2 h0 (by simp) (by simp)]
    exact finO_yes (by rw [posE_all _ (by simp)]) hb
/-- What is cut is none. -/
theorem getO_cut {n : Nat} (hn : n < (encs (numsO kd so se ti va)).length) : getO ((encs (numsO kd so se ti va)).take n) = ((0, 0, 0, 0, 0), 900) := by
  have hin := numsO_in hm
  have hk : kd = 0 ∨ kd = 1 ∨ kd = 2 := by have := hm.wide; omega
  rcases hk with rfl | rfl | rfl
  · have e : numsO 0 so se ti va = [0, so, se, ti, va] := rfl
    rw [e] at hin hn ⊢
    have z := posE_zero [0, so, se, ti, va]
    rw [← posE_all (i := 5) [0, so, se, ti, va] (by simp)] at hn
    by_cases c0 : n < posE [0, so, se, ti, va] 1
    · have h0 := nextR_cut hin (i := 0) (by simp) (by omega) c0
      rw [z] at h0
      rw [getO_0 h0 (nextR_bad _ _) (nextR_bad _ _) (nextR_bad _ _) (nextR_bad _ _)]
      exact finO_bad _ _ _ _ _ _ _
    · have h0 := nextR_at hin (i := 0) (by simp) (Nat.le_of_not_lt c0)
      rw [z] at h0
      by_cases c1 : n < posE [0, so, se, ti, va] 2
      · rw [getO_0 h0 (nextR_cut hin (i := 1) (by simp) (Nat.le_of_not_lt c0) c1) (nextR_bad _ _) (nextR_bad _ _) (nextR_bad _ _)]
        exact finO_bad _ _ _ _ _ _ _
      · have h1 := nextR_at hin (i := 1) (by simp) (Nat.le_of_not_lt c1)
        by_cases c2 : n < posE [0, so, se, ti, va] 3
        · rw [getO_0 h0 h1 (nextR_cut hin (i := 2) (by simp) (Nat.le_of_not_lt c1) c2) (nextR_bad _ _) (nextR_bad _ _)]
          exact finO_bad _ _ _ _ _ _ _
        · have h2 := nextR_at hin (i := 2) (by simp) (Nat.le_of_not_lt c2)
          by_cases c3 : n < posE [0, so, se, ti, va] 4
          · rw [getO_0 h0 h1 h2 (nextR_cut hin (i := 3) (by simp) (Nat.le_of_not_lt c2) c3) (nextR_bad _ _)]
            exact finO_bad _ _ _ _ _ _ _
          · have h3 := nextR_at hin (i := 3) (by simp) (Nat.le_of_not_lt c3)
            rw [getO_0 h0 h1 h2 h3 (nextR_cut hin (i := 4) (by simp) (Nat.le_of_not_lt c3) hn)]
            exact finO_bad _ _ _ _ _ _ _
  · have e : numsO 1 so se ti va = [1, so, ti] := rfl
    rw [e] at hin hn ⊢
    have z := posE_zero [1, so, ti]
    rw [← posE_all (i := 3) [1, so, ti] (by simp)] at hn
    by_cases c0 : n < posE [1, so, ti] 1
    · have h0 := nextR_cut hin (i := 0) (by simp) (by omega) c0
      rw [z] at h0
      rw [getO_0 h0 (nextR_bad _ _) (nextR_bad _ _) (nextR_bad _ _) (nextR_bad _ _)]
      exact finO_bad _ _ _ _ _ _ _
    · have h0 := nextR_at hin (i := 0) (by simp) (Nat.le_of_not_lt c0)
      rw [z] at h0
      by_cases c1 : n < posE [1, so, ti] 2
      · rw [getO_1 h0 (nextR_cut hin (i := 1) (by simp) (Nat.le_of_not_lt c0) c1) (nextR_bad _ _)]
        exact finO_bad _ _ _ _ _ _ _
      · have h1 := nextR_at hin (i := 1) (by simp) (Nat.le_of_not_lt c1)
        rw [getO_1 h0 h1 (nextR_cut hin (i := 2) (by simp) (Nat.le_of_not_lt c1) hn)]
        exact finO_bad _ _ _ _ _ _ _
  · have e : numsO 2 so se ti va = [2] := rfl
    rw [e] at hin hn ⊢
    have z := posE_zero [2]
    rw [← posE_all (i := 1) [2] (by simp)] at hn
    have h0 := nextR_cut hin (i := 0) (by simp) (by omega) hn
    rw [z] at h0
    rw [getO_0 h0 (nextR_bad _ _) (nextR_bad _ _) (nextR_bad _ _) (nextR_bad _ _)]
    exact finO_bad _ _ _ _ _ _ _
theorem encs_size : 0 < (encs (numsO kd so se ti va)).length ∧ (encs (numsO kd so se ti va)).length ≤ 50 := by
  have hin := numsO_in hm
  have pos : ∀ x r, (∀ y ∈ x :: r, InI y) → 0 < (encs (x :: r)).length := fun x r h => by
    have := (encX_len (h x (by simp)).1 (h x (by simp)).2).1
    rw [encs_cons, List.length_append]; omega
  have top : ∀ xs : List Int, (∀ y ∈ xs, InI y) → (encs xs).length ≤ 10 * xs.length := by
    intro xs
    induction xs with
    | nil => intro _; simp [encs]
    | cons x r ih =>
      intro h
      have h1 := ih (fun y hy => h y (by simp [hy]))
      have h2 := (encX_len (h x (by simp)).1 (h x (by simp)).2).2
      rw [encs_cons, List.length_append, List.length_cons]; omega
  have h2 := top _ hin
  refine ⟨?_, ?_⟩
  · unfold numsO at hin ⊢
    split at hin
    · rename_i h; rw [if_pos h]; exact pos _ _ hin
    · rename_i h
      rw [if_neg h]
      split at hin
      · rename_i h'; rw [if_pos h']; exact pos _ _ hin
      · rename_i h'; rw [if_neg h']; exact pos _ _ hin
  · have h3 : (numsO kd so se ti va).length ≤ 5 := by
      unfold numsO
      split
      · simp
      · split <;> simp
    omega
end

end Go.Proofs.Ytoechlmahckchaa

namespace Go.Proofs.Ytoechlmahckchaa

/-- Bytes that are a number are just its bytes. -/
theorem decL_back : ∀ (l : List UInt8) (k X U K : Nat), k ≤ 9 → X < 2 ^ (7 * k) → decL k X l = (U, K, 0) →
    ∃ v t, l = encL v ++ t ∧ U = X + v * 2 ^ (7 * k) ∧ U < 18446744073709551616 ∧ K = k + (encL v).length ∧ (0 < k → 0 < v)
  | [], k, X, U, K, hk, _, h => by
    rw [decL_cut (by omega)] at h
    simp at h
  | b :: r, k, X, U, K, hk, hX, h => by
    have hk10 : k < 10 := by omega
    have hb := b.toNat_lt
    have hp : 2 ^ (7 * (k + 1)) = 128 * 2 ^ (7 * k) := by rw [show 7 * (k + 1) = 7 + 7 * k by omega, Nat.pow_add]
    have h63 : k ≤ 8 → 2 ^ (7 * (k + 1)) ≤ 9223372036854775808 := fun h8 => by
      have : 2 ^ (7 * (k + 1)) ≤ 2 ^ 63 := Nat.pow_le_pow_right (by decide) (by omega)
      have e : (2 : Nat) ^ 63 = 9223372036854775808 := by decide
      omega
    by_cases h128 : 128 ≤ b.toNat
    · rw [decL_more hk10 h128] at h
      by_cases h8 : k ≤ 8
      · have hle := h63 h8
        have hm : b.toNat % 128 * 2 ^ (7 * k) ≤ 127 * 2 ^ (7 * k) := Nat.mul_le_mul_right _ (by omega)
        rw [Nat.mod_eq_of_lt (a := b.toNat % 128 * 2 ^ (7 * k)) (by omega)] at h
        obtain ⟨v, t, e, hU, hU64, hK, hv⟩ := decL_back r (k + 1) _ U K (by omega) (by omega) h
        have hv := hv (by omega)
        have hn : ¬ b.toNat % 128 + 128 * v < 128 := by omega
        have e1 : (b.toNat % 128 + 128 * v) % 128 + 128 = b.toNat := by omega
        have e2 : (b.toNat % 128 + 128 * v) / 128 = v := by omega
        have e3 : encL (b.toNat % 128 + 128 * v) = b :: encL v := by
          rw [encL_more hn, e1, e2]
          simp
        refine ⟨b.toNat % 128 + 128 * v, t, by rw [e3, e]; rfl, ?_, hU64, by rw [e3, hK, List.length_cons]; omega, fun _ => by omega⟩
        rw [hU, hp, Nat.add_mul, Nat.mul_comm 128 v, Nat.mul_assoc, Nat.add_assoc]
      · rw [decL_form (by omega)] at h
        simp at h
    · by_cases he : endB k b.toNat = true
      · rw [decL_end hk10 h128 he] at h
        simp only [Prod.mk.injEq, and_true] at h
        obtain ⟨hU, hK⟩ := h
        have e1 : b.toNat % 128 = b.toNat := by omega
        have e3 : encL b.toNat = [b] := by rw [encL_end (by omega)]; simp
        have hsm : b.toNat * 2 ^ (7 * k) < 18446744073709551616 ∧ X + b.toNat * 2 ^ (7 * k) < 18446744073709551616 := by
          by_cases h8 : k ≤ 8
          · have hle := h63 h8
            have hm : b.toNat * 2 ^ (7 * k) ≤ 127 * 2 ^ (7 * k) := Nat.mul_le_mul_right _ (by omega)
            omega
          · obtain rfl : k = 9 := by omega
            have h1 : b.toNat ≤ 1 := by
              by_cases h1 : b.toNat ≤ 1
              · exact h1
              · rw [endB_last (by omega) (by omega)] at he
                cases he
            have e : (2 : Nat) ^ (7 * 9) = 9223372036854775808 := by decide
            rw [e] at hX ⊢
            have : b.toNat = 0 ∨ b.toNat = 1 := by omega
            rcases this with h | h <;> rw [h] <;> omega
        rw [e1, Nat.mod_eq_of_lt hsm.1] at hU
        refine ⟨b.toNat, r, by rw [e3]; rfl, hU.symm, by rw [← hU]; exact hsm.2, by rw [e3, ← hK]; rfl, fun h0 => ?_⟩
        by_cases hz : b.toNat = 0
        · rw [hz, endB_zero h0 (c := ((0 : Nat) : Int)) rfl] at he
          cases he
        · omega
      · rw [decL_bad hk10 h128 (by simpa using he)] at h
        simp at h

theorem unfI_in {u : Nat} (h : u < 18446744073709551616) : InI (unfI u) ∧ foldI (unfI u) = u := by
  unfold unfI InI
  by_cases ho : (u : Int) % 2 = 1
  · rw [if_pos ho]
    refine ⟨by omega, ?_⟩
    rw [foldI_neg (by omega)]; omega
  · rw [if_neg ho]
    refine ⟨by omega, ?_⟩
    rw [foldI_pos (by omega)]; omega

theorem getT_back {l : List UInt8} {n : Nat} {x e : Int} (hn : n ≤ l.length) (h : getT l n = (x, e, 0)) : InI x ∧ ∃ t, l.drop n = encX x ++ t ∧ e = ((n + (encX x).length : Nat) : Int) := by
  obtain ⟨u, k, z, hd⟩ : ∃ u k z, decL 0 0 (l.drop n) = (u, k, z) := ⟨_, _, _, rfl⟩
  by_cases hz : z = 0
  · subst hz
    rw [getT_ok hn hd] at h
    simp only [Prod.mk.injEq, and_true] at h
    obtain ⟨hx, he⟩ := h
    obtain ⟨v, t, e1, hU, h64, hK, _⟩ := decL_back _ 0 0 u k (by omega) (by decide) hd
    have huv : u = v := by simpa using hU
    subst huv
    obtain ⟨hin, hf⟩ := unfI_in h64
    rw [hx] at hin hf
    have ex : encX x = encL u := by unfold encX; rw [hf]; rfl
    exact ⟨hin, t, by rw [ex]; exact e1, by rw [← he, hK, ex]; simp⟩
  · unfold getT at h
    rw [if_neg (by omega), Int.toNat_natCast, hd] at h
    simp [hz] at h

/-- What was read so far: these numbers, to here. -/
structure Red (l : List UInt8) (xs : List Int) (a : Int) : Prop where
  ins : ∀ x ∈ xs, InI x
  pre : ∃ t, l = encs xs ++ t
  pos : a = ((encs xs).length : Nat)
theorem Red.zero (l : List UInt8) : Red l [] 0 := ⟨by simp, ⟨l, rfl⟩, rfl⟩
theorem nextR_good {l : List UInt8} {a a' x : Int} {b : Bool} (h : nextR l a b = (x, a', false)) : b = false ∧ getT l a = (x, a', 0) := by
  cases b with
  | true => rw [nextR_bad] at h; simp at h
  | false =>
    refine ⟨rfl, ?_⟩
    obtain ⟨y, e, z, ht⟩ : ∃ y e z, getT l a = (y, e, z) := ⟨_, _, _, rfl⟩
    by_cases hz : z = 0
    · subst hz
      rw [nextR_ok ht] at h
      simp only [Prod.mk.injEq, and_true] at h
      obtain ⟨rfl, rfl⟩ := h
      exact ht
    · rw [nextR_err ht hz] at h
      simp at h
theorem Red.next {l : List UInt8} {xs : List Int} {a a' x : Int} (hr : Red l xs a) (h : nextR l a false = (x, a', false)) : Red l (xs ++ [x]) a' := by
  obtain ⟨_, ht⟩ := nextR_good h
  obtain ⟨t, e⟩ := hr.pre
  have hn : (encs xs).length ≤ l.length := by rw [e]; simp
  rw [hr.pos] at ht
  obtain ⟨hin, t2, e2, hp⟩ := getT_back hn ht
  have e3 : t = encX x ++ t2 := by
    rw [← e2, e, List.drop_left]
  refine ⟨fun y hy => ?_, ⟨t2, by rw [encs_append, encs_one, List.append_assoc, ← e3]; exact e⟩, by rw [hp, encs_append, encs_one, List.length_append]⟩
  rcases List.mem_append.1 hy with h1 | h1
  · exact hr.ins y h1
  · obtain rfl : y = x := by simpa using h1
    exact hin
theorem Red.all {l : List UInt8} {xs : List Int} {a : Int} (hr : Red l xs a) (ha : a = l.length) : l = encs xs := by
  obtain ⟨t, e⟩ := hr.pre
  have h1 := hr.pos
  have h2 : t.length = 0 := by
    have : l.length = (encs xs).length + t.length := by conv => lhs; rw [e]; simp
    omega
  rw [List.eq_nil_of_length_eq_zero h2, List.append_nil] at e
  exact e
theorem finO_cases (l : List UInt8) (kd so se ti va a : Int) (b : Bool) : (b = false ∧ a = l.length ∧ MayO kd so se ti va ∧ finO l kd so se ti va a b = ((kd, so, se, ti, va), 0)) ∨ finO l kd so se ti va a b = ((0, 0, 0, 0, 0), 900) := by
  by_cases h : b = false ∧ a = l.length ∧ mayB kd so se ti va = true
  · exact .inl ⟨h.1, h.2.1, mayB_iff.1 h.2.2, if_pos h⟩
  · exact .inr (if_neg h)
/-- What is read is an operation whose bytes these are; or nothing is read. -/
theorem getO_back (l : List UInt8) : (∃ kd so se ti va, MayO kd so se ti va ∧ getO l = ((kd, so, se, ti, va), 0) ∧ encs (numsO kd so se ti va) = l) ∨ getO l = ((0, 0, 0, 0, 0), 900) := by
  obtain ⟨x0, a0, b0, h0⟩ : ∃ x a b, nextR l 0 false = (x, a, b) := ⟨_, _, _, rfl⟩
  by_cases e0 : x0 = 0
  · subst e0
    obtain ⟨so, a1, b1, h1⟩ : ∃ x a b, nextR l a0 b0 = (x, a, b) := ⟨_, _, _, rfl⟩
    obtain ⟨se, a2, b2, h2⟩ : ∃ x a b, nextR l a1 b1 = (x, a, b) := ⟨_, _, _, rfl⟩
    obtain ⟨ti, a3, b3, h3⟩ : ∃ x a b, nextR l a2 b2 = (x, a, b) := ⟨_, _, _, rfl⟩
    obtain ⟨va, a4, b4, h4⟩ : ∃ x a b, nextR l a3 b3 = (x, a, b) := ⟨_, _, _, rfl⟩
    rw [getO_0 h0 h1 h2 h3 h4]
    rcases finO_cases l 0 so se ti va a4 b4 with ⟨rfl, ha, hm, hf⟩ | hf
    · obtain ⟨rfl, _⟩ := nextR_good h4
      obtain ⟨rfl, _⟩ := nextR_good h3
      obtain ⟨rfl, _⟩ := nextR_good h2
      obtain ⟨rfl, _⟩ := nextR_good h1
      exact .inl ⟨0, so, se, ti, va, hm, hf, ((((((Red.zero l).next h0).next h1).next h2).next h3).next h4).all ha |>.symm⟩
    · exact .inr hf
  · by_cases e1 : x0 = 1
    · subst e1
      obtain ⟨so, a1, b1, h1⟩ : ∃ x a b, nextR l a0 b0 = (x, a, b) := ⟨_, _, _, rfl⟩
      obtain ⟨ti, a2, b2, h2⟩ : ∃ x a b, nextR l a1 b1 = (x, a, b) := ⟨_, _, _, rfl⟩
      rw [getO_1 h0 h1 h2]
      rcases finO_cases l 1 so 0 ti 0 a2 b2 with ⟨rfl, ha, hm, hf⟩ | hf
      · obtain ⟨rfl, _⟩ := nextR_good h2
        obtain ⟨rfl, _⟩ := nextR_good h1
        exact .inl ⟨1, so, 0, ti, 0, hm, hf, ((((Red.zero l).next h0).next h1).next h2).all ha |>.symm⟩
      · exact .inr hf
    · rw [getO_2 h0 e0 e1]
      rcases finO_cases l x0 0 0 0 0 a0 b0 with ⟨rfl, ha, hm, hf⟩ | hf
      · refine .inl ⟨x0, 0, 0, 0, 0, hm, hf, ?_⟩
        have h := ((Red.zero l).next h0).all ha
        unfold numsO
        rw [if_neg e0, if_neg e1]
        exact h.symm
      · exact .inr hf
/-- Of unlike operations the bytes are unlike. -/
theorem numsO_inj {k1 k2 k3 k4 k5 j1 j2 j3 j4 j5 : Int} (h : MayO k1 k2 k3 k4 k5) (h' : MayO j1 j2 j3 j4 j5) (he : encs (numsO k1 k2 k3 k4 k5) = encs (numsO j1 j2 j3 j4 j5)) : k1 = j1 ∧ k2 = j2 ∧ k3 = j3 ∧ k4 = j4 ∧ k5 = j5 := by
  have h1 := getO_put h
  rw [he, getO_put h'] at h1
  simp only [Prod.mk.injEq, and_true] at h1
  obtain ⟨a, b, c, d, e⟩ := h1
  exact ⟨a.symm, b.symm, c.symm, d.symm, e.symm⟩

end Go.Proofs.Ytoechlmahckchaa
