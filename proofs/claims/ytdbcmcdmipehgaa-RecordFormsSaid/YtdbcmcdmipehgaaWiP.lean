/-
  Operations: which may be; their bytes; numbers read one behind the other: plain words. No program here.
-/
import Derived.Test.YtdbcmcdmipehgaaVEnc
namespace Go.Proofs.Ytdbcmcdmipehgaa

/-- May this be an operation? -/
def MayO (kd so se ti va : Int) : Prop :=
  (kd = 0 ∧ (0 ≤ so ∧ so ≤ 7) ∧ (0 ≤ se ∧ se ≤ 1048575) ∧ (-1099511627776 ≤ ti ∧ ti ≤ 1099511627776) ∧ (-1099511627776 ≤ va ∧ va ≤ 1099511627776)) ∨
  (kd = 1 ∧ (0 ≤ so ∧ so ≤ 7) ∧ se = 0 ∧ (-4398046511104 < ti ∧ ti ≤ 4398046511104) ∧ va = 0) ∨
  (kd = 2 ∧ so = 0 ∧ se = 0 ∧ ti = 0 ∧ va = 0)
instance mayODec (kd so se ti va : Int) : Decidable (MayO kd so se ti va) := by unfold MayO; infer_instance
def mayB (kd so se ti va : Int) : Bool := decide (MayO kd so se ti va)
section
variable {kd so se ti va : Int}
theorem mayB_yes (h : MayO kd so se ti va) : mayB kd so se ti va = true := decide_eq_true h
theorem mayB_no (h : ¬ MayO kd so se ti va) : mayB kd so se ti va = false := decide_eq_false h
theorem mayB_iff : mayB kd so se ti va = true ↔ MayO kd so se ti va := by unfold mayB; exact decide_eq_true_iff
theorem MayO.wide (h : MayO kd so se ti va) : (0 ≤ kd ∧ kd ≤ 2) ∧ (0 ≤ so ∧ so ≤ 7) ∧ (0 ≤ se ∧ se ≤ 1048575) ∧ (-4398046511104 ≤ ti ∧ ti ≤ 4398046511104) ∧ (-1099511627776 ≤ va ∧ va ≤ 1099511627776) := by
  unfold MayO at h; omega
end

/-- Numbers' bytes, one behind the other. -/
def encs : List Int → List UInt8
  | [] => []
  | x :: r => (encL (foldI x).toNat) ++ encs r
theorem encs_append (a b : List Int) : encs (a ++ b) = encs a ++ encs b := by
  induction a with
  | nil => rfl
  | cons x r ih => simp [encs, ih]
/-- What of an operation is written. -/
def numsO (kd so se ti va : Int) : List Int := if kd = 0 then [0, so, se, ti, va] else if kd = 1 then [1, so, ti] else [kd]
/-- What Put gives. -/
def putO (kd so se ti va : Int) : ByteArray × Int := if mayB kd so se ti va = true then (⟨(encs (numsO kd so se ti va)).toArray⟩, 0) else (⟨#[]⟩, 900)

/-- A number more is read: it, where the next one stands, has it failed? -/
def nextR (l : List UInt8) (a : Int) (b : Bool) : Int × Int × Bool :=
  if b = true then (0, a, true) else if (getT l a).2.2 = 0 then ((getT l a).1, (getT l a).2.1, false) else (0, a, true)
theorem nextR_bad (l : List UInt8) (a : Int) : nextR l a true = (0, a, true) := rfl
theorem nextR_ok {l : List UInt8} {a x e : Int} (h : getT l a = (x, e, 0)) : nextR l a false = (x, e, false) := by unfold nextR; rw [h]; rfl
theorem nextR_err {l : List UInt8} {a x e z : Int} (h : getT l a = (x, e, z)) (hz : z ≠ 0) : nextR l a false = (0, a, true) := by unfold nextR; rw [h]; simp [hz]

/-- What Get answers: an operation's five numbers and the code. -/
def finO (l : List UInt8) (kd so se ti va a : Int) (b : Bool) : (Int × Int × Int × Int × Int) × Int :=
  if b = false ∧ a = l.length ∧ mayB kd so se ti va = true then ((kd, so, se, ti, va), 0) else ((0, 0, 0, 0, 0), 900)
def getO (l : List UInt8) : (Int × Int × Int × Int × Int) × Int :=
  let r0 := nextR l 0 false
  if r0.1 = 0 then
    let r1 := nextR l r0.2.1 r0.2.2
    let r2 := nextR l r1.2.1 r1.2.2
    let r3 := nextR l r2.2.1 r2.2.2
    let r4 := nextR l r3.2.1 r3.2.2
    finO l 0 r1.1 r2.1 r3.1 r4.1 r4.2.1 r4.2.2
  else if r0.1 = 1 then
    let r1 := nextR l r0.2.1 r0.2.2
    let r2 := nextR l r1.2.1 r1.2.2
    finO l 1 r1.1 0 r2.1 0 r2.2.1 r2.2.2
  else finO l r0.1 0 0 0 0 r0.2.1 r0.2.2
theorem getO_0 {l : List UInt8} {a0 a1 a2 a3 a4 so se ti va : Int} {b0 b1 b2 b3 b4 : Bool} (h0 : nextR l 0 false = (0, a0, b0)) (h1 : nextR l a0 b0 = (so, a1, b1)) (h2 : nextR l a1 b1 = (se, a2, b2)) (h3 : nextR l a2 b2 = (ti, a3, b3)) (h4 : nextR l a3 b3 = (va, a4, b4)) :
    getO l = finO l 0 so se ti va a4 b4 := by
  simp only [getO, h0, h1, h2, h3, h4, if_true]
theorem getO_1 {l : List UInt8} {a0 a1 a2 so ti : Int} {b0 b1 b2 : Bool} (h0 : nextR l 0 false = (1, a0, b0)) (h1 : nextR l a0 b0 = (so, a1, b1)) (h2 : nextR l a1 b1 = (ti, a2, b2)) :
    getO l = finO l 1 so 0 ti 0 a2 b2 := by
  simp [getO, h0, h1, h2]
theorem getO_2 {l : List UInt8} {a0 x : Int} {b0 : Bool} (h0 : nextR l 0 false = (x, a0, b0)) (n0 : x ≠ 0) (n1 : x ≠ 1) :
    getO l = finO l x 0 0 0 0 a0 b0 := by
  simp [getO, h0, n0, n1]
theorem finO_yes {l : List UInt8} {kd so se ti va a : Int} (ha : a = l.length) (h : mayB kd so se ti va = true) : finO l kd so se ti va a false = ((kd, so, se, ti, va), 0) := if_pos ⟨rfl, ha, h⟩
theorem finO_bad (l : List UInt8) (kd so se ti va a : Int) : finO l kd so se ti va a true = ((0, 0, 0, 0, 0), 900) := if_neg (fun h => by simpa using h.1)
theorem finO_far {l : List UInt8} {kd so se ti va a : Int} {b : Bool} (h : a ≠ l.length) : finO l kd so se ti va a b = ((0, 0, 0, 0, 0), 900) := if_neg (fun k => h k.2.1)
theorem finO_not {l : List UInt8} {kd so se ti va a : Int} {b : Bool} (h : mayB kd so se ti va = false) : finO l kd so se ti va a b = ((0, 0, 0, 0, 0), 900) := if_neg (fun k => by rw [h] at k; simpa using k.2.2)

end Go.Proofs.Ytdbcmcdmipehgaa
