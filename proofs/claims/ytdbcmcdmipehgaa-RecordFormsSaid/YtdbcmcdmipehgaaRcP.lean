/-
  Records: which may be; their bytes; what is read out of bytes: plain words. No program here.
-/
import Derived.Test.YtdbcmcdmipehgaaWiP
namespace Go.Proofs.Ytdbcmcdmipehgaa

/-- May this be what a query told? -/
def OutM (va : Int) (ov : Bool) (hs : List Int) : Prop := (ov = true → va = 0) ∧ hs.length ≤ 9 ∧ (∀ x ∈ hs, 0 ≤ x ∧ x ≤ 8192) ∧ (-72057594037927940 ≤ va ∧ va ≤ 72057594037927940)
/-- May this go out? -/
def ResM (qu sr st en va : Int) (ov : Bool) (hs : List Int) : Prop := (0 ≤ qu ∧ qu ≤ 7) ∧ (0 ≤ sr ∧ sr ≤ 1048575) ∧ (-4398046511104 ≤ st ∧ st ≤ 4398046511104) ∧ (-4398046511104 ≤ en ∧ en ≤ 4398046511104) ∧ st < en ∧ OutM va ov hs
/-- Is all of it zero? -/
def NoX (qu sr st en va : Int) (ov : Bool) (hs : List Int) : Prop := qu = 0 ∧ sr = 0 ∧ st = 0 ∧ en = 0 ∧ va = 0 ∧ ov = false ∧ hs = []
/-- May there be this sample? -/
def SamM (se ti sq : Int) : Prop := (0 ≤ se ∧ se ≤ 1048575) ∧ (-1099511627776 ≤ ti ∧ ti ≤ 1099511627776) ∧ (1 ≤ sq ∧ sq ≤ 1073741823)
def NoS (se ti sq : Int) : Prop := se = 0 ∧ ti = 0 ∧ sq = 0
instance outMDec (va : Int) (ov : Bool) (hs : List Int) : Decidable (OutM va ov hs) := by unfold OutM; infer_instance
instance resMDec (qu sr st en va : Int) (ov : Bool) (hs : List Int) : Decidable (ResM qu sr st en va ov hs) := by unfold ResM; infer_instance
instance noXDec (qu sr st en va : Int) (ov : Bool) (hs : List Int) : Decidable (NoX qu sr st en va ov hs) := by unfold NoX; infer_instance
instance samMDec (se ti sq : Int) : Decidable (SamM se ti sq) := by unfold SamM; infer_instance
instance noSDec (se ti sq : Int) : Decidable (NoS se ti sq) := by unfold NoS; infer_instance

/-- A record. -/
structure Rc where
  kd : Int
  qu : Int
  sr : Int
  st : Int
  en : Int
  va : Int
  ov : Bool
  hs : List Int
  se : Int
  ti : Int
  sq : Int
  bd : Int
def zeroR : Rc := ⟨0, 0, 0, 0, 0, 0, false, [], 0, 0, 0, 0⟩
/-- May this be a record? -/
def MayR (r : Rc) : Prop :=
  (r.kd = 0 ∧ ResM r.qu r.sr r.st r.en r.va r.ov r.hs ∧ NoS r.se r.ti r.sq ∧ r.bd = 0) ∨
  ((r.kd = 1 ∨ r.kd = 2 ∨ r.kd = 3) ∧ SamM r.se r.ti r.sq ∧ NoX r.qu r.sr r.st r.en r.va r.ov r.hs ∧ r.bd = 0) ∨
  (r.kd = 4 ∧ NoX r.qu r.sr r.st r.en r.va r.ov r.hs ∧ NoS r.se r.ti r.sq ∧ r.bd = 0) ∨
  (r.kd = 5 ∧ (1 ≤ r.bd ∧ r.bd ≤ 1073741823) ∧ NoX r.qu r.sr r.st r.en r.va r.ov r.hs ∧ NoS r.se r.ti r.sq)
instance mayRDec (r : Rc) : Decidable (MayR r) := by unfold MayR; infer_instance
def mayR (r : Rc) : Bool := decide (MayR r)
section
variable {r : Rc}
theorem mayR_yes (h : MayR r) : mayR r = true := decide_eq_true h
theorem mayR_no (h : ¬ MayR r) : mayR r = false := decide_eq_false h
theorem mayR_iff : mayR r = true ↔ MayR r := by unfold mayR; exact decide_eq_true_iff
theorem MayR.kinds (h : MayR r) : 0 ≤ r.kd ∧ r.kd ≤ 5 := by unfold MayR at h; omega
end

/-- 1 or 0. -/
def bitI (b : Bool) : Int := if b = true then 1 else 0
/-- What of a record is written. -/
def numsR (r : Rc) : List Int :=
  if r.kd = 0 then [0, r.qu, r.sr, r.st, r.en, r.va, bitI r.ov, (r.hs.length : Int)] ++ r.hs
  else if r.kd = 1 ∨ r.kd = 2 ∨ r.kd = 3 then [r.kd, r.se, r.ti, r.sq]
  else if r.kd = 5 then [5, r.bd] else [r.kd]
/-- What Put gives. -/
def putR (r : Rc) : ByteArray × Int := if mayR r = true then (⟨(encs (numsR r)).toArray⟩, 0) else (⟨#[]⟩, 1000)

/-- So many numbers are read. -/
def readN (l : List UInt8) : Nat → Int → Bool → List Int × Int × Bool
  | 0, a, b => ([], a, b)
  | n + 1, a, b => ((readN l n a b).1 ++ [(nextR l (readN l n a b).2.1 (readN l n a b).2.2).1], (nextR l (readN l n a b).2.1 (readN l n a b).2.2).2.1, (nextR l (readN l n a b).2.1 (readN l n a b).2.2).2.2)
theorem readN_zero (l : List UInt8) (a : Int) (b : Bool) : readN l 0 a b = ([], a, b) := rfl
theorem readN_succ {l : List UInt8} {n : Nat} {a a' a'' x : Int} {b b' b'' : Bool} {hs : List Int} (h : readN l n a b = (hs, a', b')) (h2 : nextR l a' b' = (x, a'', b'')) : readN l (n + 1) a b = (hs ++ [x], a'', b'') := by
  simp only [readN, h, h2]
theorem readN_len (l : List UInt8) (n : Nat) (a : Int) (b : Bool) : (readN l n a b).1.length = n := by
  induction n with
  | zero => rfl
  | succ n ih => simp [readN, ih]
theorem readN_length {l : List UInt8} {n : Nat} {a a' : Int} {b b' : Bool} {hs : List Int} (h : readN l n a b = (hs, a', b')) : hs.length = n := by
  have := readN_len l n a b
  rw [h] at this
  exact this

/-- What Get answers: a record and the code. -/
def finR (l : List UInt8) (r : Rc) (a : Int) (b : Bool) : Rc × Int := if b = false ∧ a = l.length ∧ mayR r = true then (r, 0) else (zeroR, 1000)
/-- Are over and the length of the form that is written? -/
def FormX (ov ln : Int) : Prop := (0 ≤ ov ∧ ov ≤ 1) ∧ (0 ≤ ln ∧ ln ≤ 9)
instance formXDec (ov ln : Int) : Decidable (FormX ov ln) := by unfold FormX; infer_instance
def getR (l : List UInt8) : Rc × Int :=
  let r0 := nextR l 0 false
  if r0.1 = 0 then
    let r1 := nextR l r0.2.1 r0.2.2
    let r2 := nextR l r1.2.1 r1.2.2
    let r3 := nextR l r2.2.1 r2.2.2
    let r4 := nextR l r3.2.1 r3.2.2
    let r5 := nextR l r4.2.1 r4.2.2
    let r6 := nextR l r5.2.1 r5.2.2
    let r7 := nextR l r6.2.1 r6.2.2
    if FormX r6.1 r7.1 then
      let q := readN l r7.1.toNat r7.2.1 r7.2.2
      finR l ⟨0, r1.1, r2.1, r3.1, r4.1, r5.1, decide (r6.1 = 1), q.1, 0, 0, 0, 0⟩ q.2.1 q.2.2
    else (zeroR, 1000)
  else if r0.1 = 1 ∨ r0.1 = 2 ∨ r0.1 = 3 then
    let r1 := nextR l r0.2.1 r0.2.2
    let r2 := nextR l r1.2.1 r1.2.2
    let r3 := nextR l r2.2.1 r2.2.2
    finR l ⟨r0.1, 0, 0, 0, 0, 0, false, [], r1.1, r2.1, r3.1, 0⟩ r3.2.1 r3.2.2
  else if r0.1 = 5 then
    let r1 := nextR l r0.2.1 r0.2.2
    finR l ⟨5, 0, 0, 0, 0, 0, false, [], 0, 0, 0, r1.1⟩ r1.2.1 r1.2.2
  else finR l ⟨r0.1, 0, 0, 0, 0, 0, false, [], 0, 0, 0, 0⟩ r0.2.1 r0.2.2
section
variable {l : List UInt8} {a0 a1 a2 a3 a4 a5 a6 a7 a8 kd x1 x2 x3 x4 x5 x6 x7 : Int} {b0 b1 b2 b3 b4 b5 b6 b7 b8 : Bool} {hs : List Int}
theorem getR_0 (h0 : nextR l 0 false = (0, a0, b0)) (h1 : nextR l a0 b0 = (x1, a1, b1)) (h2 : nextR l a1 b1 = (x2, a2, b2)) (h3 : nextR l a2 b2 = (x3, a3, b3)) (h4 : nextR l a3 b3 = (x4, a4, b4)) (h5 : nextR l a4 b4 = (x5, a5, b5)) (h6 : nextR l a5 b5 = (x6, a6, b6)) (h7 : nextR l a6 b6 = (x7, a7, b7)) (hf : FormX x6 x7) (h8 : readN l x7.toNat a7 b7 = (hs, a8, b8)) :
    getR l = finR l ⟨0, x1, x2, x3, x4, x5, decide (x6 = 1), hs, 0, 0, 0, 0⟩ a8 b8 := by
  simp only [getR, h0, h1, h2, h3, h4, h5, h6, h7, h8, if_true, if_pos hf]
theorem getR_0x (h0 : nextR l 0 false = (0, a0, b0)) (h1 : nextR l a0 b0 = (x1, a1, b1)) (h2 : nextR l a1 b1 = (x2, a2, b2)) (h3 : nextR l a2 b2 = (x3, a3, b3)) (h4 : nextR l a3 b3 = (x4, a4, b4)) (h5 : nextR l a4 b4 = (x5, a5, b5)) (h6 : nextR l a5 b5 = (x6, a6, b6)) (h7 : nextR l a6 b6 = (x7, a7, b7)) (hf : ¬ FormX x6 x7) :
    getR l = (zeroR, 1000) := by
  simp only [getR, h0, h1, h2, h3, h4, h5, h6, h7, if_true, if_neg hf]
theorem getR_1 (hk : kd = 1 ∨ kd = 2 ∨ kd = 3) (h0 : nextR l 0 false = (kd, a0, b0)) (h1 : nextR l a0 b0 = (x1, a1, b1)) (h2 : nextR l a1 b1 = (x2, a2, b2)) (h3 : nextR l a2 b2 = (x3, a3, b3)) :
    getR l = finR l ⟨kd, 0, 0, 0, 0, 0, false, [], x1, x2, x3, 0⟩ a3 b3 := by
  simp only [getR, h0, h1, h2, h3, if_pos hk]
  rw [if_neg (by omega)]
theorem getR_5 (h0 : nextR l 0 false = (5, a0, b0)) (h1 : nextR l a0 b0 = (x1, a1, b1)) :
    getR l = finR l ⟨5, 0, 0, 0, 0, 0, false, [], 0, 0, 0, x1⟩ a1 b1 := by
  simp [getR, h0, h1]
theorem getR_n (h0 : nextR l 0 false = (kd, a0, b0)) (n0 : kd ≠ 0) (n1 : ¬ (kd = 1 ∨ kd = 2 ∨ kd = 3)) (n5 : kd ≠ 5) :
    getR l = finR l ⟨kd, 0, 0, 0, 0, 0, false, [], 0, 0, 0, 0⟩ a0 b0 := by
  simp only [getR, h0, if_neg n0, if_neg n1, if_neg n5]
end
section
variable {l : List UInt8} {r : Rc} {a : Int} {b : Bool}
theorem finR_yes (ha : a = l.length) (h : mayR r = true) : finR l r a false = (r, 0) := if_pos ⟨rfl, ha, h⟩
theorem finR_bad (l : List UInt8) (r : Rc) (a : Int) : finR l r a true = (zeroR, 1000) := if_neg (fun h => by simpa using h.1)
theorem finR_far (h : a ≠ l.length) : finR l r a b = (zeroR, 1000) := if_neg (fun k => h k.2.1)
theorem finR_not (h : mayR r = false) : finR l r a b = (zeroR, 1000) := if_neg (fun k => by rw [h] at k; simpa using k.2.2)
theorem finR_cases (l : List UInt8) (r : Rc) (a : Int) (b : Bool) : (b = false ∧ a = l.length ∧ MayR r ∧ finR l r a b = (r, 0)) ∨ finR l r a b = (zeroR, 1000) := by
  by_cases h : b = false ∧ a = l.length ∧ mayR r = true
  · exact .inl ⟨h.1, h.2.1, mayR_iff.1 h.2.2, if_pos h⟩
  · exact .inr (if_neg h)
end

end Go.Proofs.Ytdbcmcdmipehgaa
