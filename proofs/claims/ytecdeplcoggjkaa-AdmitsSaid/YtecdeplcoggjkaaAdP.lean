/-
  What is taken: configs that may be, verdicts: plain words. No program here.
-/
import Derived.Test.YtecdeplcoggjkaaQu
import Derived.Test.YtecdeplcoggjkaaWinP
namespace Go.Proofs.Ytecdeplcoggjkaa

/-- The query at a place. -/
def nthQ (qs : List Qu) (i : Nat) : Qu := qs.getD i ⟨0, 0, 0, 0, [], 0⟩
/-- May this be a query? -/
def quB (q : Qu) : Bool := mayQ q.kind q.agg q.size q.slide q.bs q.rank
/-- All may be. -/
def allQ (qs : List Qu) : Bool := decide (∀ i, i < qs.length → quB (nthQ qs i) = true)
theorem allQ_yes {qs : List Qu} (h : ∀ i, i < qs.length → quB (nthQ qs i) = true) : allQ qs = true := decide_eq_true h
theorem allQ_no {qs : List Qu} {i : Nat} (h : i < qs.length) (h2 : quB (nthQ qs i) = false) : allQ qs = false := decide_eq_false fun k => by have := k i h; rw [h2] at this; cases this
theorem allQ_one (q : Qu) : allQ [q] = quB q := by
  cases h : quB q
  · exact allQ_no (i := 0) (by simp) h
  · exact allQ_yes fun i hi => by obtain rfl : i = 0 := by simpa using hi
                                  exact h
/-- May these be a config's queries? -/
def fitQ (qs : List Qu) : Bool := wi qs.length 1 8 && allQ qs
/-- May these be a config's numbers? -/
def limB (la ro se so : Int) : Bool := wi la 0 1073741824 && (wi ro 1 4096 && (wi se 1 64 && wi so 1 8))
/-- May this be a config? -/
def cfB (qs : List Qu) (la ro se so : Int) : Bool := limB la ro se so && fitQ qs
theorem limB_true {la ro se so : Int} (h : limB la ro se so = true) : (0 ≤ la ∧ la ≤ 1073741824) ∧ (1 ≤ ro ∧ ro ≤ 4096) ∧ (1 ≤ se ∧ se ≤ 64) ∧ (1 ≤ so ∧ so ≤ 8) := by
  unfold limB at h
  simp only [Bool.and_eq_true] at h
  exact ⟨wi_true h.1, wi_true h.2.1, wi_true h.2.2.1, wi_true h.2.2.2⟩
theorem limB_no {la ro se so : Int} (h : la < 0 ∨ 1073741824 < la ∨ ro < 1 ∨ 4096 < ro ∨ se < 1 ∨ 64 < se ∨ so < 1 ∨ 8 < so) : limB la ro se so = false := by
  cases k : limB la ro se so with
  | false => rfl
  | true => have := limB_true k; omega
theorem cfB_true {qs : List Qu} {la ro se so : Int} (h : cfB qs la ro se so = true) : limB la ro se so = true := by
  unfold cfB at h
  simp only [Bool.and_eq_true] at h
  exact h.1
/-- May the rest of this be a sample's? -/
def restB (so se ti va : Int) : Bool := wi so 0 7 && (wi se 0 1048575 && (wi ti (-1099511627776) 1099511627776 && wi va (-1099511627776) 1099511627776))
theorem restB_true {so se ti va : Int} (h : restB so se ti va = true) : (0 ≤ so ∧ so ≤ 7) ∧ (0 ≤ se ∧ se ≤ 1048575) ∧ (-1099511627776 ≤ ti ∧ ti ≤ 1099511627776) ∧ (-1099511627776 ≤ va ∧ va ≤ 1099511627776) := by
  unfold restB at h
  simp only [Bool.and_eq_true] at h
  exact ⟨wi_true h.1, wi_true h.2.1, wi_true h.2.2.1, wi_true h.2.2.2⟩
theorem restB_yes {so se ti va : Int} (h : (0 ≤ so ∧ so ≤ 7) ∧ (0 ≤ se ∧ se ≤ 1048575) ∧ (-1099511627776 ≤ ti ∧ ti ≤ 1099511627776) ∧ (-1099511627776 ≤ va ∧ va ≤ 1099511627776)) : restB so se ti va = true := by
  unfold restB
  rw [wi_mk h.1, wi_mk h.2.1, wi_mk h.2.2.1, wi_mk h.2.2.2]
  rfl
/-- May this be a sample of one of n sources? -/
def smB (kd so se ti va n : Int) : Bool := decide (kd = 0) && (restB so se ti va && decide (so < n))
theorem smB_time {kd so se ti va n : Int} (h : smB kd so se ti va n = true) : -1099511627776 ≤ ti ∧ ti ≤ 1099511627776 := by
  unfold smB at h
  simp only [Bool.and_eq_true] at h
  exact (restB_true h.2.1).2.2.1
/-- Is there a verdict? -/
def isB (qs : List Qu) (la ro se so least held known : Int) : Bool := cfB qs la ro se so && (wi least (-4398046511104) 4398046511104 && (decide (0 ≤ held) && decide (0 ≤ known)))
/-- The verdict, of a config and numbers that may be. -/
def tellV (la ro se so least held known : Int) (has : Bool) (kd os oe ti va : Int) : Int :=
  if smB kd os oe ti va so = false then 4 else if ti < least - la then 1 else if has = false ∧ se ≤ known then 3 else if ro ≤ held then 2 else 0
/-- Verdict and error. -/
def verV (qs : List Qu) (la ro se so least held known : Int) (has : Bool) (kd os oe ti va : Int) : Int × Int :=
  if isB qs la ro se so least held known = true then (tellV la ro se so least held known has kd os oe ti va, 0) else (0, 1400)
theorem isB_true {qs : List Qu} {la ro se so least held known : Int} (h : isB qs la ro se so least held known = true) : cfB qs la ro se so = true ∧ (-4398046511104 ≤ least ∧ least ≤ 4398046511104) ∧ 0 ≤ held ∧ 0 ≤ known := by
  unfold isB at h
  simp only [Bool.and_eq_true] at h
  exact ⟨h.1, wi_true h.2.1, of_decide_eq_true h.2.2.1, of_decide_eq_true h.2.2.2⟩

end Go.Proofs.Ytecdeplcoggjkaa
