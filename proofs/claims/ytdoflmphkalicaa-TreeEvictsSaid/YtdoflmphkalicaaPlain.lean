/-
  Plain functions on aggregates. No program here.
-/
import Derived.Test.YtdoflmphkalicaaPure
namespace Go.Proofs.Ytdoflmphkalicaa

theorem itemB_iff {x : It} : itemB x = true ↔ (0 ≤ x.s ∧ x.s ≤ 1048575 ∧ -1099511627776 ≤ x.t ∧ x.t ≤ 1099511627776 ∧ 1 ≤ x.q ∧ x.q ≤ 1073741823 ∧ -1099511627776 ≤ x.v ∧ x.v ≤ 1099511627776) := by
  unfold itemB wi
  simp only [Bool.and_eq_true, decide_eq_true_eq]
  omega
theorem itemB_false {x : It} (h : ¬ (0 ≤ x.s ∧ x.s ≤ 1048575 ∧ -1099511627776 ≤ x.t ∧ x.t ≤ 1099511627776 ∧ 1 ≤ x.q ∧ x.q ≤ 1073741823 ∧ -1099511627776 ≤ x.v ∧ x.v ≤ 1099511627776)) : itemB x = false := by
  rw [Bool.eq_false_iff]; exact fun e => h (itemB_iff.1 e)
/-- Does x stand ahead of y? -/
def beforeB (x y : It) : Bool := decide (x.t < y.t ∨ (x.t = y.t ∧ x.q < y.q))
theorem cmpT_before (x y : It) : decide (cmpT x y < 0) = beforeB x y := by
  unfold cmpT beforeB cmpI
  rw [decide_eq_decide]
  by_cases h1 : x.t < y.t
  · simp [h1]
  · by_cases h2 : y.t < x.t
    · simp [h1, h2]; omega
    · by_cases h3 : x.q < y.q
      · simp [h1, h2, h3]; omega
      · by_cases h4 : y.q < x.q <;> simp [h1, h2, h3, h4]
theorem cmpT_after (x y : It) : decide (cmpT x y ≤ 0) = !beforeB y x := by
  unfold cmpT beforeB cmpI
  rw [← decide_not, decide_eq_decide]
  by_cases h1 : x.t < y.t
  · simp [h1]; omega
  · by_cases h2 : y.t < x.t
    · simp [h1, h2]
    · by_cases h3 : x.q < y.q
      · simp [h1, h2, h3]; omega
      · by_cases h4 : y.q < x.q <;> simp [h1, h2, h3, h4] <;> omega
theorem cmpT_geq (x y : It) : decide (0 ≤ cmpT x y) = !beforeB x y := by
  rw [← cmpT_before, ← decide_not, decide_eq_decide]; omega
theorem cmpT_bd (x y : It) : -1 ≤ cmpT x y ∧ cmpT x y ≤ 1 := by
  unfold cmpT cmpI
  split <;> split <;> (try split) <;> omega

/-- The sum of numbers. -/
def isum : List Int → Int
  | [] => 0
  | b :: r => b + isum r
theorem isum_take_succ {h : List Int} {j : Nat} (hj : j < h.length) : isum (h.take (j + 1)) = isum (h.take j) + nth h j := by
  induction h generalizing j with
  | nil => simp at hj
  | cons b r ih =>
    cases j with
    | zero => simp [isum, nth]
    | succ j =>
      rw [List.take_succ_cons, List.take_succ_cons, nth_cons_succ]
      simp only [isum]
      rw [ih (by simpa using hj)]
      omega

def histB (a : Ac) (m : Int) : Bool := decide ((a.h.length : Int) = m ∧ (∀ i, i < a.h.length → 0 ≤ nth a.h i ∧ nth a.h i ≤ 8192) ∧ isum a.h = a.n)
def zeroB (a : Ac) : Bool := decide (a.s = 0 ∧ a.mn = 0 ∧ a.mx = 0 ∧ (a.f.s = 0 ∧ a.f.t = 0 ∧ a.f.q = 0 ∧ a.f.v = 0) ∧ a.l.s = 0 ∧ a.l.t = 0 ∧ a.l.q = 0 ∧ a.l.v = 0)
def endsB (a : Ac) : Bool := decide (itemB a.f = true ∧ itemB a.l = true ∧ a.f.s = a.l.s ∧ beforeB a.l a.f = false)
def valsB (a : Ac) : Bool := decide (-1099511627776 ≤ a.mn ∧ a.mn ≤ a.mx ∧ a.mx ≤ 1099511627776 ∧ a.mn ≤ a.f.v ∧ a.f.v ≤ a.mx ∧ a.mn ≤ a.l.v ∧ a.l.v ≤ a.mx ∧ a.n * a.mn ≤ a.s ∧ a.s ≤ a.n * a.mx)
def fitB (a : Ac) (m : Int) : Bool := wi a.n 0 8192 && (histB a m && if a.n = 0 then zeroB a else endsB a && valsB a)
def accB (a : Ac) (bs : List Int) : Bool := boundsB bs && fitB a (bs.length + 1)

theorem histB_out {a : Ac} {m : Int} {n j : Nat} (h1 : a.h.length = n) (hj : j < n) (hv : wi (nth a.h j) 0 8192 = false) : histB a m = false :=
  decide_eq_false (fun h => by
    have h2 := wi_mk (h.2.1 j (by omega))
    rw [hv] at h2
    cases h2)
theorem histB_sum {a : Ac} {m S : Int} {n : Nat} (h1 : a.h.length = n) (h2 : (n : Int) = m) (h3 : ∀ x, x < n → 0 ≤ nth a.h x ∧ nth a.h x ≤ 8192) (h4 : isum (a.h.take n) = S) : histB a m = (S == a.n) := by
  rw [List.take_of_length_le (by omega)] at h4
  unfold histB
  rw [Bool.eq_iff_iff, decide_eq_true_eq, beq_iff_eq, h4, h1]
  exact ⟨fun h => h.2.2, fun h => ⟨h2, h3, h⟩⟩

theorem mul_bd {n m : Int} (h0 : 0 ≤ n) (h1 : n ≤ 8192) (h2 : -1099511627776 ≤ m) (h3 : m ≤ 1099511627776) : -9007199254740992 ≤ n * m ∧ n * m ≤ 9007199254740992 := by
  have e1 : n * m ≤ n * 1099511627776 := Int.mul_le_mul_of_nonneg_left h3 h0
  have e2 : n * (-1099511627776) ≤ n * m := Int.mul_le_mul_of_nonneg_left h2 h0
  omega

theorem valsB_no {a : Ac} (h : wi a.mn (-1099511627776) a.mx = false ∨ ¬ a.mx ≤ 1099511627776 ∨ wi a.f.v a.mn a.mx = false ∨ wi a.l.v a.mn a.mx = false) : valsB a = false := by
  refine decide_eq_false fun k => ?_
  unfold wi at h
  simp only [decide_eq_false_iff_not] at h
  omega
theorem valsB_yes {a : Ac} (h1 : wi a.mn (-1099511627776) a.mx = true) (h2 : a.mx ≤ 1099511627776) (h3 : wi a.f.v a.mn a.mx = true) (h4 : wi a.l.v a.mn a.mx = true) : valsB a = wi a.s (a.n * a.mn) (a.n * a.mx) := by
  unfold wi at *
  unfold valsB
  rw [decide_eq_decide]
  have g1 := of_decide_eq_true h1
  have g3 := of_decide_eq_true h3
  have g4 := of_decide_eq_true h4
  exact ⟨fun h => ⟨h.2.2.2.2.2.2.2.1, h.2.2.2.2.2.2.2.2⟩, fun h => ⟨g1.1, g1.2, h2, g3.1, g3.2, g4.1, g4.2, h.1, h.2⟩⟩

end Go.Proofs.Ytdoflmphkalicaa
