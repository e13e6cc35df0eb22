/-
  Plain functions: what the layer of aggregates reckons (items, bounds, buckets, aggregates), as functions on integers and lists. No program here.
-/
import Derived.WalkKit
namespace Go.Proofs.Ytdoflmphkalicaa
open Go.RowKit

structure It where
  s : Int
  t : Int
  q : Int
  v : Int

structure Ac where
  n : Int
  s : Int
  mn : Int
  mx : Int
  f : It
  l : It
  h : List Int

def zeroIt : It := ⟨0, 0, 0, 0⟩
/-- The item at a place. -/
def nthI (xs : List It) (i : Nat) : It := xs.getD i zeroIt
/-- The number at a place. (A name of its own: the walk's simp does not look into it.) -/
def nth (xs : List Int) (k : Nat) : Int := xs.getD k 0
def wi (n lo hi : Int) : Bool := decide (lo ≤ n ∧ n ≤ hi)
def cmpI (a b : Int) : Int := if a < b then -1 else if b < a then 1 else 0
def cmpT (x y : It) : Int := if cmpI x.t y.t = 0 then cmpI x.q y.q else cmpI x.t y.t
def itemB (x : It) : Bool := wi x.s 0 1048575 && (wi x.t (-1099511627776) 1099511627776 && (wi x.q 1 1073741823 && wi x.v (-1099511627776) 1099511627776))

theorem wi_true {n lo hi : Int} (h : wi n lo hi = true) : lo ≤ n ∧ n ≤ hi := of_decide_eq_true h
theorem wi_mk {n lo hi : Int} (h : lo ≤ n ∧ n ≤ hi) : wi n lo hi = true := decide_eq_true h
theorem wi_false {n lo hi : Int} (h : ¬ (lo ≤ n ∧ n ≤ hi)) : wi n lo hi = false := decide_eq_false h


def inV (v : Int) : Bool := wi v (-1099511627776) 1099511627776
/-- Bounds that may be. -/
def boundsB (bs : List Int) : Bool := decide (bs.length ≤ 8 ∧ (∀ i, i < bs.length → inV (nth bs i) = true) ∧ ∀ i, i < bs.length - 1 → nth bs i < nth bs (i + 1))
theorem boundsB_true {bs : List Int} (h : boundsB bs = true) : bs.length ≤ 8 ∧ (∀ i, i < bs.length → inV (nth bs i) = true) ∧ ∀ i, i < bs.length - 1 → nth bs i < nth bs (i + 1) := of_decide_eq_true h
theorem boundsB_mk {bs : List Int} (h : bs.length ≤ 8 ∧ (∀ i, i < bs.length → inV (nth bs i) = true) ∧ ∀ i, i < bs.length - 1 → nth bs i < nth bs (i + 1)) : boundsB bs = true := decide_eq_true h
theorem boundsB_false {bs : List Int} (h : ¬ (bs.length ≤ 8 ∧ (∀ i, i < bs.length → inV (nth bs i) = true) ∧ ∀ i, i < bs.length - 1 → nth bs i < nth bs (i + 1))) : boundsB bs = false := decide_eq_false h

/-- The bucket into which a value falls. -/
def bkt : List Int → Int → Nat
  | [], _ => 0
  | b :: r, v => if b < v then bkt r v + 1 else 0
theorem nth_cons_zero (b : Int) (r : List Int) : nth (b :: r) 0 = b := rfl
theorem nth_cons_succ (b : Int) (r : List Int) (k : Nat) : nth (b :: r) (k + 1) = nth r k := by simp [nth]
theorem bkt_le (bs : List Int) (v : Int) : bkt bs v ≤ bs.length := by
  induction bs with
  | nil => simp [bkt]
  | cons b r ih => simp only [bkt, List.length_cons]; split <;> omega
theorem bkt_eq {bs : List Int} {v : Int} {k : Nat} (hk : k ≤ bs.length) (h1 : ∀ i, i < k → nth bs i < v) (h2 : k < bs.length → v ≤ nth bs k) : bkt bs v = k := by
  induction bs generalizing k with
  | nil => simp only [List.length_nil] at hk; simp only [bkt]; omega
  | cons b r ih =>
    cases k with
    | zero =>
      have := h2 (by simp)
      rw [nth_cons_zero] at this
      simp only [bkt]
      rw [if_neg (by omega)]
    | succ k =>
      have h0 := h1 0 (by omega)
      rw [nth_cons_zero] at h0
      simp only [bkt]
      rw [if_pos h0, ih (by simpa using hk) (fun i hi => by have := h1 (i + 1) (by omega); rwa [nth_cons_succ] at this) (fun h => by have := h2 (by simpa using h); rwa [nth_cons_succ] at this)]
/-- Rising from place to place: rising throughout. -/
theorem rising_of {bs : List Int} (h : ∀ i, i < bs.length - 1 → nth bs i < nth bs (i + 1)) : ∀ i j, i < j → j < bs.length → nth bs i < nth bs j := by
  intro i j hij hj
  induction j with
  | zero => omega
  | succ j ih =>
    have h1 := h j (by omega)
    rcases Nat.lt_succ_iff_lt_or_eq.1 hij with h2 | h2
    · have := ih h2 (by omega); omega
    · subst h2; exact h1

end Go.Proofs.Ytdoflmphkalicaa
