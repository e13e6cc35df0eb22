/-
  Plain facts on what is known of one item, and of some items, one behind the other. No program here.
-/
import Derived.Test.YtdoflmphkalicaaJoinOk
namespace Go.Proofs.Ytdoflmphkalicaa
open Go.RowKit

theorem one_hlen (x : It) (bs : List Int) : (oneAc x bs).h.length = bs.length + 1 := by simp [oneAc]
theorem add_start (bs : List Int) (X : Ac) (h : X.h.length = bs.length + 1) : addAc (startJ bs) X = X := by
  obtain ⟨n, s, mn, mx, f, l, hh⟩ := X
  simp only [addAc, startJ, Int.zero_add, if_true, Ac.mk.injEq, true_and]
  refine nth_ext (by simpa using h.symm) fun i hi => ?_
  have hi' : i < bs.length + 1 := by simpa using hi
  rw [nth_range_map _ _ (by simpa using hi')]
  have e : nth (List.replicate (bs.length + 1) 0) i = 0 := by simp [nth, hi']
  rw [e]; simp
theorem isum_one (n : Nat) {k : Nat} (hk : k < n) : isum ((List.replicate n 0).set k 1) = 1 := by
  have h0 : ∀ n : Nat, isum (List.replicate n 0) = 0 := fun n => by induction n with
    | zero => rfl
    | succ n ih => simp only [List.replicate_succ, isum, ih]; rfl
  induction n generalizing k with
  | zero => omega
  | succ n ih =>
    cases k with
    | zero => simp only [List.replicate_succ, List.set_cons_zero, isum, h0]; rfl
    | succ k =>
      have := ih (k := k) (by omega)
      simp only [List.replicate_succ, List.set_cons_succ, isum, this]; rfl
theorem one_fit {x : It} {bs : List Int} (hx : itemB x = true) : fitB (oneAc x bs) (bs.length + 1) = true := by
  have hk : bkt bs x.v < bs.length + 1 := by have := bkt_le bs x.v; omega
  have hr : ∀ i, i < bs.length + 1 → 0 ≤ nth ((List.replicate (bs.length + 1) 0).set (bkt bs x.v) 1) i ∧ nth ((List.replicate (bs.length + 1) 0).set (bkt bs x.v) 1) i ≤ 8192 := fun i hi => by
    by_cases e : bkt bs x.v = i
    · subst e
      have e2 : nth ((List.replicate (bs.length + 1) 0).set (bkt bs x.v) 1) (bkt bs x.v) = 1 := by simp [nth, hi]
      omega
    · have e2 : nth ((List.replicate (bs.length + 1) 0).set (bkt bs x.v) 1) i = 0 := by simp [nth, e, hi]
      omega
  have hv := itemB_iff.1 hx
  have e1 : wi (oneAc x bs).n 0 8192 = true := wi_mk (by simp only [oneAc]; omega)
  have e2 : histB (oneAc x bs) (bs.length + 1) = true := decide_eq_true ⟨by simp [oneAc], fun i hi => hr i (by simpa [oneAc] using hi), isum_one _ hk⟩
  have e3 : endsB (oneAc x bs) = true := decide_eq_true ⟨hx, hx, rfl, by simp [oneAc, beforeB]⟩
  have e4 : valsB (oneAc x bs) = true := decide_eq_true (by simp only [oneAc]; omega)
  have e5 : ¬ (oneAc x bs).n = 0 := by simp only [oneAc]; decide
  unfold fitB
  rw [e1, e2, e3, e4, if_neg e5]
  rfl
theorem start_fit (bs : List Int) : fitB (startJ bs) (bs.length + 1) = true := by
  have hr : ∀ i, i < bs.length + 1 → nth (List.replicate (bs.length + 1) 0) i = 0 := fun i hi => by simp [nth, hi]
  have h0 : ∀ n : Nat, isum (List.replicate n 0) = 0 := fun n => by induction n with
    | zero => rfl
    | succ n ih => simp only [List.replicate_succ, isum, ih]; rfl
  have e2 : histB (startJ bs) (bs.length + 1) = true := decide_eq_true ⟨by simp [startJ], fun i hi => by
    have := hr i (by simpa [startJ] using hi)
    simp only [startJ]; omega, h0 _⟩
  have e3 : zeroB (startJ bs) = true := decide_eq_true (by simp [startJ, zeroIt])
  have e1 : wi (startJ bs).n 0 8192 = true := wi_mk (by simp only [startJ]; omega)
  have e5 : (startJ bs).n = 0 := rfl
  unfold fitB
  rw [e1, e2, if_pos e5, e3]
  rfl
theorem start_hlen (bs : List Int) : (startJ bs).h.length = bs.length + 1 := by simp [startJ]
theorem one_Fit {x : It} {bs : List Int} (hx : itemB x = true) : Fit (bs.length + 1) (oneAc x bs) := by
  have := one_fit (bs := bs) hx
  exact fit_of (m := bs.length + 1) this

/-! Some items, one behind the other. -/
def ones (bs : List Int) (xs : List It) : List Ac := xs.map (oneAc · bs)
theorem ones_len (bs : List Int) (xs : List It) : (ones bs xs).length = xs.length := by simp [ones]
theorem ones_at (bs : List Int) (xs : List It) {i : Nat} (h : i < xs.length) : nthA (ones bs xs) i = oneAc (nthI xs i) bs := by
  simp [nthA, ones, nthI, h]
theorem isum_rep (n : Nat) : isum (List.replicate n 1) = n := by
  induction n with
  | zero => rfl
  | succ n ih => simp only [List.replicate_succ, isum, ih]; omega
theorem ones_ns (bs : List Int) (xs : List It) : (ones bs xs).map (·.n) = List.replicate xs.length 1 := by
  apply List.ext_getElem
  · simp [ones]
  · intro i h1 h2
    simp [ones, oneAc]
theorem ones_total (bs : List Int) (xs : List It) : totalA (ones bs xs) = xs.length := by
  unfold totalA; rw [ones_ns, isum_rep]
def foldTo (bs : List Int) (xs : List It) (j : Nat) : Ac := joinTo (bs.length + 1) (ones bs xs) j
def foldA (bs : List Int) (xs : List It) : Ac := joinAc bs (ones bs xs)
theorem foldTo_n (bs : List Int) (xs : List It) {j : Nat} (h : j ≤ xs.length) : (foldTo bs xs j).n = j := by
  unfold foldTo
  rw [joinTo_n (by rw [ones_len]; exact h), List.map_take, ones_ns, List.take_replicate, isum_rep]
  omega
theorem foldTo_zero (bs : List Int) (xs : List It) : foldTo bs xs 0 = startJ bs := rfl
theorem foldTo_succ (bs : List Int) (xs : List It) {j : Nat} (h : j < xs.length) : foldTo bs xs (j + 1) = addAc (foldTo bs xs j) (oneAc (nthI xs j) bs) := by
  unfold foldTo
  rw [joinTo_succ (by rw [ones_len]; exact h), ones_at bs xs h]
  have : ¬ (oneAc (nthI xs j) bs).n = 0 := by simp only [oneAc]; decide
  simp only [joinStep, this, if_false]
theorem foldTo_one (bs : List Int) (xs : List It) (h : 0 < xs.length) : foldTo bs xs 1 = oneAc (nthI xs 0) bs := by
  rw [foldTo_succ bs xs h, foldTo_zero, add_start]
  exact one_hlen _ _
theorem foldTo_fit (bs : List Int) (xs : List It) (hx : ∀ i, i < xs.length → itemB (nthI xs i) = true) (hn : xs.length ≤ 8192) {j : Nat} (h : j ≤ xs.length) : Fit (bs.length + 1) (foldTo bs xs j) :=
  joinTo_fit (fun i hi => by rw [ones_len] at hi; rw [ones_at bs xs hi]; exact one_Fit (hx i hi)) (by rw [ones_total]; omega) (by rw [ones_len]; exact h)
theorem foldTo_all (bs : List Int) (xs : List It) {j : Nat} (h : xs.length ≤ j) : foldTo bs xs j = foldA bs xs := joinTo_all (by rw [ones_len]; exact h)

end Go.Proofs.Ytdoflmphkalicaa
