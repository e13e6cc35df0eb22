/-
  Plain facts: what is joined of items of one series fits. No program here.
-/
import Derived.Test.YtjmaeiilkbfnaaaOneP
namespace Go.Proofs.Ytjmaeiilkbfnaaa
open Go.RowKit

theorem isum_range_add : ∀ a b : List Int, a.length = b.length → isum ((List.range a.length).map fun i => nth a i + nth b i) = isum a + isum b
  | [], [], _ => rfl
  | x :: a, y :: b, h => by
    have ih := isum_range_add a b (by simpa using h)
    simp only [List.length_cons, List.range_succ_eq_map, List.map_cons, List.map_map, isum, nth_cons_zero]
    have e : ((fun i => nth (x :: a) i + nth (y :: b) i) ∘ Nat.succ) = fun i => nth a i + nth b i := funext fun i => by simp only [Function.comp, Nat.succ_eq_add_one, nth_cons_succ]
    rw [e, ih]; omega
theorem before_no {x y : It} (h : beforeB x y = false) : ¬ (x.t < y.t ∨ (x.t = y.t ∧ x.q < y.q)) := of_decide_eq_false h
theorem before_yes {x y : It} (h : beforeB x y = true) : x.t < y.t ∨ (x.t = y.t ∧ x.q < y.q) := of_decide_eq_true h
theorem pick_s (c : Bool) (x y : It) (h : x.s = y.s) : (pick c x y).s = x.s := by cases c <;> simp [pick, h]
theorem add_one_fit {bs : List Int} {o : Ac} {x : It} (ho : fitB o (bs.length + 1) = true) (hx : itemB x = true) (hs : ¬ o.n = 0 → o.f.s = x.s) (hn : o.n < 8192) :
    fitB (addAc o (oneAc x bs)) (bs.length + 1) = true ∧ (addAc o (oneAc x bs)).f.s = x.s := by
  have h1 := one_fit (bs := bs) hx
  simp only [fitB, Bool.and_eq_true] at ho h1
  obtain ⟨n1, g1, r1⟩ := ho
  obtain ⟨_, g2, _⟩ := h1
  have hg := of_decide_eq_true g1
  have hg2 := of_decide_eq_true g2
  have hw := wi_true n1
  have hv := itemB_iff.1 hx
  have hl : o.h.length = (oneAc x bs).h.length := by have := hg.1; have := hg2.1; omega
  have e2 : histB (addAc o (oneAc x bs)) (bs.length + 1) = true := by
    refine decide_eq_true ⟨by simpa [addAc] using hg.1, fun i hi => ?_, ?_⟩
    · have hi' : i < o.h.length := by simpa [addAc] using hi
      have e : nth (addAc o (oneAc x bs)).h i = nth o.h i + nth (oneAc x bs).h i := nth_range_map _ _ hi'
      have t1 := nth_le_isum (h := o.h) (fun i hi => (hg.2.1 i hi).1) hi'
      have t2 := nth_le_isum (h := (oneAc x bs).h) (fun i hi => (hg2.2.1 i hi).1) (i := i) (by omega)
      have a1 := (hg.2.1 i hi').1
      have a2 := (hg2.2.1 i (by omega)).1
      have a3 : (oneAc x bs).n = 1 := rfl
      rw [e]
      have := hg.2.2; have := hg2.2.2; omega
    · have := isum_range_add o.h (oneAc x bs).h hl
      show isum ((List.range o.h.length).map fun i => nth o.h i + nth (oneAc x bs).h i) = o.n + (oneAc x bs).n
      rw [this, hg.2.2, hg2.2.2]
  have e1 : wi (addAc o (oneAc x bs)).n 0 8192 = true := wi_mk (by simp only [addAc, oneAc]; omega)
  have en : ¬ (addAc o (oneAc x bs)).n = 0 := by simp only [addAc, oneAc]; omega
  by_cases h0 : o.n = 0
  · rw [if_pos h0] at r1
    have hz := of_decide_eq_true r1
    have ef : (addAc o (oneAc x bs)).f = x := by simp only [addAc, oneAc, h0, if_true]
    have el : (addAc o (oneAc x bs)).l = x := by simp only [addAc, oneAc, h0, if_true]
    have e3 : endsB (addAc o (oneAc x bs)) = true := decide_eq_true (by rw [ef, el]; exact ⟨hx, hx, rfl, by simp [beforeB]⟩)
    have e4 : valsB (addAc o (oneAc x bs)) = true := decide_eq_true (by rw [ef, el]; simp only [addAc, oneAc, h0, if_true]; omega)
    exact ⟨by unfold fitB; rw [e1, e2, e3, e4, if_neg en]; rfl, by rw [ef]⟩
  · rw [if_neg h0] at r1
    simp only [Bool.and_eq_true] at r1
    have hE := of_decide_eq_true r1.1
    have hV := of_decide_eq_true r1.2
    have hs' := hs h0
    have ef : (addAc o (oneAc x bs)).f = pick (beforeB x o.f) x o.f := by simp only [addAc, oneAc, h0, if_false]
    have el : (addAc o (oneAc x bs)).l = pick (beforeB x o.l) o.l x := by simp only [addAc, oneAc, h0, if_false]
    have emn : (addAc o (oneAc x bs)).mn = min o.mn x.v := by simp only [addAc, oneAc, h0, if_false]
    have emx : (addAc o (oneAc x bs)).mx = max o.mx x.v := by simp only [addAc, oneAc, h0, if_false]
    have es : (addAc o (oneAc x bs)).s = o.s + x.v := rfl
    have enn : (addAc o (oneAc x bs)).n = o.n + 1 := rfl
    have e3 : endsB (addAc o (oneAc x bs)) = true := decide_eq_true (by
      rw [ef, el]
      have hb := before_no hE.2.2.2
      cases h6 : beforeB x o.f <;> cases h7 : beforeB x o.l <;> simp only [pick, if_true, if_false, Bool.false_eq_true]
      · exact ⟨hE.1, hx, hs', h6⟩
      · exact hE
      · exact ⟨hx, hx, trivial, by simp [beforeB]⟩
      · refine ⟨hx, hE.2.1, by have := hE.2.2.1; omega, ?_⟩
        have h8 := before_yes h7
        exact decide_eq_false (by omega))
    have e4 : valsB (addAc o (oneAc x bs)) = true := decide_eq_true (by
      rw [ef, el, emn, emx, es, enn]
      have m1 : o.n * min o.mn x.v ≤ o.n * o.mn := Int.mul_le_mul_of_nonneg_left (by omega) hw.1
      have m2 : o.n * o.mx ≤ o.n * max o.mx x.v := Int.mul_le_mul_of_nonneg_left (by omega) hw.1
      rw [Int.add_mul, Int.add_mul]
      cases h6 : beforeB x o.f <;> cases h7 : beforeB x o.l <;> simp only [pick, if_true, if_false, Bool.false_eq_true] <;> omega)
    exact ⟨by unfold fitB; rw [e1, e2, e3, e4, if_neg en]; rfl, by rw [ef]; cases beforeB x o.f <;> simp [pick, hs']⟩

/-- What is joined of items of one series fits, and is of that series. -/
theorem fold_fit {bs : List Int} {σ : Int} : ∀ (xs : List It) (z : Ac), (∀ x, x ∈ xs → itemB x = true ∧ x.s = σ) → fitB z (bs.length + 1) = true → (¬ z.n = 0 → z.f.s = σ) → z.n + xs.length ≤ 8192 →
    fitB ((ones bs xs).foldl joinStep z) (bs.length + 1) = true ∧ (¬ ((ones bs xs).foldl joinStep z).n = 0 → ((ones bs xs).foldl joinStep z).f.s = σ)
  | [], z, _, hf, hs, _ => ⟨hf, hs⟩
  | x :: r, z, hx, hf, hs, hn => by
    have h0 := hx x (by simp)
    have e : joinStep z (oneAc x bs) = addAc z (oneAc x bs) := by unfold joinStep; rw [if_neg (by simp only [oneAc]; decide)]
    have hlen : ((x :: r).length : Int) = (r.length : Int) + 1 := by simp
    obtain ⟨f1, f2⟩ := add_one_fit (bs := bs) hf h0.1 (fun h => (hs h).trans h0.2.symm) (by omega)
    simp only [ones, List.map_cons, List.foldl_cons, e]
    exact fold_fit r _ (fun y hy => hx y (List.mem_cons_of_mem _ hy)) f1 (fun _ => f2.trans h0.2) (by show z.n + 1 + _ ≤ _; omega)
theorem join_fit {bs : List Int} {σ : Int} (xs : List It) (hx : ∀ x, x ∈ xs → itemB x = true ∧ x.s = σ) (hn : xs.length ≤ 8192) :
    fitB (joinAc bs (ones bs xs)) (bs.length + 1) = true ∧ (¬ (joinAc bs (ones bs xs)).n = 0 → (joinAc bs (ones bs xs)).f.s = σ) :=
  fold_fit xs (startJ bs) hx (start_fit bs) (fun h => absurd rfl h) (by have : (startJ bs).n = 0 := rfl; omega)

end Go.Proofs.Ytjmaeiilkbfnaaa
