/-
  Plain facts: joining does not hang on the row, where no two items tie; nor on where one cuts. No program here.
  Plain facts: what is joined of items of one series fits. No program here.
-/
import Derived.Test.YtjgjbhbpndjnnaaG15
namespace Go.Proofs.Ytjgjbhbpndjnnaa
open Go.RowKit

theorem before_iff {x y : It} : beforeB x y = true ↔ (x.t < y.t ∨ (x.t = y.t ∧ x.q < y.q)) := by simp [beforeB]
theorem before_not {x y : It} : beforeB x y = false ↔ ¬ (x.t < y.t ∨ (x.t = y.t ∧ x.q < y.q)) := by simp [beforeB]
theorem pickF_assoc (x y z : It) : pick (beforeB z (pick (beforeB y x) y x)) z (pick (beforeB y x) y x) = pick (beforeB (pick (beforeB z y) z y) x) (pick (beforeB z y) z y) x := by
  cases h1 : beforeB y x <;> cases h2 : beforeB z y <;> cases h3 : beforeB z x <;> simp only [pick, h1, h2, h3, if_true, if_false, Bool.false_eq_true] <;>
    (simp only [before_iff, before_not] at h1 h2 h3; omega)
theorem pickL_assoc (x y z : It) : pick (beforeB z (pick (beforeB y x) x y)) (pick (beforeB y x) x y) z = pick (beforeB (pick (beforeB z y) y z) x) x (pick (beforeB z y) y z) := by
  cases h1 : beforeB y x <;> cases h2 : beforeB z y <;> cases h3 : beforeB z x <;> simp only [pick, h1, h2, h3, if_true, if_false, Bool.false_eq_true] <;>
    (simp only [before_iff, before_not] at h1 h2 h3; omega)
/-- No two stand at the same place. -/
def Apart (x y : It) : Prop := x.t ≠ y.t ∨ x.q ≠ y.q
theorem pickF_comm (z x y : It) (h : Apart x y) : pick (beforeB y (pick (beforeB x z) x z)) y (pick (beforeB x z) x z) = pick (beforeB x (pick (beforeB y z) y z)) x (pick (beforeB y z) y z) := by
  cases h1 : beforeB x z <;> cases h2 : beforeB y z <;> cases h3 : beforeB y x <;> cases h4 : beforeB x y <;> simp only [pick, h1, h2, h3, h4, if_true, if_false, Bool.false_eq_true] <;>
    (unfold Apart at h; simp only [before_iff, before_not] at h1 h2 h3 h4; omega)
theorem pickL_comm (z x y : It) (h : Apart x y) : pick (beforeB y (pick (beforeB x z) z x)) (pick (beforeB x z) z x) y = pick (beforeB x (pick (beforeB y z) z y)) (pick (beforeB y z) z y) x := by
  cases h1 : beforeB x z <;> cases h2 : beforeB y z <;> cases h3 : beforeB y x <;> cases h4 : beforeB x y <;> simp only [pick, h1, h2, h3, h4, if_true, if_false, Bool.false_eq_true] <;>
    (unfold Apart at h; simp only [before_iff, before_not] at h1 h2 h3 h4; omega)

theorem add_assoc (z a b : Ac) (hz : 0 ≤ z.n) (ha : 0 < a.n) (hl : z.h.length ≤ a.h.length) : addAc (addAc z a) b = addAc z (addAc a b) := by
  have h1 : ¬ a.n = 0 := by omega
  have h2 : ¬ z.n + a.n = 0 := by omega
  by_cases h0 : z.n = 0
  · simp only [addAc, h0, h1, Int.zero_add, if_true, if_false, Ac.mk.injEq, true_and]
    refine ⟨by omega, ?_⟩
    refine nth_ext (by simp) fun i hi => ?_
    have hi' : i < z.h.length := by simpa using hi
    rw [nth_range_map _ _ (by simpa using hi'), nth_range_map _ _ hi', nth_range_map _ _ hi', nth_range_map _ _ (by omega)]
    omega
  · simp only [addAc, h0, h1, h2, if_false, Ac.mk.injEq]
    refine ⟨by omega, by omega, by omega, by omega, pickF_assoc _ _ _, pickL_assoc _ _ _, ?_⟩
    refine nth_ext (by simp) fun i hi => ?_
    have hi' : i < z.h.length := by simpa using hi
    rw [nth_range_map _ _ (by simpa using hi'), nth_range_map _ _ hi', nth_range_map _ _ hi', nth_range_map _ _ (by omega)]
    omega
theorem add_swap (z a b : Ac) (hz : 0 ≤ z.n) (ha : 0 < a.n) (hb : 0 < b.n) (hf : Apart a.f b.f) (hl : Apart a.l b.l) : addAc (addAc z a) b = addAc (addAc z b) a := by
  have h2 : ¬ z.n + a.n = 0 := by omega
  have h3 : ¬ z.n + b.n = 0 := by omega
  have hh : (List.range ((List.range z.h.length).map fun i => nth z.h i + nth a.h i).length).map (fun i => nth ((List.range z.h.length).map fun i => nth z.h i + nth a.h i) i + nth b.h i) =
      (List.range ((List.range z.h.length).map fun i => nth z.h i + nth b.h i).length).map (fun i => nth ((List.range z.h.length).map fun i => nth z.h i + nth b.h i) i + nth a.h i) := by
    refine nth_ext (by simp) fun i hi => ?_
    have hi' : i < z.h.length := by simpa using hi
    rw [nth_range_map _ _ (by simpa using hi'), nth_range_map _ _ hi', nth_range_map _ _ (by simpa using hi'), nth_range_map _ _ hi']
    omega
  by_cases h0 : z.n = 0
  · have h4 : ¬ a.n = 0 := by omega
    have h5 : ¬ b.n = 0 := by omega
    simp only [addAc, h0, h4, h5, Int.zero_add, if_true, if_false, Ac.mk.injEq]
    refine ⟨by omega, by omega, by omega, by omega, ?_, ?_, hh⟩
    · unfold Apart at hf
      cases h6 : beforeB b.f a.f <;> cases h7 : beforeB a.f b.f <;> simp only [pick, if_true, if_false, Bool.false_eq_true] <;> (simp only [before_iff, before_not] at h6 h7; omega)
    · unfold Apart at hl
      cases h6 : beforeB b.l a.l <;> cases h7 : beforeB a.l b.l <;> simp only [pick, if_true, if_false, Bool.false_eq_true] <;> (simp only [before_iff, before_not] at h6 h7; omega)
  · simp only [addAc, h0, h2, h3, if_false, Ac.mk.injEq]
    exact ⟨by omega, by omega, by omega, by omega, pickF_comm _ _ _ hf, pickL_comm _ _ _ hl, hh⟩

theorem step_one (z : Ac) (x : It) (bs : List Int) : joinStep z (oneAc x bs) = addAc z (oneAc x bs) := by
  unfold joinStep; rw [if_neg (by simp only [oneAc]; decide)]
theorem ones_perm {bs : List Int} {xs ys : List It} (p : xs.Perm ys) : (∀ x, x ∈ xs → ∀ y, y ∈ xs → x = y ∨ Apart x y) → ∀ z : Ac, 0 ≤ z.n → (ones bs xs).foldl joinStep z = (ones bs ys).foldl joinStep z := by
  induction p with
  | nil => intro _ z _; rfl
  | cons x p ih =>
    intro h z hz
    simp only [ones, List.map_cons, List.foldl_cons, step_one]
    exact ih (fun a ha b hb => h a (List.mem_cons_of_mem _ ha) b (List.mem_cons_of_mem _ hb)) _ (by simp only [addAc, oneAc]; omega)
  | swap x y l =>
    intro h z hz
    simp only [ones, List.map_cons, List.foldl_cons, step_one]
    rcases h x (by simp) y (by simp) with e | e
    · rw [e]
    · rw [add_swap z (oneAc x bs) (oneAc y bs) hz (by simp only [oneAc]; decide) (by simp only [oneAc]; decide) e e]
  | trans p q ih1 ih2 =>
    intro h z hz
    exact (ih1 h z hz).trans (ih2 (fun a ha b hb => h a (p.mem_iff.2 ha) b (p.mem_iff.2 hb)) z hz)
theorem fold_len {bs : List Int} (xs : List It) : ∀ z : Ac, ((ones bs xs).foldl joinStep z).h.length = z.h.length := by
  induction xs with
  | nil => intro z; rfl
  | cons x r ih => intro z; simp only [ones, List.map_cons, List.foldl_cons, step_one]; exact (ih _).trans (by simp [addAc])
theorem fold_ns {bs : List Int} (xs : List It) : ∀ z : Ac, ((ones bs xs).foldl joinStep z).n = z.n + xs.length := by
  induction xs with
  | nil => intro z; simp [ones]
  | cons x r ih => intro z; simp only [ones, List.map_cons, List.foldl_cons, step_one]; refine (ih _).trans ?_; simp only [addAc, oneAc, List.length_cons]; omega
/-- What has been joined may be joined. -/
theorem step_join_at {bs : List Int} : ∀ (k : Nat) (ys : List It), ys.length = k → ∀ z : Ac, 0 ≤ z.n → z.h.length = bs.length + 1 → joinStep z ((ones bs ys).foldl joinStep (startJ bs)) = (ones bs ys).foldl joinStep z := by
  intro k
  induction k with
  | zero =>
    intro ys hk z _ _
    obtain rfl : ys = [] := List.eq_nil_of_length_eq_zero hk
    simp [ones, joinStep, startJ]
  | succ k ih0 =>
    intro ys hk z hz hl
    have hne : ys ≠ [] := fun e => by rw [e] at hk; simp at hk
    obtain ⟨r, y, rfl⟩ : ∃ r y, ys = r ++ [y] := ⟨_, _, (List.dropLast_concat_getLast hne).symm⟩
    have ih := ih0 r (by simpa using hk)
    have e : ∀ w : Ac, (ones bs (r ++ [y])).foldl joinStep w = addAc ((ones bs r).foldl joinStep w) (oneAc y bs) := fun w => by
      simp only [ones, List.map_append, List.map_cons, List.map_nil, List.foldl_append, List.foldl_cons, List.foldl_nil, step_one]
    rw [e z, e (startJ bs), ← ih z hz hl]
    have hn := fold_ns (bs := bs) r (startJ bs)
    have hn0 : (startJ bs).n = 0 := rfl
    have hlen := (fold_len (bs := bs) r (startJ bs)).trans (start_hlen bs)
    have hpos : ¬ (addAc ((ones bs r).foldl joinStep (startJ bs)) (oneAc y bs)).n = 0 := by simp only [addAc, oneAc]; omega
    by_cases h0 : r.length = 0
    · have : r = [] := List.eq_nil_of_length_eq_zero h0
      subst this
      have e0 : (ones bs []).foldl joinStep (startJ bs) = startJ bs := rfl
      rw [e0] at hpos ⊢
      rw [add_start bs _ (one_hlen _ _)] at hpos ⊢
      simp only [joinStep, hn0, if_true]
      rw [if_neg hpos]
    · have h1 : ¬ ((ones bs r).foldl joinStep (startJ bs)).n = 0 := by omega
      have js : ∀ p q : Ac, joinStep p q = if q.n = 0 then p else addAc p q := fun _ _ => rfl
      rw [js z, js z, if_neg hpos, if_neg h1]
      exact (add_assoc _ _ _ hz (by omega) (by omega)).symm
theorem step_join {bs : List Int} (ys : List It) : ∀ z : Ac, 0 ≤ z.n → z.h.length = bs.length + 1 → joinStep z (joinAc bs (ones bs ys)) = (ones bs ys).foldl joinStep z := step_join_at ys.length ys rfl
/-- Two halves, in either row. -/
theorem join_halves {bs : List Int} (xs ys : List It) (h : ∀ x, x ∈ xs ++ ys → ∀ y, y ∈ xs ++ ys → x = y ∨ Apart x y) :
    joinAc bs [joinAc bs (ones bs ys), joinAc bs (ones bs xs)] = joinAc bs (ones bs (xs ++ ys)) := by
  show joinStep (joinStep (startJ bs) (joinAc bs (ones bs ys))) (joinAc bs (ones bs xs)) = _
  rw [step_join ys (startJ bs) (Int.le_refl 0) (start_hlen bs), step_join xs _ (by rw [fold_ns]; have : (startJ bs).n = 0 := rfl; omega) ((fold_len _ _).trans (start_hlen bs))]
  have e : (ones bs xs).foldl joinStep ((ones bs ys).foldl joinStep (startJ bs)) = (ones bs (ys ++ xs)).foldl joinStep (startJ bs) := by simp [ones, List.foldl_append]
  rw [e]
  exact (ones_perm (List.perm_append_comm) (fun a ha b hb => h a (by simpa [or_comm] using ha) b (by simpa [or_comm] using hb)) _ (Int.le_refl 0))
theorem join_reverse {bs : List Int} (xs : List It) (h : ∀ x, x ∈ xs → ∀ y, y ∈ xs → x = y ∨ Apart x y) : joinAc bs (ones bs xs.reverse) = joinAc bs (ones bs xs) :=
  ones_perm (List.reverse_perm xs) (fun a ha b hb => h a (by simpa using ha) b (by simpa using hb)) _ (Int.le_refl 0)

end Go.Proofs.Ytjgjbhbpndjnnaa

namespace Go.Proofs.Ytjgjbhbpndjnnaa
open Go.RowKit

theorem isum_range_add : ∀ a b : List Int, a.length = b.length → isum ((List.range a.length).map fun i => nth a i + nth b i) = isum a + isum b
  | [], [], _ => rfl
  | x :: a, y :: b, h => by
    have ih := isum_range_add a b (by simpa using h)
    simp only [List.length_cons, List.range_succ_eq_map, List.map_cons, List.map_map, isum, nth_cons_zero]
    have e : ((fun i => nth (x :: a) i + nth (y :: b) i) ∘ Nat.succ) = fun i => nth a i + nth b i := funext fun i => by simp only [Function.comp, Nat.succ_eq_add_one, nth_cons_succ]
    rw [e, ih]; omega
theorem before_no {x y : It} (h : beforeB x y = false) : ¬ (x.t < y.t ∨ (x.t = y.t ∧ x.q < y.q)) := of_decide_eq_false h
theorem before_yes {x y : It} (h : beforeB x y = true) : x.t < y.t ∨ (x.t = y.t ∧ x.q < y.q) := of_decide_eq_true h
theorem pick_s (c : Bool) (x y : It) (h : x.s = y.s) : (pick c x y).s = x.s := by cases c <;> simp [pick, h]
theorem add_one_fit {bs : List Int} {o : Ac} {x : It} (ho : fitB o (bs.length + 1) = true) (hx : itemB x = true) (hs : ¬ o.n = 0 → o.f.s = x.s) (hn : o.n < 8192) :
    fitB (addAc o (oneAc x bs)) (bs.length + 1) = true ∧ (addAc o (oneAc x bs)).f.s = x.s := by
  have h1 := one_fit (bs := bs) hx
  simp only [fitB, Bool.and_eq_true] at ho h1
  obtain ⟨n1, g1, r1⟩ := ho
  obtain ⟨_, g2, _⟩ := h1
  have hg := of_decide_eq_true g1
  have hg2 := of_decide_eq_true g2
  have hw := wi_true n1
  have hv := itemB_iff.1 hx
  have hl : o.h.length = (oneAc x bs).h.length := by have := hg.1; have := hg2.1; omega
  have e2 : histB (addAc o (oneAc x bs)) (bs.length + 1) = true := by
    refine decide_eq_true ⟨by simpa [addAc] using hg.1, fun i hi => ?_, ?_⟩
    · have hi' : i < o.h.length := by simpa [addAc] using hi
      have e : nth (addAc o (oneAc x bs)).h i = nth o.h i + nth (oneAc x bs).h i := nth_range_map _ _ hi'
      have t1 := nth_le_isum (h := o.h) (fun i hi => (hg.2.1 i hi).1) hi'
      have t2 := nth_le_isum (h := (oneAc x bs).h) (fun i hi => (hg2.2.1 i hi).1) (i := i) (by omega)
      have a1 := (hg.2.1 i hi').1
      have a2 := (hg2.2.1 i (by omega)).1
      have a3 : (oneAc x bs).n = 1 := rfl
      rw [e]
      have := hg.2.2; have := hg2.2.2; omega
    · have := isum_range_add o.h (oneAc x bs).h hl
      show isum ((List.range o.h.length).map fun i => nth o.h i + nth (oneAc x bs).h i) = o.n + (oneAc x bs).n
      rw [this, hg.2.2, hg2.2.2]
  have e1 : wi (addAc o (oneAc x bs)).n 0 8192 = true := wi_mk (by simp only [addAc, oneAc]; omega)
  have en : ¬ (addAc o (oneAc x bs)).n = 0 := by simp only [addAc, oneAc]; omega
  by_cases h0 : o.n = 0
  · rw [if_pos h0] at r1
    have hz := of_decide_eq_true r1
    have ef : (addAc o (oneAc x bs)).f = x := by simp only [addAc, oneAc, h0, if_true]
    have el : (addAc o (oneAc x bs)).l = x := by simp only [addAc, oneAc, h0, if_true]
    have e3 : endsB (addAc o (oneAc x bs)) = true := decide_eq_true (by rw [ef, el]; exact ⟨hx, hx, rfl, by simp [beforeB]⟩)
    have e4 : valsB (addAc o (oneAc x bs)) = true := decide_eq_true (by rw [ef, el]; simp only [addAc, oneAc, h0, if_true]; omega)
    exact ⟨by unfold fitB; rw [e1, e2, e3, e4, if_neg en]; rfl, by rw [ef]⟩
  · rw [if_neg h0] at r1
    simp only [Bool.and_eq_true] at r1
    have hE := of_decide_eq_true r1.1
    have hV := of_decide_eq_true r1.2
    have hs' := hs h0
    have ef : (addAc o (oneAc x bs)).f = pick (beforeB x o.f) x o.f := by simp only [addAc, oneAc, h0, if_false]
    have el : (addAc o (oneAc x bs)).l = pick (beforeB x o.l) o.l x := by simp only [addAc, oneAc, h0, if_false]
    have emn : (addAc o (oneAc x bs)).mn = min o.mn x.v := by simp only [addAc, oneAc, h0, if_false]
    have emx : (addAc o (oneAc x bs)).mx = max o.mx x.v := by simp only [addAc, oneAc, h0, if_false]
    have es : (addAc o (oneAc x bs)).s = o.s + x.v := rfl
    have enn : (addAc o (oneAc x bs)).n = o.n + 1 := rfl
    have e3 : endsB (addAc o (oneAc x bs)) = true := decide_eq_true (by
      rw [ef, el]
      have hb := before_no hE.2.2.2
      cases h6 : beforeB x o.f <;> cases h7 : beforeB x o.l <;> simp only [pick, if_true, if_false, Bool.false_eq_true]
      · exact ⟨hE.1, hx, hs', h6⟩
      · exact hE
      · exact ⟨hx, hx, trivial, by simp [beforeB]⟩
      · refine ⟨hx, hE.2.1, by have := hE.2.2.1; omega, ?_⟩
        have h8 := before_yes h7
        exact decide_eq_false (by omega))
    have e4 : valsB (addAc o (oneAc x bs)) = true := decide_eq_true (by
      rw [ef, el, emn, emx, es, enn]
      have m1 : o.n * min o.mn x.v ≤ o.n * o.mn := Int.mul_le_mul_of_nonneg_left (by omega) hw.1
      have m2 : o.n * o.mx ≤ o.n * max o.mx x.v := Int.mul_le_mul_of_nonneg_left (by omega) hw.1
      rw [Int.add_mul, Int.add_mul]
      cases h6 : beforeB x o.f <;> cases h7 : beforeB x o.l <;> simp only [pick, if_true, if_false, Bool.false_eq_true] <;> omega)
    exact ⟨by unfold fitB; rw [e1, e2, e3, e4, if_neg en]; rfl, by rw [ef]; cases beforeB x o.f <;> simp [pick, hs']⟩

/-- What is joined of items of one series fits, and is of that series. -/
theorem fold_fit {bs : List Int} {σ : Int} : ∀ (xs : List It) (z : Ac), (∀ x, x ∈ xs → itemB x = true ∧ x.s = σ) → fitB z (bs.length + 1) = true → (¬ z.n = 0 → z.f.s = σ) → z.n + xs.length ≤ 8192 →
    fitB ((ones bs xs).foldl joinStep z) (bs.length + 1) = true ∧ (¬ ((ones bs xs).foldl joinStep z).n = 0 → ((ones bs xs).foldl joinStep z).f.s = σ)
  | [], z, _, hf, hs, _ => ⟨hf, hs⟩
  | x :: r, z, hx, hf, hs, hn => by
    have h0 := hx x (by simp)
    have e : joinStep z (oneAc x bs) = addAc z (oneAc x bs) := by unfold joinStep; rw [if_neg (by simp only [oneAc]; decide)]
    have hlen : ((x :: r).length : Int) = (r.length : Int) + 1 := by simp
    obtain ⟨f1, f2⟩ := add_one_fit (bs := bs) hf h0.1 (fun h => (hs h).trans h0.2.symm) (by omega)
    simp only [ones, List.map_cons, List.foldl_cons, e]
    exact fold_fit r _ (fun y hy => hx y (List.mem_cons_of_mem _ hy)) f1 (fun _ => f2.trans h0.2) (by show z.n + 1 + _ ≤ _; omega)
theorem join_fit {bs : List Int} {σ : Int} (xs : List It) (hx : ∀ x, x ∈ xs → itemB x = true ∧ x.s = σ) (hn : xs.length ≤ 8192) :
    fitB (joinAc bs (ones bs xs)) (bs.length + 1) = true ∧ (¬ (joinAc bs (ones bs xs)).n = 0 → (joinAc bs (ones bs xs)).f.s = σ) :=
  fold_fit xs (startJ bs) hx (start_fit bs) (fun h => absurd rfl h) (by have : (startJ bs).n = 0 := rfl; omega)

end Go.Proofs.Ytjgjbhbpndjnnaa
