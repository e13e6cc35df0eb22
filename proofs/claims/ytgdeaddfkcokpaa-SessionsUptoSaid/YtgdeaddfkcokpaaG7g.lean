/-
  Plain facts: what is joined of items of one series fits. No program here.
  Plain facts: joining does not hang on the row, where no two items tie; nor on where one cuts. No program here.
  Plain facts: items by runs of small gaps: blocks of items, each of which hangs together, the gaps between them great. Which blocks there are does not hang on the row in which items come. No program here.
  Plain facts: sessions: which may be; one item more; sessions of items are the runs of their times. No program here.
  Plain facts: parts in the row of their first times, those that hang together joined: the same as one item behind the other. No program here.
-/
import Derived.Test.YtgdeaddfkcokpaaOneP
import Derived.Test.YtgdeaddfkcokpaaPure
import Derived.Test.YtgdeaddfkcokpaaG6a
namespace Go.Proofs.Ytgdeaddfkcokpaa
open Go.RowKit

theorem isum_range_add : ∀ a b : List Int, a.length = b.length → isum ((List.range a.length).map fun i => nth a i + nth b i) = isum a + isum b
  | [], [], _ => rfl
  | x :: a, y :: b, h => by
    have ih := isum_range_add a b (by simpa using h)
    simp only [List.length_cons, List.range_succ_eq_map, List.map_cons, List.map_map, isum, nth_cons_zero]
    have e : ((fun i => nth (x :: a) i + nth (y :: b) i) ∘ Nat.succ) = fun i => nth a i + nth b i := funext fun i => by simp only [Function.comp, Nat.succ_eq_add_one, nth_cons_succ]
    rw [e, ih]; omega
theorem before_no {x y : It} (h : beforeB x y = false) : ¬ (x.t < y.t ∨ (x.t = y.t ∧ x.q < y.q)) := of_decide_eq_false h
theorem before_yes {x y : It} (h : beforeB x y = true) : x.t < y.t ∨ (x.t = y.t ∧ x.q < y.q) := of_decide_eq_true h
theorem pick_s (c : Bool) (x y : It) (h : x.s = y.s) : (pick c x y).s = x.s := by cases c <;> simp [pick, h]
theorem add_one_fit {bs : List Int} {o : Ac} {x : It} (ho : fitB o (bs.length + 1) = true) (hx : itemB x = true) (hs : ¬ o.n = 0 → o.f.s = x.s) (hn : o.n < 8192) :
    fitB (addAc o (oneAc x bs)) (bs.length + 1) = true ∧ (addAc o (oneAc x bs)).f.s = x.s := by
  have h1 := one_fit (bs := bs) hx
  simp only [fitB, Bool.and_eq_true] at ho h1
  obtain ⟨n1, g1, r1⟩ := ho
  obtain ⟨_, g2, _⟩ := h1
  have hg := of_decide_eq_true g1
  have hg2 := of_decide_eq_true g2
  have hw := wi_true n1
  have hv := itemB_iff.1 hx
  have hl : o.h.length = (oneAc x bs).h.length := by have := hg.1; have := hg2.1; omega
  have e2 : histB (addAc o (oneAc x bs)) (bs.length + 1) = true := by
    refine decide_eq_true ⟨by simpa [addAc] using hg.1, fun i hi => ?_, ?_⟩
    · have hi' : i < o.h.length := by simpa [addAc] using hi
      have e : nth (addAc o (oneAc x bs)).h i = nth o.h i + nth (oneAc x bs).h i := nth_range_map _ _ hi'
      have t1 := nth_le_isum (h := o.h) (fun i hi => (hg.2.1 i hi).1) hi'
      have t2 := nth_le_isum (h := (oneAc x bs).h) (fun i hi => (hg2.2.1 i hi).1) (i := i) (by omega)
      have a1 := (hg.2.1 i hi').1
      have a2 := (hg2.2.1 i (by omega)).1
      have a3 : (oneAc x bs).n = 1 := rfl
      rw [e]
      have := hg.2.2; have := hg2.2.2; omega
    · have := isum_range_add o.h (oneAc x bs).h hl
      show isum ((List.range o.h.length).map fun i => nth o.h i + nth (oneAc x bs).h i) = o.n + (oneAc x bs).n
      rw [this, hg.2.2, hg2.2.2]
  have e1 : wi (addAc o (oneAc x bs)).n 0 8192 = true := wi_mk (by simp only [addAc, oneAc]; omega)
  have en : ¬ (addAc o (oneAc x bs)).n = 0 := by simp only [addAc, oneAc]; omega
  by_cases h0 : o.n = 0
  · rw [if_pos h0] at r1
    have hz := of_decide_eq_true r1
    have ef : (addAc o (oneAc x bs)).f = x := by simp only [addAc, oneAc, h0, if_true]
    have el : (addAc o (oneAc x bs)).l = x := by simp only [addAc, oneAc, h0, if_true]
    have e3 : endsB (addAc o (oneAc x bs)) = true := decide_eq_true (by rw [ef, el]; exact ⟨hx, hx, rfl, by simp [beforeB]⟩)
    have e4 : valsB (addAc o (oneAc x bs)) = true := decide_eq_true (by rw [ef, el]; simp only [addAc, oneAc, h0, if_true]; omega)
    exact ⟨by unfold fitB; rw [e1, e2, e3, e4, if_neg en]; rfl, by rw [ef]⟩
  · rw [if_neg h0] at r1
    simp only [Bool.and_eq_true] at r1
    have hE := of_decide_eq_true r1.1
    have hV := of_decide_eq_true r1.2
    have hs' := hs h0
    have ef : (addAc o (oneAc x bs)).f = pick (beforeB x o.f) x o.f := by simp only [addAc, oneAc, h0, if_false]
    have el : (addAc o (oneAc x bs)).l = pick (beforeB x o.l) o.l x := by simp only [addAc, oneAc, h0, if_false]
    have emn : (addAc o (oneAc x bs)).mn = min o.mn x.v := by simp only [addAc, oneAc, h0, if_false]
    have emx : (addAc o (oneAc x bs)).mx = max o.mx x.v := by simp only [addAc, oneAc, h0, if_false]
    have es : (addAc o (oneAc x bs)).s = o.s + x.v := rfl
    have enn : (addAc o (oneAc x bs)).n = o.n + 1 := rfl
    have e3 : endsB (addAc o (oneAc x bs)) = true := decide_eq_true (by
      rw [ef, el]
      have hb := before_no hE.2.2.2
      cases h6 : beforeB x o.f <;> cases h7 : beforeB x o.l <;> simp only [pick, if_true, if_false, Bool.false_eq_true]
      · exact ⟨hE.1, hx, hs', h6⟩
      · exact hE
      · exact ⟨hx, hx, trivial, by simp [beforeB]⟩
      · refine ⟨hx, hE.2.1, by have := hE.2.2.1; omega, ?_⟩
        have h8 := before_yes h7
        exact decide_eq_false (by omega))
    have e4 : valsB (addAc o (oneAc x bs)) = true := decide_eq_true (by
      rw [ef, el, emn, emx, es, enn]
      have m1 : o.n * min o.mn x.v ≤ o.n * o.mn := Int.mul_le_mul_of_nonneg_left (by omega) hw.1
      have m2 : o.n * o.mx ≤ o.n * max o.mx x.v := Int.mul_le_mul_of_nonneg_left (by omega) hw.1
      rw [Int.add_mul, Int.add_mul]
      cases h6 : beforeB x o.f <;> cases h7 : beforeB x o.l <;> simp only [pick, if_true, if_false, Bool.false_eq_true] <;> omega)
    exact ⟨by unfold fitB; rw [e1, e2, e3, e4, if_neg en]; rfl, by rw [ef]; cases beforeB x o.f <;> simp [pick, hs']⟩

/-- What is joined of items of one series fits, and is of that series. -/
theorem fold_fit {bs : List Int} {σ : Int} : ∀ (xs : List It) (z : Ac), (∀ x, x ∈ xs → itemB x = true ∧ x.s = σ) → fitB z (bs.length + 1) = true → (¬ z.n = 0 → z.f.s = σ) → z.n + xs.length ≤ 8192 →
    fitB ((ones bs xs).foldl joinStep z) (bs.length + 1) = true ∧ (¬ ((ones bs xs).foldl joinStep z).n = 0 → ((ones bs xs).foldl joinStep z).f.s = σ)
  | [], z, _, hf, hs, _ => ⟨hf, hs⟩
  | x :: r, z, hx, hf, hs, hn => by
    have h0 := hx x (by simp)
    have e : joinStep z (oneAc x bs) = addAc z (oneAc x bs) := by unfold joinStep; rw [if_neg (by simp only [oneAc]; decide)]
    have hlen : ((x :: r).length : Int) = (r.length : Int) + 1 := by simp
    obtain ⟨f1, f2⟩ := add_one_fit (bs := bs) hf h0.1 (fun h => (hs h).trans h0.2.symm) (by omega)
    simp only [ones, List.map_cons, List.foldl_cons, e]
    exact fold_fit r _ (fun y hy => hx y (List.mem_cons_of_mem _ hy)) f1 (fun _ => f2.trans h0.2) (by show z.n + 1 + _ ≤ _; omega)
theorem join_fit {bs : List Int} {σ : Int} (xs : List It) (hx : ∀ x, x ∈ xs → itemB x = true ∧ x.s = σ) (hn : xs.length ≤ 8192) :
    fitB (joinAc bs (ones bs xs)) (bs.length + 1) = true ∧ (¬ (joinAc bs (ones bs xs)).n = 0 → (joinAc bs (ones bs xs)).f.s = σ) :=
  fold_fit xs (startJ bs) hx (start_fit bs) (fun h => absurd rfl h) (by have : (startJ bs).n = 0 := rfl; omega)

end Go.Proofs.Ytgdeaddfkcokpaa

namespace Go.Proofs.Ytgdeaddfkcokpaa
open Go.RowKit

theorem before_iff {x y : It} : beforeB x y = true ↔ (x.t < y.t ∨ (x.t = y.t ∧ x.q < y.q)) := by simp [beforeB]
theorem before_not {x y : It} : beforeB x y = false ↔ ¬ (x.t < y.t ∨ (x.t = y.t ∧ x.q < y.q)) := by simp [beforeB]
theorem pickF_assoc (x y z : It) : pick (beforeB z (pick (beforeB y x) y x)) z (pick (beforeB y x) y x) = pick (beforeB (pick (beforeB z y) z y) x) (pick (beforeB z y) z y) x := by
  cases h1 : beforeB y x <;> cases h2 : beforeB z y <;> cases h3 : beforeB z x <;> simp only [pick, h1, h2, h3, if_true, if_false, Bool.false_eq_true] <;>
    (simp only [before_iff, before_not] at h1 h2 h3; omega)
theorem pickL_assoc (x y z : It) : pick (beforeB z (pick (beforeB y x) x y)) (pick (beforeB y x) x y) z = pick (beforeB (pick (beforeB z y) y z) x) x (pick (beforeB z y) y z) := by
  cases h1 : beforeB y x <;> cases h2 : beforeB z y <;> cases h3 : beforeB z x <;> simp only [pick, h1, h2, h3, if_true, if_false, Bool.false_eq_true] <;>
    (simp only [before_iff, before_not] at h1 h2 h3; omega)
/-- No two stand at the same place. -/
def Apart (x y : It) : Prop := x.t ≠ y.t ∨ x.q ≠ y.q
theorem pickF_comm (z x y : It) (h : Apart x y) : pick (beforeB y (pick (beforeB x z) x z)) y (pick (beforeB x z) x z) = pick (beforeB x (pick (beforeB y z) y z)) x (pick (beforeB y z) y z) := by
  cases h1 : beforeB x z <;> cases h2 : beforeB y z <;> cases h3 : beforeB y x <;> cases h4 : beforeB x y <;> simp only [pick, h1, h2, h3, h4, if_true, if_false, Bool.false_eq_true] <;>
    (unfold Apart at h; simp only [before_iff, before_not] at h1 h2 h3 h4; omega)
theorem pickL_comm (z x y : It) (h : Apart x y) : pick (beforeB y (pick (beforeB x z) z x)) (pick (beforeB x z) z x) y = pick (beforeB x (pick (beforeB y z) z y)) (pick (beforeB y z) z y) x := by
  cases h1 : beforeB x z <;> cases h2 : beforeB y z <;> cases h3 : beforeB y x <;> cases h4 : beforeB x y <;> simp only [pick, h1, h2, h3, h4, if_true, if_false, Bool.false_eq_true] <;>
    (unfold Apart at h; simp only [before_iff, before_not] at h1 h2 h3 h4; omega)

theorem add_assoc (z a b : Ac) (hz : 0 ≤ z.n) (ha : 0 < a.n) (hl : z.h.length ≤ a.h.length) : addAc (addAc z a) b = addAc z (addAc a b) := by
  have h1 : ¬ a.n = 0 := by omega
  have h2 : ¬ z.n + a.n = 0 := by omega
  by_cases h0 : z.n = 0
  · simp only [addAc, h0, h1, Int.zero_add, if_true, if_false, Ac.mk.injEq, true_and]
    refine ⟨by omega, ?_⟩
    refine nth_ext (by simp) fun i hi => ?_
    have hi' : i < z.h.length := by simpa using hi
    rw [nth_range_map _ _ (by simpa using hi'), nth_range_map _ _ hi', nth_range_map _ _ hi', nth_range_map _ _ (by omega)]
    omega
  · simp only [addAc, h0, h1, h2, if_false, Ac.mk.injEq]
    refine ⟨by omega, by omega, by omega, by omega, pickF_assoc _ _ _, pickL_assoc _ _ _, ?_⟩
    refine nth_ext (by simp) fun i hi => ?_
    have hi' : i < z.h.length := by simpa using hi
    rw [nth_range_map _ _ (by simpa using hi'), nth_range_map _ _ hi', nth_range_map _ _ hi', nth_range_map _ _ (by omega)]
    omega
theorem add_swap (z a b : Ac) (hz : 0 ≤ z.n) (ha : 0 < a.n) (hb : 0 < b.n) (hf : Apart a.f b.f) (hl : Apart a.l b.l) : addAc (addAc z a) b = addAc (addAc z b) a := by
  have h2 : ¬ z.n + a.n = 0 := by omega
  have h3 : ¬ z.n + b.n = 0 := by omega
  have hh : (List.range ((List.range z.h.length).map fun i => nth z.h i + nth a.h i).length).map (fun i => nth ((List.range z.h.length).map fun i => nth z.h i + nth a.h i) i + nth b.h i) =
      (List.range ((List.range z.h.length).map fun i => nth z.h i + nth b.h i).length).map (fun i => nth ((List.range z.h.length).map fun i => nth z.h i + nth b.h i) i + nth a.h i) := by
    refine nth_ext (by simp) fun i hi => ?_
    have hi' : i < z.h.length := by simpa using hi
    rw [nth_range_map _ _ (by simpa using hi'), nth_range_map _ _ hi', nth_range_map _ _ (by simpa using hi'), nth_range_map _ _ hi']
    omega
  by_cases h0 : z.n = 0
  · have h4 : ¬ a.n = 0 := by omega
    have h5 : ¬ b.n = 0 := by omega
    simp only [addAc, h0, h4, h5, Int.zero_add, if_true, if_false, Ac.mk.injEq]
    refine ⟨by omega, by omega, by omega, by omega, ?_, ?_, hh⟩
    · unfold Apart at hf
      cases h6 : beforeB b.f a.f <;> cases h7 : beforeB a.f b.f <;> simp only [pick, if_true, if_false, Bool.false_eq_true] <;> (simp only [before_iff, before_not] at h6 h7; omega)
    · unfold Apart at hl
      cases h6 : beforeB b.l a.l <;> cases h7 : beforeB a.l b.l <;> simp only [pick, if_true, if_false, Bool.false_eq_true] <;> (simp only [before_iff, before_not] at h6 h7; omega)
  · simp only [addAc, h0, h2, h3, if_false, Ac.mk.injEq]
    exact ⟨by omega, by omega, by omega, by omega, pickF_comm _ _ _ hf, pickL_comm _ _ _ hl, hh⟩

theorem step_one (z : Ac) (x : It) (bs : List Int) : joinStep z (oneAc x bs) = addAc z (oneAc x bs) := by
  unfold joinStep; rw [if_neg (by simp only [oneAc]; decide)]
theorem ones_perm {bs : List Int} {xs ys : List It} (p : xs.Perm ys) : (∀ x, x ∈ xs → ∀ y, y ∈ xs → x = y ∨ Apart x y) → ∀ z : Ac, 0 ≤ z.n → (ones bs xs).foldl joinStep z = (ones bs ys).foldl joinStep z := by
  induction p with
  | nil => intro _ z _; rfl
  | cons x p ih =>
    intro h z hz
    simp only [ones, List.map_cons, List.foldl_cons, step_one]
    exact ih (fun a ha b hb => h a (List.mem_cons_of_mem _ ha) b (List.mem_cons_of_mem _ hb)) _ (by simp only [addAc, oneAc]; omega)
  | swap x y l =>
    intro h z hz
    simp only [ones, List.map_cons, List.foldl_cons, step_one]
    rcases h x (by simp) y (by simp) with e | e
    · rw [e]
    · rw [add_swap z (oneAc x bs) (oneAc y bs) hz (by simp only [oneAc]; decide) (by simp only [oneAc]; decide) e e]
  | trans p q ih1 ih2 =>
    intro h z hz
    exact (ih1 h z hz).trans (ih2 (fun a ha b hb => h a (p.mem_iff.2 ha) b (p.mem_iff.2 hb)) z hz)
theorem fold_len {bs : List Int} (xs : List It) : ∀ z : Ac, ((ones bs xs).foldl joinStep z).h.length = z.h.length := by
  induction xs with
  | nil => intro z; rfl
  | cons x r ih => intro z; simp only [ones, List.map_cons, List.foldl_cons, step_one]; exact (ih _).trans (by simp [addAc])
theorem fold_ns {bs : List Int} (xs : List It) : ∀ z : Ac, ((ones bs xs).foldl joinStep z).n = z.n + xs.length := by
  induction xs with
  | nil => intro z; simp [ones]
  | cons x r ih => intro z; simp only [ones, List.map_cons, List.foldl_cons, step_one]; refine (ih _).trans ?_; simp only [addAc, oneAc, List.length_cons]; omega
/-- What has been joined may be joined. -/
theorem step_join_at {bs : List Int} : ∀ (k : Nat) (ys : List It), ys.length = k → ∀ z : Ac, 0 ≤ z.n → z.h.length = bs.length + 1 → joinStep z ((ones bs ys).foldl joinStep (startJ bs)) = (ones bs ys).foldl joinStep z := by
  intro k
  induction k with
  | zero =>
    intro ys hk z _ _
    obtain rfl : ys = [] := List.eq_nil_of_length_eq_zero hk
    simp [ones, joinStep, startJ]
  | succ k ih0 =>
    intro ys hk z hz hl
    have hne : ys ≠ [] := fun e => by rw [e] at hk; simp at hk
    obtain ⟨r, y, rfl⟩ : ∃ r y, ys = r ++ [y] := ⟨_, _, (List.dropLast_concat_getLast hne).symm⟩
    have ih := ih0 r (by simpa using hk)
    have e : ∀ w : Ac, (ones bs (r ++ [y])).foldl joinStep w = addAc ((ones bs r).foldl joinStep w) (oneAc y bs) := fun w => by
      simp only [ones, List.map_append, List.map_cons, List.map_nil, List.foldl_append, List.foldl_cons, List.foldl_nil, step_one]
    rw [e z, e (startJ bs), ← ih z hz hl]
    have hn := fold_ns (bs := bs) r (startJ bs)
    have hn0 : (startJ bs).n = 0 := rfl
    have hlen := (fold_len (bs := bs) r (startJ bs)).trans (start_hlen bs)
    have hpos : ¬ (addAc ((ones bs r).foldl joinStep (startJ bs)) (oneAc y bs)).n = 0 := by simp only [addAc, oneAc]; omega
    by_cases h0 : r.length = 0
    · have : r = [] := List.eq_nil_of_length_eq_zero h0
      subst this
      have e0 : (ones bs []).foldl joinStep (startJ bs) = startJ bs := rfl
      rw [e0] at hpos ⊢
      rw [add_start bs _ (one_hlen _ _)] at hpos ⊢
      simp only [joinStep, hn0, if_true]
      rw [if_neg hpos]
    · have h1 : ¬ ((ones bs r).foldl joinStep (startJ bs)).n = 0 := by omega
      have js : ∀ p q : Ac, joinStep p q = if q.n = 0 then p else addAc p q := fun _ _ => rfl
      rw [js z, js z, if_neg hpos, if_neg h1]
      exact (add_assoc _ _ _ hz (by omega) (by omega)).symm
theorem step_join {bs : List Int} (ys : List It) : ∀ z : Ac, 0 ≤ z.n → z.h.length = bs.length + 1 → joinStep z (joinAc bs (ones bs ys)) = (ones bs ys).foldl joinStep z := step_join_at ys.length ys rfl
/-- Two halves, in either row. -/
theorem join_halves {bs : List Int} (xs ys : List It) (h : ∀ x, x ∈ xs ++ ys → ∀ y, y ∈ xs ++ ys → x = y ∨ Apart x y) :
    joinAc bs [joinAc bs (ones bs ys), joinAc bs (ones bs xs)] = joinAc bs (ones bs (xs ++ ys)) := by
  show joinStep (joinStep (startJ bs) (joinAc bs (ones bs ys))) (joinAc bs (ones bs xs)) = _
  rw [step_join ys (startJ bs) (Int.le_refl 0) (start_hlen bs), step_join xs _ (by rw [fold_ns]; have : (startJ bs).n = 0 := rfl; omega) ((fold_len _ _).trans (start_hlen bs))]
  have e : (ones bs xs).foldl joinStep ((ones bs ys).foldl joinStep (startJ bs)) = (ones bs (ys ++ xs)).foldl joinStep (startJ bs) := by simp [ones, List.foldl_append]
  rw [e]
  exact (ones_perm (List.perm_append_comm) (fun a ha b hb => h a (by simpa [or_comm] using ha) b (by simpa [or_comm] using hb)) _ (Int.le_refl 0))
theorem join_reverse {bs : List Int} (xs : List It) (h : ∀ x, x ∈ xs → ∀ y, y ∈ xs → x = y ∨ Apart x y) : joinAc bs (ones bs xs.reverse) = joinAc bs (ones bs xs) :=
  ones_perm (List.reverse_perm xs) (fun a ha b hb => h a (by simpa using ha) b (by simpa using hb)) _ (Int.le_refl 0)

end Go.Proofs.Ytgdeaddfkcokpaa

namespace Go.Proofs.Ytgdeaddfkcokpaa

/-- Between items with gaps below g: wherever one cuts the times, two items close to the cut are near. -/
def Conn (g : Int) (B : List It) : Prop := ∀ c : Int, (∃ y, y ∈ B ∧ y.t ≤ c) → (∃ z, z ∈ B ∧ c < z.t) → ∃ y z, y ∈ B ∧ z ∈ B ∧ y.t ≤ c ∧ c < z.t ∧ z.t - y.t < g
/-- Blocks in their row. -/
def Runs (g : Int) : List (List It) → Prop
  | [] => True
  | B :: Bs => B ≠ [] ∧ Conn g B ∧ (∀ x, x ∈ B → ∀ y, y ∈ Bs.flatten → x.t + g ≤ y.t) ∧ Runs g Bs
def SameBlocks : List (List It) → List (List It) → Prop
  | [], [] => True
  | A :: As, B :: Bs => A.Perm B ∧ SameBlocks As Bs
  | _, _ => False

theorem top_of {B : List It} (h : B ≠ []) : ∃ a, a ∈ B ∧ ∀ y, y ∈ B → y.t ≤ a.t := by
  induction B with
  | nil => exact absurd rfl h
  | cons x r ih =>
    by_cases hr : r = []
    · subst hr
      exact ⟨x, by simp, fun y hy => by simp at hy; rw [hy]; exact Int.le_refl _⟩
    · obtain ⟨a, ha, hm⟩ := ih hr
      by_cases hx : x.t ≤ a.t
      · exact ⟨a, by simp [ha], fun y hy => by
          rcases List.mem_cons.1 hy with rfl | hy
          · exact hx
          · exact hm y hy⟩
      · exact ⟨x, by simp, fun y hy => by
          rcases List.mem_cons.1 hy with rfl | hy
          · exact Int.le_refl _
          · have := hm y hy; omega⟩
theorem bot_of {B : List It} (h : B ≠ []) : ∃ a, a ∈ B ∧ ∀ y, y ∈ B → a.t ≤ y.t := by
  induction B with
  | nil => exact absurd rfl h
  | cons x r ih =>
    by_cases hr : r = []
    · subst hr
      exact ⟨x, by simp, fun y hy => by simp at hy; rw [hy]; exact Int.le_refl _⟩
    · obtain ⟨a, ha, hm⟩ := ih hr
      by_cases hx : a.t ≤ x.t
      · exact ⟨a, by simp [ha], fun y hy => by
          rcases List.mem_cons.1 hy with rfl | hy
          · exact hx
          · exact hm y hy⟩
      · exact ⟨x, by simp, fun y hy => by
          rcases List.mem_cons.1 hy with rfl | hy
          · exact Int.le_refl _
          · have := hm y hy; omega⟩
theorem conn_one (g : Int) (x : It) : Conn g [x] := fun c ⟨y, hy, h1⟩ ⟨z, hz, h2⟩ => by
  simp only [List.mem_singleton] at hy hz
  subst hy hz
  omega
theorem conn_append {g : Int} {A C : List It} (hA : Conn g A) (hC : Conn g C) {a c : It} (ha : a ∈ A) (hc : c ∈ C) (h1 : a.t - c.t < g) (h2 : c.t - a.t < g) : Conn g (A ++ C) := by
  intro k ⟨y, hy, hyk⟩ ⟨z, hz, hzk⟩
  by_cases a1 : a.t ≤ k
  · by_cases c1 : c.t ≤ k
    · rcases List.mem_append.1 hz with hz | hz
      · obtain ⟨p, q, m1, m2, r⟩ := hA k ⟨a, ha, a1⟩ ⟨z, hz, hzk⟩
        exact ⟨p, q, List.mem_append_left _ m1, List.mem_append_left _ m2, r⟩
      · obtain ⟨p, q, m1, m2, r⟩ := hC k ⟨c, hc, c1⟩ ⟨z, hz, hzk⟩
        exact ⟨p, q, List.mem_append_right _ m1, List.mem_append_right _ m2, r⟩
    · exact ⟨a, c, List.mem_append_left _ ha, List.mem_append_right _ hc, a1, by omega, h2⟩
  · by_cases c1 : c.t ≤ k
    · exact ⟨c, a, List.mem_append_right _ hc, List.mem_append_left _ ha, c1, by omega, h1⟩
    · rcases List.mem_append.1 hy with hy | hy
      · obtain ⟨p, q, m1, m2, r⟩ := hA k ⟨y, hy, hyk⟩ ⟨a, ha, by omega⟩
        exact ⟨p, q, List.mem_append_left _ m1, List.mem_append_left _ m2, r⟩
      · obtain ⟨p, q, m1, m2, r⟩ := hC k ⟨y, hy, hyk⟩ ⟨c, hc, by omega⟩
        exact ⟨p, q, List.mem_append_right _ m1, List.mem_append_right _ m2, r⟩
/-- A block that has items on both sides of an item's reach has one within it. -/
theorem conn_near {g t : Int} {B : List It} (h : Conn g B) (h1 : ∃ y, y ∈ B ∧ t - g < y.t) (h2 : ∃ y, y ∈ B ∧ y.t < t + g) : ∃ y, y ∈ B ∧ t - g < y.t ∧ y.t < t + g := by
  obtain ⟨y1, m1, e1⟩ := h1
  obtain ⟨y2, m2, e2⟩ := h2
  by_cases a1 : y1.t < t + g
  · exact ⟨y1, m1, e1, a1⟩
  · by_cases a2 : t - g < y2.t
    · exact ⟨y2, m2, a2, e2⟩
    · obtain ⟨p, q, _, m4, r1, r2, r3⟩ := h t ⟨y2, m2, by omega⟩ ⟨y1, m1, by omega⟩
      exact ⟨q, m4, by omega, by omega⟩

/-! One item more. -/
def outR (g : Int) (x : It) (B : List It) : Bool := B.all fun y => decide (y.t ≤ x.t - g)
def behR (g : Int) (x : It) (B : List It) : Bool := B.all fun y => decide (x.t + g ≤ y.t)
def addR (g : Int) (x : It) (Bs : List (List It)) : List (List It) :=
  Bs.filter (outR g x) ++ [(Bs.filter fun B => !outR g x B && !behR g x B).flatten ++ [x]] ++ Bs.filter fun B => !outR g x B && behR g x B
theorem outR_iff {g : Int} {x : It} {B : List It} : outR g x B = true ↔ ∀ y, y ∈ B → y.t ≤ x.t - g := by simp [outR]
theorem behR_iff {g : Int} {x : It} {B : List It} : behR g x B = true ↔ ∀ y, y ∈ B → x.t + g ≤ y.t := by simp [behR]
theorem outR_no {g : Int} {x : It} {B : List It} (h : outR g x B = false) : ∃ y, y ∈ B ∧ x.t - g < y.t := by
  have : ¬ ∀ y, y ∈ B → y.t ≤ x.t - g := fun h2 => by rw [outR_iff.2 h2] at h; cases h
  obtain ⟨y, hy⟩ := Classical.not_forall.1 this
  obtain ⟨hm, hn⟩ := Classical.not_imp.1 hy
  exact ⟨y, hm, by omega⟩
theorem behR_no {g : Int} {x : It} {B : List It} (h : behR g x B = false) : ∃ y, y ∈ B ∧ y.t < x.t + g := by
  have : ¬ ∀ y, y ∈ B → x.t + g ≤ y.t := fun h2 => by rw [behR_iff.2 h2] at h; cases h
  obtain ⟨y, hy⟩ := Classical.not_forall.1 this
  obtain ⟨hm, hn⟩ := Classical.not_imp.1 hy
  exact ⟨y, hm, by omega⟩
theorem mem_flat {B : List It} {Bs : List (List It)} (hB : B ∈ Bs) {y : It} (hy : y ∈ B) : y ∈ Bs.flatten := List.mem_flatten.2 ⟨B, hB, hy⟩
theorem runs_ne {g : Int} {Bs : List (List It)} (h : Runs g Bs) {B : List It} (hB : B ∈ Bs) : B ≠ [] := by
  induction Bs with
  | nil => cases hB
  | cons A As ih =>
    rcases List.mem_cons.1 hB with rfl | hB
    · exact h.1
    · exact ih h.2.2.2 hB
theorem runs_conn {g : Int} {Bs : List (List It)} (h : Runs g Bs) {B : List It} (hB : B ∈ Bs) : Conn g B := by
  induction Bs with
  | nil => cases hB
  | cons A As ih =>
    rcases List.mem_cons.1 hB with rfl | hB
    · exact h.2.1
    · exact ih h.2.2.2 hB
theorem addR_out {g : Int} {x : It} {B : List It} {Bs : List (List It)} (h : outR g x B = true) : addR g x (B :: Bs) = B :: addR g x Bs := by
  simp [addR, h]
/-- Blocks behind one that is not out are not out. -/
theorem later_no {g : Int} (hg : 0 < g) {x : It} {B : List It} {Bs : List (List It)} (hR : Runs g (B :: Bs)) (h : outR g x B = false) : ∀ C, C ∈ Bs → outR g x C = false := fun C hC => by
  obtain ⟨y, hy, e⟩ := outR_no h
  have hne := runs_ne hR.2.2.2 hC
  obtain ⟨z, hz⟩ := List.exists_mem_of_ne_nil C hne
  cases ho : outR g x C with
  | false => rfl
  | true =>
    have h1 := outR_iff.1 ho z hz
    have h2 := hR.2.2.1 y hy z (mem_flat hC hz)
    omega
theorem later_beh {g : Int} (hg : 0 < g) {x : It} {B : List It} {Bs : List (List It)} (hR : Runs g (B :: Bs)) (h : behR g x B = true) : ∀ C, C ∈ Bs → behR g x C = true := fun C hC => by
  refine behR_iff.2 fun z hz => ?_
  obtain ⟨y, hy⟩ := List.exists_mem_of_ne_nil B hR.1
  have h1 := behR_iff.1 h y hy
  have h2 := hR.2.2.1 y hy z (mem_flat hC hz)
  omega
theorem filter_none {α : Type} {p : α → Bool} {l : List α} (h : ∀ a, a ∈ l → p a = false) : l.filter p = [] := by
  induction l with
  | nil => rfl
  | cons a r ih => rw [List.filter_cons, h a (by simp)]; exact ih fun b hb => h b (by simp [hb])
theorem filter_whole {α : Type} {p : α → Bool} {l : List α} (h : ∀ a, a ∈ l → p a = true) : l.filter p = l := by
  induction l with
  | nil => rfl
  | cons a r ih => rw [List.filter_cons, h a (by simp), if_pos rfl, ih fun b hb => h b (by simp [hb])]
theorem addR_beh {g : Int} (hg : 0 < g) {x : It} {B : List It} {Bs : List (List It)} (hR : Runs g (B :: Bs)) (h1 : outR g x B = false) (h2 : behR g x B = true) : addR g x (B :: Bs) = [x] :: B :: Bs := by
  have n1 := later_no hg hR h1
  have n2 := later_beh hg hR h2
  have a1 : (B :: Bs).filter (outR g x) = [] := filter_none fun C hC => by
    rcases List.mem_cons.1 hC with rfl | hC
    · exact h1
    · exact n1 C hC
  have a2 : ((B :: Bs).filter fun B => !outR g x B && !behR g x B) = [] := filter_none fun C hC => by
    rcases List.mem_cons.1 hC with rfl | hC
    · rw [h1, h2]; rfl
    · rw [n1 C hC, n2 C hC]; rfl
  have a3 : ((B :: Bs).filter fun B => !outR g x B && behR g x B) = B :: Bs := filter_whole fun C hC => by
    rcases List.mem_cons.1 hC with rfl | hC
    · rw [h1, h2]; rfl
    · rw [n1 C hC, n2 C hC]; rfl
  unfold addR
  rw [a1, a2, a3]
  rfl
theorem addR_part {g : Int} (hg : 0 < g) {x : It} {B : List It} {Bs : List (List It)} (hR : Runs g (B :: Bs)) (h1 : outR g x B = false) (h2 : behR g x B = false) :
    ∃ P Q, addR g x Bs = P :: Q ∧ addR g x (B :: Bs) = (B ++ P) :: Q ∧ (∀ C, C ∈ Q → C ∈ Bs) ∧ x ∈ P := by
  have n1 := later_no hg hR h1
  have a0 : Bs.filter (outR g x) = [] := filter_none n1
  refine ⟨(Bs.filter fun B => !outR g x B && !behR g x B).flatten ++ [x], Bs.filter fun B => !outR g x B && behR g x B, ?_, ?_, fun C hC => (List.mem_filter.1 hC).1, by simp⟩
  · unfold addR; rw [a0]; rfl
  · simp only [addR, List.filter_cons, h1, h2, a0, Bool.not_false, if_true, Bool.false_eq_true, if_false, List.flatten_cons, List.append_assoc, List.nil_append, List.cons_append, Bool.and_false, Bool.and_self]
theorem flat_add {g : Int} (x : It) (Bs : List (List It)) : (addR g x Bs).flatten.Perm (Bs.flatten ++ [x]) := by
  induction Bs with
  | nil => simp [addR]
  | cons B Bs ih =>
    have key : ∀ X Y Z : List (List It), (X ++ [Y.flatten ++ [x]] ++ Z).flatten.Perm ((X ++ Y ++ Z).flatten ++ [x]) := fun X Y Z => by
      simp only [List.flatten_append, List.flatten_cons, List.flatten_nil, List.append_nil, List.append_assoc]
      refine List.Perm.append_left _ (List.Perm.append_left _ ?_)
      exact List.perm_append_comm
    have hsplit : ∀ l : List (List It), (l.filter (outR g x) ++ (l.filter fun B => !outR g x B && !behR g x B) ++ l.filter fun B => !outR g x B && behR g x B).flatten.Perm l.flatten := fun l => by
      induction l with
      | nil => exact List.Perm.refl _
      | cons C l ih2 =>
        cases h1 : outR g x C <;> cases h2 : behR g x C <;> simp only [List.filter_cons, h1, h2, Bool.not_false, Bool.not_true, Bool.and_true, Bool.and_false, Bool.and_self, if_true, if_false, Bool.false_eq_true]
        · simp only [List.flatten_append, List.flatten_cons, List.append_assoc] at ih2 ⊢
          refine (List.perm_append_comm_assoc _ _ _).trans (List.Perm.append_left _ ?_)
          exact ih2
        · simp only [List.flatten_append, List.flatten_cons, List.append_assoc] at ih2 ⊢
          refine (List.Perm.append_left _ (List.perm_append_comm_assoc _ _ _)).trans ((List.perm_append_comm_assoc _ _ _).trans (List.Perm.append_left _ ?_))
          exact ih2
        · simp only [List.flatten_append, List.flatten_cons, List.append_assoc, List.cons_append] at ih2 ⊢
          exact List.Perm.append_left _ ih2
        · simp only [List.flatten_append, List.flatten_cons, List.append_assoc, List.cons_append] at ih2 ⊢
          exact List.Perm.append_left _ ih2
    exact (key _ _ _).trans ((hsplit (B :: Bs)).append_right [x])
theorem runs_add {g : Int} (hg : 0 < g) (x : It) (Bs : List (List It)) : Runs g Bs → Runs g (addR g x Bs) := by
  induction Bs with
  | nil => intro _; exact ⟨by simp, by simpa [addR] using conn_one g x, by simp, trivial⟩
  | cons B Bs ih =>
    intro hR
    have IH := ih hR.2.2.2
    cases h1 : outR g x B with
    | true =>
      rw [addR_out h1]
      refine ⟨hR.1, hR.2.1, fun y hy z hz => ?_, IH⟩
      have hz2 := (flat_add x Bs).mem_iff.1 hz
      rcases List.mem_append.1 hz2 with hz3 | hz3
      · exact hR.2.2.1 y hy z hz3
      · simp only [List.mem_singleton] at hz3
        subst hz3
        have := outR_iff.1 h1 y hy
        omega
    | false =>
      cases h2 : behR g x B with
      | true =>
        rw [addR_beh hg hR h1 h2]
        refine ⟨by simp, conn_one g x, fun y hy z hz => ?_, hR⟩
        simp only [List.mem_singleton] at hy
        subst hy
        rw [List.flatten_cons] at hz
        rcases List.mem_append.1 hz with hz | hz
        · exact behR_iff.1 h2 z hz
        · obtain ⟨C, hC, hzC⟩ := List.mem_flatten.1 hz
          exact behR_iff.1 (later_beh hg hR h2 C hC) z hzC
      | false =>
        obtain ⟨P, Q, e1, e2, hQ, hx⟩ := addR_part hg hR h1 h2
        rw [e1] at IH
        rw [e2]
        obtain ⟨y, hy, hy1, hy2⟩ := conn_near hR.2.1 (outR_no h1) (behR_no h2)
        refine ⟨by simp [hR.1], conn_append hR.2.1 IH.2.1 hy hx (by omega) (by omega), fun u hu v hv => ?_, IH.2.2.2⟩
        rcases List.mem_append.1 hu with hu | hu
        · obtain ⟨C, hC, hvC⟩ := List.mem_flatten.1 hv
          exact hR.2.2.1 u hu v (mem_flat (hQ C hC) hvC)
        · exact IH.2.2.1 u hu v hv

/-! Which blocks there are. -/
theorem runs_cut {g : Int} (hg : 0 < g) {B : List It} {Bs : List (List It)} (h : Runs g (B :: Bs)) {a : It} (ha : a ∈ B) (hm : ∀ y, y ∈ B → y.t ≤ a.t) :
    (B :: Bs).flatten.filter (fun y => decide (y.t ≤ a.t)) = B ∧ (B :: Bs).flatten.filter (fun y => !decide (y.t ≤ a.t)) = Bs.flatten := by
  have h1 : ∀ y, y ∈ Bs.flatten → ¬ y.t ≤ a.t := fun y hy => by have := h.2.2.1 a ha y hy; omega
  rw [List.flatten_cons, List.filter_append, List.filter_append]
  rw [filter_whole (l := B) (fun y hy => by simp [hm y hy]), filter_none (l := Bs.flatten) (fun y hy => by simp [h1 y hy]), filter_none (l := B) (fun y hy => by simp [hm y hy]), filter_whole (l := Bs.flatten) (fun y hy => by simpa using h1 y hy)]
  simp
theorem runs_top {g : Int} (hg : 0 < g) {A B : List It} {As Bs : List (List It)} (hA : Runs g (A :: As)) (hB : Runs g (B :: Bs)) (hp : (A :: As).flatten.Perm (B :: Bs).flatten) {a b : It} (ha : a ∈ A) (hma : ∀ y, y ∈ A → y.t ≤ a.t) (hb : b ∈ B) : b.t ≤ a.t := by
  by_cases h : b.t ≤ a.t
  · exact h
  · exfalso
    -- the least item of all lies in both first blocks
    obtain ⟨m, hm, hmm⟩ := bot_of hB.1
    have hma2 : m.t ≤ a.t := by
      have ha2 : a ∈ (B :: Bs).flatten := hp.mem_iff.1 (mem_flat (List.mem_cons_self) ha)
      rw [List.flatten_cons] at ha2
      rcases List.mem_append.1 ha2 with h2 | h2
      · exact hmm a h2
      · have := hB.2.2.1 m hm a h2; omega
    obtain ⟨y, z, hy, hz, e1, e2, e3⟩ := hB.2.1 a.t ⟨m, hm, hma2⟩ ⟨b, hb, by omega⟩
    have hy2 : y ∈ (A :: As).flatten := hp.mem_iff.2 (mem_flat (List.mem_cons_self) hy)
    have hz2 : z ∈ (A :: As).flatten := hp.mem_iff.2 (mem_flat (List.mem_cons_self) hz)
    rw [List.flatten_cons] at hy2 hz2
    rcases List.mem_append.1 hz2 with h2 | h2
    · have := hma z h2; omega
    · rcases List.mem_append.1 hy2 with h3 | h3
      · have := hA.2.2.1 y h3 z h2; omega
      · have := hA.2.2.1 a ha y h3; omega
theorem runs_unique {g : Int} (hg : 0 < g) : ∀ As Bs : List (List It), Runs g As → Runs g Bs → As.flatten.Perm Bs.flatten → SameBlocks As Bs := by
  intro As
  induction As with
  | nil =>
    intro Bs _ hB hp
    cases Bs with
    | nil => trivial
    | cons B Bs =>
      obtain ⟨y, hy⟩ := List.exists_mem_of_ne_nil B hB.1
      have := hp.mem_iff.2 (mem_flat (List.mem_cons_self) hy)
      simp at this
  | cons A As ih =>
    intro Bs hA hB hp
    cases Bs with
    | nil =>
      obtain ⟨y, hy⟩ := List.exists_mem_of_ne_nil A hA.1
      have := hp.mem_iff.1 (mem_flat (List.mem_cons_self) hy)
      simp at this
    | cons B Bs =>
      obtain ⟨a, ha, hma⟩ := top_of hA.1
      obtain ⟨b, hb, hmb⟩ := top_of hB.1
      have e : a.t = b.t := by
        have h1 := runs_top hg hA hB hp ha hma hb
        have h2 := runs_top hg hB hA hp.symm hb hmb ha
        omega
      obtain ⟨c1, c2⟩ := runs_cut hg hA ha hma
      obtain ⟨c3, c4⟩ := runs_cut hg hB hb hmb
      rw [← e] at c3 c4
      refine ⟨?_, ih Bs hA.2.2.2 hB.2.2.2 ?_⟩
      · have := hp.filter (fun y => decide (y.t ≤ a.t))
        rwa [c1, c3] at this
      · have := hp.filter (fun y => !decide (y.t ≤ a.t))
        rwa [c2, c4] at this
theorem runs_append {g : Int} {As Bs : List (List It)} (hA : Runs g As) (hB : Runs g Bs) (h : ∀ x, x ∈ As.flatten → ∀ y, y ∈ Bs.flatten → x.t + g ≤ y.t) : Runs g (As ++ Bs) := by
  induction As with
  | nil => exact hB
  | cons A As ih =>
    refine ⟨hA.1, hA.2.1, fun x hx y hy => ?_, ih hA.2.2.2 fun x hx y hy => h x (by rw [List.flatten_cons]; exact List.mem_append_right _ hx) y hy⟩
    have hy : y ∈ (As ++ Bs).flatten := hy
    rw [List.flatten_append] at hy
    rcases List.mem_append.1 hy with hy | hy
    · exact hA.2.2.1 x hx y hy
    · exact h x (mem_flat (List.mem_cons_self) hx) y hy
/-- All items, one behind the other. -/
def allR (g : Int) (xs : List It) (Bs : List (List It)) : List (List It) := xs.foldl (fun l x => addR g x l) Bs
theorem runs_all {g : Int} (hg : 0 < g) (xs : List It) : ∀ Bs, Runs g Bs → Runs g (allR g xs Bs) := by
  induction xs with
  | nil => intro Bs h; exact h
  | cons x r ih => intro Bs h; exact ih _ (runs_add hg x Bs h)
theorem flat_all {g : Int} (xs : List It) : ∀ Bs, (allR g xs Bs).flatten.Perm (Bs.flatten ++ xs) := by
  induction xs with
  | nil => intro Bs; simp [allR]
  | cons x r ih =>
    intro Bs
    refine (ih _).trans (((flat_add x Bs).append_right r).trans ?_)
    rw [List.append_assoc]; exact List.Perm.refl _

end Go.Proofs.Ytgdeaddfkcokpaa

namespace Go.Proofs.Ytgdeaddfkcokpaa
open Go.RowKit

/-- A session. -/
structure Se where
  f : Int
  l : Int
  a : Ac
def nthE (ss : List Se) (i : Nat) : Se := ss.getD i ⟨0, 0, zeroAc⟩
/-- The session of an aggregate. -/
def newE (a : Ac) : Se := ⟨a.f.t, a.l.t, a⟩
def outE (g : Int) (x : It) (s : Se) : Bool := decide (s.l ≤ x.t - g)
def behE (g : Int) (x : It) (s : Se) : Bool := decide (x.t + g ≤ s.f)
/-- What becomes one with an item. -/
def partE (g : Int) (x : It) (ss : List Se) : List Ac := (ss.filter fun s => !outE g x s && !behE g x s).map (·.a)
def oneE (g : Int) (bs : List Int) (x : It) (ss : List Se) : Ac := joinAc bs (partE g x ss ++ [oneAc x bs])
def addE (g : Int) (bs : List Int) (x : It) (ss : List Se) : List Se :=
  ss.filter (outE g x) ++ [newE (oneE g bs x ss)] ++ ss.filter fun s => !outE g x s && behE g x s
/-- May sessions be? -/
def sesB (g : Int) (bs : List Int) (ss : List Se) : Bool :=
  decide (∀ i, i < ss.length → fitB (nthE ss i).a (bs.length + 1) = true ∧ (nthE ss i).a.n ≠ 0 ∧ (nthE ss i).f = (nthE ss i).a.f.t ∧ (nthE ss i).l = (nthE ss i).a.l.t ∧ (nthE ss i).a.f.s = (nthE ss 0).a.f.s ∧ (0 < i → g ≤ (nthE ss i).f - (nthE ss (i - 1)).l)) &&
    (wi g 1 1073741824 && boundsB bs)

/-! What is known of a block of items. -/
def blkA (bs : List Int) (B : List It) : Ac := joinAc bs (ones bs B)
def seOf (bs : List Int) (B : List It) : Se := newE (blkA bs B)
theorem blk_snoc (bs : List Int) (r : List It) (y : It) : blkA bs (r ++ [y]) = addAc (blkA bs r) (oneAc y bs) := by
  show (ones bs (r ++ [y])).foldl joinStep (startJ bs) = addAc ((ones bs r).foldl joinStep (startJ bs)) (oneAc y bs)
  simp only [ones, List.map_append, List.map_cons, List.map_nil, List.foldl_append, List.foldl_cons, List.foldl_nil, step_one]
theorem blk_n (bs : List Int) (B : List It) : (blkA bs B).n = B.length := by
  have h := fold_ns (bs := bs) B (startJ bs)
  have h0 : (startJ bs).n = 0 := rfl
  rw [h0] at h
  show ((ones bs B).foldl joinStep (startJ bs)).n = _
  omega
theorem blk_len (bs : List Int) (B : List It) : (blkA bs B).h.length = bs.length + 1 := (fold_len B (startJ bs)).trans (start_hlen bs)
theorem blk_one (bs : List Int) (x : It) : blkA bs [x] = oneAc x bs := by
  have h := blk_snoc bs [] x
  rw [List.nil_append] at h
  exact h.trans (add_start bs _ (one_hlen _ _))
theorem blk_ends (bs : List Int) : ∀ (k : Nat) (B : List It), B.length = k → B ≠ [] → ((blkA bs B).f ∈ B ∧ ∀ y, y ∈ B → (blkA bs B).f.t ≤ y.t) ∧ (blkA bs B).l ∈ B ∧ ∀ y, y ∈ B → y.t ≤ (blkA bs B).l.t := by
  intro k
  induction k with
  | zero => intro B hk h; exact absurd (List.eq_nil_of_length_eq_zero hk) h
  | succ k ih =>
    intro B hk hne
    obtain ⟨r, y, rfl⟩ : ∃ r y, B = r ++ [y] := ⟨_, _, (List.dropLast_concat_getLast hne).symm⟩
    by_cases hr : r = []
    · subst hr
      rw [List.nil_append, blk_one]
      refine ⟨⟨by simp [oneAc], fun z hz => ?_⟩, by simp [oneAc], fun z hz => ?_⟩
      · simp only [List.mem_singleton] at hz; rw [hz]; exact Int.le_refl _
      · simp only [List.mem_singleton] at hz; rw [hz]; exact Int.le_refl _
    · obtain ⟨⟨f1, f2⟩, l1, l2⟩ := ih r (by simpa using hk) hr
      have hn : ¬ (blkA bs r).n = 0 := by
        rw [blk_n]
        have : r.length ≠ 0 := fun e => hr (List.eq_nil_of_length_eq_zero e)
        omega
      rw [blk_snoc]
      have ef : (addAc (blkA bs r) (oneAc y bs)).f = pick (beforeB y (blkA bs r).f) y (blkA bs r).f := by simp only [addAc, oneAc, hn, if_false]
      have el : (addAc (blkA bs r) (oneAc y bs)).l = pick (beforeB y (blkA bs r).l) (blkA bs r).l y := by simp only [addAc, oneAc, hn, if_false]
      rw [ef, el]
      refine ⟨?_, ?_⟩
      · cases hb : beforeB y (blkA bs r).f
        · have hb2 := before_not.1 hb
          refine ⟨by simp [pick, f1], fun z hz => ?_⟩
          rcases List.mem_append.1 hz with hz | hz
          · exact f2 z hz
          · simp only [List.mem_singleton] at hz; subst hz; simp only [pick, Bool.false_eq_true, if_false]; omega
        · have hb2 := before_iff.1 hb
          refine ⟨by simp [pick], fun z hz => ?_⟩
          rcases List.mem_append.1 hz with hz | hz
          · have := f2 z hz; simp only [pick, if_true]; omega
          · simp only [List.mem_singleton] at hz; subst hz; simp [pick]
      · cases hb : beforeB y (blkA bs r).l
        · have hb2 := before_not.1 hb
          refine ⟨by simp [pick], fun z hz => ?_⟩
          rcases List.mem_append.1 hz with hz | hz
          · have := l2 z hz; simp only [pick, Bool.false_eq_true, if_false]; omega
          · simp only [List.mem_singleton] at hz; subst hz; simp [pick]
        · have hb2 := before_iff.1 hb
          refine ⟨by simp [pick, l1], fun z hz => ?_⟩
          rcases List.mem_append.1 hz with hz | hz
          · exact l2 z hz
          · simp only [List.mem_singleton] at hz; subst hz; simp only [pick, if_true]; omega
theorem blk_f {bs : List Int} {B : List It} (h : B ≠ []) : (blkA bs B).f ∈ B ∧ ∀ y, y ∈ B → (blkA bs B).f.t ≤ y.t := (blk_ends bs B.length B rfl h).1
theorem blk_l {bs : List Int} {B : List It} (h : B ≠ []) : (blkA bs B).l ∈ B ∧ ∀ y, y ∈ B → y.t ≤ (blkA bs B).l.t := (blk_ends bs B.length B rfl h).2
theorem blk_perm {bs : List Int} {B C : List It} (p : B.Perm C) (h : ∀ x, x ∈ B → ∀ y, y ∈ B → x = y ∨ Apart x y) : blkA bs B = blkA bs C := ones_perm p h (startJ bs) (Int.le_refl 0)
theorem blk_fit {bs : List Int} {σ : Int} {B : List It} (hx : ∀ x, x ∈ B → itemB x = true ∧ x.s = σ) (hn : B.length ≤ 8192) : fitB (blkA bs B) (bs.length + 1) = true ∧ (¬ (blkA bs B).n = 0 → (blkA bs B).f.s = σ) := join_fit B hx hn

/-! One item more, by blocks. -/
theorem out_blk {g : Int} {bs : List Int} {x : It} {B : List It} (h : B ≠ []) : outE g x (seOf bs B) = outR g x B := by
  obtain ⟨h1, h2⟩ := blk_l (bs := bs) h
  cases ho : outR g x B with
  | true => exact decide_eq_true (outR_iff.1 ho _ h1)
  | false =>
    obtain ⟨y, hy, e⟩ := outR_no ho
    have := h2 y hy
    exact decide_eq_false (show ¬ (blkA bs B).l.t ≤ x.t - g by omega)
theorem beh_blk {g : Int} {bs : List Int} {x : It} {B : List It} (h : B ≠ []) : behE g x (seOf bs B) = behR g x B := by
  obtain ⟨h1, h2⟩ := blk_f (bs := bs) h
  cases ho : behR g x B with
  | true => exact decide_eq_true (behR_iff.1 ho _ h1)
  | false =>
    obtain ⟨y, hy, e⟩ := behR_no ho
    have := h2 y hy
    exact decide_eq_false (show ¬ x.t + g ≤ (blkA bs B).f.t by omega)
theorem filter_blk {bs : List Int} {p : Se → Bool} {q : List It → Bool} {Bs : List (List It)} (h : ∀ B, B ∈ Bs → p (seOf bs B) = q B) : (Bs.map (seOf bs)).filter p = (Bs.filter q).map (seOf bs) := by
  induction Bs with
  | nil => rfl
  | cons B Bs ih =>
    rw [List.map_cons, List.filter_cons, List.filter_cons, h B (by simp), ih fun C hC => h C (by simp [hC])]
    cases q B <;> rfl
theorem fold_blocks {bs : List Int} (Ps : List (List It)) (xs : List It) : ∀ z : Ac, 0 ≤ z.n → z.h.length = bs.length + 1 → (Ps.map (blkA bs) ++ ones bs xs).foldl joinStep z = (ones bs (Ps.flatten ++ xs)).foldl joinStep z := by
  induction Ps with
  | nil => intro z _ _; rfl
  | cons P Ps ih =>
    intro z hz hl
    have e : joinStep z (blkA bs P) = (ones bs P).foldl joinStep z := step_join P z hz hl
    have e2 : ones bs ((P :: Ps).flatten ++ xs) = ones bs P ++ ones bs (Ps.flatten ++ xs) := by simp [ones]
    rw [List.map_cons, List.cons_append, List.foldl_cons, e, e2, List.foldl_append (l := ones bs P)]
    exact ih ((ones bs P).foldl joinStep z) (by rw [fold_ns (bs := bs) P z]; omega) ((fold_len (bs := bs) P z).trans hl)
theorem add_blocks {g : Int} {bs : List Int} {x : It} {Bs : List (List It)} (h : ∀ B, B ∈ Bs → B ≠ []) : addE g bs x (Bs.map (seOf bs)) = (addR g x Bs).map (seOf bs) := by
  have e1 : (Bs.map (seOf bs)).filter (outE g x) = (Bs.filter (outR g x)).map (seOf bs) := filter_blk fun B hB => out_blk (h B hB)
  have e2 : ((Bs.map (seOf bs)).filter fun s => !outE g x s && !behE g x s) = (Bs.filter fun B => !outR g x B && !behR g x B).map (seOf bs) := filter_blk fun B hB => by rw [out_blk (h B hB), beh_blk (h B hB)]
  have e3 : ((Bs.map (seOf bs)).filter fun s => !outE g x s && behE g x s) = (Bs.filter fun B => !outR g x B && behR g x B).map (seOf bs) := filter_blk fun B hB => by rw [out_blk (h B hB), beh_blk (h B hB)]
  unfold addE addR oneE partE
  rw [e1, e2, e3, List.map_append, List.map_append, List.map_cons, List.map_nil, List.map_map]
  have e4 : ((fun s : Se => s.a) ∘ seOf bs) = blkA bs := rfl
  have e5 : joinAc bs ((Bs.filter fun B => !outR g x B && !behR g x B).map (blkA bs) ++ [oneAc x bs]) = blkA bs ((Bs.filter fun B => !outR g x B && !behR g x B).flatten ++ [x]) := fold_blocks _ [x] (startJ bs) (Int.le_refl 0) (start_hlen bs)
  rw [e4, e5]
  rfl
/-- All items, one behind the other. -/
def allE (g : Int) (bs : List Int) (xs : List It) (ss : List Se) : List Se := xs.foldl (fun l x => addE g bs x l) ss
theorem all_blocks {g : Int} (hg : 0 < g) {bs : List Int} (xs : List It) : ∀ Bs, Runs g Bs → allE g bs xs (Bs.map (seOf bs)) = (allR g xs Bs).map (seOf bs) := by
  induction xs with
  | nil => intro Bs _; rfl
  | cons x r ih =>
    intro Bs h
    show allE g bs r (addE g bs x (Bs.map (seOf bs))) = _
    rw [add_blocks fun B hB => runs_ne h hB]
    exact ih _ (runs_add hg x Bs h)
theorem same_se {bs : List Int} {As Bs : List (List It)} (h : SameBlocks As Bs) (ha : ∀ x, x ∈ As.flatten → ∀ y, y ∈ As.flatten → x = y ∨ Apart x y) : As.map (seOf bs) = Bs.map (seOf bs) := by
  induction As generalizing Bs with
  | nil =>
    cases Bs with
    | nil => rfl
    | cons B Bs => exact absurd h (by simp [SameBlocks])
  | cons A As ih =>
    cases Bs with
    | nil => exact absurd h (by simp [SameBlocks])
    | cons B Bs =>
      have e : seOf bs A = seOf bs B := by
        unfold seOf
        rw [blk_perm h.1 fun x hx y hy => ha x (mem_flat (List.mem_cons_self) hx) y (mem_flat (List.mem_cons_self) hy)]
      rw [List.map_cons, List.map_cons, e, ih h.2 fun x hx y hy => ha x (by rw [List.flatten_cons]; exact List.mem_append_right _ hx) y (by rw [List.flatten_cons]; exact List.mem_append_right _ hy)]
/-- Items in any row come to the same sessions. -/
theorem all_perm {g : Int} (hg : 0 < g) {bs : List Int} {As Bs : List (List It)} (hA : Runs g As) (hB : Runs g Bs) (hp : As.flatten.Perm Bs.flatten) (ha : ∀ x, x ∈ As.flatten → ∀ y, y ∈ As.flatten → x = y ∨ Apart x y) : As.map (seOf bs) = Bs.map (seOf bs) :=
  same_se (runs_unique hg As Bs hA hB hp) ha
theorem nthE_map {bs : List Int} {Bs : List (List It)} {i : Nat} (h : i < Bs.length) : nthE (Bs.map (seOf bs)) i = seOf bs (Bs.getD i []) := by
  simp [nthE, h]
/-- Blocks of items of one series, none wrong, are sessions that may be. -/
theorem runs_ses {g : Int} {bs : List Int} {σ : Int} {Bs : List (List It)} (h : Runs g Bs) (hg : wi g 1 1073741824 = true) (hb : boundsB bs = true) (hx : ∀ x, x ∈ Bs.flatten → itemB x = true ∧ x.s = σ) (hn : Bs.flatten.length ≤ 8192) : sesB g bs (Bs.map (seOf bs)) = true := by
  have hfit : ∀ i, i < Bs.length → ∃ B, Bs.getD i [] = B ∧ B ∈ Bs ∧ B ≠ [] ∧ fitB (blkA bs B) (bs.length + 1) = true ∧ (blkA bs B).n ≠ 0 ∧ (blkA bs B).f.s = σ := fun i hi => by
    have hm : Bs[i] ∈ Bs := List.getElem_mem hi
    have hne := runs_ne h hm
    have hlen : Bs[i].length ≤ 8192 := by
      have : ∀ (l : List (List It)) (B : List It), B ∈ l → B.length ≤ l.flatten.length := fun l => by
        induction l with
        | nil => intro B hB; cases hB
        | cons C l ih =>
          intro B hB
          rw [List.flatten_cons, List.length_append]
          rcases List.mem_cons.1 hB with rfl | hB
          · omega
          · have := ih B hB; omega
      have := this Bs _ hm
      omega
    have hn0 : (blkA bs Bs[i]).n ≠ 0 := by
      rw [blk_n]
      have : Bs[i].length ≠ 0 := fun e => hne (List.eq_nil_of_length_eq_zero e)
      omega
    obtain ⟨f1, f2⟩ := blk_fit (bs := bs) (σ := σ) (B := Bs[i]) (fun x hxm => hx x (mem_flat hm hxm)) hlen
    exact ⟨Bs[i], by simp [hi], hm, hne, f1, hn0, f2 hn0⟩
  have hgap : ∀ (Bs : List (List It)), Runs g Bs → ∀ i, i + 1 < Bs.length → ∀ x, x ∈ Bs.getD i [] → ∀ y, y ∈ Bs.getD (i + 1) [] → x.t + g ≤ y.t := fun Bs => by
    induction Bs with
    | nil => intro _ i hi; simp at hi
    | cons A As ih =>
      intro hR i hi x hx y hy
      cases i with
      | zero =>
        have hl : 0 < As.length := by simpa using hi
        simp only [List.getD_cons_zero] at hx
        simp only [List.getD_cons_succ] at hy
        have e : As.getD 0 [] = As[0] := by simp [hl]
        rw [e] at hy
        exact hR.2.2.1 x hx y (mem_flat (List.getElem_mem hl) hy)
      | succ i =>
        simp only [List.getD_cons_succ] at hx hy
        exact ih hR.2.2.2 i (by simpa using hi) x hx y hy
  unfold sesB
  rw [hg, hb, Bool.and_true, Bool.and_true]
  refine decide_eq_true fun i hi => ?_
  have hi' : i < Bs.length := by simpa using hi
  obtain ⟨B, e, hm, hne, f1, f2, f3⟩ := hfit i hi'
  obtain ⟨B0, e0, _, _, _, _, g3⟩ := hfit 0 (by omega)
  rw [nthE_map hi', e, nthE_map (show 0 < Bs.length by omega), e0]
  refine ⟨f1, f2, rfl, rfl, by show (blkA bs B).f.s = (blkA bs B0).f.s; rw [f3, g3], fun h0 => ?_⟩
  obtain ⟨C, e1, hm1, hne1, _, _, _⟩ := hfit (i - 1) (by omega)
  rw [nthE_map (show i - 1 < Bs.length by omega), e1]
  have := hgap Bs h (i - 1) (by omega) _ (by rw [e1]; exact (blk_l (bs := bs) hne1).1) _ (by rw [show i - 1 + 1 = i by omega, e]; exact (blk_f (bs := bs) hne).1)
  show g ≤ (blkA bs B).f.t - (blkA bs C).l.t
  omega

end Go.Proofs.Ytgdeaddfkcokpaa

namespace Go.Proofs.Ytgdeaddfkcokpaa
open Go.RowKit

/-- A part: some items, of these many buckets. -/
structure PGood (m : Nat) (a : Ac) : Prop where
  n : 0 < a.n
  le : a.f.t ≤ a.l.t
  h : a.h.length = m
theorem one_good (bs : List Int) (x : It) : PGood (bs.length + 1) (oneAc x bs) := ⟨by simp only [oneAc]; decide, Int.le_refl _, one_hlen _ _⟩

/-! Rows of parts: one more. -/
def insP (x : Ac) : List Ac → List Ac
  | [] => [x]
  | p :: r => if p.f.t ≤ x.f.t then p :: insP x r else x :: p :: r
def SrtA : List Ac → Prop
  | [] => True
  | p :: r => (∀ q, q ∈ r → p.f.t ≤ q.f.t) ∧ SrtA r
theorem ins_cut (x : Ac) : ∀ P, SrtA P → ∃ A B, P = A ++ B ∧ insP x P = A ++ x :: B ∧ (∀ q, q ∈ A → q.f.t ≤ x.f.t) ∧ ∀ q, q ∈ B → x.f.t < q.f.t
  | [], _ => ⟨[], [], rfl, rfl, by simp, by simp⟩
  | p :: r, h => by
    by_cases c : p.f.t ≤ x.f.t
    · obtain ⟨A, B, e1, e2, h1, h2⟩ := ins_cut x r h.2
      refine ⟨p :: A, B, by rw [e1]; rfl, by simp only [insP, if_pos c, e2]; rfl, fun q hq => ?_, h2⟩
      rcases List.mem_cons.1 hq with rfl | hq
      · exact c
      · exact h1 q hq
    · refine ⟨[], p :: r, rfl, by simp only [insP, if_neg c]; rfl, by simp, fun q hq => ?_⟩
      rcases List.mem_cons.1 hq with rfl | hq
      · omega
      · have := h.1 q hq; omega
theorem ins_ahead {x : Ac} : ∀ {A : List Ac} (B : List Ac), (∀ q, q ∈ A → q.f.t ≤ x.f.t) → insP x (A ++ B) = A ++ insP x B
  | [], _, _ => rfl
  | p :: A, B, h => by
    show (if p.f.t ≤ x.f.t then p :: insP x (A ++ B) else _) = _
    rw [if_pos (h p (by simp)), ins_ahead B fun q hq => h q (by simp [hq])]; rfl
theorem ins_first {x : Ac} {B : List Ac} (h : ∀ q, q ∈ B → x.f.t < q.f.t) : insP x B = x :: B := by
  cases B with
  | nil => rfl
  | cons p r => simp only [insP, if_neg (show ¬ p.f.t ≤ x.f.t by have := h p (by simp); omega)]
theorem ins_behind {x : Ac} : ∀ {A B : List Ac}, (∀ q, q ∈ B → x.f.t < q.f.t) → insP x (A ++ B) = insP x A ++ B
  | [], B, h => by rw [List.nil_append, ins_first h]; rfl
  | p :: A, B, h => by
    show (if p.f.t ≤ x.f.t then p :: insP x (A ++ B) else x :: p :: (A ++ B)) = (if p.f.t ≤ x.f.t then p :: insP x A else x :: p :: A) ++ B
    rw [ins_behind h]; split <;> rfl
theorem ins_mem {x q : Ac} : ∀ {P : List Ac}, q ∈ insP x P ↔ q = x ∨ q ∈ P
  | [] => by simp [insP]
  | p :: r => by
    simp only [insP]; split
    · rw [List.mem_cons, ins_mem, List.mem_cons]; constructor <;> (rintro (h | h | h) <;> simp [h])
    · rw [List.mem_cons]
theorem ins_srt {x : Ac} : ∀ {P : List Ac}, SrtA P → SrtA (insP x P)
  | [], _ => ⟨by simp, trivial⟩
  | p :: r, h => by
    simp only [insP]; split
    · refine ⟨fun q hq => ?_, ins_srt h.2⟩
      rcases ins_mem.1 hq with rfl | hq
      · assumption
      · exact h.1 q hq
    · refine ⟨fun q hq => ?_, h⟩
      rcases List.mem_cons.1 hq with rfl | hq
      · omega
      · have := h.1 q hq; omega
theorem srt_append {A B : List Ac} : SrtA (A ++ B) ↔ SrtA A ∧ SrtA B ∧ ∀ p, p ∈ A → ∀ q, q ∈ B → p.f.t ≤ q.f.t := by
  induction A with
  | nil => simp [SrtA]
  | cons a A ih =>
    simp only [List.cons_append, SrtA, ih, List.mem_append, List.mem_cons]
    constructor
    · rintro ⟨h1, h2, h3, h4⟩
      refine ⟨⟨fun q hq => h1 q (.inl hq), h2⟩, h3, fun p hp q hq => ?_⟩
      rcases hp with rfl | hp
      · exact h1 q (.inr hq)
      · exact h4 p hp q hq
    · rintro ⟨⟨h1, h2⟩, h3, h4⟩
      refine ⟨fun q hq => ?_, h2, h3, fun p hp q hq => h4 p (.inr hp) q hq⟩
      rcases hq with hq | hq
      · exact h1 q hq
      · exact h4 a (.inl rfl) q hq
theorem ins_comm {x y : Ac} (h : x.f.t ≠ y.f.t) : ∀ P, insP x (insP y P) = insP y (insP x P)
  | [] => by
    simp only [insP]
    by_cases c : y.f.t ≤ x.f.t
    · rw [if_pos c, if_neg (by omega)]
    · rw [if_neg c, if_pos (by omega)]
  | p :: r => by
    by_cases c1 : p.f.t ≤ x.f.t <;> by_cases c2 : p.f.t ≤ y.f.t
    · simp only [insP, if_pos c1, if_pos c2, ins_comm h r]
    · simp only [insP, if_pos c1, if_neg c2]
      simp only [if_pos (show y.f.t ≤ x.f.t by omega)]
    · simp only [insP, if_neg c1, if_pos c2]
      simp only [if_pos (show x.f.t ≤ y.f.t by omega)]
    · by_cases c3 : y.f.t ≤ x.f.t
      · simp only [insP, if_neg c1, if_neg c2, if_pos c3, if_neg (show ¬ x.f.t ≤ y.f.t by omega)]
      · simp only [insP, if_neg c1, if_neg c2, if_neg c3, if_pos (show x.f.t ≤ y.f.t by omega)]
/-- All items of a row. -/
def insAll (bs : List Int) (xs : List It) (P : List Ac) : List Ac := xs.foldl (fun l x => insP (oneAc x bs) l) P
theorem insAll_cons (bs : List Int) (x : It) (xs : List It) (P : List Ac) : insAll bs (x :: xs) P = insAll bs xs (insP (oneAc x bs) P) := rfl
theorem insAll_move {bs : List Int} (x : It) : ∀ (U : List It) (V : List It) (P : List Ac), (∀ u, u ∈ U → u.t ≠ x.t) → insAll bs (U ++ x :: V) P = insAll bs (x :: (U ++ V)) P
  | [], _, _, _ => rfl
  | u :: U, V, P, h => by
    rw [List.cons_append, insAll_cons, insAll_move x U V _ fun v hv => h v (by simp [hv]), insAll_cons, insAll_cons]
    rw [List.cons_append, insAll_cons]
    rw [ins_comm (x := oneAc x bs) (y := oneAc u bs) (show x.t ≠ u.t from fun e => h u (by simp) e.symm)]
theorem first_split {x : It} {t : Int} : ∀ {ys l : List It}, ys.filter (fun y => decide (y.t = t)) = x :: l → ∃ U V, ys = U ++ x :: V ∧ (∀ u, u ∈ U → u.t ≠ t) ∧ V.filter (fun y => decide (y.t = t)) = l
  | [], _, h => by cases h
  | y :: ys, l, h => by
    by_cases c : y.t = t
    · rw [List.filter_cons, if_pos (by simpa using c)] at h
      obtain ⟨rfl, rfl⟩ := List.cons.inj h
      exact ⟨[], ys, rfl, by simp, rfl⟩
    · rw [List.filter_cons, if_neg (by simpa using c)] at h
      obtain ⟨U, V, rfl, h1, h2⟩ := first_split h
      refine ⟨y :: U, V, rfl, fun u hu => ?_, h2⟩
      rcases List.mem_cons.1 hu with rfl | hu
      · exact c
      · exact h1 u hu
theorem insAll_keys {bs : List Int} : ∀ (row xs : List It) (P : List Ac), (∀ t, row.filter (fun y => decide (y.t = t)) = xs.filter (fun y => decide (y.t = t))) → insAll bs row P = insAll bs xs P
  | [], xs, P, h => by
    cases xs with
    | nil => rfl
    | cons y r => have := h y.t; simp at this
  | x :: row, xs, P, h => by
    have hx := h x.t
    rw [List.filter_cons, if_pos (by simp)] at hx
    obtain ⟨U, V, rfl, hU, hV⟩ := first_split hx.symm
    rw [insAll_move x U V P hU, insAll_cons, insAll_cons]
    refine insAll_keys row (U ++ V) _ fun t => ?_
    have ht := h t
    rw [List.filter_append, List.filter_cons, List.filter_cons] at ht
    rw [List.filter_append]
    by_cases c : x.t = t
    · have e : U.filter (fun y => decide (y.t = t)) = [] := List.filter_eq_nil_iff.2 fun u hu => by have := hU u hu; simp only [decide_eq_true_eq]; omega
      rw [e] at ht ⊢
      simpa [c] using ht
    · simpa [c] using ht
/-- Sessions and items of a sorted row, a session ahead of items of like time. -/
def mergeP (bs : List Int) : List Se → List It → List Ac
  | ss, [] => ss.map (·.a)
  | ss, x :: r => (ss.takeWhile fun s => decide (s.a.f.t ≤ x.t)).map (·.a) ++ oneAc x bs :: mergeP bs (ss.dropWhile fun s => decide (s.a.f.t ≤ x.t)) r
theorem take_le (t : Int) : ∀ ss : List Se, ∀ q, q ∈ (ss.takeWhile fun s => decide (s.a.f.t ≤ t)).map (·.a) → q.f.t ≤ t
  | [], q, h => by simp at h
  | s :: ss, q, h => by
    rw [List.takeWhile_cons] at h
    split at h
    · rw [List.map_cons] at h
      rcases List.mem_cons.1 h with rfl | h
      · rename_i c; simpa using c
      · exact take_le t ss q h
    · simp at h
theorem ins_take (bs : List Int) (x : It) : ∀ ss : List Se, insP (oneAc x bs) (ss.map (·.a)) = (ss.takeWhile fun s => decide (s.a.f.t ≤ x.t)).map (·.a) ++ oneAc x bs :: (ss.dropWhile fun s => decide (s.a.f.t ≤ x.t)).map (·.a)
  | [] => rfl
  | s :: ss => by
    rw [List.takeWhile_cons, List.dropWhile_cons, List.map_cons]
    show (if s.a.f.t ≤ x.t then s.a :: insP (oneAc x bs) (ss.map (·.a)) else _) = _
    by_cases c : s.a.f.t ≤ x.t
    · simp only [if_pos c, decide_eq_true c, if_true, ins_take bs x ss, List.map_cons, List.cons_append]
    · simp only [if_neg c, decide_eq_false c, if_false, Bool.false_eq_true, List.map_nil, List.nil_append, List.map_cons]
theorem merge_ins (bs : List Int) : ∀ (row : List It) (ss : List Se) (D : List Ac), (∀ q, q ∈ D → ∀ x, x ∈ row → q.f.t ≤ x.t) → List.Pairwise (fun x y : It => x.t ≤ y.t) row → insAll bs row (D ++ ss.map (·.a)) = D ++ mergeP bs ss row
  | [], ss, D, _, _ => rfl
  | x :: row, ss, D, hD, hs => by
    obtain ⟨h1, h2⟩ := List.pairwise_cons.1 hs
    rw [insAll_cons, ins_ahead _ fun q hq => hD q hq x (by simp), ins_take]
    have e : D ++ ((ss.takeWhile fun s => decide (s.a.f.t ≤ x.t)).map (·.a) ++ oneAc x bs :: (ss.dropWhile fun s => decide (s.a.f.t ≤ x.t)).map (·.a)) = (D ++ ((ss.takeWhile fun s => decide (s.a.f.t ≤ x.t)).map (·.a) ++ [oneAc x bs])) ++ (ss.dropWhile fun s => decide (s.a.f.t ≤ x.t)).map (·.a) := by simp
    rw [e, merge_ins bs row _ _ (fun q hq y hy => ?_) h2]
    · simp [mergeP]
    · have hxy := h1 y hy
      rcases List.mem_append.1 hq with hq | hq
      · exact hD q hq y (by simp [hy])
      · rcases List.mem_append.1 hq with hq | hq
        · have := take_le x.t ss q hq; omega
        · simp only [List.mem_singleton] at hq; subst hq; exact hxy

/-! Joins of rows of parts. -/
def JF (z : Ac) (P : List Ac) : Ac := P.foldl joinStep z
theorem jf_append (z : Ac) (A B : List Ac) : JF z (A ++ B) = JF (JF z A) B := List.foldl_append
theorem jstep {z a : Ac} (h : 0 < a.n) : joinStep z a = addAc z a := if_neg (by omega)
theorem jf_cons {z a : Ac} {P : List Ac} (h : 0 < a.n) : JF z (a :: P) = JF (addAc z a) P := by show JF (joinStep z a) P = _; rw [jstep h]
theorem jf_len {m : Nat} : ∀ (P : List Ac) (z : Ac), (∀ q, q ∈ P → PGood m q) → (JF z P).h.length = z.h.length
  | [], _, _ => rfl
  | p :: P, z, h => by rw [jf_cons (h p (by simp)).n, jf_len P _ fun q hq => h q (by simp [hq])]; simp [addAc]
theorem jf_n : ∀ (P : List Ac) (z : Ac), (∀ q, q ∈ P → 0 < q.n) → (JF z P).n = z.n + totalA P
  | [], z, _ => by simp [JF, totalA, isum]
  | p :: P, z, h => by
    rw [jf_cons (h p (by simp)), jf_n P _ fun q hq => h q (by simp [hq])]
    simp only [addAc, totalA, List.map_cons, isum]; omega
theorem total_nonneg : ∀ (P : List Ac), (∀ q, q ∈ P → 0 < q.n) → 0 ≤ totalA P
  | [], _ => Int.le_refl 0
  | p :: P, h => by
    have := total_nonneg P fun q hq => h q (by simp [hq])
    have := h p (by simp)
    simp only [totalA, List.map_cons, isum] at *; omega
theorem total_mem : ∀ (P : List Ac), (∀ q, q ∈ P → 0 < q.n) → ∀ q, q ∈ P → q.n ≤ totalA P
  | [], _, _, h => by cases h
  | p :: P, h, q, hq => by
    have h1 := total_nonneg P fun q hq => h q (by simp [hq])
    have h2 := h p (by simp)
    have e : totalA (p :: P) = p.n + totalA P := rfl
    rcases List.mem_cons.1 hq with rfl | hq
    · omega
    · have := total_mem P (fun q hq => h q (by simp [hq])) q hq; omega
theorem total_append (A B : List Ac) : totalA (A ++ B) = totalA A + totalA B := by
  induction A with
  | nil => simp [totalA, isum]
  | cons a A ih => simp only [totalA, List.map_cons, isum, List.cons_append] at *; omega
/-- x behind those that lie apart of it. -/
theorem jf_swap {m : Nat} {x : Ac} (hx : 0 < x.n) : ∀ (B : List Ac) (z : Ac), 0 ≤ z.n → (∀ q, q ∈ B → PGood m q ∧ q.f.t ≠ x.f.t ∧ q.l.t ≠ x.l.t) → JF z (x :: B) = JF z (B ++ [x])
  | [], _, _, _ => rfl
  | p :: B, z, hz, h => by
    obtain ⟨h1, h2, h3⟩ := h p (by simp)
    have ih := jf_swap hx B (addAc z p) (by have := h1.n; simp only [addAc]; omega) fun q hq => h q (by simp [hq])
    rw [List.cons_append, jf_cons h1.n, ← ih, jf_cons hx, jf_cons h1.n, jf_cons hx, add_swap z x p hz hx h1.n (.inl fun e => h2 e.symm) (.inl fun e => h3 e.symm)]
theorem jf_assoc {m : Nat} : ∀ (P : List Ac) (z a : Ac), 0 ≤ z.n → 0 < a.n → z.h.length ≤ a.h.length → (∀ q, q ∈ P → PGood m q) → JF (addAc z a) P = addAc z (JF a P)
  | [], _, _, _, _, _, _ => rfl
  | p :: P, z, a, hz, ha, hl, h => by
    have hp := (h p (by simp)).n
    rw [jf_cons hp, jf_cons hp, add_assoc z a p hz ha hl]
    exact jf_assoc P z _ hz (by simp only [addAc]; omega) (by simpa [addAc] using hl) fun q hq => h q (by simp [hq])
/-- What has been joined may be joined. -/
theorem jf_join {bs : List Int} (P : List Ac) (hne : P ≠ []) (z : Ac) (hz : 0 ≤ z.n) (hl : z.h.length = bs.length + 1) (h : ∀ q, q ∈ P → PGood (bs.length + 1) q) : joinStep z (joinAc bs P) = JF z P := by
  cases P with
  | nil => exact absurd rfl hne
  | cons p P =>
    have hp := h p (by simp)
    have hq : ∀ q, q ∈ P → PGood (bs.length + 1) q := fun q hq => h q (by simp [hq])
    have e : joinAc bs (p :: P) = JF p P := by
      show JF (startJ bs) (p :: P) = _
      rw [jf_cons hp.n, add_start bs p hp.h]
    have hn : 0 < (JF p P).n := by rw [jf_n P p fun q h => (hq q h).n]; have := total_nonneg P fun q h => (hq q h).n; have := hp.n; omega
    rw [e, jstep hn, jf_cons hp.n, jf_assoc P z p hz hp.n (by rw [hl, hp.h]; exact Nat.le_refl _) hq]
/-- The greatest last time. -/
def topL (last : Int) : List Ac → Int
  | [] => last
  | q :: r => topL (max last q.l.t) r
theorem topL_ge : ∀ (r : List Ac) (l : Int), l ≤ topL l r ∧ ∀ q, q ∈ r → q.l.t ≤ topL l r
  | [], l => ⟨Int.le_refl _, by simp⟩
  | p :: r, l => by
    obtain ⟨h1, h2⟩ := topL_ge r (max l p.l.t)
    refine ⟨by show l ≤ topL (max l p.l.t) r; omega, fun q hq => ?_⟩
    rcases List.mem_cons.1 hq with rfl | hq
    · show _ ≤ topL (max l q.l.t) r; omega
    · exact h2 q hq
theorem topL_mono : ∀ (r : List Ac) (l m : Int), topL (max l m) r = max (topL l r) m
  | [], _, _ => rfl
  | p :: r, l, m => by
    show topL (max (max l m) p.l.t) r = max (topL (max l p.l.t) r) m
    rw [← topL_mono r (max l p.l.t) m]; congr 1; omega
/-- Where first and last of a join lie. -/
theorem jf_ends : ∀ (P : List Ac) (a : Ac), 0 < a.n → (∀ q, q ∈ P → 0 < q.n ∧ a.f.t ≤ q.f.t) → (JF a P).f.t = a.f.t ∧ (JF a P).l.t = topL a.l.t P
  | [], _, _, _ => ⟨rfl, rfl⟩
  | p :: P, a, ha, h => by
    obtain ⟨h1, h2⟩ := h p (by simp)
    have hn : ¬ a.n = 0 := by omega
    have ef : (addAc a p).f.t = a.f.t := by
      simp only [addAc, hn, if_false]
      cases hb : beforeB p.f a.f
      · rfl
      · have := before_iff.1 hb; simp only [pick, if_true]; omega
    have el : (addAc a p).l.t = max a.l.t p.l.t := by
      simp only [addAc, hn, if_false]
      cases hb : beforeB p.l a.l
      · have := before_not.1 hb; simp only [pick, Bool.false_eq_true, if_false]; omega
      · have := before_iff.1 hb; simp only [pick, if_true]; omega
    have ih := jf_ends P (addAc a p) (by simp only [addAc]; omega) fun q hq => by rw [ef]; exact h q (by simp [hq])
    rw [jf_cons h1, ih.1, ih.2, ef, el]; exact ⟨rfl, rfl⟩

/-! Groups. -/
def Lk (g last : Int) : List Ac → Prop
  | [] => True
  | q :: r => q.f.t - last < g ∧ Lk g (max last q.l.t) r
def Grp (g : Int) : List (List Ac) → Prop
  | [] => True
  | [] :: _ => False
  | (p :: r) :: Gs => Lk g p.l.t r ∧ (∀ q, q ∈ Gs.flatten → topL p.l.t r + g ≤ q.f.t) ∧ Grp g Gs
/-- How many parts, from the first on, hang together. -/
def tog (g last : Int) : List Ac → Nat
  | [] => 0
  | p :: r => if g ≤ p.f.t - last then 0 else 1 + tog g (max last p.l.t) r
theorem tog_lk {g : Int} : ∀ (A B : List Ac) (last : Int), Lk g last A → (∀ q, q ∈ B → topL last A + g ≤ q.f.t) → tog g last (A ++ B) = A.length
  | [], B, last, _, h => by
    cases B with
    | nil => rfl
    | cons q B =>
      have : last + g ≤ q.f.t := h q (by simp)
      show (if g ≤ q.f.t - last then 0 else _) = 0
      rw [if_pos (by omega)]
  | p :: A, B, last, hl, h => by
    obtain ⟨h1, h2⟩ := hl
    show (if g ≤ p.f.t - last then 0 else 1 + tog g (max last p.l.t) (A ++ B)) = _
    rw [if_neg (by omega), tog_lk A B _ h2 h, List.length_cons]; omega
theorem lk_append {g : Int} : ∀ (A B : List Ac) (last : Int), Lk g last (A ++ B) ↔ Lk g last A ∧ Lk g (topL last A) B
  | [], _, _ => by simp [Lk, topL]
  | p :: A, B, last => by simp only [List.cons_append, Lk, topL, lk_append A B, and_assoc]
theorem topL_append : ∀ (A B : List Ac) (last : Int), topL last (A ++ B) = topL (topL last A) B
  | [], _, _ => rfl
  | _ :: A, B, _ => topL_append A B _
theorem lk_ins {g : Int} {x : Ac} (hx : x.f.t = x.l.t) : ∀ (r : List Ac) (last : Int), (∀ q, q ∈ r → q.f.t ≤ q.l.t) → Lk g last r → x.f.t - topL last r < g → Lk g last (insP x r) ∧ topL last (insP x r) = max (topL last r) x.l.t
  | [], last, _, _, h => ⟨⟨h, trivial⟩, rfl⟩
  | q :: r, last, hq, hl, h => by
    obtain ⟨h1, h2⟩ := hl
    simp only [insP]
    have hm : x.f.t - topL (max last q.l.t) r < g := h
    split
    · rename_i c
      obtain ⟨i1, i2⟩ := lk_ins hx r (max last q.l.t) (fun p hp => hq p (by simp [hp])) h2 hm
      exact ⟨⟨h1, i1⟩, i2⟩
    · rename_i c
      have hqq := hq q (by simp)
      have e : max (max last x.l.t) q.l.t = max last q.l.t := by omega
      have hge := (topL_ge r (max last q.l.t)).1
      refine ⟨⟨by omega, by omega, by rw [e]; exact h2⟩, ?_⟩
      show topL (max (max last x.l.t) q.l.t) r = max (topL (max last q.l.t) r) x.l.t
      rw [e]; omega

def seG (bs : List Int) (G : List Ac) : Se := newE (joinAc bs G)
theorem join_cons {bs : List Int} {p : Ac} (P : List Ac) (hp : PGood (bs.length + 1) p) : joinAc bs (p :: P) = JF p P := by
  show JF (startJ bs) (p :: P) = _
  rw [jf_cons hp.n, add_start bs p hp.h]
theorem seg_at {bs : List Int} {p : Ac} {r : List Ac} (hg : ∀ q, q ∈ p :: r → PGood (bs.length + 1) q) (hs : SrtA (p :: r)) : (seG bs (p :: r)).f = p.f.t ∧ (seG bs (p :: r)).l = topL p.l.t r := by
  have := jf_ends r p (hg p (by simp)).n fun q hq => ⟨(hg q (by simp [hq])).n, hs.1 q hq⟩
  unfold seG newE
  rw [join_cons r (hg p (by simp))]
  exact this
theorem seg_later {g : Int} {bs : List Int} : ∀ {Gs : List (List Ac)}, Grp g Gs → SrtA Gs.flatten → (∀ q, q ∈ Gs.flatten → PGood (bs.length + 1) q) → ∀ s, s ∈ Gs.map (seG bs) → ∃ q, q ∈ Gs.flatten ∧ s.f = q.f.t ∧ s.f ≤ s.l
  | [], _, _, _, _, h => by simp at h
  | [] :: _, h, _, _, _, _ => h.elim
  | (p :: r) :: Gs, hG, hs, hg, s, h => by
    rw [List.flatten_cons] at hs hg ⊢
    obtain ⟨s1, s2, _⟩ := srt_append.1 hs
    rw [List.map_cons] at h
    rcases List.mem_cons.1 h with rfl | h
    · obtain ⟨e1, e2⟩ := seg_at (fun q hq => hg q (List.mem_append_left _ hq)) s1
      refine ⟨p, by simp, e1, ?_⟩
      rw [e1, e2]
      have := (topL_ge r p.l.t).1
      have := (hg p (by simp)).le
      omega
    · obtain ⟨q, hq, e⟩ := seg_later hG.2.2 s2 (fun q hq => hg q (List.mem_append_right _ hq)) s h
      exact ⟨q, List.mem_append_right _ hq, e⟩
theorem addE_out {g : Int} {bs : List Int} {x : It} {s : Se} {ss : List Se} (h : outE g x s = true) : addE g bs x (s :: ss) = s :: addE g bs x ss := by
  simp [addE, oneE, partE, h]
theorem addE_split {g : Int} {bs : List Int} {x : It} {P Q : List Se} (hP : ∀ s, s ∈ P → outE g x s = false ∧ behE g x s = false) (hQ : ∀ s, s ∈ Q → outE g x s = false ∧ behE g x s = true) :
    addE g bs x (P ++ Q) = newE (joinAc bs (P.map (·.a) ++ [oneAc x bs])) :: Q := by
  have a1 : (P ++ Q).filter (outE g x) = [] := filter_none fun s hs => by
    rcases List.mem_append.1 hs with h | h
    · exact (hP s h).1
    · exact (hQ s h).1
  have a2 : ((P ++ Q).filter fun s => !outE g x s && !behE g x s) = P := by
    rw [List.filter_append, filter_whole fun s hs => by rw [(hP s hs).1, (hP s hs).2]; rfl, filter_none fun s hs => by rw [(hQ s hs).1, (hQ s hs).2]; rfl, List.append_nil]
  have a3 : ((P ++ Q).filter fun s => !outE g x s && behE g x s) = Q := by
    rw [List.filter_append, filter_none fun s hs => by rw [(hP s hs).1, (hP s hs).2]; rfl, filter_whole fun s hs => by rw [(hQ s hs).1, (hQ s hs).2]; rfl, List.nil_append]
  unfold addE oneE partE
  rw [a1, a2, a3]; rfl
/-- A group and what its new item makes of it. -/
theorem group_new {g : Int} {bs : List Int} {x : It} {p : Ac} {r E : List Ac} (hgd : ∀ q, q ∈ p :: r → PGood (bs.length + 1) q) (hl : Lk g p.l.t r) (hE : Lk g (max (topL p.l.t r) x.t) E)
    (h1 : x.t - topL p.l.t r < g) (h2 : p.f.t < x.t + g) : ∃ p' r', insP (oneAc x bs) (p :: r) ++ E = p' :: r' ∧ Lk g p'.l.t r' ∧ topL p'.l.t r' = topL (max (topL p.l.t r) x.t) E := by
  have hle := (hgd p (by simp)).le
  by_cases c : p.f.t ≤ x.t
  · obtain ⟨i1, i2⟩ := lk_ins (g := g) (x := oneAc x bs) rfl r p.l.t (fun q hq => (hgd q (by simp [hq])).le) hl h1
    have e : insP (oneAc x bs) (p :: r) = p :: insP (oneAc x bs) r := if_pos c
    refine ⟨p, insP (oneAc x bs) r ++ E, by rw [e]; rfl, ?_, ?_⟩
    · exact (lk_append _ _ _).2 ⟨i1, by rw [i2]; exact hE⟩
    · rw [topL_append, i2]; rfl
  · have e : insP (oneAc x bs) (p :: r) = oneAc x bs :: p :: r := if_neg c
    have em : max x.t p.l.t = p.l.t := by omega
    have hge := (topL_ge r p.l.t).1
    have em2 : max (topL p.l.t r) x.t = topL p.l.t r := by omega
    rw [em2] at hE ⊢
    refine ⟨oneAc x bs, p :: r ++ E, by rw [e]; rfl, ⟨show p.f.t - x.t < g by omega, ?_⟩, ?_⟩
    · show Lk g (max x.t p.l.t) (r ++ E)
      rw [em]
      exact (lk_append _ _ _).2 ⟨hl, hE⟩
    · show topL (max x.t p.l.t) (r ++ E) = _
      rw [em, topL_append]
/-- What is joined of it. -/
theorem group_join {bs : List Int} {x : It} {G E : List Ac} (hs : SrtA G) (hgd : ∀ q, q ∈ G ++ E → PGood (bs.length + 1) q) (hE : ∀ q, q ∈ E → x.t < q.f.t) :
    joinAc bs (insP (oneAc x bs) G ++ E) = JF (startJ bs) (G ++ E ++ [oneAc x bs]) := by
  obtain ⟨A, B, e1, e2, h1, h2⟩ := ins_cut (oneAc x bs) G hs
  have hx : 0 < (oneAc x bs).n := by simp only [oneAc]; decide
  have hA : ∀ q, q ∈ A → 0 < q.n := fun q hq => (hgd q (by rw [e1]; simp [hq])).n
  have hz : 0 ≤ (JF (startJ bs) A).n := by
    rw [jf_n A _ hA]
    have := total_nonneg A hA
    show 0 ≤ 0 + totalA A; omega
  show JF (startJ bs) _ = _
  rw [e2, e1, List.append_assoc, List.append_assoc, List.append_assoc, jf_append, jf_append (A := A), ← List.append_assoc B E, List.cons_append]
  refine jf_swap hx (B ++ E) _ hz (m := bs.length + 1) fun q hq => ?_
  have hgq : PGood (bs.length + 1) q := hgd q (by rw [e1]; rcases List.mem_append.1 hq with h | h <;> simp [h])
  have hlt : x.t < q.f.t := by
    rcases List.mem_append.1 hq with h | h
    · exact h2 q h
    · exact hE q h
  have hle := hgq.le
  exact ⟨hgq, fun e => by have : q.f.t = x.t := e; omega, fun e => by have : q.l.t = x.t := e; omega⟩
theorem grp_step {g : Int} (hg : 0 < g) {bs : List Int} {x : It} : ∀ {Gs : List (List Ac)}, Grp g Gs → SrtA Gs.flatten → (∀ q, q ∈ Gs.flatten → PGood (bs.length + 1) q) →
    ∃ Gs', Gs'.flatten = insP (oneAc x bs) Gs.flatten ∧ Grp g Gs' ∧ Gs'.map (seG bs) = addE g bs x (Gs.map (seG bs))
  | [], _, _, _ => ⟨[[oneAc x bs]], rfl, ⟨trivial, by simp, trivial⟩, rfl⟩
  | [] :: _, h, _, _ => h.elim
  | (p :: r) :: Gs, hG, hs, hgd => by
    obtain ⟨g1, g2, g3⟩ := hG
    rw [List.flatten_cons] at hs hgd
    obtain ⟨s1, s2, s3⟩ := srt_append.1 hs
    have hgp : ∀ q, q ∈ p :: r → PGood (bs.length + 1) q := fun q hq => hgd q (List.mem_append_left _ hq)
    have hgr : ∀ q, q ∈ Gs.flatten → PGood (bs.length + 1) q := fun q hq => hgd q (List.mem_append_right _ hq)
    obtain ⟨ef, el⟩ := seg_at hgp s1
    obtain ⟨t1, t2⟩ := topL_ge r p.l.t
    have hlp := (hgp p (by simp)).le
    by_cases ho : topL p.l.t r ≤ x.t - g
    · -- out
      have hout : outE g x (seG bs (p :: r)) = true := decide_eq_true (by rw [el]; exact ho)
      obtain ⟨Gs', e1, e2, e3⟩ := grp_step hg (x := x) g3 s2 hgr
      refine ⟨(p :: r) :: Gs', ?_, ⟨g1, fun q hq => ?_, e2⟩, ?_⟩
      · rw [List.flatten_cons, e1, List.flatten_cons]
        refine (ins_ahead _ fun q hq => ?_).symm
        have hq2 := (hgp q hq).le
        show q.f.t ≤ x.t
        rcases List.mem_cons.1 hq with rfl | hq
        · omega
        · have := t2 q hq; omega
      · rw [e1] at hq
        rcases ins_mem.1 hq with rfl | hq
        · show _ ≤ x.t; omega
        · exact g2 q hq
      · rw [List.map_cons, e3, List.map_cons, addE_out hout]
    · have hout : outE g x (seG bs (p :: r)) = false := decide_eq_false (by rw [el]; exact ho)
      -- later ones are not out
      have hlo : ∀ q, q ∈ Gs.flatten → x.t < q.f.t := fun q hq => by have := g2 q hq; omega
      have hno : ∀ s, s ∈ Gs.map (seG bs) → outE g x s = false := fun s h => by
        obtain ⟨q, hq, e1, e2⟩ := seg_later g3 s2 hgr s h
        have := hlo q hq
        exact decide_eq_false (by omega)
      by_cases hb : x.t + g ≤ p.f.t
      · refine ⟨[oneAc x bs] :: (p :: r) :: Gs, ?_, ⟨trivial, fun q hq => ?_, g1, g2, g3⟩, ?_⟩
        · show oneAc x bs :: (p :: r ++ Gs.flatten) = insP (oneAc x bs) (p :: r ++ Gs.flatten)
          refine (ins_first fun q hq => ?_).symm
          show x.t < q.f.t
          rcases List.mem_append.1 hq with hq | hq
          · rcases List.mem_cons.1 hq with rfl | hq
            · omega
            · have := s1.1 q hq; omega
          · exact hlo q hq
        · show x.t + g ≤ q.f.t
          rw [List.flatten_cons] at hq
          rcases List.mem_append.1 hq with hq | hq
          · rcases List.mem_cons.1 hq with rfl | hq
            · exact hb
            · have := s1.1 q hq; omega
          · have := g2 q hq; omega
        · rw [List.map_cons]
          refine (addE_split (P := []) (by simp) fun s h => ?_).symm
          rw [List.map_cons] at h
          rcases List.mem_cons.1 h with rfl | h
          · exact ⟨hout, decide_eq_true (by rw [ef]; exact hb)⟩
          · obtain ⟨q, hq, e1, e2⟩ := seg_later g3 s2 hgr s h
            have := g2 q hq
            exact ⟨hno s h, decide_eq_true (by omega)⟩
      · have hbeh : behE g x (seG bs (p :: r)) = false := decide_eq_false (by rw [ef]; exact hb)
        have fin : ∀ (E : List Ac) (Es Rs : List (List Ac)), Gs = Es ++ Rs → Es.flatten = E → Grp g Rs → (∀ q, q ∈ Rs.flatten → x.t + g ≤ q.f.t ∧ topL (max (topL p.l.t r) x.t) E + g ≤ q.f.t) → Lk g (max (topL p.l.t r) x.t) E →
            (∀ s, s ∈ Es.map (seG bs) → behE g x s = false) → JF (startJ bs) (p :: r ++ E ++ [oneAc x bs]) = joinAc bs (((p :: r) :: Es).map (fun G => joinAc bs G) ++ [oneAc x bs]) →
            ∃ Gs', Gs'.flatten = insP (oneAc x bs) (((p :: r) :: Gs).flatten) ∧ Grp g Gs' ∧ Gs'.map (seG bs) = addE g bs x (((p :: r) :: Gs).map (seG bs)) := fun E Es Rs eG eE hR hRs hLk hEb hJ => by
          have hEm : ∀ q, q ∈ E → q ∈ Gs.flatten := fun q hq => by rw [eG, List.flatten_append, eE]; exact List.mem_append_left _ hq
          have hRm : ∀ q, q ∈ Rs.flatten → q ∈ Gs.flatten := fun q hq => by rw [eG, List.flatten_append]; exact List.mem_append_right _ hq
          obtain ⟨p', r', e1, e2, e3⟩ := group_new (bs := bs) (x := x) (E := E) hgp g1 hLk (by omega) (by omega)
          refine ⟨(insP (oneAc x bs) (p :: r) ++ E) :: Rs, ?_, ?_, ?_⟩
          · rw [List.flatten_cons, List.flatten_cons, eG, List.flatten_append, eE, List.append_assoc]
            refine (ins_behind fun q hq => ?_).symm
            rcases List.mem_append.1 hq with h | h
            · exact hlo q (hEm q h)
            · exact hlo q (hRm q h)
          · rw [e1]
            exact ⟨e2, fun q hq => by rw [e3]; exact (hRs q hq).2, hR⟩
          · have ej : joinAc bs (insP (oneAc x bs) (p :: r) ++ E) = joinAc bs (((p :: r) :: Es).map (fun G => joinAc bs G) ++ [oneAc x bs]) := by
              rw [← hJ]
              refine group_join s1 (fun q hq => ?_) fun q hq => hlo q (hEm q hq)
              rcases List.mem_append.1 hq with h | h
              · exact hgp q h
              · exact hgr q (hEm q h)
            have em : ((p :: r) :: Gs).map (seG bs) = ((p :: r) :: Es).map (seG bs) ++ Rs.map (seG bs) := by rw [eG, ← List.map_append, List.cons_append]
            rw [em, addE_split]
            · rw [List.map_cons, show seG bs (insP (oneAc x bs) (p :: r) ++ E) = newE (joinAc bs (insP (oneAc x bs) (p :: r) ++ E)) from rfl, ej, List.map_map]
              rfl
            · intro s h
              rw [List.map_cons] at h
              rcases List.mem_cons.1 h with rfl | h
              · exact ⟨hout, hbeh⟩
              · refine ⟨hno s ?_, hEb s h⟩
                rw [eG, List.map_append]; exact List.mem_append_left _ h
            · intro s h
              have hs2 : s ∈ Gs.map (seG bs) := by rw [eG, List.map_append]; exact List.mem_append_right _ h
              have hR2 : SrtA Rs.flatten := by rw [eG, List.flatten_append] at s2; exact (srt_append.1 s2).2.1
              obtain ⟨q, hq, e4, _⟩ := seg_later (bs := bs) hR hR2 (fun q hq => hgr q (hRm q hq)) s h
              have := (hRs q hq).1
              exact ⟨hno s hs2, decide_eq_true (by omega)⟩
        have hzz : (startJ bs).n = 0 := rfl
        have hJ1 : joinStep (startJ bs) (joinAc bs (p :: r)) = JF (startJ bs) (p :: r) := jf_join _ (by simp) _ (Int.le_refl 0) (start_hlen bs) hgp
        by_cases hn : ∃ p2 r2 Rs, Gs = (p2 :: r2) :: Rs ∧ p2.f.t < x.t + g
        · obtain ⟨p2, r2, Rs, eG, h2⟩ := hn
          have hgG := g3
          rw [eG] at hgG s2 hgr
          obtain ⟨k1, k2, k3⟩ := hgG
          rw [List.flatten_cons] at s2 hgr
          obtain ⟨v1, v2, v3⟩ := srt_append.1 s2
          have hp2 : p2 ∈ Gs.flatten := by rw [eG]; simp
          have b1 := g2 p2 hp2
          have b2 := (hgr p2 (by simp)).le
          have b3 := hlo p2 hp2
          have b4 := (topL_ge r2 p2.l.t).1
          have em : max (max (topL p.l.t r) x.t) p2.l.t = p2.l.t := by omega
          have et : topL (max (topL p.l.t r) x.t) (p2 :: r2) = topL p2.l.t r2 := by show topL (max (max (topL p.l.t r) x.t) p2.l.t) r2 = _; rw [em]
          obtain ⟨ef2, el2⟩ := seg_at (fun q hq => hgr q (List.mem_append_left _ hq)) v1
          refine fin (p2 :: r2) [p2 :: r2] Rs eG (by simp) k3 (fun q hq => ?_) ⟨by omega, by rw [em]; exact k1⟩ (fun s h => ?_) ?_
          · have := k2 q hq
            rw [et]
            exact ⟨by omega, this⟩
          · simp only [List.map_cons, List.map_nil, List.mem_singleton] at h
            subst h
            exact decide_eq_false (by rw [ef2]; omega)
          · have hJ2 : joinStep (JF (startJ bs) (p :: r)) (joinAc bs (p2 :: r2)) = JF (JF (startJ bs) (p :: r)) (p2 :: r2) := by
              refine jf_join _ (by simp) _ ?_ ?_ fun q hq => hgr q (List.mem_append_left _ hq)
              · rw [jf_n _ _ fun q hq => (hgp q hq).n]
                have := total_nonneg (p :: r) fun q hq => (hgp q hq).n
                omega
              · rw [jf_len _ _ hgp]; exact start_hlen bs
            show _ = joinStep (joinStep (joinStep (startJ bs) (joinAc bs (p :: r))) (joinAc bs (p2 :: r2))) (oneAc x bs)
            rw [hJ1, hJ2, jf_append, jf_append]; rfl
        · refine fin [] [] Gs rfl rfl g3 (fun q hq => ?_) trivial (by simp) ?_
          · have h1 := g2 q hq
            have h3 : x.t + g ≤ q.f.t := by
              cases Gs with
              | nil => simp at hq
              | cons G2 Rs =>
                cases G2 with
                | nil => exact g3.elim
                | cons p2 r2 =>
                  have a1 : ¬ p2.f.t < x.t + g := fun h => hn ⟨p2, r2, Rs, rfl, h⟩
                  rw [List.flatten_cons, List.cons_append] at s2 hq
                  rcases List.mem_cons.1 hq with rfl | hq
                  · omega
                  · have := s2.1 q hq; omega
            exact ⟨h3, by show max (topL p.l.t r) x.t + g ≤ _; omega⟩
          · show _ = joinStep (joinStep (startJ bs) (joinAc bs (p :: r))) (oneAc x bs)
            rw [hJ1, List.append_nil, jf_append]; rfl
theorem grp_items {g : Int} (hg : 0 < g) {bs : List Int} : ∀ (xs : List It) (Gs : List (List Ac)), Grp g Gs → SrtA Gs.flatten → (∀ q, q ∈ Gs.flatten → PGood (bs.length + 1) q) →
    ∃ Gs', Gs'.flatten = insAll bs xs Gs.flatten ∧ Grp g Gs' ∧ Gs'.map (seG bs) = allE g bs xs (Gs.map (seG bs))
  | [], Gs, h, _, _ => ⟨Gs, rfl, h, rfl⟩
  | x :: xs, Gs, h, hs, hgd => by
    obtain ⟨G1, e1, e2, e3⟩ := grp_step hg (x := x) h hs hgd
    obtain ⟨G2, f1, f2, f3⟩ := grp_items hg xs G1 e2 (by rw [e1]; exact ins_srt hs) fun q hq => by
      rw [e1] at hq
      rcases ins_mem.1 hq with rfl | hq
      · exact one_good bs x
      · exact hgd q hq
    refine ⟨G2, by rw [f1, e1]; rfl, f2, ?_⟩
    rw [f3, e3]; rfl

/-! Sessions that may be. -/
structure SesOk (g : Int) (bs : List Int) (σ : Int) (ss : List Se) : Prop where
  fit : ∀ s, s ∈ ss → fitB s.a (bs.length + 1) = true ∧ s.a.n ≠ 0 ∧ s.f = s.a.f.t ∧ s.l = s.a.l.t ∧ s.a.f.s = σ
  far : ss.Pairwise fun a b => a.l + g ≤ b.f
theorem fit_ends {a : Ac} {m : Int} (h : fitB a m = true) (hn : a.n ≠ 0) : endsB a = true ∧ a.f.t ≤ a.l.t ∧ (a.h.length : Int) = m ∧ 0 < a.n ∧ a.n ≤ 8192 := by
  unfold fitB at h
  simp only [Bool.and_eq_true] at h
  obtain ⟨n1, g1, r1⟩ := h
  rw [if_neg hn] at r1
  simp only [Bool.and_eq_true] at r1
  have hw := wi_true n1
  have hh := (of_decide_eq_true g1).1
  refine ⟨r1.1, ?_, hh, by omega, by omega⟩
  have hE := of_decide_eq_true r1.1
  have hb := before_not.1 (show beforeB a.l a.f = false by simpa using hE.2.2.2)
  omega
theorem ses_ok {g : Int} {bs : List Int} {ss : List Se} (h : sesB g bs ss = true) : SesOk g bs (nthE ss 0).a.f.s ss ∧ wi g 1 1073741824 = true ∧ boundsB bs = true := by
  unfold sesB at h
  simp only [Bool.and_eq_true] at h
  obtain ⟨h1, h2, h3⟩ := h
  have h1 := of_decide_eq_true h1
  have hg : 1 ≤ g := (wi_true h2).1
  have at_ : ∀ i, (hi : i < ss.length) → nthE ss i = ss[i] := fun i hi => by simp [nthE, hi]
  refine ⟨⟨fun s hs => ?_, ?_⟩, h2, h3⟩
  · obtain ⟨i, hi, rfl⟩ := List.mem_iff_getElem.1 hs
    obtain ⟨a1, a2, a3, a4, a5, _⟩ := h1 i hi
    rw [at_ i hi] at a1 a2 a3 a4 a5
    exact ⟨a1, a2, a3, a4, a5⟩
  · rw [List.pairwise_iff_getElem]
    have key : ∀ (d i : Nat) (hi : i < ss.length) (hj : i + 1 + d < ss.length), (nthE ss i).l + g ≤ (nthE ss (i + 1 + d)).f := fun d => by
      induction d with
      | zero =>
        intro i hi hj
        have := (h1 (i + 1) hj).2.2.2.2.2 (by omega)
        rw [show i + 1 - 1 = i by omega] at this
        show (nthE ss i).l + g ≤ (nthE ss (i + 1)).f
        omega
      | succ d ih =>
        intro i hi hj
        have t1 := ih i hi (by omega)
        obtain ⟨b1, b2, b3, b4, _, _⟩ := h1 (i + 1 + d) (by omega)
        have t2 := (h1 (i + 1 + (d + 1)) hj).2.2.2.2.2 (by omega)
        rw [show i + 1 + (d + 1) - 1 = i + 1 + d by omega] at t2
        have t3 := (fit_ends b1 b2).2.1
        omega
    intro i j hi hj hij
    have := key (j - i - 1) i hi (by omega)
    rw [show i + 1 + (j - i - 1) = j by omega, at_ i hi, at_ j hj] at this
    exact this
theorem ses_good {g : Int} {bs : List Int} {σ : Int} {ss : List Se} (h : SesOk g bs σ ss) : ∀ q, q ∈ ss.map (·.a) → PGood (bs.length + 1) q := fun q hq => by
  obtain ⟨s, hs, rfl⟩ := List.mem_map.1 hq
  obtain ⟨a1, a2, _⟩ := h.fit s hs
  obtain ⟨_, b2, b3, b4, _⟩ := fit_ends a1 a2
  exact ⟨b4, b2, by omega⟩
theorem flat_single (ss : List Se) : (ss.map fun s => [s.a]).flatten = ss.map (·.a) := by
  induction ss with
  | nil => rfl
  | cons s ss ih => rw [List.map_cons, List.flatten_cons, ih]; rfl
theorem ses_grp {g : Int} (hg : 0 < g) {bs : List Int} {σ : Int} : ∀ {ss : List Se}, SesOk g bs σ ss → Grp g (ss.map fun s => [s.a]) ∧ SrtA (ss.map (·.a)) ∧ (ss.map fun s => [s.a]).map (seG bs) = ss
  | [], _ => ⟨trivial, trivial, rfl⟩
  | s :: ss, h => by
    obtain ⟨p1, p2⟩ := List.pairwise_cons.1 h.far
    obtain ⟨i1, i2, i3⟩ := ses_grp hg (ss := ss) ⟨fun t ht => h.fit t (by simp [ht]), p2⟩
    obtain ⟨a1, a2, a3, a4, _⟩ := h.fit s (by simp)
    obtain ⟨_, b2, b3, b4, _⟩ := fit_ends a1 a2
    have far : ∀ q, q ∈ ss.map (·.a) → s.a.l.t + g ≤ q.f.t := fun q hq => by
      obtain ⟨t, ht, rfl⟩ := List.mem_map.1 hq
      have := p1 t ht
      have := (h.fit t (by simp [ht])).2.2.1
      show s.a.l.t + g ≤ t.a.f.t
      omega
    refine ⟨⟨trivial, fun q hq => ?_, i1⟩, ⟨fun q hq => ?_, i2⟩, ?_⟩
    · rw [flat_single] at hq; exact far q hq
    · have := far q hq
      show s.a.f.t ≤ q.f.t
      omega
    · rw [List.map_cons, List.map_cons, i3]
      congr 1
      have e : joinAc bs [s.a] = s.a := join_cons [] ⟨b4, b2, by omega⟩
      unfold seG newE
      rw [e, ← a3, ← a4]
/-- The program's groups are the sessions of the items, one behind the other. -/
theorem grp_all {g : Int} (hg : 0 < g) {bs : List Int} {σ : Int} {ss : List Se} (h : SesOk g bs σ ss) {row xs : List It} (hk : ∀ t, row.filter (fun y => decide (y.t = t)) = xs.filter (fun y => decide (y.t = t))) (hs : row.Pairwise fun x y => x.t ≤ y.t) :
    ∃ Gs, Gs.flatten = mergeP bs ss row ∧ Grp g Gs ∧ Gs.map (seG bs) = allE g bs xs ss := by
  obtain ⟨i1, i2, i3⟩ := ses_grp hg h
  obtain ⟨Gs, e1, e2, e3⟩ := grp_items hg xs (ss.map fun s => [s.a]) i1 (by rw [flat_single]; exact i2) (by rw [flat_single]; exact ses_good h)
  refine ⟨Gs, ?_, e2, by rw [e3, i3]⟩
  rw [e1, flat_single, ← insAll_keys row xs _ hk]
  have := merge_ins bs row ss [] (by simp) hs
  simpa using this
theorem mem_merge {bs : List Int} {q : Ac} : ∀ {row : List It} {ss : List Se}, q ∈ mergeP bs ss row → (∃ s, s ∈ ss ∧ q = s.a) ∨ ∃ x, x ∈ row ∧ q = oneAc x bs
  | [], ss, h => by
    obtain ⟨s, hs, rfl⟩ := List.mem_map.1 h
    exact .inl ⟨s, hs, rfl⟩
  | x :: row, ss, h => by
    simp only [mergeP] at h
    rcases List.mem_append.1 h with h | h
    · obtain ⟨s, hs, rfl⟩ := List.mem_map.1 h
      exact .inl ⟨s, List.takeWhile_subset _ hs, rfl⟩
    · rcases List.mem_cons.1 h with rfl | h
      · exact .inr ⟨x, by simp, rfl⟩
      · rcases mem_merge h with ⟨s, hs, e⟩ | ⟨y, hy, e⟩
        · exact .inl ⟨s, List.dropWhile_subset _ hs, e⟩
        · exact .inr ⟨y, by simp [hy], e⟩
theorem merge_len (bs : List Int) : ∀ (row : List It) (ss : List Se), (mergeP bs ss row).length = ss.length + row.length
  | [], ss => by simp [mergeP]
  | x :: row, ss => by
    have := congrArg List.length (List.takeWhile_append_dropWhile (p := fun s : Se => decide (s.a.f.t ≤ x.t)) (l := ss))
    rw [List.length_append] at this
    simp only [mergeP, List.length_append, List.length_map, List.length_cons, merge_len bs row]
    omega

/-! Too many: told at the first item that makes it so, or of what is made of all. -/
def bigE (ss : List Se) : Prop := ∃ s, s ∈ ss ∧ 8192 < s.a.n
def addT (g : Int) (bs : List Int) : List It → List Se → Option (List Se)
  | [], ss => some ss
  | x :: xs, ss => if 8192 < (oneE g bs x ss).n then none else addT g bs xs (addE g bs x ss)
theorem oneE_n {g : Int} {bs : List Int} {x : It} {ss : List Se} (h : ∀ s, s ∈ ss → 0 < s.a.n) : (oneE g bs x ss).n = totalA (partE g x ss) + 1 ∧ ∀ q, q ∈ partE g x ss → 0 < q.n := by
  have hp : ∀ q, q ∈ partE g x ss → 0 < q.n := fun q hq => by
    obtain ⟨s, hs, rfl⟩ := List.mem_map.1 hq
    exact h s (List.mem_filter.1 hs).1
  refine ⟨?_, hp⟩
  have e : (oneE g bs x ss).n = (startJ bs).n + totalA (partE g x ss ++ [oneAc x bs]) := jf_n _ _ fun q hq => by
    rcases List.mem_append.1 hq with h | h
    · exact hp q h
    · simp only [List.mem_singleton] at h; subst h; exact (one_good bs x).n
  rw [e, total_append]
  have e0 : (startJ bs).n = 0 := rfl
  have e1 : totalA [oneAc x bs] = 1 := rfl
  omega
theorem mem_addE {g : Int} {bs : List Int} {x : It} {ss : List Se} {s : Se} : s ∈ addE g bs x ss ↔ (s ∈ ss ∧ (outE g x s = true ∨ behE g x s = true)) ∨ s = newE (oneE g bs x ss) := by
  unfold addE
  simp only [List.mem_append, List.mem_filter, List.mem_singleton, Bool.and_eq_true, Bool.not_eq_true']
  constructor
  · rintro ((⟨h1, h2⟩ | h) | ⟨h1, _, h2⟩)
    · exact .inl ⟨h1, .inl h2⟩
    · exact .inr h
    · exact .inl ⟨h1, .inr h2⟩
  · rintro (⟨h1, h2⟩ | h)
    · cases c : outE g x s
      · rw [c] at h2
        exact .inr ⟨h1, rfl, by simpa using h2⟩
      · exact .inl (.inl ⟨h1, rfl⟩)
    · exact .inl (.inr h)
theorem addE_pos {g : Int} {bs : List Int} {x : It} {ss : List Se} (h : ∀ s, s ∈ ss → 0 < s.a.n) : ∀ s, s ∈ addE g bs x ss → 0 < s.a.n := fun s hs => by
  rcases mem_addE.1 hs with ⟨h1, _⟩ | rfl
  · exact h s h1
  · obtain ⟨e, hp⟩ := oneE_n (g := g) (bs := bs) (x := x) h
    have := total_nonneg _ hp
    show 0 < (oneE g bs x ss).n
    omega
theorem big_step {g : Int} {bs : List Int} {x : It} {ss : List Se} (h : ∀ s, s ∈ ss → 0 < s.a.n) (hb : bigE ss) : bigE (addE g bs x ss) := by
  obtain ⟨s, hs, hn⟩ := hb
  by_cases c : outE g x s = true ∨ behE g x s = true
  · exact ⟨s, mem_addE.2 (.inl ⟨hs, c⟩), hn⟩
  · refine ⟨_, mem_addE.2 (.inr rfl), ?_⟩
    obtain ⟨e, hp⟩ := oneE_n (g := g) (bs := bs) (x := x) h
    have := total_mem _ hp s.a (List.mem_map.2 ⟨s, List.mem_filter.2 ⟨hs, by
      cases c1 : outE g x s
      · cases c2 : behE g x s
        · rfl
        · exact absurd (.inr c2) c
      · exact absurd (.inl c1) c⟩, rfl⟩)
    show 8192 < (oneE g bs x ss).n
    omega
theorem big_all {g : Int} {bs : List Int} : ∀ (xs : List It) {ss : List Se}, (∀ s, s ∈ ss → 0 < s.a.n) → bigE ss → bigE (allE g bs xs ss)
  | [], _, _, h => h
  | _ :: xs, _, hp, h => big_all xs (addE_pos hp) (big_step hp h)
theorem addT_eq {g : Int} {bs : List Int} : ∀ (xs : List It) {ss : List Se}, (∀ s, s ∈ ss → 0 < s.a.n) → ¬ bigE ss → (bigE (allE g bs xs ss) ∧ addT g bs xs ss = none) ∨ (¬ bigE (allE g bs xs ss) ∧ addT g bs xs ss = some (allE g bs xs ss))
  | [], ss, _, h => .inr ⟨h, rfl⟩
  | x :: xs, ss, hp, h => by
    show (bigE (allE g bs xs (addE g bs x ss)) ∧ (if 8192 < (oneE g bs x ss).n then none else addT g bs xs (addE g bs x ss)) = none) ∨ (¬ bigE (allE g bs xs (addE g bs x ss)) ∧ (if 8192 < (oneE g bs x ss).n then none else addT g bs xs (addE g bs x ss)) = some (allE g bs xs (addE g bs x ss)))
    by_cases c : 8192 < (oneE g bs x ss).n
    · rw [if_pos c]
      exact .inl ⟨big_all xs (addE_pos hp) ⟨_, mem_addE.2 (.inr rfl), c⟩, rfl⟩
    · rw [if_neg c]
      refine addT_eq xs (addE_pos hp) fun ⟨s, hs, hn⟩ => ?_
      rcases mem_addE.1 hs with ⟨h1, _⟩ | rfl
      · exact h ⟨s, h1, hn⟩
      · exact c hn
/-- What is asked of parts that are joined. -/
theorem tog_good {m : Int} {σ : Int} : ∀ {P : List Ac} {s : Int}, (s = -1 ∨ s = σ) → (∀ q, q ∈ P → fitB q m = true ∧ q.n ≠ 0 ∧ q.f.s = σ) → togB m s P = true
  | [], _, _, _ => rfl
  | p :: P, s, hs, h => by
    obtain ⟨h1, h2, h3⟩ := h p (by simp)
    simp only [togB, h1, Bool.true_and, if_neg h2]
    rw [if_neg (by omega), h3]
    exact tog_good (.inr rfl) fun q hq => h q (by simp [hq])

end Go.Proofs.Ytgdeaddfkcokpaa
