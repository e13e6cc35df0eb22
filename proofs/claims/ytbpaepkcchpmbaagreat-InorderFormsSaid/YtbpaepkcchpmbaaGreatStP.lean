import Derived.Test.YtbpaepkcchpmbaaGreatG20
namespace Go.Proofs.YtbpaepkcchpmbaaGreat
open Go.RowKit
def noAc (m : Nat) : Ac := ⟨0, 0, 0, 0, zeroIt, zeroIt, List.replicate m 0⟩
structure Part (m : Nat) (a : Ac) : Prop where
  len : a.h.length = m
  n0 : 0 ≤ a.n
  none : a.n = 0 → a = noAc m
theorem part_no (m : Nat) : Part m (noAc m) := ⟨by simp [noAc], Int.le_refl _, fun _ => rfl⟩
theorem nth_zeros (m i : Nat) : nth (List.replicate m 0) i = 0 := by
  by_cases h : i < m
  · simp [nth, h]
  · simp [nth, h]
theorem add_no {m : Nat} {a : Ac} (h : a.h.length = m) : addAc (noAc m) a = a := by
  obtain ⟨n, s, mn, mx, f, l, hh⟩ := a
  simp only at h
  simp only [addAc, noAc, if_true, Int.zero_add, Ac.mk.injEq, true_and]
  refine nth_ext (by simp [h]) fun i hi => ?_
  rw [nth_range_map _ _ (by simpa using hi), nth_zeros]
  omega
theorem step_no (o : Ac) (m : Nat) : joinStep o (noAc m) = o := rfl
theorem no_step {m : Nat} {a : Ac} (h : Part m a) : joinStep (noAc m) a = a := by
  unfold joinStep
  split
  · rename_i h0
    exact (h.none h0).symm
  · exact add_no h.len
theorem part_step {m : Nat} {o a : Ac} (ho : Part m o) (ha : Part m a) : Part m (joinStep o a) := by
  unfold joinStep
  split
  · exact ho
  · have h1 := ho.n0
    have h2 := ha.n0
    exact ⟨by rw [addAc_hlen]; exact ho.len, by simp only [addAc]; omega, fun h => by simp only [addAc] at h; omega⟩
theorem step_assoc {m : Nat} {o a b : Ac} (ho : Part m o) (ha : Part m a) (hb : Part m b) : joinStep (joinStep o a) b = joinStep o (joinStep a b) := by
  by_cases h2 : a.n = 0
  · rw [ha.none h2, step_no, no_step hb]
  · by_cases h1 : b.n = 0
    · rw [hb.none h1, step_no, step_no]
    · have h3 : ¬ (addAc a b).n = 0 := by have := ha.n0; have := hb.n0; simp only [addAc]; omega
      have e : ∀ p q : Ac, ¬ q.n = 0 → joinStep p q = addAc p q := fun p q h => by unfold joinStep; rw [if_neg h]
      rw [e _ _ h2, e _ _ h1, e a _ h1, e o _ h3]
      exact add_assoc _ _ _ ho.n0 (by have := ha.n0; omega) (by rw [ho.len, ha.len]; exact Nat.le_refl _)
theorem part_fold {m : Nat} (xs : List Ac) : ∀ z : Ac, Part m z → (∀ x, x ∈ xs → Part m x) → Part m (xs.foldl joinStep z) := by
  induction xs with
  | nil => intro z hz _; exact hz
  | cons x r ih => intro z hz h; exact ih _ (part_step hz (h x (by simp))) (fun y hy => h y (by simp [hy]))
theorem step_fold {m : Nat} {o : Ac} (ho : Part m o) (xs : List Ac) : ∀ z : Ac, Part m z → (∀ x, x ∈ xs → Part m x) → joinStep o (xs.foldl joinStep z) = xs.foldl joinStep (joinStep o z) := by
  induction xs with
  | nil => intro z _ _; rfl
  | cons x r ih =>
    intro z hz h
    have hx := h x (by simp)
    rw [List.foldl_cons, List.foldl_cons, ih _ (part_step hz hx) (fun y hy => h y (by simp [hy])), step_assoc ho hz hx]
theorem joinAc_no (bs : List Int) (xs : List Ac) : joinAc bs xs = xs.foldl joinStep (noAc (bs.length + 1)) := rfl
theorem part_join {bs : List Int} {xs : List Ac} (h : ∀ x, x ∈ xs → Part (bs.length + 1) x) : Part (bs.length + 1) (joinAc bs xs) := part_fold xs _ (part_no _) h
theorem join_app {bs : List Int} {xs ys : List Ac} (hx : ∀ x, x ∈ xs → Part (bs.length + 1) x) (hy : ∀ x, x ∈ ys → Part (bs.length + 1) x) : joinAc bs (xs ++ ys) = joinStep (joinAc bs xs) (joinAc bs ys) := by
  rw [joinAc_no bs ys, step_fold (part_join hx) ys _ (part_no _) hy, step_no, joinAc_no, joinAc_no, List.foldl_append]
theorem join_pair {bs : List Int} {a b : Ac} (ha : Part (bs.length + 1) a) : joinAc bs [a, b] = joinStep a b := by
  show joinStep (joinStep (noAc (bs.length + 1)) a) b = _
  rw [no_step ha]
theorem join_sole {bs : List Int} {a : Ac} (ha : Part (bs.length + 1) a) : joinAc bs [a] = a := no_step ha
theorem join_cut {bs : List Int} {xs ys : List Ac} (hx : ∀ x, x ∈ xs → Part (bs.length + 1) x) (hy : ∀ x, x ∈ ys → Part (bs.length + 1) x) : joinAc bs [joinAc bs xs, joinAc bs ys] = joinAc bs (xs ++ ys) := by
  rw [join_pair (part_join hx), join_app hx hy]
theorem join_snoc {bs : List Int} {xs : List Ac} {a : Ac} (hx : ∀ x, x ∈ xs → Part (bs.length + 1) x) (ha : Part (bs.length + 1) a) : joinAc bs (xs ++ [a]) = joinAc bs [joinAc bs xs, a] := by
  rw [← join_cut hx (by simpa using ha), join_sole ha]
theorem join_head {bs : List Int} {xs : List Ac} {a : Ac} (hx : ∀ x, x ∈ xs → Part (bs.length + 1) x) (ha : Part (bs.length + 1) a) : joinAc bs (a :: xs) = joinAc bs [a, joinAc bs xs] := by
  have := join_cut (bs := bs) (xs := [a]) (ys := xs) (by simpa using ha) hx
  rw [join_sole ha] at this
  exact this.symm
theorem zero_nth {h : List Int} (h0 : ∀ i, i < h.length → 0 ≤ nth h i) (hs : isum h = 0) : h = List.replicate h.length 0 := by
  refine nth_ext (by simp) fun i hi => ?_
  rw [nth_zeros]
  have h1 := nth_le_isum h0 hi
  have h2 := h0 i hi
  omega
theorem fit_part {m : Nat} {a : Ac} (h : fitB a m = true) : Part m a := by
  have hF := fit_of h
  refine ⟨hF.len, hF.n0, fun h0 => ?_⟩
  simp only [fitB, Bool.and_eq_true] at h
  obtain ⟨_, h2, h3⟩ := h
  rw [if_pos h0] at h3
  have hh := of_decide_eq_true h2
  have hz := of_decide_eq_true h3
  have hl := hF.len
  obtain ⟨n, s, mn, mx, ⟨f1, f2, f3, f4⟩, ⟨l1, l2, l3, l4⟩, hist⟩ := a
  simp only at h0 hz hh hl
  have e := zero_nth (h := hist) (fun i hi => (hh.2.1 i hi).1) (by rw [hh.2.2, h0])
  rw [hl] at e
  obtain ⟨z1, z2, z3, ⟨z4, z5, z6, z7⟩, z8, z9, z10, z11⟩ := hz
  subst h0 z1 z2 z3 z4 z5 z6 z7 z8 z9 z10 z11
  unfold noAc zeroIt
  rw [← e]
theorem fit_ser {m : Int} {a : Ac} (h : fitB a m = true) (h0 : ¬ a.n = 0) : 0 ≤ a.f.s := by
  simp only [fitB, Bool.and_eq_true] at h
  obtain ⟨_, _, h3⟩ := h
  rw [if_neg h0] at h3
  simp only [Bool.and_eq_true] at h3
  have hE := of_decide_eq_true h3.1
  exact (itemB_iff.1 hE.1).1
def TogS (m : Int) (σ : Int) (xs : List Ac) : Prop := ∀ a, a ∈ xs → fitB a m = true ∧ (¬ a.n = 0 → a.f.s = σ)
theorem tog_of {m : Int} : ∀ (xs : List Ac) (s : Int), togB m s xs = true → ∃ σ, 0 ≤ σ ∧ (0 ≤ s → s = σ) ∧ TogS m σ xs
  | [], s, _ => by
    by_cases h : 0 ≤ s
    · exact ⟨s, h, fun _ => rfl, fun a ha => by cases ha⟩
    · exact ⟨0, Int.le_refl _, fun h2 => absurd h2 h, fun a ha => by cases ha⟩
  | a :: r, s, h => by
    simp only [togB, Bool.and_eq_true] at h
    obtain ⟨h1, h2⟩ := h
    by_cases h0 : a.n = 0
    · rw [if_pos h0] at h2
      obtain ⟨σ, p, q, t⟩ := tog_of r s h2
      refine ⟨σ, p, q, fun b hb => ?_⟩
      rcases List.mem_cons.1 hb with rfl | hb
      · exact ⟨h1, fun h => absurd h0 h⟩
      · exact t b hb
    · rw [if_neg h0] at h2
      by_cases h3 : 0 ≤ s ∧ a.f.s ≠ s
      · rw [if_pos h3] at h2; cases h2
      · rw [if_neg h3] at h2
        obtain ⟨σ, p, q, t⟩ := tog_of r a.f.s h2
        have hs := fit_ser h1 h0
        have e := q hs
        refine ⟨σ, p, fun h => ?_, fun b hb => ?_⟩
        · by_cases h4 : a.f.s = s
          · omega
          · exact absurd ⟨h, h4⟩ h3
        · rcases List.mem_cons.1 hb with rfl | hb
          · exact ⟨h1, fun _ => e⟩
          · exact t b hb
theorem of_tog {m σ : Int} (hσ : 0 ≤ σ) : ∀ (xs : List Ac) (s : Int), (0 ≤ s → s = σ) → TogS m σ xs → togB m s xs = true
  | [], _, _, _ => rfl
  | a :: r, s, hs, h => by
    have ha := h a (by simp)
    have hr : TogS m σ r := fun b hb => h b (by simp [hb])
    simp only [togB, ha.1, Bool.true_and]
    by_cases h0 : a.n = 0
    · rw [if_pos h0]; exact of_tog hσ r s hs hr
    · have e := ha.2 h0
      rw [if_neg h0, if_neg (fun h3 => h3.2 (by rw [e, hs h3.1])), e]
      exact of_tog hσ r σ (fun _ => rfl) hr
theorem tog_iff {m : Int} {xs : List Ac} : togB m (-1) xs = true ↔ ∃ σ, 0 ≤ σ ∧ TogS m σ xs := by
  constructor
  · intro h
    obtain ⟨σ, p, _, t⟩ := tog_of xs (-1) h
    exact ⟨σ, p, t⟩
  · rintro ⟨σ, p, t⟩
    exact of_tog p xs (-1) (fun h => absurd h (by decide)) t
theorem add_fit {m : Int} {o a : Ac} (ho : fitB o m = true) (ha : fitB a m = true) (h0a : ¬ a.n = 0) (hs : ¬ o.n = 0 → o.f.s = a.f.s) (hn : o.n + a.n ≤ 8192) :
    fitB (addAc o a) m = true ∧ (addAc o a).f.s = a.f.s := by
  simp only [fitB, Bool.and_eq_true] at ho ha
  obtain ⟨n1, g1, r1⟩ := ho
  obtain ⟨n2, g2, r2⟩ := ha
  have hg := of_decide_eq_true g1
  have hg2 := of_decide_eq_true g2
  have hw := wi_true n1
  have hw2 := wi_true n2
  rw [if_neg h0a] at r2
  simp only [Bool.and_eq_true] at r2
  have hE2 := of_decide_eq_true r2.1
  have hV2 := of_decide_eq_true r2.2
  have hl : o.h.length = a.h.length := by have := hg.1; have := hg2.1; omega
  have e2 : histB (addAc o a) m = true := by
    refine decide_eq_true ⟨by simpa [addAc] using hg.1, fun i hi => ?_, ?_⟩
    · have hi' : i < o.h.length := by simpa [addAc] using hi
      have e : nth (addAc o a).h i = nth o.h i + nth a.h i := nth_range_map _ _ hi'
      have t1 := nth_le_isum (h := o.h) (fun i hi => (hg.2.1 i hi).1) hi'
      have t2 := nth_le_isum (h := a.h) (fun i hi => (hg2.2.1 i hi).1) (i := i) (by omega)
      have a1 := (hg.2.1 i hi').1
      have a2 := (hg2.2.1 i (by omega)).1
      rw [e]
      have := hg.2.2; have := hg2.2.2; omega
    · have := isum_range_add o.h a.h hl
      show isum ((List.range o.h.length).map fun i => nth o.h i + nth a.h i) = o.n + a.n
      rw [this, hg.2.2, hg2.2.2]
  have e1 : wi (addAc o a).n 0 8192 = true := wi_mk (by simp only [addAc]; omega)
  have en : ¬ (addAc o a).n = 0 := by simp only [addAc]; omega
  by_cases h0 : o.n = 0
  · rw [if_pos h0] at r1
    have hz := of_decide_eq_true r1
    have ef : (addAc o a).f = a.f := by simp only [addAc, h0, if_true]
    have el : (addAc o a).l = a.l := by simp only [addAc, h0, if_true]
    have emn : (addAc o a).mn = a.mn := by simp only [addAc, h0, if_true]
    have emx : (addAc o a).mx = a.mx := by simp only [addAc, h0, if_true]
    have es : (addAc o a).s = a.s := by simp only [addAc]; omega
    have enn : (addAc o a).n = a.n := by simp only [addAc]; omega
    have e3 : endsB (addAc o a) = true := decide_eq_true (by rw [ef, el]; exact hE2)
    have e4 : valsB (addAc o a) = true := decide_eq_true (by rw [ef, el, emn, emx, es, enn]; exact hV2)
    exact ⟨by unfold fitB; rw [e1, e2, e3, e4, if_neg en]; rfl, by rw [ef]⟩
  · rw [if_neg h0] at r1
    simp only [Bool.and_eq_true] at r1
    have hE := of_decide_eq_true r1.1
    have hV := of_decide_eq_true r1.2
    have hs' := hs h0
    have ef : (addAc o a).f = pick (beforeB a.f o.f) a.f o.f := by simp only [addAc, h0, if_false]
    have el : (addAc o a).l = pick (beforeB a.l o.l) o.l a.l := by simp only [addAc, h0, if_false]
    have emn : (addAc o a).mn = min o.mn a.mn := by simp only [addAc, h0, if_false]
    have emx : (addAc o a).mx = max o.mx a.mx := by simp only [addAc, h0, if_false]
    have es : (addAc o a).s = o.s + a.s := rfl
    have enn : (addAc o a).n = o.n + a.n := rfl
    have e3 : endsB (addAc o a) = true := decide_eq_true (by
      rw [ef, el]
      have hb := before_no hE.2.2.2
      have hb2 := before_no hE2.2.2.2
      have hs1 := hE.2.2.1
      have hs2 := hE2.2.2.1
      cases h6 : beforeB a.f o.f <;> cases h7 : beforeB a.l o.l <;> simp only [pick, if_true, if_false, Bool.false_eq_true]
      · have h8 := before_no h6
        exact ⟨hE.1, hE2.2.1, by omega, decide_eq_false (by omega)⟩
      · exact hE
      · exact hE2
      · have h8 := before_yes h7
        exact ⟨hE2.1, hE.2.1, by omega, decide_eq_false (by omega)⟩)
    have e4 : valsB (addAc o a) = true := decide_eq_true (by
      rw [ef, el, emn, emx, es, enn]
      have m1 : o.n * min o.mn a.mn ≤ o.n * o.mn := Int.mul_le_mul_of_nonneg_left (by omega) hw.1
      have m2 : o.n * o.mx ≤ o.n * max o.mx a.mx := Int.mul_le_mul_of_nonneg_left (by omega) hw.1
      have m3 : a.n * min o.mn a.mn ≤ a.n * a.mn := Int.mul_le_mul_of_nonneg_left (by omega) hw2.1
      have m4 : a.n * a.mx ≤ a.n * max o.mx a.mx := Int.mul_le_mul_of_nonneg_left (by omega) hw2.1
      rw [Int.add_mul, Int.add_mul]
      cases h6 : beforeB a.f o.f <;> cases h7 : beforeB a.l o.l <;> simp only [pick, if_true, if_false, Bool.false_eq_true] <;> omega)
    exact ⟨by unfold fitB; rw [e1, e2, e3, e4, if_neg en]; rfl, by rw [ef]; cases beforeB a.f o.f <;> simp [pick, hs']⟩
theorem step_fit {m σ : Int} {o a : Ac} (ho : fitB o m = true ∧ (¬ o.n = 0 → o.f.s = σ)) (ha : fitB a m = true ∧ (¬ a.n = 0 → a.f.s = σ)) (hn : o.n + a.n ≤ 8192) :
    fitB (joinStep o a) m = true ∧ (¬ (joinStep o a).n = 0 → (joinStep o a).f.s = σ) := by
  unfold joinStep
  split
  · exact ho
  · rename_i h0
    have h := add_fit ho.1 ha.1 h0 (fun h => (ho.2 h).trans (ha.2 h0).symm) hn
    exact ⟨h.1, fun _ => h.2.trans (ha.2 h0)⟩
theorem step_n (o a : Ac) : (joinStep o a).n = o.n + a.n := by
  unfold joinStep
  split
  · omega
  · rfl
theorem totalA_cons (a : Ac) (r : List Ac) : totalA (a :: r) = a.n + totalA r := rfl
theorem totalA_app (xs ys : List Ac) : totalA (xs ++ ys) = totalA xs + totalA ys := by unfold totalA; rw [List.map_append, isum_append]
theorem totalA_nonneg {m σ : Int} {xs : List Ac} (h : TogS m σ xs) : 0 ≤ totalA xs := by
  induction xs with
  | nil => exact Int.le_refl _
  | cons x r ih =>
    have h1 := ih (fun a ha => h a (by simp [ha]))
    have h2 := (h x (by simp)).1
    simp only [fitB, Bool.and_eq_true] at h2
    have h3 := wi_true h2.1
    rw [totalA_cons]
    omega
theorem fold_n (xs : List Ac) : ∀ z : Ac, (xs.foldl joinStep z).n = z.n + totalA xs := by
  induction xs with
  | nil => intro z; simp [totalA, isum]
  | cons x r ih => intro z; rw [List.foldl_cons, ih, step_n, totalA_cons]; omega
theorem join_n (bs : List Int) (xs : List Ac) : (joinAc bs xs).n = totalA xs := by rw [joinAc_no, fold_n]; simp [noAc]
theorem fold_tog {m σ : Int} : ∀ (xs : List Ac) (z : Ac), TogS m σ xs → (fitB z m = true ∧ (¬ z.n = 0 → z.f.s = σ)) → z.n + totalA xs ≤ 8192 →
    fitB (xs.foldl joinStep z) m = true ∧ (¬ (xs.foldl joinStep z).n = 0 → (xs.foldl joinStep z).f.s = σ)
  | [], _, _, hz, _ => hz
  | x :: r, z, h, hz, hn => by
    have hr : TogS m σ r := fun a ha => h a (by simp [ha])
    have h1 := totalA_nonneg hr
    rw [totalA_cons] at hn
    exact fold_tog r _ hr (step_fit hz (h x (by simp)) (by omega)) (by rw [step_n]; omega)
theorem tog_fit {bs : List Int} {σ : Int} {xs : List Ac} (h : TogS (bs.length + 1) σ xs) (hn : totalA xs ≤ 8192) : fitB (joinAc bs xs) (bs.length + 1) = true ∧ (¬ (joinAc bs xs).n = 0 → (joinAc bs xs).f.s = σ) :=
  fold_tog xs (startJ bs) h ⟨start_fit bs, fun h => absurd rfl h⟩ (by have : (startJ bs).n = 0 := rfl; omega)
theorem tog_parts {bs : List Int} {σ : Int} {xs : List Ac} (h : TogS (bs.length + 1) σ xs) : ∀ x, x ∈ xs → Part (bs.length + 1) x := fun x hx => fit_part (m := bs.length + 1) (h x hx).1
structure RowJ (bs : List Int) (xs : List Ac) : Prop where
  bd : boundsB bs = true
  tog : togB (bs.length + 1) (-1) xs = true
  tot : totalA xs ≤ 8192
section
variable {bs : List Int} {xs ys : List Ac} {a : Ac}
theorem RowJ.nil (h : boundsB bs = true) : RowJ bs [] := ⟨h, rfl, by decide⟩
theorem RowJ.parts (h : RowJ bs xs) : ∀ x, x ∈ xs → Part (bs.length + 1) x := by
  obtain ⟨σ, _, t⟩ := tog_iff.1 h.tog
  exact tog_parts t
theorem RowJ.fit (h : RowJ bs xs) : fitB (joinAc bs xs) (bs.length + 1) = true := by
  obtain ⟨σ, _, t⟩ := tog_iff.1 h.tog
  exact (tog_fit t h.tot).1
theorem RowJ.left (h : RowJ bs (xs ++ ys)) : RowJ bs xs := by
  obtain ⟨σ, p, t⟩ := tog_iff.1 h.tog
  have t1 : TogS (bs.length + 1) σ xs := fun x hx => t x (by simp [hx])
  have t2 : TogS (bs.length + 1) σ ys := fun x hx => t x (by simp [hx])
  have h1 := h.tot
  have h2 := totalA_nonneg t2
  rw [totalA_app] at h1
  exact ⟨h.bd, tog_iff.2 ⟨σ, p, t1⟩, by omega⟩
theorem RowJ.right (h : RowJ bs (xs ++ ys)) : RowJ bs ys := by
  obtain ⟨σ, p, t⟩ := tog_iff.1 h.tog
  have t1 : TogS (bs.length + 1) σ xs := fun x hx => t x (by simp [hx])
  have t2 : TogS (bs.length + 1) σ ys := fun x hx => t x (by simp [hx])
  have h1 := h.tot
  have h2 := totalA_nonneg t1
  rw [totalA_app] at h1
  exact ⟨h.bd, tog_iff.2 ⟨σ, p, t2⟩, by omega⟩
theorem RowJ.tail (h : RowJ bs (a :: xs)) : RowJ bs xs := RowJ.right (xs := [a]) h
theorem RowJ.cut (h : RowJ bs (xs ++ ys)) : joinAc bs [joinAc bs xs, joinAc bs ys] = joinAc bs (xs ++ ys) := join_cut h.left.parts h.right.parts
theorem RowJ.wholes (h : RowJ bs (xs ++ ys)) : RowJ bs [joinAc bs xs, joinAc bs ys] := by
  obtain ⟨σ, p, t⟩ := tog_iff.1 h.tog
  have h1 := tog_fit (bs := bs) (σ := σ) (xs := xs) (fun x hx => t x (by simp [hx])) h.left.tot
  have h2 := tog_fit (bs := bs) (σ := σ) (xs := ys) (fun x hx => t x (by simp [hx])) h.right.tot
  refine ⟨h.bd, tog_iff.2 ⟨σ, p, fun x hx => ?_⟩, ?_⟩
  · rcases List.mem_cons.1 hx with rfl | hx
    · exact h1
    · rcases List.mem_cons.1 hx with rfl | hx
      · exact h2
      · cases hx
  · have := h.tot
    rw [totalA_app] at this
    rw [totalA_cons, totalA_cons, join_n, join_n]
    show _ + (_ + 0) ≤ _
    omega
theorem RowJ.snoc_iff (h : RowJ bs xs) : RowJ bs [joinAc bs xs, a] ↔ RowJ bs (xs ++ [a]) := by
  constructor
  · intro hk
    obtain ⟨σ, p, t⟩ := tog_iff.1 hk.tog
    obtain ⟨τ, p2, t2⟩ := tog_iff.1 h.tog
    have hj := tog_fit t2 h.tot
    have hja := t (joinAc bs xs) (by simp)
    have ha := t a (by simp)
    have ht := hk.tot
    rw [totalA_cons, totalA_cons, join_n] at ht
    have e0 : totalA [] = 0 := rfl
    refine ⟨h.bd, tog_iff.2 ?_, by rw [totalA_app, totalA_cons]; omega⟩
    by_cases h0 : (joinAc bs xs).n = 0
    · -- the row is of none
      refine ⟨σ, p, fun x hx => ?_⟩
      rcases List.mem_append.1 hx with hx | hx
      · refine ⟨(t2 x hx).1, fun hn => ?_⟩
        exfalso
        rw [join_n] at h0
        have key : ∀ ys : List Ac, TogS (bs.length + 1) τ ys → totalA ys = 0 → ∀ y, y ∈ ys → y.n = 0 := by
          intro ys
          induction ys with
          | nil => intro _ _ y hy; cases hy
          | cons z r ih =>
            intro hz hs y hy
            have hr : TogS (bs.length + 1) τ r := fun b hb => hz b (by simp [hb])
            have k1 := totalA_nonneg hr
            have k2 := (hz z (by simp)).1
            simp only [fitB, Bool.and_eq_true] at k2
            have k3 := wi_true k2.1
            rw [totalA_cons] at hs
            rcases List.mem_cons.1 hy with rfl | hy
            · omega
            · exact ih hr (by omega) y hy
        exact hn (key xs t2 h0 x hx)
      · obtain rfl : x = a := by simpa using hx
        exact ha
    · have e : σ = τ := (hja.2 h0).symm.trans (hj.2 h0)
      subst e
      refine ⟨σ, p, fun x hx => ?_⟩
      rcases List.mem_append.1 hx with hx | hx
      · exact t2 x hx
      · obtain rfl : x = a := by simpa using hx
        exact ha
  · intro hk
    obtain ⟨σ, p, t⟩ := tog_iff.1 hk.tog
    have hw := RowJ.wholes hk
    have ha : fitB a (bs.length + 1) = true := (t a (by simp)).1
    rwa [join_sole (fit_part (m := bs.length + 1) ha)] at hw
theorem RowJ.snoc (h : RowJ bs (xs ++ [a])) : joinAc bs [joinAc bs xs, a] = joinAc bs (xs ++ [a]) :=
  (join_snoc h.left.parts (h.right.parts a (by simp))).symm
theorem RowJ.cons (h : RowJ bs (a :: xs)) : joinAc bs [a, joinAc bs xs] = joinAc bs (a :: xs) :=
  (join_head h.tail.parts (h.parts a (by simp))).symm
theorem RowJ.cons_whole (h : RowJ bs (a :: xs)) : RowJ bs [a, joinAc bs xs] := by
  have h2 : RowJ bs ([a] ++ xs) := h
  have hw := h2.wholes
  rwa [join_sole (h.parts a (by simp))] at hw
end
instance (bs : List Int) (xs : List Ac) : Decidable (RowJ bs xs) := decidable_of_iff (boundsB bs = true ∧ togB (bs.length + 1) (-1) xs = true ∧ totalA xs ≤ 8192) ⟨fun h => ⟨h.1, h.2.1, h.2.2⟩, fun h => ⟨h.bd, h.tog, h.tot⟩⟩
end Go.Proofs.YtbpaepkcchpmbaaGreat
