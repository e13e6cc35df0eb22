/-
  Plain: items by Time, Seq, Series, Value; a row of them that stands sorted; an array that is a heap, what lifts and lowers one of its items. No program here.
-/
import Derived.Test.YtmhmekmacdkdgaaPure
namespace Go.Proofs.Ytmhmekmacdkdgaa
open Go.RowKit

/-- Does x stand ahead of y? -/
def lt4 (x y : It) : Bool := decide (x.t < y.t ∨ (x.t = y.t ∧ (x.q < y.q ∨ (x.q = y.q ∧ (x.s < y.s ∨ (x.s = y.s ∧ x.v < y.v))))))
theorem lt4_iff {x y : It} : lt4 x y = true ↔ (x.t < y.t ∨ (x.t = y.t ∧ (x.q < y.q ∨ (x.q = y.q ∧ (x.s < y.s ∨ (x.s = y.s ∧ x.v < y.v)))))) := decide_eq_true_iff
theorem lt4_no {x y : It} : lt4 x y = false ↔ ¬ (x.t < y.t ∨ (x.t = y.t ∧ (x.q < y.q ∨ (x.q = y.q ∧ (x.s < y.s ∨ (x.s = y.s ∧ x.v < y.v)))))) := decide_eq_false_iff_not
theorem lt4_self (x : It) : lt4 x x = false := lt4_no.2 (by omega)
theorem le4_trans {x y z : It} (h1 : lt4 y x = false) (h2 : lt4 z y = false) : lt4 z x = false := by
  rw [lt4_no] at *; omega
theorem lt4_le {x y : It} (h : lt4 x y = true) : lt4 y x = false := by
  rw [lt4_iff] at h; rw [lt4_no]; omega
theorem le4_eq {x y : It} (h1 : lt4 y x = false) (h2 : lt4 x y = false) : x = y := by
  rw [lt4_no] at h1 h2
  obtain ⟨a, b, c, d⟩ := x
  obtain ⟨a', b', c', d'⟩ := y
  simp only [It.mk.injEq] at *
  omega

/-! Sorted rows. -/
def Srd (xs : List It) : Prop := xs.Pairwise fun a b => lt4 b a = false
theorem srd_one {xs ys : List It} (h1 : Srd xs) (h2 : Srd ys) (hp : xs.Perm ys) : xs = ys :=
  hp.eq_of_pairwise (fun _ _ _ _ h h' => le4_eq h h') h1 h2
theorem Srd.tail {xs : List It} (h : Srd xs) : Srd xs.tail := List.Pairwise.sublist (List.tail_sublist xs) h
theorem Srd.head {x : It} {r : List It} (h : Srd (x :: r)) : ∀ y ∈ r, lt4 y x = false := (List.pairwise_cons.1 h).1
/-- An item more. -/
def ins (x : It) : List It → List It
  | [] => [x]
  | y :: r => if lt4 x y = true then x :: y :: r else y :: ins x r
theorem ins_perm (x : It) (xs : List It) : (ins x xs).Perm (x :: xs) := by
  induction xs with
  | nil => exact List.Perm.refl _
  | cons y r ih =>
    unfold ins
    split
    · exact List.Perm.refl _
    · exact (List.Perm.cons y ih).trans (List.Perm.swap x y r)
theorem ins_srd (x : It) {xs : List It} (h : Srd xs) : Srd (ins x xs) := by
  induction xs with
  | nil => exact List.pairwise_singleton _ _
  | cons y r ih =>
    have hh := h.head
    have ht := ih (List.pairwise_cons.1 h).2
    unfold ins
    split
    · rename_i h1
      refine List.pairwise_cons.2 ⟨fun z hz => ?_, h⟩
      rcases List.mem_cons.1 hz with rfl | hz
      · exact lt4_le h1
      · exact le4_trans (lt4_le h1) (hh z hz)
    · rename_i h1
      refine List.pairwise_cons.2 ⟨fun z hz => ?_, ht⟩
      rcases List.mem_cons.1 ((ins_perm x r).mem_iff.1 hz) with rfl | hz
      · simpa using h1
      · exact hh z hz
theorem ins_len (x : It) (xs : List It) : (ins x xs).length = xs.length + 1 := (ins_perm x xs).length_eq
/-- Several items more. -/
def insAll (xs : List It) (zs : List It) : List It := zs.foldl (fun a z => ins z a) xs
theorem insAll_cons (xs : List It) (z : It) (zs : List It) : insAll xs (z :: zs) = insAll (ins z xs) zs := rfl
theorem insAll_on (xs zs : List It) (z : It) : insAll xs (zs ++ [z]) = ins z (insAll xs zs) := by simp [insAll]
theorem insAll_perm (xs zs : List It) : (insAll xs zs).Perm (zs ++ xs) := by
  induction zs generalizing xs with
  | nil => exact List.Perm.refl _
  | cons z zs ih =>
    rw [insAll_cons]
    exact (ih _).trans ((List.Perm.append_left zs (ins_perm z xs)).trans List.perm_middle)
theorem insAll_srd {xs : List It} (h : Srd xs) (zs : List It) : Srd (insAll xs zs) := by
  induction zs generalizing xs with
  | nil => exact h
  | cons z zs ih => exact ih (ins_srd z h)
theorem insAll_len (xs zs : List It) : (insAll xs zs).length = xs.length + zs.length := by
  have := (insAll_perm xs zs).length_eq
  rw [List.length_append] at this; omega
/-- Where the reference lays an item in. -/
theorem ins_at {xs : List It} (h : Srd xs) (x : It) (k : Nat) (hk : k ≤ xs.length) (h1 : ∀ i, k ≤ i → i < xs.length → lt4 x (nthI xs i) = true) (h2 : k = 0 ∨ lt4 x (nthI xs (k - 1)) = false) : xs.take k ++ x :: xs.drop k = ins x xs := by
  refine srd_one ?_ (ins_srd x h) (List.perm_middle.trans (by rw [List.take_append_drop]; exact (ins_perm x xs).symm))
  have hp : (xs.take k ++ xs.drop k).Pairwise fun a b => lt4 b a = false := by rw [List.take_append_drop]; exact h
  obtain ⟨p1, p2, p3⟩ := List.pairwise_append.1 hp
  have nx : ∀ i (hi : i < xs.length), nthI xs i = xs[i] := fun i hi => by simp [nthI, hi]
  have hd : ∀ z ∈ xs.drop k, lt4 x z = true := fun z hz => by
    obtain ⟨i, hi, rfl⟩ := List.mem_iff_getElem.1 hz
    rw [List.length_drop] at hi
    have := h1 (k + i) (by omega) (by omega)
    rw [nx _ (by omega)] at this
    rw [List.getElem_drop]; exact this
  have ht : ∀ z ∈ xs.take k, lt4 x z = false := fun z hz => by
    obtain ⟨i, hi, rfl⟩ := List.mem_iff_getElem.1 hz
    rw [List.length_take] at hi
    rcases h2 with h2 | h2
    · omega
    · rw [nx _ (by omega)] at h2
      rw [List.getElem_take]
      by_cases e : i = k - 1
      · subst e; exact h2
      · exact le4_trans (List.pairwise_iff_getElem.1 h i (k - 1) (by omega) (by omega) (by omega)) h2
  refine List.pairwise_append.2 ⟨p1, List.pairwise_cons.2 ⟨fun z hz => lt4_le (hd z hz), p2⟩, fun a ha b hb => ?_⟩
  rcases List.mem_cons.1 hb with rfl | hb
  · exact ht a ha
  · exact p3 a ha b hb

/-! Arrays. A place is one more than an index. -/
def pl (ys : List It) (p : Nat) : It := nthI ys (p - 1)
def HeapOk (ys : List It) : Prop := ∀ c, 2 ≤ c → c ≤ ys.length → lt4 (pl ys c) (pl ys (c / 2)) = false
theorem heap_least {ys : List It} (h : HeapOk ys) : ∀ p, 1 ≤ p → p ≤ ys.length → lt4 (pl ys p) (pl ys 1) = false := by
  intro p
  induction p using Nat.strongRecOn with
  | _ p ih =>
    intro h1 h2
    by_cases e : p = 1
    · subst e; exact lt4_self _
    · exact le4_trans (ih (p / 2) (by omega) (by omega) (by omega)) (h p (by omega) h2)
/-- The items of two places change these. -/
def swp (ys : List It) (a b : Nat) : List It := (ys.set (a - 1) (pl ys b)).set (b - 1) (pl ys a)
theorem swp_len (ys : List It) (a b : Nat) : (swp ys a b).length = ys.length := by simp [swp]
theorem swp_perm {ys : List It} {a b : Nat} (ha : 1 ≤ a) (ha2 : a ≤ ys.length) (hb : 1 ≤ b) (hb2 : b ≤ ys.length) : (swp ys a b).Perm ys := by
  have e1 : pl ys b = ys[b - 1]'(by omega) := by simp [pl, nthI, show b - 1 < ys.length by omega]
  have e2 : pl ys a = ys[a - 1]'(by omega) := by simp [pl, nthI, show a - 1 < ys.length by omega]
  unfold swp
  rw [e1, e2]
  exact List.set_set_perm (by omega) (by omega)
theorem swp_pl {ys : List It} {a b : Nat} (ha : 1 ≤ a) (ha2 : a ≤ ys.length) (hb : 1 ≤ b) (hb2 : b ≤ ys.length) (c : Nat) (hc : 1 ≤ c) : pl (swp ys a b) c = if c = b then pl ys a else if c = a then pl ys b else pl ys c := by
  have hs : ∀ (l : List It) (i j : Nat) (x : It), i < l.length → nthI (l.set i x) j = if i = j then x else nthI l j := fun l i j x hi => by
    unfold nthI
    rw [List.getD_eq_getElem?_getD, List.getElem?_set]
    by_cases e : i = j
    · subst e; simp [hi]
    · simp [e]
  have e0 : pl (swp ys a b) c = nthI ((ys.set (a - 1) (pl ys b)).set (b - 1) (pl ys a)) (c - 1) := rfl
  rw [e0, hs _ _ _ _ (by rw [List.length_set]; omega)]
  by_cases e : c = b
  · rw [if_pos (by omega), if_pos e]
  · rw [if_neg (by omega), if_neg e, hs _ _ _ _ (by omega)]
    by_cases e2 : c = a
    · rw [if_pos (by omega), if_pos e2]
    · rw [if_neg (by omega), if_neg e2]; rfl

/-- All is well but that the item of place p may stand ahead of the one above it. -/
structure UpI (ys : List It) (p : Nat) : Prop where
  a : ∀ c, 2 ≤ c → c ≤ ys.length → c ≠ p → lt4 (pl ys c) (pl ys (c / 2)) = false
  b : 2 ≤ p → ∀ c, 2 ≤ c → c ≤ ys.length → c / 2 = p → lt4 (pl ys c) (pl ys (p / 2)) = false
  lo : 1 ≤ p
  hi : p ≤ ys.length
theorem pl_app {ys : List It} {x : It} {c : Nat} (h1 : 1 ≤ c) (hc : c ≤ ys.length) : pl (ys ++ [x]) c = pl ys c := by
  unfold pl nthI; rw [List.getD_eq_getElem?_getD, List.getD_eq_getElem?_getD, List.getElem?_append_left (by omega)]
theorem upI_new {ys : List It} (h : HeapOk ys) (x : It) : UpI (ys ++ [x]) (ys.length + 1) := by
  refine ⟨fun c h1 h2 h3 => ?_, fun _ c h1 h2 h3 => ?_, by omega, by simp⟩
  · rw [List.length_append, List.length_singleton] at h2
    rw [pl_app (by omega) (by omega), pl_app (by omega) (by omega)]
    exact h c h1 (by omega)
  · rw [List.length_append, List.length_singleton] at h2
    omega
theorem upI_end {ys : List It} {p : Nat} (h : UpI ys p) (h1 : p = 1 ∨ lt4 (pl ys p) (pl ys (p / 2)) = false) : HeapOk ys := fun c c1 c2 => by
  by_cases e : c = p
  · subst e
    rcases h1 with h1 | h1
    · omega
    · exact h1
  · exact h.a c c1 c2 e
theorem upI_step {ys : List It} {p : Nat} (h : UpI ys p) (h1 : 2 ≤ p) (h2 : lt4 (pl ys p) (pl ys (p / 2)) = true) : UpI (swp ys p (p / 2)) (p / 2) := by
  have h3 := h.hi
  have hl := lt4_le h2
  have at_ : ∀ c, 1 ≤ c → pl (swp ys p (p / 2)) c = if c = p / 2 then pl ys p else if c = p then pl ys (p / 2) else pl ys c := fun c hc => swp_pl (by omega) h3 (by omega) (by omega) c hc
  refine ⟨fun c c1 c2 c3 => ?_, fun p1 c c1 c2 c3 => ?_, by omega, by rw [swp_len]; omega⟩
  · rw [swp_len] at c2
    rw [at_ c (by omega), at_ (c / 2) (by omega), if_neg c3]
    by_cases e : c = p
    · subst e
      rw [if_pos rfl, if_pos rfl]; exact hl
    · rw [if_neg e]
      have ha := h.a c c1 c2 e
      by_cases e2 : c / 2 = p / 2
      · rw [if_pos e2]
        rw [e2] at ha
        exact le4_trans hl ha
      · rw [if_neg e2]
        by_cases e3 : c / 2 = p
        · rw [if_pos e3]
          exact h.b h1 c c1 c2 e3
        · rw [if_neg e3]; exact ha
  · rw [swp_len] at c2
    rw [at_ c (by omega), at_ (p / 2 / 2) (by omega), if_neg (show ¬ c = p / 2 by omega), if_neg (show ¬ p / 2 / 2 = p / 2 by omega), if_neg (show ¬ p / 2 / 2 = p by omega)]
    have hq := h.a (p / 2) (by omega) (by omega) (by omega)
    by_cases e : c = p
    · rw [if_pos e]; exact hq
    · rw [if_neg e]
      have ha := h.a c c1 c2 e
      rw [c3] at ha
      exact le4_trans hq ha

/-- All is well but that the item of place p may stand behind one below it. -/
structure DnI (ys : List It) (p : Nat) : Prop where
  a : ∀ c, 2 ≤ c → c ≤ ys.length → c / 2 ≠ p → lt4 (pl ys c) (pl ys (c / 2)) = false
  b : 2 ≤ p → ∀ c, 2 ≤ c → c ≤ ys.length → c / 2 = p → lt4 (pl ys c) (pl ys (p / 2)) = false
  lo : 1 ≤ p
/-- The place of the child that stands ahead of the other; none: 0. -/
def kid (ys : List It) (p : Nat) : Nat :=
  if ys.length < 2 * p then 0 else if 2 * p < ys.length ∧ lt4 (pl ys (2 * p + 1)) (pl ys (2 * p)) = true then 2 * p + 1 else 2 * p
theorem kid_cases (ys : List It) (p : Nat) (hp : 1 ≤ p) : kid ys p = 0 ∧ ys.length < 2 * p ∨ (2 ≤ kid ys p ∧ kid ys p ≤ ys.length ∧ kid ys p / 2 = p ∧ p < kid ys p ∧ ∀ c, 2 ≤ c → c ≤ ys.length → c / 2 = p → lt4 (pl ys c) (pl ys (kid ys p)) = false) := by
  unfold kid
  split
  · rename_i h1; exact .inl ⟨rfl, h1⟩
  · rename_i h1
    split
    · rename_i h2
      refine .inr ⟨by omega, by omega, by omega, by omega, fun c c1 c2 c3 => ?_⟩
      by_cases e : c = 2 * p + 1
      · rw [e]; exact lt4_self _
      · rw [show c = 2 * p by omega]; exact lt4_le h2.2
    · rename_i h2
      refine .inr ⟨by omega, by omega, by omega, by omega, fun c c1 c2 c3 => ?_⟩
      by_cases e : c = 2 * p
      · rw [e]; exact lt4_self _
      · have e2 : c = 2 * p + 1 := by omega
        cases h3 : lt4 (pl ys (2 * p + 1)) (pl ys (2 * p))
        · rw [e2]; exact h3
        · exact absurd ⟨by omega, h3⟩ h2
theorem dnI_end {ys : List It} {p : Nat} (h : DnI ys p) (h1 : kid ys p = 0 ∨ lt4 (pl ys (kid ys p)) (pl ys p) = false) : HeapOk ys := fun c c1 c2 => by
  by_cases e : c / 2 = p
  · rcases kid_cases ys p h.lo with ⟨k1, k2⟩ | ⟨k1, k2, k3, k4, k5⟩
    · omega
    · rcases h1 with h1 | h1
      · omega
      · rw [e]
        exact le4_trans h1 (k5 c c1 c2 e)
  · exact h.a c c1 c2 e
theorem dnI_step {ys : List It} {p : Nat} (h : DnI ys p) (h1 : kid ys p ≠ 0) (h2 : lt4 (pl ys (kid ys p)) (pl ys p) = true) : DnI (swp ys (kid ys p) p) (kid ys p) := by
  have hlo := h.lo
  rcases kid_cases ys p h.lo with ⟨k1, k2⟩ | ⟨k1, k2, k3, k4, k5⟩
  · exact absurd k1 h1
  generalize kid ys p = k at *
  have hl := lt4_le h2
  have at_ : ∀ c, 1 ≤ c → pl (swp ys k p) c = if c = p then pl ys k else if c = k then pl ys p else pl ys c := fun c hc => swp_pl (by omega) k2 (by omega) (by omega) c hc
  refine ⟨fun c c1 c2 c3 => ?_, fun _ c c1 c2 c3 => ?_, by omega⟩
  · rw [swp_len] at c2
    rw [at_ c (by omega), at_ (c / 2) (by omega)]
    by_cases e : c = p
    · subst e
      rw [if_pos rfl, if_neg (show ¬ c / 2 = c by omega), if_neg (show ¬ c / 2 = k by omega)]
      exact h.b c1 k k1 k2 k3
    · rw [if_neg e]
      by_cases e1 : c = k
      · subst e1
        rw [if_pos rfl, if_pos k3]; exact hl
      · rw [if_neg e1]
        by_cases e2 : c / 2 = p
        · rw [if_pos e2]; exact k5 c c1 c2 e2
        · rw [if_neg e2, if_neg c3]; exact h.a c c1 c2 e2
  · rw [swp_len] at c2
    rw [at_ c (by omega), at_ (k / 2) (by omega), k3, if_pos rfl, if_neg (show ¬ c = p by omega), if_neg (show ¬ c = k by omega)]
    have := h.a c c1 c2 (by omega)
    rw [c3] at this
    exact this
/-- The root is taken: the last comes in its place. -/
def popA (ys : List It) : List It := (swp ys 1 ys.length).take (ys.length - 1)
theorem popA_len (ys : List It) : (popA ys).length = ys.length - 1 := by unfold popA; rw [List.length_take, swp_len]; omega
theorem pl_take {ys : List It} {m c : Nat} (h1 : 1 ≤ c) (h : c ≤ m) : pl (ys.take m) c = pl ys c := by
  unfold pl nthI
  rw [List.getD_eq_getElem?_getD, List.getD_eq_getElem?_getD, List.getElem?_take, if_pos (by omega)]
theorem dnI_pop {ys : List It} (h : HeapOk ys) (h0 : 0 < ys.length) : DnI (popA ys) 1 := by
  have at_ : ∀ c, 2 ≤ c → c < ys.length → pl (popA ys) c = pl ys c := fun c h1 h2 => by
    unfold popA
    rw [pl_take (by omega) (by omega), swp_pl (Nat.le_refl _) (by omega) (by omega) (Nat.le_refl _) c (by omega), if_neg (by omega), if_neg (by omega)]
  refine ⟨fun c c1 c2 c3 => ?_, fun h1 => by omega, Nat.le_refl _⟩
  rw [popA_len] at c2
  rw [at_ c c1 (by omega), at_ (c / 2) (by omega) (by omega)]
  exact h c c1 (by omega)
theorem popA_perm {ys : List It} (h0 : 0 < ys.length) : (pl ys 1 :: popA ys).Perm ys := by
  have hp := swp_perm (ys := ys) (a := 1) (b := ys.length) (Nat.le_refl _) (by omega) (by omega) (Nat.le_refl _)
  have hl : (swp ys 1 ys.length).take (ys.length - 1) ++ [pl (swp ys 1 ys.length) ys.length] = swp ys 1 ys.length := by
    have e : pl (swp ys 1 ys.length) ys.length = (swp ys 1 ys.length)[ys.length - 1]'(by rw [swp_len]; omega) := by simp [pl, nthI, swp_len, show ys.length - 1 < ys.length by omega]
    rw [e, List.take_append_getElem, show ys.length - 1 + 1 = (swp ys 1 ys.length).length by rw [swp_len]; omega, List.take_length]
  rw [swp_pl (Nat.le_refl _) (by omega) (by omega) (Nat.le_refl _) _ (by omega), if_pos rfl] at hl
  refine List.Perm.trans ?_ hp
  rw [← hl]
  exact (List.perm_append_singleton _ _).symm

/-! A heap that holds the items of a sorted row. -/
structure HpOf (ys xs : List It) : Prop where
  ok : HeapOk ys
  perm : ys.Perm xs
  srd : Srd xs
theorem HpOf.len {ys xs : List It} (h : HpOf ys xs) : ys.length = xs.length := h.perm.length_eq
theorem HpOf.nil : HpOf [] [] := ⟨fun c _ h => by simp at h; omega, List.Perm.refl _, List.Pairwise.nil⟩
theorem HpOf.root {ys xs : List It} (h : HpOf ys xs) (h0 : 0 < xs.length) : pl ys 1 = nthI xs 0 := by
  cases xs with
  | nil => simp at h0
  | cons x r =>
    have hl := h.len
    have e : nthI (x :: r) 0 = x := rfl
    have e1 : pl ys 1 = ys[0]'(by omega) := by simp [pl, nthI, show 0 < ys.length by omega]
    rw [e]
    refine le4_eq ?_ ?_
    · have hx : x ∈ ys := h.perm.mem_iff.2 (List.mem_cons_self ..)
      obtain ⟨i, hi, rfl⟩ := List.mem_iff_getElem.1 hx
      have := heap_least h.ok (i + 1) (by omega) (by omega)
      rw [show pl ys (i + 1) = ys[i] by simp [pl, nthI, hi]] at this
      exact this
    · have : pl ys 1 ∈ x :: r := h.perm.mem_iff.1 (by rw [e1]; exact List.getElem_mem _)
      rcases List.mem_cons.1 this with e | e
      · rw [e]; exact lt4_self _
      · exact h.srd.head _ e
theorem HpOf.pop {ys xs zs : List It} (h : HpOf ys xs) (h0 : 0 < xs.length) (hz : HeapOk zs) (hp : zs.Perm (popA ys)) : HpOf zs xs.tail := by
  have hr := h.root h0
  cases xs with
  | nil => simp at h0
  | cons x r =>
    have e : nthI (x :: r) 0 = x := rfl
    rw [e] at hr
    have h1 := popA_perm (ys := ys) (by rw [h.len]; exact h0)
    rw [hr] at h1
    exact ⟨hz, hp.trans ((h1.trans h.perm).cons_inv), h.srd.tail⟩
theorem HpOf.push {ys xs zs : List It} {x : It} (h : HpOf ys xs) (hz : HeapOk zs) (hp : zs.Perm (ys ++ [x])) : HpOf zs (ins x xs) :=
  ⟨hz, hp.trans ((List.perm_append_singleton x ys).trans ((List.Perm.cons x h.perm).trans (ins_perm x xs).symm)), ins_srd x h.srd⟩

end Go.Proofs.Ytmhmekmacdkdgaa
