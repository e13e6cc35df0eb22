import Derived.Test.YtbpaepkcchpmbaaGreatG0
import Derived.Test.YtbpaepkcchpmbaaGreatG6
import Derived.Test.YtbpaepkcchpmbaaGreatG2
import Derived.Deep.CutRange
import Derived.Test.YtbpaepkcchpmbaaGreatG25
namespace Go.Proofs.YtbpaepkcchpmbaaGreat
open Go.RowKit
def lt4 (x y : It) : Bool := decide (x.t < y.t ∨ (x.t = y.t ∧ (x.q < y.q ∨ (x.q = y.q ∧ (x.s < y.s ∨ (x.s = y.s ∧ x.v < y.v))))))
theorem lt4_iff {x y : It} : lt4 x y = true ↔ (x.t < y.t ∨ (x.t = y.t ∧ (x.q < y.q ∨ (x.q = y.q ∧ (x.s < y.s ∨ (x.s = y.s ∧ x.v < y.v)))))) := decide_eq_true_iff
theorem lt4_no {x y : It} : lt4 x y = false ↔ ¬ (x.t < y.t ∨ (x.t = y.t ∧ (x.q < y.q ∨ (x.q = y.q ∧ (x.s < y.s ∨ (x.s = y.s ∧ x.v < y.v)))))) := decide_eq_false_iff_not
theorem lt4_self (x : It) : lt4 x x = false := lt4_no.2 (by omega)
theorem le4_trans {x y z : It} (h1 : lt4 y x = false) (h2 : lt4 z y = false) : lt4 z x = false := by
  rw [lt4_no] at *; omega
theorem lt4_le {x y : It} (h : lt4 x y = true) : lt4 y x = false := by
  rw [lt4_iff] at h; rw [lt4_no]; omega
theorem le4_eq {x y : It} (h1 : lt4 y x = false) (h2 : lt4 x y = false) : x = y := by
  rw [lt4_no] at h1 h2
  obtain ⟨a, b, c, d⟩ := x
  obtain ⟨a', b', c', d'⟩ := y
  simp only [It.mk.injEq] at *
  omega
def Srd (xs : List It) : Prop := xs.Pairwise fun a b => lt4 b a = false
theorem srd_one {xs ys : List It} (h1 : Srd xs) (h2 : Srd ys) (hp : xs.Perm ys) : xs = ys :=
  hp.eq_of_pairwise (fun _ _ _ _ h h' => le4_eq h h') h1 h2
theorem Srd.tail {xs : List It} (h : Srd xs) : Srd xs.tail := List.Pairwise.sublist (List.tail_sublist xs) h
theorem Srd.head {x : It} {r : List It} (h : Srd (x :: r)) : ∀ y ∈ r, lt4 y x = false := (List.pairwise_cons.1 h).1
def ins (x : It) : List It → List It
  | [] => [x]
  | y :: r => if lt4 x y = true then x :: y :: r else y :: ins x r
theorem ins_perm (x : It) (xs : List It) : (ins x xs).Perm (x :: xs) := by
  induction xs with
  | nil => exact List.Perm.refl _
  | cons y r ih =>
    unfold ins
    split
    · exact List.Perm.refl _
    · exact (List.Perm.cons y ih).trans (List.Perm.swap x y r)
theorem ins_srd (x : It) {xs : List It} (h : Srd xs) : Srd (ins x xs) := by
  induction xs with
  | nil => exact List.pairwise_singleton _ _
  | cons y r ih =>
    have hh := h.head
    have ht := ih (List.pairwise_cons.1 h).2
    unfold ins
    split
    · rename_i h1
      refine List.pairwise_cons.2 ⟨fun z hz => ?_, h⟩
      rcases List.mem_cons.1 hz with rfl | hz
      · exact lt4_le h1
      · exact le4_trans (lt4_le h1) (hh z hz)
    · rename_i h1
      refine List.pairwise_cons.2 ⟨fun z hz => ?_, ht⟩
      rcases List.mem_cons.1 ((ins_perm x r).mem_iff.1 hz) with rfl | hz
      · simpa using h1
      · exact hh z hz
def insAll (xs : List It) (zs : List It) : List It := zs.foldl (fun a z => ins z a) xs
theorem insAll_cons (xs : List It) (z : It) (zs : List It) : insAll xs (z :: zs) = insAll (ins z xs) zs := rfl
theorem insAll_on (xs zs : List It) (z : It) : insAll xs (zs ++ [z]) = ins z (insAll xs zs) := by simp [insAll]
theorem insAll_perm (xs zs : List It) : (insAll xs zs).Perm (zs ++ xs) := by
  induction zs generalizing xs with
  | nil => exact List.Perm.refl _
  | cons z zs ih =>
    rw [insAll_cons]
    exact (ih _).trans ((List.Perm.append_left zs (ins_perm z xs)).trans List.perm_middle)
theorem insAll_srd {xs : List It} (h : Srd xs) (zs : List It) : Srd (insAll xs zs) := by
  induction zs generalizing xs with
  | nil => exact h
  | cons z zs ih => exact ih (ins_srd z h)
theorem insAll_len (xs zs : List It) : (insAll xs zs).length = xs.length + zs.length := by
  have := (insAll_perm xs zs).length_eq
  rw [List.length_append] at this; omega
def pl (ys : List It) (p : Nat) : It := nthI ys (p - 1)
def HeapOk (ys : List It) : Prop := ∀ c, 2 ≤ c → c ≤ ys.length → lt4 (pl ys c) (pl ys (c / 2)) = false
theorem heap_least {ys : List It} (h : HeapOk ys) : ∀ p, 1 ≤ p → p ≤ ys.length → lt4 (pl ys p) (pl ys 1) = false := by
  intro p
  induction p using Nat.strongRecOn with
  | _ p ih =>
    intro h1 h2
    by_cases e : p = 1
    · subst e; exact lt4_self _
    · exact le4_trans (ih (p / 2) (by omega) (by omega) (by omega)) (h p (by omega) h2)
def swp (ys : List It) (a b : Nat) : List It := (ys.set (a - 1) (pl ys b)).set (b - 1) (pl ys a)
theorem swp_len (ys : List It) (a b : Nat) : (swp ys a b).length = ys.length := by simp [swp]
theorem swp_perm {ys : List It} {a b : Nat} (ha : 1 ≤ a) (ha2 : a ≤ ys.length) (hb : 1 ≤ b) (hb2 : b ≤ ys.length) : (swp ys a b).Perm ys := by
  have e1 : pl ys b = ys[b - 1]'(by omega) := by simp [pl, nthI, show b - 1 < ys.length by omega]
  have e2 : pl ys a = ys[a - 1]'(by omega) := by simp [pl, nthI, show a - 1 < ys.length by omega]
  unfold swp
  rw [e1, e2]
  exact List.set_set_perm (by omega) (by omega)
theorem swp_pl {ys : List It} {a b : Nat} (ha : 1 ≤ a) (ha2 : a ≤ ys.length) (hb : 1 ≤ b) (hb2 : b ≤ ys.length) (c : Nat) (hc : 1 ≤ c) : pl (swp ys a b) c = if c = b then pl ys a else if c = a then pl ys b else pl ys c := by
  have hs : ∀ (l : List It) (i j : Nat) (x : It), i < l.length → nthI (l.set i x) j = if i = j then x else nthI l j := fun l i j x hi => by
    unfold nthI
    rw [List.getD_eq_getElem?_getD, List.getElem?_set]
    by_cases e : i = j
    · subst e; simp [hi]
    · simp [e]
  have e0 : pl (swp ys a b) c = nthI ((ys.set (a - 1) (pl ys b)).set (b - 1) (pl ys a)) (c - 1) := rfl
  rw [e0, hs _ _ _ _ (by rw [List.length_set]; omega)]
  by_cases e : c = b
  · rw [if_pos (by omega), if_pos e]
  · rw [if_neg (by omega), if_neg e, hs _ _ _ _ (by omega)]
    by_cases e2 : c = a
    · rw [if_pos (by omega), if_pos e2]
    · rw [if_neg (by omega), if_neg e2]; rfl
structure UpI (ys : List It) (p : Nat) : Prop where
  a : ∀ c, 2 ≤ c → c ≤ ys.length → c ≠ p → lt4 (pl ys c) (pl ys (c / 2)) = false
  b : 2 ≤ p → ∀ c, 2 ≤ c → c ≤ ys.length → c / 2 = p → lt4 (pl ys c) (pl ys (p / 2)) = false
  lo : 1 ≤ p
  hi : p ≤ ys.length
theorem pl_app {ys : List It} {x : It} {c : Nat} (h1 : 1 ≤ c) (hc : c ≤ ys.length) : pl (ys ++ [x]) c = pl ys c := by
  unfold pl nthI; rw [List.getD_eq_getElem?_getD, List.getD_eq_getElem?_getD, List.getElem?_append_left (by omega)]
theorem upI_new {ys : List It} (h : HeapOk ys) (x : It) : UpI (ys ++ [x]) (ys.length + 1) := by
  refine ⟨fun c h1 h2 h3 => ?_, fun _ c h1 h2 h3 => ?_, by omega, by simp⟩
  · rw [List.length_append, List.length_singleton] at h2
    rw [pl_app (by omega) (by omega), pl_app (by omega) (by omega)]
    exact h c h1 (by omega)
  · rw [List.length_append, List.length_singleton] at h2
    omega
theorem upI_end {ys : List It} {p : Nat} (h : UpI ys p) (h1 : p = 1 ∨ lt4 (pl ys p) (pl ys (p / 2)) = false) : HeapOk ys := fun c c1 c2 => by
  by_cases e : c = p
  · subst e
    rcases h1 with h1 | h1
    · omega
    · exact h1
  · exact h.a c c1 c2 e
theorem upI_step {ys : List It} {p : Nat} (h : UpI ys p) (h1 : 2 ≤ p) (h2 : lt4 (pl ys p) (pl ys (p / 2)) = true) : UpI (swp ys p (p / 2)) (p / 2) := by
  have h3 := h.hi
  have hl := lt4_le h2
  have at_ : ∀ c, 1 ≤ c → pl (swp ys p (p / 2)) c = if c = p / 2 then pl ys p else if c = p then pl ys (p / 2) else pl ys c := fun c hc => swp_pl (by omega) h3 (by omega) (by omega) c hc
  refine ⟨fun c c1 c2 c3 => ?_, fun p1 c c1 c2 c3 => ?_, by omega, by rw [swp_len]; omega⟩
  · rw [swp_len] at c2
    rw [at_ c (by omega), at_ (c / 2) (by omega), if_neg c3]
    by_cases e : c = p
    · subst e
      rw [if_pos rfl, if_pos rfl]; exact hl
    · rw [if_neg e]
      have ha := h.a c c1 c2 e
      by_cases e2 : c / 2 = p / 2
      · rw [if_pos e2]
        rw [e2] at ha
        exact le4_trans hl ha
      · rw [if_neg e2]
        by_cases e3 : c / 2 = p
        · rw [if_pos e3]
          exact h.b h1 c c1 c2 e3
        · rw [if_neg e3]; exact ha
  · rw [swp_len] at c2
    rw [at_ c (by omega), at_ (p / 2 / 2) (by omega), if_neg (show ¬ c = p / 2 by omega), if_neg (show ¬ p / 2 / 2 = p / 2 by omega), if_neg (show ¬ p / 2 / 2 = p by omega)]
    have hq := h.a (p / 2) (by omega) (by omega) (by omega)
    by_cases e : c = p
    · rw [if_pos e]; exact hq
    · rw [if_neg e]
      have ha := h.a c c1 c2 e
      rw [c3] at ha
      exact le4_trans hq ha
structure DnI (ys : List It) (p : Nat) : Prop where
  a : ∀ c, 2 ≤ c → c ≤ ys.length → c / 2 ≠ p → lt4 (pl ys c) (pl ys (c / 2)) = false
  b : 2 ≤ p → ∀ c, 2 ≤ c → c ≤ ys.length → c / 2 = p → lt4 (pl ys c) (pl ys (p / 2)) = false
  lo : 1 ≤ p
def kid (ys : List It) (p : Nat) : Nat :=
  if ys.length < 2 * p then 0 else if 2 * p < ys.length ∧ lt4 (pl ys (2 * p + 1)) (pl ys (2 * p)) = true then 2 * p + 1 else 2 * p
theorem kid_cases (ys : List It) (p : Nat) (hp : 1 ≤ p) : kid ys p = 0 ∧ ys.length < 2 * p ∨ (2 ≤ kid ys p ∧ kid ys p ≤ ys.length ∧ kid ys p / 2 = p ∧ p < kid ys p ∧ ∀ c, 2 ≤ c → c ≤ ys.length → c / 2 = p → lt4 (pl ys c) (pl ys (kid ys p)) = false) := by
  unfold kid
  split
  · rename_i h1; exact .inl ⟨rfl, h1⟩
  · rename_i h1
    split
    · rename_i h2
      refine .inr ⟨by omega, by omega, by omega, by omega, fun c c1 c2 c3 => ?_⟩
      by_cases e : c = 2 * p + 1
      · rw [e]; exact lt4_self _
      · rw [show c = 2 * p by omega]; exact lt4_le h2.2
    · rename_i h2
      refine .inr ⟨by omega, by omega, by omega, by omega, fun c c1 c2 c3 => ?_⟩
      by_cases e : c = 2 * p
      · rw [e]; exact lt4_self _
      · have e2 : c = 2 * p + 1 := by omega
        cases h3 : lt4 (pl ys (2 * p + 1)) (pl ys (2 * p))
        · rw [e2]; exact h3
        · exact absurd ⟨by omega, h3⟩ h2
theorem dnI_end {ys : List It} {p : Nat} (h : DnI ys p) (h1 : kid ys p = 0 ∨ lt4 (pl ys (kid ys p)) (pl ys p) = false) : HeapOk ys := fun c c1 c2 => by
  by_cases e : c / 2 = p
  · rcases kid_cases ys p h.lo with ⟨k1, k2⟩ | ⟨k1, k2, k3, k4, k5⟩
    · omega
    · rcases h1 with h1 | h1
      · omega
      · rw [e]
        exact le4_trans h1 (k5 c c1 c2 e)
  · exact h.a c c1 c2 e
theorem dnI_step {ys : List It} {p : Nat} (h : DnI ys p) (h1 : kid ys p ≠ 0) (h2 : lt4 (pl ys (kid ys p)) (pl ys p) = true) : DnI (swp ys (kid ys p) p) (kid ys p) := by
  have hlo := h.lo
  rcases kid_cases ys p h.lo with ⟨k1, k2⟩ | ⟨k1, k2, k3, k4, k5⟩
  · exact absurd k1 h1
  generalize kid ys p = k at *
  have hl := lt4_le h2
  have at_ : ∀ c, 1 ≤ c → pl (swp ys k p) c = if c = p then pl ys k else if c = k then pl ys p else pl ys c := fun c hc => swp_pl (by omega) k2 (by omega) (by omega) c hc
  refine ⟨fun c c1 c2 c3 => ?_, fun _ c c1 c2 c3 => ?_, by omega⟩
  · rw [swp_len] at c2
    rw [at_ c (by omega), at_ (c / 2) (by omega)]
    by_cases e : c = p
    · subst e
      rw [if_pos rfl, if_neg (show ¬ c / 2 = c by omega), if_neg (show ¬ c / 2 = k by omega)]
      exact h.b c1 k k1 k2 k3
    · rw [if_neg e]
      by_cases e1 : c = k
      · subst e1
        rw [if_pos rfl, if_pos k3]; exact hl
      · rw [if_neg e1]
        by_cases e2 : c / 2 = p
        · rw [if_pos e2]; exact k5 c c1 c2 e2
        · rw [if_neg e2, if_neg c3]; exact h.a c c1 c2 e2
  · rw [swp_len] at c2
    rw [at_ c (by omega), at_ (k / 2) (by omega), k3, if_pos rfl, if_neg (show ¬ c = p by omega), if_neg (show ¬ c = k by omega)]
    have := h.a c c1 c2 (by omega)
    rw [c3] at this
    exact this
def popA (ys : List It) : List It := (swp ys 1 ys.length).take (ys.length - 1)
theorem popA_len (ys : List It) : (popA ys).length = ys.length - 1 := by unfold popA; rw [List.length_take, swp_len]; omega
theorem pl_take {ys : List It} {m c : Nat} (h1 : 1 ≤ c) (h : c ≤ m) : pl (ys.take m) c = pl ys c := by
  unfold pl nthI
  rw [List.getD_eq_getElem?_getD, List.getD_eq_getElem?_getD, List.getElem?_take, if_pos (by omega)]
theorem dnI_pop {ys : List It} (h : HeapOk ys) (h0 : 0 < ys.length) : DnI (popA ys) 1 := by
  have at_ : ∀ c, 2 ≤ c → c < ys.length → pl (popA ys) c = pl ys c := fun c h1 h2 => by
    unfold popA
    rw [pl_take (by omega) (by omega), swp_pl (Nat.le_refl _) (by omega) (by omega) (Nat.le_refl _) c (by omega), if_neg (by omega), if_neg (by omega)]
  refine ⟨fun c c1 c2 c3 => ?_, fun h1 => by omega, Nat.le_refl _⟩
  rw [popA_len] at c2
  rw [at_ c c1 (by omega), at_ (c / 2) (by omega) (by omega)]
  exact h c c1 (by omega)
theorem popA_perm {ys : List It} (h0 : 0 < ys.length) : (pl ys 1 :: popA ys).Perm ys := by
  have hp := swp_perm (ys := ys) (a := 1) (b := ys.length) (Nat.le_refl _) (by omega) (by omega) (Nat.le_refl _)
  have hl : (swp ys 1 ys.length).take (ys.length - 1) ++ [pl (swp ys 1 ys.length) ys.length] = swp ys 1 ys.length := by
    have e : pl (swp ys 1 ys.length) ys.length = (swp ys 1 ys.length)[ys.length - 1]'(by rw [swp_len]; omega) := by simp [pl, nthI, swp_len, show ys.length - 1 < ys.length by omega]
    rw [e, List.take_append_getElem, show ys.length - 1 + 1 = (swp ys 1 ys.length).length by rw [swp_len]; omega, List.take_length]
  rw [swp_pl (Nat.le_refl _) (by omega) (by omega) (Nat.le_refl _) _ (by omega), if_pos rfl] at hl
  refine List.Perm.trans ?_ hp
  rw [← hl]
  exact (List.perm_append_singleton _ _).symm
structure HpOf (ys xs : List It) : Prop where
  ok : HeapOk ys
  perm : ys.Perm xs
  srd : Srd xs
theorem HpOf.len {ys xs : List It} (h : HpOf ys xs) : ys.length = xs.length := h.perm.length_eq
theorem HpOf.nil : HpOf [] [] := ⟨fun c _ h => by simp at h; omega, List.Perm.refl _, List.Pairwise.nil⟩
theorem HpOf.root {ys xs : List It} (h : HpOf ys xs) (h0 : 0 < xs.length) : pl ys 1 = nthI xs 0 := by
  cases xs with
  | nil => simp at h0
  | cons x r =>
    have hl := h.len
    have e : nthI (x :: r) 0 = x := rfl
    have e1 : pl ys 1 = ys[0]'(by omega) := by simp [pl, nthI, show 0 < ys.length by omega]
    rw [e]
    refine le4_eq ?_ ?_
    · have hx : x ∈ ys := h.perm.mem_iff.2 (List.mem_cons_self ..)
      obtain ⟨i, hi, rfl⟩ := List.mem_iff_getElem.1 hx
      have := heap_least h.ok (i + 1) (by omega) (by omega)
      rw [show pl ys (i + 1) = ys[i] by simp [pl, nthI, hi]] at this
      exact this
    · have : pl ys 1 ∈ x :: r := h.perm.mem_iff.1 (by rw [e1]; exact List.getElem_mem _)
      rcases List.mem_cons.1 this with e | e
      · rw [e]; exact lt4_self _
      · exact h.srd.head _ e
theorem HpOf.pop {ys xs zs : List It} (h : HpOf ys xs) (h0 : 0 < xs.length) (hz : HeapOk zs) (hp : zs.Perm (popA ys)) : HpOf zs xs.tail := by
  have hr := h.root h0
  cases xs with
  | nil => simp at h0
  | cons x r =>
    have e : nthI (x :: r) 0 = x := rfl
    rw [e] at hr
    have h1 := popA_perm (ys := ys) (by rw [h.len]; exact h0)
    rw [hr] at h1
    exact ⟨hz, hp.trans ((h1.trans h.perm).cons_inv), h.srd.tail⟩
theorem HpOf.push {ys xs zs : List It} {x : It} (h : HpOf ys xs) (hz : HeapOk zs) (hp : zs.Perm (ys ++ [x])) : HpOf zs (ins x xs) :=
  ⟨hz, hp.trans ((List.perm_append_singleton x ys).trans ((List.Perm.cons x h.perm).trans (ins_perm x xs).symm)), ins_srd x h.srd⟩
end Go.Proofs.YtbpaepkcchpmbaaGreat
namespace Go.Proofs.YtbpaepkcchpmbaaGreat
open Go.RowKit
def cmp4 (x y : It) : Int := orI (cmpT x y) (orI (cmpI x.s y.s) (cmpI x.v y.v))
theorem cmp4_lt (x y : It) : decide (cmp4 x y < 0) = lt4 x y := by
  unfold cmp4 orI cmpT cmpI lt4
  by_cases h : (x.t < y.t ∨ (x.t = y.t ∧ (x.q < y.q ∨ (x.q = y.q ∧ (x.s < y.s ∨ (x.s = y.s ∧ x.v < y.v))))))
  · rw [decide_eq_true h]
    refine decide_eq_true ?_
    (repeat' split) <;> omega
  · rw [decide_eq_false h]
    refine decide_eq_false ?_
    (repeat' split) <;> omega
set_option maxRecDepth 100000 in
set_option maxHeartbeats 400000 in
theorem or3_any (a b c : Int) (g : Nat) (w : World) (h0 : w.cell? ⟨g, 0, none⟩ = some (.int .i64 a)) (h1 : w.cell? ⟨g, 1, none⟩ = some (.int .i64 b)) (h2 : w.cell? ⟨g, 2, none⟩ = some (.int .i64 c)) :
    Calls Tryz.prog 116 #[.slice (some ⟨g, 0, none⟩) 3 3] w fun e w' => e = .returned (.int .i64 (orI a (orI b c))) ∧ w = w' := by
  unfold orI
  by_cases ha : a = 0
  · subst ha
    rw [if_pos rfl]
    by_cases hb : b = 0
    · subst hb
      rw [if_pos rfl]
      by_cases hc : c = 0
      · subst hc
        go_enter Tryz.func116, Tryz.ntmps116
        go_wp2
        refine wp_loop_rounds 4 ?_; rw [rounds_succ]
        go_wp2
        rw [rounds_succ]
        go_wp2
        rw [rounds_succ]
        go_wp2
        rw [rounds_succ]
        go_wp2
        go_ret
        exact ⟨rfl, rfl⟩
      · go_enter Tryz.func116, Tryz.ntmps116
        go_wp2
        refine wp_loop_rounds 3 ?_; rw [rounds_succ]
        go_wp2
        rw [rounds_succ]
        go_wp2
        rw [rounds_succ]
        go_wp2
        go_ret
        exact ⟨rfl, rfl⟩
    · rw [if_neg hb]
      go_enter Tryz.func116, Tryz.ntmps116
      go_wp2
      refine wp_loop_rounds 2 ?_; rw [rounds_succ]
      go_wp2
      rw [rounds_succ]
      go_wp2
      go_ret
      exact ⟨rfl, rfl⟩
  · rw [if_neg ha]
    go_enter Tryz.func116, Tryz.ntmps116
    go_wp2
    refine wp_loop_rounds 1 ?_; rw [rounds_succ]
    go_wp2
    go_ret
    exact ⟨rfl, rfl⟩
end Go.Proofs.YtbpaepkcchpmbaaGreat
namespace Go.Proofs.YtbpaepkcchpmbaaGreat
open Go.RowKit
def row3 (x y z : Int) : Fact := fun v w => ∃ g, v = .slice (some ⟨g, 0, none⟩) 3 3 ∧ Has w g 3 (ints [x, y, z])
theorem row3_mono (x y z : Int) : Mono (row3 x y z) := fun _ _ _ hb ⟨g, e, h⟩ => ⟨g, e, h.below hb h.lt⟩
theorem rf_list3I {D : List (Option Tmp)} {Φ : Fact} {o : Oper} {a : Act} {w : World} (hw : Region.wanted o (yieldD D a.tmps) = true) {t : Tmp} (hd : o.dst = some t) (x y z : Operand) (ho : o.op = .buildSlice 57 3 #[(0, x), (1, y), (2, z)]) (p q r : Int) (hx : a.eval x = .int .i64 p) (hy : a.eval y = .int .i64 q) (hz : a.eval z = .int .i64 r) (h : ∀ v w', row3 p q r v w' → Φ v w') : StepD Tryz.prog D Φ o a w := by
  have e : (Instr.buildSlice 57 3 #[(0, .int .i64 p), (1, .int .i64 q), (2, .int .i64 r)]).run Tryz.prog w = .ok (.slice (some ⟨w.heap.size, 0, none⟩) 3 3) (w.alloc (.cells (ints [p, q, r]) 3)) := by kernel_rfl
  refine step_val hw hd (.slice (some ⟨w.heap.size, 0, none⟩) 3 3) (w.alloc (.cells (ints [p, q, r]) 3)) ?_ ((Below.refl _ w).alloc (Nat.le_refl _) _) (h _ _ ⟨_, rfl, Has.made _ _ _⟩)
  unfold execOp
  rw [ho]
  generalize a.eval = ev at hx hy hz ⊢
  simp only [List.map_toArray, List.map_cons, List.map_nil, hx, hy, hz, Sem.run_bind, e, Result.andThen_ok]
  rfl
def hcm1D : List (Option Tmp) := [some 5, some 6, some 7, some 8, some 9, some 10, some 11, some 12, some 13, some 14, some 15, some 16, some 17, some 18, some 19, some 4]
def hcm1F (g p : Nat) (x y : It) : List Fact := [isV (.agg #[.int .i64 x.s, .int .i64 x.t, .int .i64 x.q, .int .i64 x.v]), isV (.agg #[.int .i64 y.s, .int .i64 y.t, .int .i64 y.q, .int .i64 y.v]), isV (.int .i64 (cmpT x y)), isV (.pointer (some ⟨g, 0, none⟩)), isV (.int .i64 x.s), isV (.pointer (some ⟨p, 0, none⟩)), isV (.int .i64 y.s), isV (.int .i64 (cmpI x.s y.s)), isV (.pointer (some ⟨g, 3, none⟩)), isV (.int .i64 x.v), isV (.pointer (some ⟨p, 3, none⟩)), isV (.int .i64 y.v), isV (.int .i64 (cmpI x.v y.v)), row3 (cmpT x y) (cmpI x.s y.s) (cmpI x.v y.v), isV (.int .i64 (cmp4 x y)), isV (.int .i64 (cmp4 x y))]
theorem hcm1F_mono (g p : Nat) (x y : It) : ∀ φ ∈ hcm1F g p x y, Mono φ := by
  unfold hcm1F
  repeat (first | exact monos_nil | (refine monos_cons (mono_isV _) ?_) | (refine monos_cons (row3_mono _ _ _) ?_))
structure hcm1S (g p : Nat) (x y : It) (a0 : Act) (w0 : World) : Prop where
  size : a0.tmps.size = 20
  v2 : a0.tmps.getD 2 undef = .pointer (some ⟨g, 0, none⟩)
  v3 : a0.tmps.getD 3 undef = .pointer (some ⟨p, 0, none⟩)
  b1 : Has w0 g 61 #[.int .i64 x.s, .int .i64 x.t, .int .i64 x.q, .int .i64 x.v]
  b2 : Has w0 p 61 #[.int .i64 y.s, .int .i64 y.t, .int .i64 y.q, .int .i64 y.v]
section
variable {g p : Nat} {x y : It} {a0 : Act} {w0 : World} (S : hcm1S g p x y a0 w0)
include S
set_option maxRecDepth 100000 in
set_option maxHeartbeats 8000000 in
theorem hcm1_ok : AllOps (fun j o => ∀ (a : Act) (w : World), Below w0.heap.size w0 w → FrD hcm1D a0 a → needs hcm1D (hcm1F g p x y) a w o.after.toList → StepD Tryz.prog hcm1D (factAt (hcm1F g p x y) j) o a w) 0 (opsOf 1 Tryz.f183) := by
  simp only [opsOf, Tryz.f183, opsAt, Option.bind, Option.or, Option.getD, reduceCtorEq, if_true, if_false]
  refine ⟨?_, ?_⟩
  · intro _a _w hB hF _hd
    exact rf_loadS (guard_none rfl) rfl _ _ rfl _ _ ((hF.other 2 rfl).trans S.v2) _ (rf_range (S.b1.below hB S.b1.lt)) Tryz.underlying61 rfl (by kernel_rfl) rfl
  refine ⟨?_, ?_⟩
  · intro _a _w hB hF _hd
    exact rf_loadS (guard_none rfl) rfl _ _ rfl _ _ ((hF.other 3 rfl).trans S.v3) _ (rf_range (S.b2.below hB S.b2.lt)) Tryz.underlying61 rfl (by kernel_rfl) rfl
  refine ⟨?_, ?_⟩
  · intro a _w _hB _hF hd
    have h5 : a.tmps.getD 5 undef = .agg #[.int .i64 x.s, .int .i64 x.t, .int .i64 x.q, .int .i64 x.v] := hd.1 rfl
    have h6 : a.tmps.getD 6 undef = .agg #[.int .i64 y.s, .int .i64 y.t, .int .i64 y.q, .int .i64 y.v] := hd.2.1 rfl
    refine step_call (guard_none rfl) rfl _ _ (rf_call_run Tryz.func91 (by kernel_rfl) (by kernel_rfl) _ _ rfl) ?_
    simp only [List.map_toArray, List.map_cons, List.map_nil, Act.eval, h5, h6]
    exact (compare_any x y _).mono (by rintro e w1 ⟨rfl, hb⟩; exact ⟨_, rfl, hb, rfl⟩)
  refine ⟨?_, ?_⟩
  · intro _a _w _hB hF _hd
    exact rf_faddr (guard_none rfl) rfl _ _ _ rfl _ _ 0 _ ((hF.other 2 rfl).trans S.v2) (by omega) (fun _ _ => by kernel_rfl) rfl
  refine ⟨?_, ?_⟩
  · intro a _w hB _hF hd
    have h8 : a.tmps.getD 8 undef = .pointer (some ⟨g, 0, none⟩) := hd.1 rfl
    exact rf_loadi (guard_none rfl) rfl _ rfl _ _ h8 _ ((Has.cell (S.b1.below hB S.b1.lt) 0).trans rfl) rfl
  refine ⟨?_, ?_⟩
  · intro _a _w _hB hF _hd
    exact rf_faddr (guard_none rfl) rfl _ _ _ rfl _ _ 0 _ ((hF.other 3 rfl).trans S.v3) (by omega) (fun _ _ => by kernel_rfl) rfl
  refine ⟨?_, ?_⟩
  · intro a _w hB _hF hd
    have h10 : a.tmps.getD 10 undef = .pointer (some ⟨p, 0, none⟩) := hd.1 rfl
    exact rf_loadi (guard_none rfl) rfl _ rfl _ _ h10 _ ((Has.cell (S.b2.below hB S.b2.lt) 0).trans rfl) rfl
  refine ⟨?_, ?_⟩
  · intro a _w _hB _hF hd
    have h9 : a.tmps.getD 9 undef = .int .i64 x.s := hd.1 rfl
    have h11 : a.tmps.getD 11 undef = .int .i64 y.s := hd.2.1 rfl
    refine step_call (guard_none rfl) rfl _ _ (rf_call_run Tryz.func117 (by kernel_rfl) (by kernel_rfl) _ _ rfl) ?_
    simp only [List.map_toArray, List.map_cons, List.map_nil, Act.eval, h9, h11]
    exact (cmp_any _ _ _).mono (by rintro e w1 ⟨rfl, rfl⟩; exact ⟨_, rfl, Below.refl _ _, rfl⟩)
  refine ⟨?_, ?_⟩
  · intro _a _w _hB hF _hd
    exact rf_faddr (guard_none rfl) rfl _ _ _ rfl _ _ 3 _ ((hF.other 2 rfl).trans S.v2) (by omega) (fun _ _ => by kernel_rfl) rfl
  refine ⟨?_, ?_⟩
  · intro a _w hB _hF hd
    have h13 : a.tmps.getD 13 undef = .pointer (some ⟨g, 3, none⟩) := hd.1 rfl
    exact rf_loadi (guard_none rfl) rfl _ rfl _ _ h13 _ ((Has.cell (S.b1.below hB S.b1.lt) 3).trans rfl) rfl
  refine ⟨?_, ?_⟩
  · intro _a _w _hB hF _hd
    exact rf_faddr (guard_none rfl) rfl _ _ _ rfl _ _ 3 _ ((hF.other 3 rfl).trans S.v3) (by omega) (fun _ _ => by kernel_rfl) rfl
  refine ⟨?_, ?_⟩
  · intro a _w hB _hF hd
    have h15 : a.tmps.getD 15 undef = .pointer (some ⟨p, 3, none⟩) := hd.1 rfl
    exact rf_loadi (guard_none rfl) rfl _ rfl _ _ h15 _ ((Has.cell (S.b2.below hB S.b2.lt) 3).trans rfl) rfl
  refine ⟨?_, ?_⟩
  · intro a _w _hB _hF hd
    have h14 : a.tmps.getD 14 undef = .int .i64 x.v := hd.1 rfl
    have h16 : a.tmps.getD 16 undef = .int .i64 y.v := hd.2.1 rfl
    refine step_call (guard_none rfl) rfl _ _ (rf_call_run Tryz.func117 (by kernel_rfl) (by kernel_rfl) _ _ rfl) ?_
    simp only [List.map_toArray, List.map_cons, List.map_nil, Act.eval, h14, h16]
    exact (cmp_any _ _ _).mono (by rintro e w1 ⟨rfl, rfl⟩; exact ⟨_, rfl, Below.refl _ _, rfl⟩)
  refine ⟨?_, ?_⟩
  · intro a _w _hB _hF hd
    have h7 : a.tmps.getD 7 undef = .int .i64 (cmpT x y) := hd.1 rfl
    have h12 : a.tmps.getD 12 undef = .int .i64 (cmpI x.s y.s) := hd.2.1 rfl
    have h17 : a.tmps.getD 17 undef = .int .i64 (cmpI x.v y.v) := hd.2.2.1 rfl
    exact rf_list3I (guard_none rfl) rfl _ _ _ rfl (cmpT x y) (cmpI x.s y.s) (cmpI x.v y.v) h7 h12 h17 (fun _ _ h => h)
  refine ⟨?_, ?_⟩
  · intro a w _hB _hF hd
    obtain ⟨g18, h18, p18⟩ : row3 (cmpT x y) (cmpI x.s y.s) (cmpI x.v y.v) (a.tmps.getD 18 undef) w := hd.1 rfl
    refine step_call (guard_none rfl) rfl _ _ (rf_call_run Tryz.func116 (by kernel_rfl) (by kernel_rfl) _ _ rfl) ?_
    simp only [List.map_toArray, List.map_cons, List.map_nil, Act.eval, h18]
    exact (or3_any (cmpT x y) (cmpI x.s y.s) (cmpI x.v y.v) _ _ ((p18.cell 0).trans rfl) ((p18.cell 1).trans rfl) ((p18.cell 2).trans rfl)).mono (by rintro e w1 ⟨rfl, rfl⟩; exact ⟨_, rfl, Below.refl _ _, rfl⟩)
  refine ⟨?_, ?_⟩
  · intro a _w _hB _hF hd
    have h19 : a.tmps.getD 19 undef = .int .i64 (cmp4 x y) := hd.1 rfl
    exact step_assign (guard_none rfl) rfl _ rfl h19
  trivial
theorem hcm1_any {Q : Exit → Act → World → Prop} {l : List Oper} (hl : opsOf 1 Tryz.f183 = l) (hend : ∀ (g18 : Nat), ∀ w : World, Below w0.heap.size w0 w → Has w g18 3 (ints [cmpT x y, cmpI x.s y.s, cmpI x.v y.v]) → Q .normal (putAll a0 [(5, .agg #[.int .i64 x.s, .int .i64 x.t, .int .i64 x.q, .int .i64 x.v]), (6, .agg #[.int .i64 y.s, .int .i64 y.t, .int .i64 y.q, .int .i64 y.v]), (7, .int .i64 (cmpT x y)), (8, .pointer (some ⟨g, 0, none⟩)), (9, .int .i64 x.s), (10, .pointer (some ⟨p, 0, none⟩)), (11, .int .i64 y.s), (12, .int .i64 (cmpI x.s y.s)), (13, .pointer (some ⟨g, 3, none⟩)), (14, .int .i64 x.v), (15, .pointer (some ⟨p, 3, none⟩)), (16, .int .i64 y.v), (17, .int .i64 (cmpI x.v y.v)), (18, .slice (some ⟨g18, 0, none⟩) 3 3), (19, .int .i64 (cmp4 x y)), (4, .int .i64 (cmp4 x y))]) w) :
    (Code.region 1 l.toArray true).wp Tryz.prog Q a0 w0 := by
  subst hl
  refine region_facts2 (hcm1F g p x y) hcm1D 20 S.size rfl (by kernel_rfl) (by kernel_rfl) (hcm1F_mono _ _ _ _) (hcm1_ok S) fun a w hB hF h => ?_
  obtain ⟨g18, h18, p18⟩ : row3 (cmpT x y) (cmpI x.s y.s) (cmpI x.v y.v) (a.tmps.getD 18 undef) w := h 13 (some 18) rfl
  have hv : valsAre a [(5, .agg #[.int .i64 x.s, .int .i64 x.t, .int .i64 x.q, .int .i64 x.v]), (6, .agg #[.int .i64 y.s, .int .i64 y.t, .int .i64 y.q, .int .i64 y.v]), (7, .int .i64 (cmpT x y)), (8, .pointer (some ⟨g, 0, none⟩)), (9, .int .i64 x.s), (10, .pointer (some ⟨p, 0, none⟩)), (11, .int .i64 y.s), (12, .int .i64 (cmpI x.s y.s)), (13, .pointer (some ⟨g, 3, none⟩)), (14, .int .i64 x.v), (15, .pointer (some ⟨p, 3, none⟩)), (16, .int .i64 y.v), (17, .int .i64 (cmpI x.v y.v)), (18, .slice (some ⟨g18, 0, none⟩) 3 3), (19, .int .i64 (cmp4 x y)), (4, .int .i64 (cmp4 x y))] := by
    refine ⟨?_, ?_, ?_, ?_, ?_, ?_, ?_, ?_, ?_, ?_, ?_, ?_, ?_, ?_, ?_, ?_, trivial⟩
    · exact h 0 (some 5) rfl
    · exact h 1 (some 6) rfl
    · exact h 2 (some 7) rfl
    · exact h 3 (some 8) rfl
    · exact h 4 (some 9) rfl
    · exact h 5 (some 10) rfl
    · exact h 6 (some 11) rfl
    · exact h 7 (some 12) rfl
    · exact h 8 (some 13) rfl
    · exact h 9 (some 14) rfl
    · exact h 10 (some 15) rfl
    · exact h 11 (some 16) rfl
    · exact h 12 (some 17) rfl
    · exact h18
    · exact h 14 (some 19) rfl
    · exact h 15 (some 4) rfl
  rw [frame_is hF _ hv (by rfl) (by rfl)]
  exact hend g18 w hB p18
end
end Go.Proofs.YtbpaepkcchpmbaaGreat
namespace Go.Proofs.YtbpaepkcchpmbaaGreat
open Go.RowKit
set_option maxRecDepth 100000 in
set_option maxHeartbeats 2000000 in
theorem compare4_any (x y : It) (w : World) :
    Calls Tryz.prog 183 #[.agg #[.int .i64 x.s, .int .i64 x.t, .int .i64 x.q, .int .i64 x.v], .agg #[.int .i64 y.s, .int .i64 y.t, .int .i64 y.q, .int .i64 y.v]] w
      fun e w' => e = .returned (.int .i64 (cmp4 x y)) ∧ Below w.heap.size w w' := by
  go_enter Tryz.func183, Tryz.ntmps183
  go_upto_region 1 with fail
  refine hcm1_any (g := w.heap.size) (p := w.heap.size + 1) (x := x) (y := y) ⟨rfl, rfl, rfl, (Has.made _ _ _).alloc _, by have := Has.made (w.alloc (.cells #[.int .i64 x.s, .int .i64 x.t, .int .i64 x.q, .int .i64 x.v] 61)) 61 #[.int .i64 y.s, .int .i64 y.t, .int .i64 y.q, .int .i64 y.v]; simpa using this⟩ (by kernel_rfl) ?_
  intro g18 w9 hB9 _
  have HB9 := Lib.hid (((Below.refl _ w).alloc (Nat.le_refl _) _).trans ((((Below.refl _ _).alloc (Nat.le_refl _) _).trans (hB9.mono (by simp))).mono (by simp)))
  clear hB9
  simp only [putAll, Act.put, List.setIfInBounds_toArray, List.set_cons_succ, List.set_cons_zero]
  go_wp2_with fail
  go_ret
  exact ⟨rfl, HB9.out⟩
end Go.Proofs.YtbpaepkcchpmbaaGreat
namespace Go.Proofs.YtbpaepkcchpmbaaGreat
open Go.RowKit
def hpC (m : Int) (A : Option Addr) (n c : Nat) : Array Value := #[.int .i64 m, .slice A n c]
structure HpAt (T : TypeId) (w : World) (gs : List Nat) (g : Nat) (m : Int) (ys : List It) (A : Option Addr) (c : Nat) : Prop where
  st : Has w g T (hpC m A ys.length c)
  own : OwnIt w 0 (.slice A ys.length c) ys
  inG : g ∈ gs
  inA : ∀ ad, A = some ad → ad.block ∈ gs
  lt : ∀ k ∈ gs, k < w.heap.size
def Hp (T : TypeId) (w : World) (gs : List Nat) (g : Nat) (m : Int) (ys : List It) : Prop := ∃ A c, HpAt T w gs g m ys A c
section
variable {T : TypeId} {w w' : World} {gs hs : List Nat} {g c : Nat} {m : Int} {ys : List It} {A : Option Addr}
theorem HpAt.butS (h : HpAt T w gs g m ys A c) (hb : ButS hs w w') (hn : ∀ k ∈ gs, k ∉ hs) : HpAt T w' gs g m ys A c :=
  ⟨h.st.butS hb (hn _ h.inG), h.own.butS hb (fun k hk => hn k (h.own.blks h.inA k hk)), h.inG, h.inA, fun k hk => Nat.lt_of_lt_of_le (h.lt k hk) hb.size⟩
theorem HpAt.below (h : HpAt T w gs g m ys A c) (hb : Below w.heap.size w w') : HpAt T w' gs g m ys A c := h.butS (below_butS hb []) (fun _ _ h => by cases h)
theorem Hp.butS (h : Hp T w gs g m ys) (hb : ButS hs w w') (hn : ∀ k ∈ gs, k ∉ hs) : Hp T w' gs g m ys := by
  obtain ⟨A, c, h⟩ := h
  exact ⟨A, c, h.butS hb hn⟩
theorem Hp.same (h : Hp T w gs g m ys) (hk : ∀ k ∈ gs, w'.heap[k]? = w.heap[k]?) (hs : w.heap.size ≤ w'.heap.size) : Hp T w' gs g m ys := by
  obtain ⟨A, c, h⟩ := h
  exact ⟨A, c, (hk g h.inG).trans h.st, h.own.same (fun k e => hk k (h.own.blks h.inA k e)), h.inG, h.inA, fun k hk => Nat.lt_of_lt_of_le (h.lt k hk) hs⟩
theorem Hp.lt (h : Hp T w gs g m ys) : ∀ k ∈ gs, k < w.heap.size := by
  obtain ⟨A, c, h⟩ := h
  exact h.lt
theorem HpAt.c0 (h : HpAt T w gs g m ys A c) : w.cell? ⟨g, 0, none⟩ = some (.int .i64 m) := h.st.cell 0
theorem HpAt.c1 (h : HpAt T w gs g m ys A c) : w.cell? ⟨g, 1, none⟩ = some (.slice A ys.length c) := h.st.cell 1
theorem HpAt.ablk (h : HpAt T w gs g m ys A c) (h0 : 0 < ys.length) : ∃ b, A = some ⟨b, 0, none⟩ := by
  rcases h.own.shape with ⟨_, h1, _⟩ | h1
  · omega
  · exact h1
end
def RowI (T g b n c : Nat) (m : Int) (ys ys' : List It) : Bool → Bool → World → Prop := fun p _ w => Has w g T (hpC m (some ⟨b, 0, none⟩) n c) ∧ OwnIt w 0 (.slice (some ⟨b, 0, none⟩) n c) (if p = true then ys' else ys)
theorem RowI.below {T g b n c : Nat} {m : Int} {ys ys' : List It} {p q : Bool} {w w' : World} (h : RowI T g b n c m ys ys' p q w) (hb : Below w.heap.size w w') : RowI T g b n c m ys ys' p q w' := ⟨h.1.below hb h.1.lt, h.2.below hb⟩
end Go.Proofs.YtbpaepkcchpmbaaGreat
