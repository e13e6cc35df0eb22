/-
  Plain: laying in by an order, generally: what stands sorted, where one lays in, that a sorted row is one by its members. No program here.
-/
import Derived.Test.YtjgjbhbpndjnnaaG0
namespace Go.Proofs.Ytjgjbhbpndjnnaa

/-- x, ahead of the first that it stands ahead of. -/
def insB {α : Type} (lt : α → α → Bool) (x : α) : List α → List α
  | [] => [x]
  | y :: r => if lt x y = true then x :: y :: r else y :: insB lt x r
/-- Sorted: none stands ahead of one that comes sooner. -/
def SrdB {α : Type} (lt : α → α → Bool) (xs : List α) : Prop := xs.Pairwise fun a b => lt b a = false
structure OrdB {α : Type} (lt : α → α → Bool) : Prop where
  asym : ∀ x y, lt x y = true → lt y x = false
  trn : ∀ x y z, lt y x = false → lt z y = false → lt z x = false
theorem insB_perm {α : Type} (lt : α → α → Bool) (x : α) (xs : List α) : (insB lt x xs).Perm (x :: xs) := by
  induction xs with
  | nil => exact List.Perm.refl _
  | cons y r ih =>
    unfold insB
    split
    · exact List.Perm.refl _
    · exact (List.Perm.cons y ih).trans (List.Perm.swap x y r)
theorem insB_mem {α : Type} {lt : α → α → Bool} {x y : α} {xs : List α} : y ∈ insB lt x xs ↔ y = x ∨ y ∈ xs := by
  rw [(insB_perm lt x xs).mem_iff, List.mem_cons]
theorem insB_len {α : Type} (lt : α → α → Bool) (x : α) (xs : List α) : (insB lt x xs).length = xs.length + 1 := (insB_perm lt x xs).length_eq
theorem insB_srd {α : Type} {lt : α → α → Bool} (o : OrdB lt) (x : α) {xs : List α} (h : SrdB lt xs) : SrdB lt (insB lt x xs) := by
  induction xs with
  | nil => exact List.pairwise_singleton _ _
  | cons y r ih =>
    have hh := (List.pairwise_cons.1 h).1
    have ht := ih (List.pairwise_cons.1 h).2
    unfold insB
    split
    · rename_i h1
      refine List.pairwise_cons.2 ⟨fun z hz => ?_, h⟩
      rcases List.mem_cons.1 hz with rfl | hz
      · exact o.asym _ _ h1
      · exact o.trn _ _ _ (o.asym _ _ h1) (hh z hz)
    · rename_i h1
      refine List.pairwise_cons.2 ⟨fun z hz => ?_, ht⟩
      rcases insB_mem.1 hz with rfl | hz
      · simpa using h1
      · exact hh z hz
/-- Where a walk from the end lays in. -/
theorem insB_at {α : Type} {lt : α → α → Bool} (o : OrdB lt) {xs : List α} (h : SrdB lt xs) (x : α) (k : Nat) (h1 : ∀ y, xs[k]? = some y → lt x y = true) (h2 : k = 0 ∨ ∃ y, xs[k - 1]? = some y ∧ lt x y = false) : insB lt x xs = xs.take k ++ x :: xs.drop k := by
  induction xs generalizing k with
  | nil => simp [insB]
  | cons y r ih =>
    cases k with
    | zero =>
      have := h1 y (by simp)
      simp [insB, this]
    | succ k =>
      have hh := (List.pairwise_cons.1 h).1
      have hy : lt x y = false := by
        rcases h2 with h2 | ⟨z, hz, e⟩
        · omega
        · rw [Nat.add_sub_cancel] at hz
          cases k with
          | zero => simp only [List.getElem?_cons_zero, Option.some.injEq] at hz; subst hz; exact e
          | succ k =>
            rw [List.getElem?_cons_succ] at hz
            exact o.trn _ _ _ (hh z (List.mem_of_getElem? hz)) e
      unfold insB
      rw [if_neg (by rw [hy]; simp), ih (List.pairwise_cons.1 h).2 k (fun z hz => h1 z (by rw [List.getElem?_cons_succ]; exact hz)) ?_]
      · simp
      · rcases h2 with h2 | ⟨z, hz, e⟩
        · omega
        · cases k with
          | zero => exact Or.inl rfl
          | succ k =>
            rw [Nat.add_sub_cancel, List.getElem?_cons_succ] at hz
            exact Or.inr ⟨z, by rw [Nat.add_sub_cancel]; exact hz, e⟩
/-- All of a row, one by one. -/
def srtB {α : Type} (lt : α → α → Bool) (xs : List α) : List α := xs.foldl (fun a z => insB lt z a) []
theorem srtB_on {α : Type} (lt : α → α → Bool) (xs : List α) (x : α) : srtB lt (xs ++ [x]) = insB lt x (srtB lt xs) := by simp [srtB]
theorem srtB_perm {α : Type} (lt : α → α → Bool) (xs : List α) : (srtB lt xs).Perm xs := by
  have : ∀ (ys : List α), (xs.foldl (fun a z => insB lt z a) ys).Perm (xs ++ ys) := by
    induction xs with
    | nil => exact fun ys => List.Perm.refl _
    | cons x xs ih => exact fun ys => (ih _).trans ((List.Perm.append_left xs (insB_perm lt x ys)).trans List.perm_middle)
  have := this []
  rw [List.append_nil] at this
  exact this
theorem srtB_srd {α : Type} {lt : α → α → Bool} (o : OrdB lt) (xs : List α) : SrdB lt (srtB lt xs) := by
  have : ∀ (ys : List α), SrdB lt ys → SrdB lt (xs.foldl (fun a z => insB lt z a) ys) := by
    induction xs with
    | nil => exact fun ys h => h
    | cons x xs ih => exact fun ys h => ih _ (insB_srd o x h)
  exact this [] List.Pairwise.nil
theorem srtB_mem {α : Type} {lt : α → α → Bool} {xs : List α} {x : α} : x ∈ srtB lt xs ↔ x ∈ xs := (srtB_perm lt xs).mem_iff
theorem srtB_len {α : Type} (lt : α → α → Bool) (xs : List α) : (srtB lt xs).length = xs.length := (srtB_perm lt xs).length_eq
/-- A sorted row of which no two are alike in rank is one by its members. -/
theorem srd_perm_eq {α : Type} {lt : α → α → Bool} {xs ys : List α} (h1 : SrdB lt xs) (h2 : SrdB lt ys) (hp : xs.Perm ys) (hu : ∀ a, a ∈ xs → ∀ b, b ∈ xs → lt a b = false → lt b a = false → a = b) : xs = ys :=
  hp.eq_of_pairwise (fun a b ha hb h h' => hu a ha b (hp.mem_iff.2 hb) h' h) h1 h2
theorem srd_mem_eq {α : Type} {lt : α → α → Bool} {xs ys : List α} (h1 : SrdB lt xs) (h2 : SrdB lt ys) (n1 : xs.Nodup) (n2 : ys.Nodup) (hm : ∀ a, a ∈ xs ↔ a ∈ ys) (hu : ∀ a, a ∈ xs → ∀ b, b ∈ xs → lt a b = false → lt b a = false → a = b) : xs = ys :=
  srd_perm_eq h1 h2 ((List.perm_ext_iff_of_nodup n1 n2).2 hm) hu
/-- A row behind another whose members all stand ahead. -/
theorem srd_append {α : Type} {lt : α → α → Bool} {xs ys : List α} (h1 : SrdB lt xs) (h2 : SrdB lt ys) (h3 : ∀ a, a ∈ xs → ∀ b, b ∈ ys → lt b a = false) : SrdB lt (xs ++ ys) := List.pairwise_append.2 ⟨h1, h2, h3⟩
/-- Laying in what stands sorted already. -/
theorem srtB_id {α : Type} {lt : α → α → Bool} (o : OrdB lt) {xs : List α} (h : SrdB lt xs) (hu : ∀ a, a ∈ xs → ∀ b, b ∈ xs → lt a b = false → lt b a = false → a = b) : srtB lt xs = xs :=
  (srd_perm_eq h (srtB_srd o xs) (srtB_perm lt xs).symm hu).symm

/-! Items by Time, then by Seq. -/
def lt2 (x y : It) : Bool := decide (x.t < y.t ∨ x.t = y.t ∧ x.q < y.q)
theorem lt2_iff {x y : It} : lt2 x y = true ↔ (x.t < y.t ∨ x.t = y.t ∧ x.q < y.q) := decide_eq_true_iff
theorem lt2_no {x y : It} : lt2 x y = false ↔ ¬ (x.t < y.t ∨ x.t = y.t ∧ x.q < y.q) := decide_eq_false_iff_not
theorem ord2 : OrdB lt2 := ⟨fun x y h => by rw [lt2_iff] at h; rw [lt2_no]; omega, fun x y z h1 h2 => by rw [lt2_no] at *; omega⟩
/-- No two of one Seq. -/
def Seqs (xs : List It) : Prop := xs.Pairwise fun a b => a.q ≠ b.q
theorem Seqs.nodup {xs : List It} (h : Seqs xs) : xs.Nodup := List.Pairwise.imp (fun hab e => hab (by rw [e])) h
theorem Seqs.one {xs : List It} (h : Seqs xs) {a b : It} (ha : a ∈ xs) (hb : b ∈ xs) (e : a.q = b.q) : a = b := by
  induction xs with
  | nil => cases ha
  | cons x r ih =>
    have hh := (List.pairwise_cons.1 h).1
    rcases List.mem_cons.1 ha with ha1 | ha1
    · rcases List.mem_cons.1 hb with hb1 | hb1
      · rw [ha1, hb1]
      · exact absurd e (by rw [ha1]; exact hh b hb1)
    · rcases List.mem_cons.1 hb with hb1 | hb1
      · exact absurd e.symm (by rw [hb1]; exact hh a ha1)
      · exact ih (List.pairwise_cons.1 h).2 ha1 hb1
theorem Seqs.perm {xs ys : List It} (h : Seqs xs) (hp : xs.Perm ys) : Seqs ys := (hp.pairwise_iff (fun hab e => hab e.symm)).1 h
theorem Seqs.two {xs : List It} (h : Seqs xs) : ∀ a, a ∈ xs → ∀ b, b ∈ xs → lt2 a b = false → lt2 b a = false → a = b := fun a ha b hb h1 h2 => by
  rw [lt2_no] at h1 h2
  exact h.one ha hb (by omega)
def rowL (xs : List It) : List It := srtB lt2 xs
theorem rowL_srd (xs : List It) : SrdB lt2 (rowL xs) := srtB_srd ord2 xs
theorem rowL_seqs {xs : List It} (h : Seqs xs) : Seqs (rowL xs) := h.perm (srtB_perm lt2 xs).symm
theorem rowL_id {xs : List It} (h : SrdB lt2 xs) (hs : Seqs xs) : rowL xs = xs := srtB_id ord2 h hs.two
theorem rowL_perm {xs ys : List It} (hs : Seqs xs) (hp : xs.Perm ys) : rowL xs = rowL ys :=
  srd_perm_eq (rowL_srd xs) (rowL_srd ys) ((srtB_perm lt2 xs).trans (hp.trans (srtB_perm lt2 ys).symm)) (rowL_seqs hs).two
theorem rowL_filter {xs : List It} (hs : Seqs xs) (f : It → Bool) : rowL (xs.filter f) = (rowL xs).filter f :=
  srd_perm_eq (rowL_srd _) (List.Pairwise.filter f (rowL_srd xs)) ((srtB_perm lt2 _).trans ((srtB_perm lt2 xs).symm.filter f)) (rowL_seqs (List.Pairwise.filter f hs)).two
/-- Laying in rows together, in whatever parts. -/
theorem rowL_on {xs ys : List It} (hs : Seqs (xs ++ ys)) : rowL (rowL xs ++ ys) = rowL (xs ++ ys) :=
  (rowL_perm hs (List.Perm.append_right ys (srtB_perm lt2 xs).symm)).symm

end Go.Proofs.Ytjgjbhbpndjnnaa
