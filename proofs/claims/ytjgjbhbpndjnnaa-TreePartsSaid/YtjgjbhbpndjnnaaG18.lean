/-
  Plain: laying in by an order, generally: what stands sorted, where one lays in, that a sorted row is one by its members. No program here.
  Plain: items in a tree: what is known of them together, of parts put side by side, where one is laid in. No program here.
-/
import Derived.Test.YtjgjbhbpndjnnaaG0
import Derived.Test.YtjgjbhbpndjnnaaStP
import Derived.Test.YtjgjbhbpndjnnaaG15
import Derived.Test.YtjgjbhbpndjnnaaG16
namespace Go.Proofs.Ytjgjbhbpndjnnaa

/-- x, ahead of the first that it stands ahead of. -/
def insB {α : Type} (lt : α → α → Bool) (x : α) : List α → List α
  | [] => [x]
  | y :: r => if lt x y = true then x :: y :: r else y :: insB lt x r
/-- Sorted: none stands ahead of one that comes sooner. -/
def SrdB {α : Type} (lt : α → α → Bool) (xs : List α) : Prop := xs.Pairwise fun a b => lt b a = false
structure OrdB {α : Type} (lt : α → α → Bool) : Prop where
  asym : ∀ x y, lt x y = true → lt y x = false
  trn : ∀ x y z, lt y x = false → lt z y = false → lt z x = false
theorem insB_perm {α : Type} (lt : α → α → Bool) (x : α) (xs : List α) : (insB lt x xs).Perm (x :: xs) := by
  induction xs with
  | nil => exact List.Perm.refl _
  | cons y r ih =>
    unfold insB
    split
    · exact List.Perm.refl _
    · exact (List.Perm.cons y ih).trans (List.Perm.swap x y r)
theorem insB_mem {α : Type} {lt : α → α → Bool} {x y : α} {xs : List α} : y ∈ insB lt x xs ↔ y = x ∨ y ∈ xs := by
  rw [(insB_perm lt x xs).mem_iff, List.mem_cons]
theorem insB_len {α : Type} (lt : α → α → Bool) (x : α) (xs : List α) : (insB lt x xs).length = xs.length + 1 := (insB_perm lt x xs).length_eq
theorem insB_srd {α : Type} {lt : α → α → Bool} (o : OrdB lt) (x : α) {xs : List α} (h : SrdB lt xs) : SrdB lt (insB lt x xs) := by
  induction xs with
  | nil => exact List.pairwise_singleton _ _
  | cons y r ih =>
    have hh := (List.pairwise_cons.1 h).1
    have ht := ih (List.pairwise_cons.1 h).2
    unfold insB
    split
    · rename_i h1
      refine List.pairwise_cons.2 ⟨fun z hz => ?_, h⟩
      rcases List.mem_cons.1 hz with rfl | hz
      · exact o.asym _ _ h1
      · exact o.trn _ _ _ (o.asym _ _ h1) (hh z hz)
    · rename_i h1
      refine List.pairwise_cons.2 ⟨fun z hz => ?_, ht⟩
      rcases insB_mem.1 hz with rfl | hz
      · simpa using h1
      · exact hh z hz
/-- Where a walk from the end lays in. -/
theorem insB_at {α : Type} {lt : α → α → Bool} (o : OrdB lt) {xs : List α} (h : SrdB lt xs) (x : α) (k : Nat) (h1 : ∀ y, xs[k]? = some y → lt x y = true) (h2 : k = 0 ∨ ∃ y, xs[k - 1]? = some y ∧ lt x y = false) : insB lt x xs = xs.take k ++ x :: xs.drop k := by
  induction xs generalizing k with
  | nil => simp [insB]
  | cons y r ih =>
    cases k with
    | zero =>
      have := h1 y (by simp)
      simp [insB, this]
    | succ k =>
      have hh := (List.pairwise_cons.1 h).1
      have hy : lt x y = false := by
        rcases h2 with h2 | ⟨z, hz, e⟩
        · omega
        · rw [Nat.add_sub_cancel] at hz
          cases k with
          | zero => simp only [List.getElem?_cons_zero, Option.some.injEq] at hz; subst hz; exact e
          | succ k =>
            rw [List.getElem?_cons_succ] at hz
            exact o.trn _ _ _ (hh z (List.mem_of_getElem? hz)) e
      unfold insB
      rw [if_neg (by rw [hy]; simp), ih (List.pairwise_cons.1 h).2 k (fun z hz => h1 z (by rw [List.getElem?_cons_succ]; exact hz)) ?_]
      · simp
      · rcases h2 with h2 | ⟨z, hz, e⟩
        · omega
        · cases k with
          | zero => exact Or.inl rfl
          | succ k =>
            rw [Nat.add_sub_cancel, List.getElem?_cons_succ] at hz
            exact Or.inr ⟨z, by rw [Nat.add_sub_cancel]; exact hz, e⟩
/-- All of a row, one by one. -/
def srtB {α : Type} (lt : α → α → Bool) (xs : List α) : List α := xs.foldl (fun a z => insB lt z a) []
theorem srtB_on {α : Type} (lt : α → α → Bool) (xs : List α) (x : α) : srtB lt (xs ++ [x]) = insB lt x (srtB lt xs) := by simp [srtB]
theorem srtB_perm {α : Type} (lt : α → α → Bool) (xs : List α) : (srtB lt xs).Perm xs := by
  have : ∀ (ys : List α), (xs.foldl (fun a z => insB lt z a) ys).Perm (xs ++ ys) := by
    induction xs with
    | nil => exact fun ys => List.Perm.refl _
    | cons x xs ih => exact fun ys => (ih _).trans ((List.Perm.append_left xs (insB_perm lt x ys)).trans List.perm_middle)
  have := this []
  rw [List.append_nil] at this
  exact this
theorem srtB_srd {α : Type} {lt : α → α → Bool} (o : OrdB lt) (xs : List α) : SrdB lt (srtB lt xs) := by
  have : ∀ (ys : List α), SrdB lt ys → SrdB lt (xs.foldl (fun a z => insB lt z a) ys) := by
    induction xs with
    | nil => exact fun ys h => h
    | cons x xs ih => exact fun ys h => ih _ (insB_srd o x h)
  exact this [] List.Pairwise.nil
theorem srtB_mem {α : Type} {lt : α → α → Bool} {xs : List α} {x : α} : x ∈ srtB lt xs ↔ x ∈ xs := (srtB_perm lt xs).mem_iff
theorem srtB_len {α : Type} (lt : α → α → Bool) (xs : List α) : (srtB lt xs).length = xs.length := (srtB_perm lt xs).length_eq
/-- A sorted row of which no two are alike in rank is one by its members. -/
theorem srd_perm_eq {α : Type} {lt : α → α → Bool} {xs ys : List α} (h1 : SrdB lt xs) (h2 : SrdB lt ys) (hp : xs.Perm ys) (hu : ∀ a, a ∈ xs → ∀ b, b ∈ xs → lt a b = false → lt b a = false → a = b) : xs = ys :=
  hp.eq_of_pairwise (fun a b ha hb h h' => hu a ha b (hp.mem_iff.2 hb) h' h) h1 h2
theorem srd_mem_eq {α : Type} {lt : α → α → Bool} {xs ys : List α} (h1 : SrdB lt xs) (h2 : SrdB lt ys) (n1 : xs.Nodup) (n2 : ys.Nodup) (hm : ∀ a, a ∈ xs ↔ a ∈ ys) (hu : ∀ a, a ∈ xs → ∀ b, b ∈ xs → lt a b = false → lt b a = false → a = b) : xs = ys :=
  srd_perm_eq h1 h2 ((List.perm_ext_iff_of_nodup n1 n2).2 hm) hu
/-- A row behind another whose members all stand ahead. -/
theorem srd_append {α : Type} {lt : α → α → Bool} {xs ys : List α} (h1 : SrdB lt xs) (h2 : SrdB lt ys) (h3 : ∀ a, a ∈ xs → ∀ b, b ∈ ys → lt b a = false) : SrdB lt (xs ++ ys) := List.pairwise_append.2 ⟨h1, h2, h3⟩
/-- Laying in what stands sorted already. -/
theorem srtB_id {α : Type} {lt : α → α → Bool} (o : OrdB lt) {xs : List α} (h : SrdB lt xs) (hu : ∀ a, a ∈ xs → ∀ b, b ∈ xs → lt a b = false → lt b a = false → a = b) : srtB lt xs = xs :=
  (srd_perm_eq h (srtB_srd o xs) (srtB_perm lt xs).symm hu).symm

/-! Items by Time, then by Seq. -/
def lt2 (x y : It) : Bool := decide (x.t < y.t ∨ x.t = y.t ∧ x.q < y.q)
theorem lt2_iff {x y : It} : lt2 x y = true ↔ (x.t < y.t ∨ x.t = y.t ∧ x.q < y.q) := decide_eq_true_iff
theorem lt2_no {x y : It} : lt2 x y = false ↔ ¬ (x.t < y.t ∨ x.t = y.t ∧ x.q < y.q) := decide_eq_false_iff_not
theorem ord2 : OrdB lt2 := ⟨fun x y h => by rw [lt2_iff] at h; rw [lt2_no]; omega, fun x y z h1 h2 => by rw [lt2_no] at *; omega⟩
/-- No two of one Seq. -/
def Seqs (xs : List It) : Prop := xs.Pairwise fun a b => a.q ≠ b.q
theorem Seqs.nodup {xs : List It} (h : Seqs xs) : xs.Nodup := List.Pairwise.imp (fun hab e => hab (by rw [e])) h
theorem Seqs.one {xs : List It} (h : Seqs xs) {a b : It} (ha : a ∈ xs) (hb : b ∈ xs) (e : a.q = b.q) : a = b := by
  induction xs with
  | nil => cases ha
  | cons x r ih =>
    have hh := (List.pairwise_cons.1 h).1
    rcases List.mem_cons.1 ha with ha1 | ha1
    · rcases List.mem_cons.1 hb with hb1 | hb1
      · rw [ha1, hb1]
      · exact absurd e (by rw [ha1]; exact hh b hb1)
    · rcases List.mem_cons.1 hb with hb1 | hb1
      · exact absurd e.symm (by rw [hb1]; exact hh a ha1)
      · exact ih (List.pairwise_cons.1 h).2 ha1 hb1
theorem Seqs.perm {xs ys : List It} (h : Seqs xs) (hp : xs.Perm ys) : Seqs ys := (hp.pairwise_iff (fun hab e => hab e.symm)).1 h
theorem Seqs.two {xs : List It} (h : Seqs xs) : ∀ a, a ∈ xs → ∀ b, b ∈ xs → lt2 a b = false → lt2 b a = false → a = b := fun a ha b hb h1 h2 => by
  rw [lt2_no] at h1 h2
  exact h.one ha hb (by omega)
def rowL (xs : List It) : List It := srtB lt2 xs
theorem rowL_srd (xs : List It) : SrdB lt2 (rowL xs) := srtB_srd ord2 xs
theorem rowL_seqs {xs : List It} (h : Seqs xs) : Seqs (rowL xs) := h.perm (srtB_perm lt2 xs).symm
theorem rowL_id {xs : List It} (h : SrdB lt2 xs) (hs : Seqs xs) : rowL xs = xs := srtB_id ord2 h hs.two
theorem rowL_perm {xs ys : List It} (hs : Seqs xs) (hp : xs.Perm ys) : rowL xs = rowL ys :=
  srd_perm_eq (rowL_srd xs) (rowL_srd ys) ((srtB_perm lt2 xs).trans (hp.trans (srtB_perm lt2 ys).symm)) (rowL_seqs hs).two
theorem rowL_filter {xs : List It} (hs : Seqs xs) (f : It → Bool) : rowL (xs.filter f) = (rowL xs).filter f :=
  srd_perm_eq (rowL_srd _) (List.Pairwise.filter f (rowL_srd xs)) ((srtB_perm lt2 _).trans ((srtB_perm lt2 xs).symm.filter f)) (rowL_seqs (List.Pairwise.filter f hs)).two
/-- Laying in rows together, in whatever parts. -/
theorem rowL_on {xs ys : List It} (hs : Seqs (xs ++ ys)) : rowL (rowL xs ++ ys) = rowL (xs ++ ys) :=
  (rowL_perm hs (List.Perm.append_right ys (srtB_perm lt2 xs).symm)).symm

end Go.Proofs.Ytjgjbhbpndjnnaa

namespace Go.Proofs.Ytjgjbhbpndjnnaa

/-- Items that may stand together. -/
structure ItsT (bs : List Int) (xs : List It) : Prop where
  bd : boundsB bs = true
  it : ∀ x, x ∈ xs → itemB x = true
  one : ∀ x, x ∈ xs → ∀ y, y ∈ xs → x.s = y.s
  le : xs.length ≤ 8192
section
variable {bs : List Int} {xs ys zs : List It} {x y : It}
theorem ItsT.nil (h : boundsB bs = true) : ItsT bs [] := ⟨h, (fun _ hx => by cases hx), (fun _ hx => by cases hx), by simp⟩
theorem ItsT.sub (h : ItsT bs ys) (hs : ∀ x, x ∈ xs → x ∈ ys) (hl : xs.length ≤ ys.length) : ItsT bs xs :=
  ⟨h.bd, fun x hx => h.it x (hs x hx), fun x hx y hy => h.one x (hs x hx) y (hs y hy), Nat.le_trans hl h.le⟩
theorem ItsT.perm (h : ItsT bs ys) (hp : xs.Perm ys) : ItsT bs xs := h.sub (fun _ hx => hp.mem_iff.1 hx) (Nat.le_of_eq hp.length_eq)
theorem ItsT.sublist (h : ItsT bs ys) (hs : xs.Sublist ys) : ItsT bs xs := h.sub (fun _ hx => hs.subset hx) hs.length_le
theorem ItsT.left (h : ItsT bs (xs ++ ys)) : ItsT bs xs := h.sublist (List.sublist_append_left xs ys)
theorem ItsT.right (h : ItsT bs (xs ++ ys)) : ItsT bs ys := h.sublist (List.sublist_append_right xs ys)
theorem ItsT.item (h : ItsT bs xs) (hx : x ∈ xs) : ItsT bs [x] := h.sub (fun y hy => by simp at hy; exact hy ▸ hx) (by have := List.length_pos_of_mem hx; simp; omega)
theorem itemB_s (h : itemB x = true) : 0 ≤ x.s := by have := itemB_iff.1 h; omega
theorem ItsT.ser (h : ItsT bs xs) : ∃ σ, 0 ≤ σ ∧ ∀ x, x ∈ xs → itemB x = true ∧ x.s = σ := by
  cases xs with
  | nil => exact ⟨0, by omega, fun x hx => by cases hx⟩
  | cons a r => exact ⟨a.s, itemB_s (h.it a (by simp)), fun x hx => ⟨h.it x hx, h.one x hx a (by simp)⟩⟩
theorem foldA_n (bs : List Int) (xs : List It) : (foldA bs xs).n = xs.length := by unfold foldA; rw [join_n, ones_total]
theorem foldA_one (h : itemB x = true) : foldA bs [x] = oneAc x bs := join_sole (fit_part (m := bs.length + 1) (one_fit h))
theorem ones_app (bs : List Int) (xs ys : List It) : ones bs (xs ++ ys) = ones bs xs ++ ones bs ys := by simp [ones]
theorem ones_parts (h : ∀ x, x ∈ xs → itemB x = true) : ∀ a, a ∈ ones bs xs → Part (bs.length + 1) a := fun a ha => by
  obtain ⟨x, hx, rfl⟩ := List.mem_map.1 ha
  exact fit_part (m := bs.length + 1) (one_fit (h x hx))
theorem foldA_fit (h : ItsT bs xs) : fitB (foldA bs xs) (bs.length + 1) = true := by
  obtain ⟨σ, _, hx⟩ := h.ser
  exact (join_fit xs hx h.le).1
theorem foldA_part (h : ItsT bs xs) : Part (bs.length + 1) (foldA bs xs) := fit_part (m := bs.length + 1) (foldA_fit h)
theorem foldA_len (bs : List Int) (xs : List It) : (foldA bs xs).h.length = bs.length + 1 := by
  unfold foldA joinAc
  rw [fold_len]
  simp
/-- Parts side by side: what is known of each, what of all together. -/
theorem groups_join {gs : List (List It)} (h : ItsT bs gs.flatten) : joinAc bs (gs.map (foldA bs)) = foldA bs gs.flatten := by
  induction gs with
  | nil => rfl
  | cons g r ih =>
    have hg : ItsT bs g := h.left
    have hr : ItsT bs r.flatten := h.right
    have hp : ∀ a, a ∈ [foldA bs g] → Part (bs.length + 1) a := fun a ha => by simp at ha; exact ha ▸ foldA_part hg
    have hq : ∀ a, a ∈ r.map (foldA bs) → Part (bs.length + 1) a := fun a ha => by
      obtain ⟨y, hy, rfl⟩ := List.mem_map.1 ha
      refine foldA_part (h.sub (fun x hx => List.mem_flatten.2 ⟨y, List.mem_cons_of_mem _ hy, hx⟩) ?_)
      have : ∀ (r : List (List It)), y ∈ r → y.length ≤ r.flatten.length := by
        intro r hy
        induction r with
        | nil => cases hy
        | cons z r ih =>
          rw [List.flatten_cons, List.length_append]
          rcases List.mem_cons.1 hy with rfl | hy
          · omega
          · have := ih hy; omega
      have := this r hy
      rw [List.flatten_cons, List.length_append]
      omega
    rw [List.map_cons, show foldA bs g :: r.map (foldA bs) = [foldA bs g] ++ r.map (foldA bs) from rfl, join_app hp hq, join_sole (foldA_part hg), ih hr, List.flatten_cons]
    unfold foldA
    rw [ones_app, join_app (ones_parts hg.it) (ones_parts hr.it)]
theorem groups_total {gs : List (List It)} : totalA (gs.map (foldA bs)) = gs.flatten.length := by
  induction gs with
  | nil => rfl
  | cons g r ih =>
    rw [List.map_cons, totalA_cons, ih, foldA_n, List.flatten_cons, List.length_append]
    omega
theorem groups_row {gs : List (List It)} (h : ItsT bs gs.flatten) : RowJ bs (gs.map (foldA bs)) := by
  obtain ⟨σ, h0, hx⟩ := h.ser
  refine ⟨h.bd, tog_iff.2 ⟨σ, h0, fun a ha => ?_⟩, ?_⟩
  · obtain ⟨g, hg, rfl⟩ := List.mem_map.1 ha
    have hl : g.length ≤ gs.flatten.length := by
      clear hx h
      induction gs with
      | nil => cases hg
      | cons z r ih =>
        rw [List.flatten_cons, List.length_append]
        rcases List.mem_cons.1 hg with rfl | hg
        · omega
        · have := ih hg (List.mem_map.2 ⟨g, hg, rfl⟩); omega
    exact join_fit g (fun x hxg => hx x (List.mem_flatten.2 ⟨g, hg, hxg⟩)) (by have := h.le; omega)
  · rw [groups_total]
    have := h.le
    omega

/-! The first and the last of a part. -/
theorem foldA_snoc (h : ItsT bs (xs ++ [x])) : foldA bs (xs ++ [x]) = addAc (foldA bs xs) (oneAc x bs) := by
  unfold foldA
  rw [ones_app, join_app (ones_parts h.left.it) (ones_parts h.right.it)]
  show joinStep _ (joinAc bs [oneAc x bs]) = _
  rw [join_sole (fit_part (m := bs.length + 1) (one_fit (h.it x (by simp)))), step_one]
theorem foldA_ends (h : ItsT bs xs) : ∀ x, x ∈ xs → (foldA bs xs).f.t ≤ x.t ∧ x.t ≤ (foldA bs xs).l.t := by
  obtain ⟨k, hk⟩ : ∃ k, xs.length = k := ⟨_, rfl⟩
  induction k generalizing xs with
  | zero => intro x hx; rw [List.length_eq_zero_iff.1 hk] at hx; cases hx
  | succ k ih =>
    obtain ⟨ys, y, rfl⟩ : ∃ ys y, xs = ys ++ [y] := ⟨xs.dropLast, xs.getLast (by intro e; rw [e] at hk; simp at hk), (List.dropLast_concat_getLast _).symm⟩
    rw [foldA_snoc h]
    have i2 := ih h.left (by simpa using hk)
    intro x hx
    unfold addAc
    simp only [foldA_n, oneAc]
    have cF : ∀ o : It, (pick (beforeB y o) y o).t ≤ o.t ∧ (pick (beforeB y o) y o).t ≤ y.t := fun o => by
      cases e : beforeB y o with
      | true => have := before_yes e; simp only [pick, if_true]; omega
      | false => have := before_no e; simp only [pick, Bool.false_eq_true, if_false]; omega
    have cL : ∀ o : It, o.t ≤ (pick (beforeB y o) o y).t ∧ y.t ≤ (pick (beforeB y o) o y).t := fun o => by
      cases e : beforeB y o with
      | true => have := before_yes e; simp only [pick, if_true]; omega
      | false => have := before_no e; simp only [pick, Bool.false_eq_true, if_false]; omega
    have c1 := cF (foldA bs ys).f
    have c2 := cL (foldA bs ys).l
    rcases List.mem_append.1 hx with hx | hx
    · have hn : ¬ ((ys.length : Nat) : Int) = 0 := by have := List.length_pos_of_mem hx; omega
      have := i2 x hx
      rw [if_neg hn, if_neg hn]
      omega
    · simp only [List.mem_singleton] at hx
      subst hx
      by_cases hn : ((ys.length : Nat) : Int) = 0
      · rw [if_pos hn, if_pos hn]; exact ⟨Int.le_refl _, Int.le_refl _⟩
      · rw [if_neg hn, if_neg hn]; omega

/-! Rows that rise. -/
def StrS (xs : List It) : Prop := xs.Pairwise fun a b => lt2 a b = true
theorem StrS.srd (h : StrS xs) : SrdB lt2 xs := List.Pairwise.imp (fun hab => ord2.asym _ _ hab) h
theorem lt2_trans (h1 : lt2 x y = true) {z : It} (h2 : lt2 y z = true) : lt2 x z = true := by rw [lt2_iff] at *; omega
theorem cmpT_neg : (cmpT x y < 0) ↔ lt2 x y = true := by
  rw [lt2_iff]
  unfold cmpT cmpI
  (repeat' split) <;> omega
theorem cmpT_zero : (cmpT x y = 0) ↔ (x.t = y.t ∧ x.q = y.q) := by
  unfold cmpT cmpI
  (repeat' split) <;> omega
/-- One stands alike with x. -/
def twinB (xs : List It) (x : It) : Bool := xs.any fun y => decide (y.t = x.t ∧ y.q = x.q)
theorem twinB_iff : twinB xs x = true ↔ ∃ y, y ∈ xs ∧ y.t = x.t ∧ y.q = x.q := by simp [twinB]
theorem twinB_no : twinB xs x = false ↔ ∀ y, y ∈ xs → ¬ (y.t = x.t ∧ y.q = x.q) := by simp [twinB]
theorem insB_lo (hs : StrS (xs ++ y :: ys)) (h : lt2 x y = true) : insB lt2 x (xs ++ y :: ys) = insB lt2 x xs ++ y :: ys := by
  induction xs with
  | nil => simp [insB, h]
  | cons a r ih =>
    rw [List.cons_append, insB, insB]
    split
    · rfl
    · rw [ih (List.pairwise_cons.1 hs).2]; rfl
theorem insB_hi (hs : StrS (xs ++ y :: ys)) (h : lt2 x y = false) : insB lt2 x (xs ++ y :: ys) = xs ++ y :: insB lt2 x ys := by
  induction xs with
  | nil => simp [insB, h]
  | cons a r ih =>
    have ha : lt2 a y = true := (List.pairwise_cons.1 hs).1 y (by simp)
    have hx : lt2 x a = false := by rw [lt2_no] at *; rw [lt2_iff] at ha; omega
    rw [List.cons_append, insB, if_neg (by rw [hx]; simp), ih (List.pairwise_cons.1 hs).2]
    rfl
theorem insB_str (hs : StrS xs) (h : twinB xs x = false) : StrS (insB lt2 x xs) := by
  induction xs with
  | nil => exact List.pairwise_singleton _ _
  | cons y r ih =>
    have hh := (List.pairwise_cons.1 hs).1
    rw [twinB_no] at h
    have hr : twinB r x = false := twinB_no.2 fun z hz => h z (List.mem_cons_of_mem _ hz)
    unfold insB
    split
    · rename_i h1
      refine List.pairwise_cons.2 ⟨fun z hz => ?_, hs⟩
      rcases List.mem_cons.1 hz with rfl | hz
      · exact h1
      · exact lt2_trans h1 (hh z hz)
    · rename_i h1
      refine List.pairwise_cons.2 ⟨fun z hz => ?_, ih (List.pairwise_cons.1 hs).2 hr⟩
      rcases insB_mem.1 hz with rfl | hz
      · have := h y (by simp)
        have h1 : lt2 z y = false := by simpa using h1
        rw [lt2_no] at h1
        rw [lt2_iff]
        omega
      · exact hh z hz
theorem StrS.left (h : StrS (xs ++ ys)) : StrS xs := (List.pairwise_append.1 h).1
theorem StrS.right (h : StrS (xs ++ ys)) : StrS ys := (List.pairwise_append.1 h).2.1
theorem StrS.filter (h : StrS xs) (f : It → Bool) : StrS (xs.filter f) := List.Pairwise.filter f h
/-- Two rising rows of like members are one. -/
theorem StrS.eq (h : StrS xs) (h2 : StrS ys) (hm : ∀ x, x ∈ xs ↔ x ∈ ys) : xs = ys := by
  have hn : ∀ {zs : List It}, StrS zs → zs.Nodup := fun h => List.Pairwise.imp (fun hab e => by subst e; rw [lt2_iff] at hab; omega) h
  exact ((List.perm_ext_iff_of_nodup (hn h) (hn h2)).2 hm).eq_of_pairwise (fun a b _ _ h1 h2 => by rw [lt2_iff] at *; omega) h h2
/-- What stays behind an eviction. -/
def stay (b : Int) (xs : List It) : List It := xs.filter fun x => decide (¬ x.t < b)
theorem stay_all {b : Int} (h : ∀ x, x ∈ xs → b ≤ x.t) : stay b xs = xs := List.filter_eq_self.2 fun x hx => by have := h x hx; exact decide_eq_true (by omega)
theorem stay_none {b : Int} (h : ∀ x, x ∈ xs → x.t < b) : stay b xs = [] := List.filter_eq_nil_iff.2 fun x hx => by have := h x hx; simp; omega
theorem StrS.times (h : StrS (xs ++ y :: ys)) : (∀ a, a ∈ xs → a.t ≤ y.t) ∧ (∀ b, b ∈ ys → y.t ≤ b.t) := by
  have h1 := (List.pairwise_append.1 h).2.2
  have h2 := (List.pairwise_cons.1 (List.pairwise_append.1 h).2.1).1
  exact ⟨fun a ha => by have := h1 a ha y (by simp); rw [lt2_iff] at this; omega, fun b hb => by have := h2 b hb; rw [lt2_iff] at this; omega⟩
/-- What lies in a span. -/
def inS (a b : Int) (xs : List It) : List It := xs.filter fun x => decide (a ≤ x.t ∧ x.t < b)
theorem inS_app (a b : Int) (xs ys : List It) : inS a b (xs ++ ys) = inS a b xs ++ inS a b ys := List.filter_append ..
end

/-! Trees. -/
inductive Tr where
  | nil
  | node (b H : Nat) (l : Tr) (x : It) (r : Tr)
def Tr.row : Tr → List It
  | .nil => []
  | .node _ _ l x r => l.row ++ x :: r.row
def Tr.ht : Tr → Nat
  | .nil => 0
  | .node _ _ l _ r => max l.ht r.ht + 1
/-- What is told of a span: whole parts at once. -/
def Tr.told (bs : List Int) (a b : Int) : Tr → List (List It)
  | .nil => []
  | .node b1 H l x r =>
    if (foldA bs (Tr.node b1 H l x r).row).l.t < a ∨ b ≤ (foldA bs (Tr.node b1 H l x r).row).f.t then [] else
    if a ≤ (foldA bs (Tr.node b1 H l x r).row).f.t ∧ (foldA bs (Tr.node b1 H l x r).row).l.t < b then [(Tr.node b1 H l x r).row] else
    l.told bs a b ++ ((if a ≤ x.t ∧ x.t < b then [[x]] else []) ++ r.told bs a b)
theorem Tr.told_node (bs : List Int) (a b : Int) (b1 H : Nat) (l : Tr) (x : It) (r : Tr) : (Tr.node b1 H l x r).told bs a b =
    if (foldA bs (Tr.node b1 H l x r).row).l.t < a ∨ b ≤ (foldA bs (Tr.node b1 H l x r).row).f.t then [] else
    if a ≤ (foldA bs (Tr.node b1 H l x r).row).f.t ∧ (foldA bs (Tr.node b1 H l x r).row).l.t < b then [(Tr.node b1 H l x r).row] else
    l.told bs a b ++ ((if a ≤ x.t ∧ x.t < b then [[x]] else []) ++ r.told bs a b) := rfl
theorem Tr.told_flat (bs : List Int) (a b : Int) : ∀ t : Tr, ItsT bs t.row → (t.told bs a b).flatten = inS a b t.row
  | .nil, _ => rfl
  | .node b1 H l x r, h => by
    have he := foldA_ends h
    have hl := Tr.told_flat bs a b l h.left
    have hr := Tr.told_flat bs a b r (h.right.sublist (List.sublist_cons_self _ _))
    rw [Tr.told]
    by_cases h1 : (foldA bs (Tr.node b1 H l x r).row).l.t < a ∨ b ≤ (foldA bs (Tr.node b1 H l x r).row).f.t
    · rw [if_pos h1]
      refine (List.filter_eq_nil_iff.2 fun y hy => ?_).symm
      have := he y hy
      simp only [decide_eq_true_eq]
      omega
    · rw [if_neg h1]
      by_cases h2 : a ≤ (foldA bs (Tr.node b1 H l x r).row).f.t ∧ (foldA bs (Tr.node b1 H l x r).row).l.t < b
      · rw [if_pos h2]
        rw [List.flatten_cons, List.flatten_nil, List.append_nil]
        refine (List.filter_eq_self.2 fun y hy => ?_).symm
        have := he y hy
        exact decide_eq_true (by omega)
      · rw [if_neg h2]
        rw [List.flatten_append, List.flatten_append, hl, hr]
        show _ = inS a b (l.row ++ ([x] ++ r.row))
        rw [inS_app, inS_app]
        congr 1
        congr 1
        unfold inS
        split
        · next h3 => simp [h3]
        · next h3 => simp [h3]
theorem Tr.told_len (bs : List Int) (a b : Int) : ∀ t : Tr, (t.told bs a b).length ≤ t.row.length
  | .nil => Nat.le_refl _
  | .node b1 H l x r => by
    have hl := Tr.told_len bs a b l
    have hr := Tr.told_len bs a b r
    rw [Tr.told]
    split
    · simp
    · split
      · simp [Tr.row]; omega
      · rw [List.length_append, List.length_append, Tr.row, List.length_append, List.length_cons]
        have : (if a ≤ x.t ∧ x.t < b then [[x]] else []).length ≤ 1 := by split <;> simp
        omega

end Go.Proofs.Ytjgjbhbpndjnnaa
