/-
  Plain: laying in by an order, generally: what stands sorted, where one lays in, that a sorted row is one by its members. No program here.
  Plain: windows with their items, as the document's own answer makes them, one item and one span at a time: which there are, what they hold. No program here.
-/
import Derived.Test.YtbpaepkcchpmbaaGreatG0
namespace Go.Proofs.YtbpaepkcchpmbaaGreat

/-- x, ahead of the first that it stands ahead of. -/
def insB {α : Type} (lt : α → α → Bool) (x : α) : List α → List α
  | [] => [x]
  | y :: r => if lt x y = true then x :: y :: r else y :: insB lt x r
/-- Sorted: none stands ahead of one that comes sooner. -/
def SrdB {α : Type} (lt : α → α → Bool) (xs : List α) : Prop := xs.Pairwise fun a b => lt b a = false
structure OrdB {α : Type} (lt : α → α → Bool) : Prop where
  asym : ∀ x y, lt x y = true → lt y x = false
  trn : ∀ x y z, lt y x = false → lt z y = false → lt z x = false
theorem insB_perm {α : Type} (lt : α → α → Bool) (x : α) (xs : List α) : (insB lt x xs).Perm (x :: xs) := by
  induction xs with
  | nil => exact List.Perm.refl _
  | cons y r ih =>
    unfold insB
    split
    · exact List.Perm.refl _
    · exact (List.Perm.cons y ih).trans (List.Perm.swap x y r)
theorem insB_mem {α : Type} {lt : α → α → Bool} {x y : α} {xs : List α} : y ∈ insB lt x xs ↔ y = x ∨ y ∈ xs := by
  rw [(insB_perm lt x xs).mem_iff, List.mem_cons]
theorem insB_len {α : Type} (lt : α → α → Bool) (x : α) (xs : List α) : (insB lt x xs).length = xs.length + 1 := (insB_perm lt x xs).length_eq
theorem insB_srd {α : Type} {lt : α → α → Bool} (o : OrdB lt) (x : α) {xs : List α} (h : SrdB lt xs) : SrdB lt (insB lt x xs) := by
  induction xs with
  | nil => exact List.pairwise_singleton _ _
  | cons y r ih =>
    have hh := (List.pairwise_cons.1 h).1
    have ht := ih (List.pairwise_cons.1 h).2
    unfold insB
    split
    · rename_i h1
      refine List.pairwise_cons.2 ⟨fun z hz => ?_, h⟩
      rcases List.mem_cons.1 hz with rfl | hz
      · exact o.asym _ _ h1
      · exact o.trn _ _ _ (o.asym _ _ h1) (hh z hz)
    · rename_i h1
      refine List.pairwise_cons.2 ⟨fun z hz => ?_, ht⟩
      rcases insB_mem.1 hz with rfl | hz
      · simpa using h1
      · exact hh z hz
/-- Where a walk from the end lays in. -/
theorem insB_at {α : Type} {lt : α → α → Bool} (o : OrdB lt) {xs : List α} (h : SrdB lt xs) (x : α) (k : Nat) (h1 : ∀ y, xs[k]? = some y → lt x y = true) (h2 : k = 0 ∨ ∃ y, xs[k - 1]? = some y ∧ lt x y = false) : insB lt x xs = xs.take k ++ x :: xs.drop k := by
  induction xs generalizing k with
  | nil => simp [insB]
  | cons y r ih =>
    cases k with
    | zero =>
      have := h1 y (by simp)
      simp [insB, this]
    | succ k =>
      have hh := (List.pairwise_cons.1 h).1
      have hy : lt x y = false := by
        rcases h2 with h2 | ⟨z, hz, e⟩
        · omega
        · rw [Nat.add_sub_cancel] at hz
          cases k with
          | zero => simp only [List.getElem?_cons_zero, Option.some.injEq] at hz; subst hz; exact e
          | succ k =>
            rw [List.getElem?_cons_succ] at hz
            exact o.trn _ _ _ (hh z (List.mem_of_getElem? hz)) e
      unfold insB
      rw [if_neg (by rw [hy]; simp), ih (List.pairwise_cons.1 h).2 k (fun z hz => h1 z (by rw [List.getElem?_cons_succ]; exact hz)) ?_]
      · simp
      · rcases h2 with h2 | ⟨z, hz, e⟩
        · omega
        · cases k with
          | zero => exact Or.inl rfl
          | succ k =>
            rw [Nat.add_sub_cancel, List.getElem?_cons_succ] at hz
            exact Or.inr ⟨z, by rw [Nat.add_sub_cancel]; exact hz, e⟩
/-- All of a row, one by one. -/
def srtB {α : Type} (lt : α → α → Bool) (xs : List α) : List α := xs.foldl (fun a z => insB lt z a) []
theorem srtB_on {α : Type} (lt : α → α → Bool) (xs : List α) (x : α) : srtB lt (xs ++ [x]) = insB lt x (srtB lt xs) := by simp [srtB]
theorem srtB_perm {α : Type} (lt : α → α → Bool) (xs : List α) : (srtB lt xs).Perm xs := by
  have : ∀ (ys : List α), (xs.foldl (fun a z => insB lt z a) ys).Perm (xs ++ ys) := by
    induction xs with
    | nil => exact fun ys => List.Perm.refl _
    | cons x xs ih => exact fun ys => (ih _).trans ((List.Perm.append_left xs (insB_perm lt x ys)).trans List.perm_middle)
  have := this []
  rw [List.append_nil] at this
  exact this
theorem srtB_srd {α : Type} {lt : α → α → Bool} (o : OrdB lt) (xs : List α) : SrdB lt (srtB lt xs) := by
  have : ∀ (ys : List α), SrdB lt ys → SrdB lt (xs.foldl (fun a z => insB lt z a) ys) := by
    induction xs with
    | nil => exact fun ys h => h
    | cons x xs ih => exact fun ys h => ih _ (insB_srd o x h)
  exact this [] List.Pairwise.nil
theorem srtB_mem {α : Type} {lt : α → α → Bool} {xs : List α} {x : α} : x ∈ srtB lt xs ↔ x ∈ xs := (srtB_perm lt xs).mem_iff
theorem srtB_len {α : Type} (lt : α → α → Bool) (xs : List α) : (srtB lt xs).length = xs.length := (srtB_perm lt xs).length_eq
/-- A sorted row of which no two are alike in rank is one by its members. -/
theorem srd_perm_eq {α : Type} {lt : α → α → Bool} {xs ys : List α} (h1 : SrdB lt xs) (h2 : SrdB lt ys) (hp : xs.Perm ys) (hu : ∀ a, a ∈ xs → ∀ b, b ∈ xs → lt a b = false → lt b a = false → a = b) : xs = ys :=
  hp.eq_of_pairwise (fun a b ha hb h h' => hu a ha b (hp.mem_iff.2 hb) h' h) h1 h2
theorem srd_mem_eq {α : Type} {lt : α → α → Bool} {xs ys : List α} (h1 : SrdB lt xs) (h2 : SrdB lt ys) (n1 : xs.Nodup) (n2 : ys.Nodup) (hm : ∀ a, a ∈ xs ↔ a ∈ ys) (hu : ∀ a, a ∈ xs → ∀ b, b ∈ xs → lt a b = false → lt b a = false → a = b) : xs = ys :=
  srd_perm_eq h1 h2 ((List.perm_ext_iff_of_nodup n1 n2).2 hm) hu
/-- A row behind another whose members all stand ahead. -/
theorem srd_append {α : Type} {lt : α → α → Bool} {xs ys : List α} (h1 : SrdB lt xs) (h2 : SrdB lt ys) (h3 : ∀ a, a ∈ xs → ∀ b, b ∈ ys → lt b a = false) : SrdB lt (xs ++ ys) := List.pairwise_append.2 ⟨h1, h2, h3⟩
/-- Laying in what stands sorted already. -/
theorem srtB_id {α : Type} {lt : α → α → Bool} (o : OrdB lt) {xs : List α} (h : SrdB lt xs) (hu : ∀ a, a ∈ xs → ∀ b, b ∈ xs → lt a b = false → lt b a = false → a = b) : srtB lt xs = xs :=
  (srd_perm_eq h (srtB_srd o xs) (srtB_perm lt xs).symm hu).symm

/-! Items by Time, then by Seq. -/
def lt2 (x y : It) : Bool := decide (x.t < y.t ∨ x.t = y.t ∧ x.q < y.q)
theorem lt2_iff {x y : It} : lt2 x y = true ↔ (x.t < y.t ∨ x.t = y.t ∧ x.q < y.q) := decide_eq_true_iff
theorem lt2_no {x y : It} : lt2 x y = false ↔ ¬ (x.t < y.t ∨ x.t = y.t ∧ x.q < y.q) := decide_eq_false_iff_not
theorem ord2 : OrdB lt2 := ⟨fun x y h => by rw [lt2_iff] at h; rw [lt2_no]; omega, fun x y z h1 h2 => by rw [lt2_no] at *; omega⟩
/-- No two of one Seq. -/
def Seqs (xs : List It) : Prop := xs.Pairwise fun a b => a.q ≠ b.q
theorem Seqs.nodup {xs : List It} (h : Seqs xs) : xs.Nodup := List.Pairwise.imp (fun hab e => hab (by rw [e])) h
theorem Seqs.one {xs : List It} (h : Seqs xs) {a b : It} (ha : a ∈ xs) (hb : b ∈ xs) (e : a.q = b.q) : a = b := by
  induction xs with
  | nil => cases ha
  | cons x r ih =>
    have hh := (List.pairwise_cons.1 h).1
    rcases List.mem_cons.1 ha with ha1 | ha1
    · rcases List.mem_cons.1 hb with hb1 | hb1
      · rw [ha1, hb1]
      · exact absurd e (by rw [ha1]; exact hh b hb1)
    · rcases List.mem_cons.1 hb with hb1 | hb1
      · exact absurd e.symm (by rw [hb1]; exact hh a ha1)
      · exact ih (List.pairwise_cons.1 h).2 ha1 hb1
theorem Seqs.perm {xs ys : List It} (h : Seqs xs) (hp : xs.Perm ys) : Seqs ys := (hp.pairwise_iff (fun hab e => hab e.symm)).1 h
theorem Seqs.two {xs : List It} (h : Seqs xs) : ∀ a, a ∈ xs → ∀ b, b ∈ xs → lt2 a b = false → lt2 b a = false → a = b := fun a ha b hb h1 h2 => by
  rw [lt2_no] at h1 h2
  exact h.one ha hb (by omega)
def rowL (xs : List It) : List It := srtB lt2 xs
theorem rowL_srd (xs : List It) : SrdB lt2 (rowL xs) := srtB_srd ord2 xs
theorem rowL_seqs {xs : List It} (h : Seqs xs) : Seqs (rowL xs) := h.perm (srtB_perm lt2 xs).symm
theorem rowL_id {xs : List It} (h : SrdB lt2 xs) (hs : Seqs xs) : rowL xs = xs := srtB_id ord2 h hs.two
theorem rowL_perm {xs ys : List It} (hs : Seqs xs) (hp : xs.Perm ys) : rowL xs = rowL ys :=
  srd_perm_eq (rowL_srd xs) (rowL_srd ys) ((srtB_perm lt2 xs).trans (hp.trans (srtB_perm lt2 ys).symm)) (rowL_seqs hs).two
theorem rowL_filter {xs : List It} (hs : Seqs xs) (f : It → Bool) : rowL (xs.filter f) = (rowL xs).filter f :=
  srd_perm_eq (rowL_srd _) (List.Pairwise.filter f (rowL_srd xs)) ((srtB_perm lt2 _).trans ((srtB_perm lt2 xs).symm.filter f)) (rowL_seqs (List.Pairwise.filter f hs)).two
/-- Laying in rows together, in whatever parts. -/
theorem rowL_on {xs ys : List It} (hs : Seqs (xs ++ ys)) : rowL (rowL xs ++ ys) = rowL (xs ++ ys) :=
  (rowL_perm hs (List.Perm.append_right ys (srtB_perm lt2 xs).symm)).symm

end Go.Proofs.YtbpaepkcchpmbaaGreat

namespace Go.Proofs.YtbpaepkcchpmbaaGreat

/-- A window of query k with its items. -/
structure Wn where
  k : Int
  a : Int
  b : Int
  xs : List It
/-- Its series: that of its first item. -/
def Wn.s (p : Wn) : Int := (nthI p.xs 0).s
def isW (w : Int × Int) (s : Int) (p : Wn) : Bool := decide (p.a = w.1 ∧ p.b = w.2 ∧ p.s = s)
theorem isW_iff {w : Int × Int} {s : Int} {p : Wn} : isW w s p = true ↔ (p.a = w.1 ∧ p.b = w.2 ∧ p.s = s) := decide_eq_true_iff
def Wn.put (p : Wn) (x : It) : Wn := { p with xs := p.xs ++ [x] }
theorem Wn.put_s {p : Wn} (x : It) (h : p.xs ≠ []) : (p.put x).s = p.s := by
  obtain ⟨k, a, b, xs⟩ := p
  cases xs with
  | nil => exact absurd rfl h
  | cons y r => rfl
/-- An item into a window: into the one that is there, else into a new one. -/
def addW (k : Int) (x : It) (w : Int × Int) (ps : List Wn) : List Wn :=
  if ps.any (isW w x.s) = true then ps.map (fun p => if isW w x.s p = true then p.put x else p) else ps ++ [⟨k, w.1, w.2, [x]⟩]
/-- What there is behind pairs of an item and a span. -/
structure WinsOf (k : Int) (L : List (It × (Int × Int))) (ps : List Wn) : Prop where
  k : ∀ p, p ∈ ps → p.k = k
  ne : ∀ p, p ∈ ps → p.xs ≠ []
  xs : ∀ p, p ∈ ps → p.xs = (L.filter fun z => decide (z.1.s = p.s ∧ z.2 = (p.a, p.b))).map (·.1)
  uniq : ps.Pairwise fun p q => ¬ (p.a = q.a ∧ p.b = q.b ∧ p.s = q.s)
  all : ∀ z, z ∈ L → ∃ p, p ∈ ps ∧ p.a = z.2.1 ∧ p.b = z.2.2 ∧ p.s = z.1.s
theorem winsOf_nil (k : Int) : WinsOf k [] [] := ⟨by simp, by simp, by simp, List.Pairwise.nil, by simp⟩
theorem WinsOf.step {k : Int} {L : List (It × (Int × Int))} {ps : List Wn} (h : WinsOf k L ps) (x : It) (w : Int × Int) : WinsOf k (L ++ [(x, w)]) (addW k x w ps) := by
  by_cases c : ps.any (isW w x.s) = true
  · rw [addW, if_pos c]
    obtain ⟨p0, m0, e0⟩ := List.any_eq_true.1 c
    have mp : ∀ p, p ∈ ps.map (fun p => if isW w x.s p = true then p.put x else p) → ∃ q, q ∈ ps ∧ p.k = q.k ∧ p.a = q.a ∧ p.b = q.b ∧ p.s = q.s ∧ p.xs = if isW w x.s q = true then q.xs ++ [x] else q.xs := fun p hp => by
      obtain ⟨q, hq, rfl⟩ := List.mem_map.1 hp
      refine ⟨q, hq, ?_⟩
      by_cases e : isW w x.s q = true
      · simp only [if_pos e]; exact ⟨rfl, rfl, rfl, Wn.put_s x (h.ne q hq), rfl⟩
      · simp only [if_neg e]; exact ⟨trivial, trivial, trivial, trivial, trivial⟩
    refine ⟨fun p hp => ?_, fun p hp => ?_, fun p hp => ?_, ?_, fun z hz => ?_⟩
    · obtain ⟨q, hq, e1, _⟩ := mp p hp
      rw [e1]; exact h.k q hq
    · obtain ⟨q, hq, _, _, _, _, e5⟩ := mp p hp
      rw [e5]
      split
      · simp
      · exact h.ne q hq
    · obtain ⟨q, hq, e1, e2, e3, e4, e5⟩ := mp p hp
      rw [e5, List.filter_append, List.map_append, e2, e3, e4, ← h.xs q hq]
      by_cases e : isW w x.s q = true
      · obtain ⟨a1, a2, a3⟩ := isW_iff.1 e
        rw [if_pos e, List.filter_cons, if_pos (by simp [a1, a2, a3])]
        rfl
      · rw [if_neg e, List.filter_cons, if_neg (by
          intro hc
          simp only [decide_eq_true_eq] at hc
          exact e (isW_iff.2 ⟨by rw [hc.2], by rw [hc.2], hc.1.symm⟩))]
        simp
    · refine List.pairwise_map.2 (List.Pairwise.imp_of_mem (fun {p q} hp hq hn => ?_) h.uniq)
      have k1 : ∀ r, r ∈ ps → (if isW w x.s r = true then r.put x else r).a = r.a ∧ (if isW w x.s r = true then r.put x else r).b = r.b ∧ (if isW w x.s r = true then r.put x else r).s = r.s := fun r hr => by
        by_cases e : isW w x.s r = true
        · rw [if_pos e]; exact ⟨rfl, rfl, Wn.put_s x (h.ne r hr)⟩
        · rw [if_neg e]; exact ⟨rfl, rfl, rfl⟩
      obtain ⟨a1, a2, a3⟩ := k1 p hp
      obtain ⟨b1, b2, b3⟩ := k1 q hq
      rw [a1, a2, a3, b1, b2, b3]
      exact hn
    · have go : ∀ q, q ∈ ps → ∃ p, p ∈ ps.map (fun p => if isW w x.s p = true then p.put x else p) ∧ p.a = q.a ∧ p.b = q.b ∧ p.s = q.s := fun q hq => by
        refine ⟨_, List.mem_map.2 ⟨q, hq, rfl⟩, ?_⟩
        by_cases e : isW w x.s q = true
        · rw [if_pos e]; exact ⟨rfl, rfl, Wn.put_s x (h.ne q hq)⟩
        · rw [if_neg e]; exact ⟨rfl, rfl, rfl⟩
      rcases List.mem_append.1 hz with hz | hz
      · obtain ⟨q, hq, c1, c2, c3⟩ := h.all z hz
        obtain ⟨p, hp, d1, d2, d3⟩ := go q hq
        exact ⟨p, hp, by rw [d1, c1], by rw [d2, c2], by rw [d3, c3]⟩
      · simp only [List.mem_singleton] at hz
        subst hz
        obtain ⟨c1, c2, c3⟩ := isW_iff.1 e0
        obtain ⟨p, hp, d1, d2, d3⟩ := go p0 m0
        exact ⟨p, hp, by rw [d1, c1], by rw [d2, c2], by rw [d3, c3]⟩
  · rw [addW, if_neg c]
    have no : ∀ p, p ∈ ps → ¬ (p.a = w.1 ∧ p.b = w.2 ∧ p.s = x.s) := fun p hp hc => c (List.any_eq_true.2 ⟨p, hp, isW_iff.2 hc⟩)
    have ns : Wn.s ⟨k, w.1, w.2, [x]⟩ = x.s := rfl
    refine ⟨fun p hp => ?_, fun p hp => ?_, fun p hp => ?_, ?_, fun z hz => ?_⟩
    · rcases List.mem_append.1 hp with hp | hp
      · exact h.k p hp
      · simp only [List.mem_singleton] at hp; rw [hp]
    · rcases List.mem_append.1 hp with hp | hp
      · exact h.ne p hp
      · simp only [List.mem_singleton] at hp; rw [hp]; simp
    · rcases List.mem_append.1 hp with hp | hp
      · rw [List.filter_append, List.map_append, ← h.xs p hp, List.filter_cons, if_neg (by
          intro hc
          simp only [decide_eq_true_eq] at hc
          exact no p hp ⟨by rw [hc.2], by rw [hc.2], hc.1.symm⟩)]
        simp
      · simp only [List.mem_singleton] at hp
        subst hp
        rw [ns, List.filter_append, List.filter_eq_nil_iff.2 fun z hz hc => by
          simp only [decide_eq_true_eq] at hc
          obtain ⟨q, hq, d1, d2, d3⟩ := h.all z hz
          exact no q hq ⟨by rw [d1, hc.2], by rw [d2, hc.2], by rw [d3, hc.1]⟩]
        simp
    · refine List.pairwise_append.2 ⟨h.uniq, List.pairwise_singleton _ _, fun p hp q hq => ?_⟩
      simp only [List.mem_singleton] at hq
      rw [hq, ns]
      exact no p hp
    · rcases List.mem_append.1 hz with hz | hz
      · obtain ⟨q, hq, d⟩ := h.all z hz
        exact ⟨q, List.mem_append_left _ hq, d⟩
      · simp only [List.mem_singleton] at hz
        subst hz
        exact ⟨_, List.mem_append_right _ (List.mem_singleton.2 rfl), rfl, rfl, rfl⟩
/-- At the one window that is there. -/
theorem addW_at {k : Int} {L : List (It × (Int × Int))} {ps : List Wn} (h : WinsOf k L ps) {x : It} {w : Int × Int} {m : Nat} {p : Wn} (hm : ps[m]? = some p) (e : isW w x.s p = true) : addW k x w ps = ps.set m (p.put x) := by
  have hml : m < ps.length := (List.getElem?_eq_some_iff.1 hm).1
  have hmg : ps[m] = p := (List.getElem?_eq_some_iff.1 hm).2
  rw [addW, if_pos (List.any_eq_true.2 ⟨p, List.mem_of_getElem? hm, e⟩)]
  refine List.ext_getElem (by simp) fun i h1 h2 => ?_
  rw [List.length_map] at h1
  rw [List.getElem_map, List.getElem_set]
  by_cases ei : m = i
  · subst ei
    rw [if_pos rfl, hmg, if_pos e]
  · rw [if_neg ei, if_neg]
    intro e2
    obtain ⟨a1, a2, a3⟩ := isW_iff.1 e
    obtain ⟨b1, b2, b3⟩ := isW_iff.1 e2
    have hp := List.pairwise_iff_getElem.1 h.uniq
    rcases Nat.lt_or_gt_of_ne ei with hl | hl
    · exact hp m i hml h1 hl ⟨by rw [hmg, a1, b1], by rw [hmg, a2, b2], by rw [hmg, a3, b3]⟩
    · exact hp i m h1 hml hl ⟨by rw [hmg, a1, b1], by rw [hmg, a2, b2], by rw [hmg, a3, b3]⟩
theorem addW_new {k : Int} {ps : List Wn} {x : It} {w : Int × Int} (h : ∀ p, p ∈ ps → isW w x.s p = false) : addW k x w ps = ps ++ [⟨k, w.1, w.2, [x]⟩] := by
  rw [addW, if_neg]
  intro c
  obtain ⟨p, hp, e⟩ := List.any_eq_true.1 c
  rw [h p hp] at e; cases e

/-- The windows of a row, W the spans that hold a time. -/
def prsW (W : Int → List (Int × Int)) (xs : List It) : List (It × (Int × Int)) := xs.flatMap fun x => (W x.t).map fun w => (x, w)
def winsW (k : Int) (L : List (It × (Int × Int))) : List Wn := L.foldl (fun ps z => addW k z.1 z.2 ps) []
theorem winsW_on (k : Int) (L : List (It × (Int × Int))) (z : It × (Int × Int)) : winsW k (L ++ [z]) = addW k z.1 z.2 (winsW k L) := by simp [winsW]
theorem winsW_of (k : Int) (L : List (It × (Int × Int))) : WinsOf k L (winsW k L) := by
  have : ∀ (L M : List (It × (Int × Int))) (ps : List Wn), WinsOf k M ps → WinsOf k (M ++ L) (L.foldl (fun ps z => addW k z.1 z.2 ps) ps) := by
    intro L
    induction L with
    | nil => intro M ps h; rw [List.append_nil]; exact h
    | cons z L ih =>
      intro M ps h
      have := ih (M ++ [z]) _ (h.step z.1 z.2)
      rw [List.append_assoc] at this
      exact this
  exact this L [] [] (winsOf_nil k)
theorem prsW_mem {W : Int → List (Int × Int)} {xs : List It} {x : It} {w : Int × Int} : (x, w) ∈ prsW W xs ↔ x ∈ xs ∧ w ∈ W x.t := by
  unfold prsW
  simp only [List.mem_flatMap, List.mem_map, Prod.mk.injEq]
  constructor
  · rintro ⟨y, hy, v, hv, rfl, rfl⟩; exact ⟨hy, hv⟩
  · rintro ⟨hx, hw⟩; exact ⟨x, hx, w, hw, rfl, rfl⟩
/-- What a window holds: the items of its series in whose spans it is, in their row. -/
theorem prsW_filter {W : Int → List (Int × Int)} (hW : ∀ t, (W t).Nodup) (xs : List It) (s : Int) (w : Int × Int) : ((prsW W xs).filter fun z => decide (z.1.s = s ∧ z.2 = w)).map (·.1) = xs.filter fun x => decide (x.s = s ∧ w ∈ W x.t) := by
  induction xs with
  | nil => rfl
  | cons x xs ih =>
    have e0 : prsW W (x :: xs) = ((W x.t).map fun w => (x, w)) ++ prsW W xs := by simp [prsW]
    have e1 : ∀ V : List (Int × Int), V.Nodup → (((V.map fun w => (x, w)).filter fun z => decide (z.1.s = s ∧ z.2 = w)).map (·.1)) = if x.s = s ∧ w ∈ V then [x] else [] := by
      intro V
      induction V with
      | nil => intro _; simp
      | cons v V ihV =>
        intro hV
        obtain ⟨n1, n2⟩ := List.nodup_cons.1 hV
        rw [List.map_cons, List.filter_cons]
        by_cases c : x.s = s ∧ v = w
        · rw [if_pos (by simp [c.1, c.2]), List.map_cons, ihV n2, if_neg (by rw [← c.2]; exact fun h => n1 h.2), if_pos ⟨c.1, by rw [c.2]; exact List.mem_cons_self⟩]
        · rw [if_neg (by simpa using c), ihV n2]
          by_cases d : x.s = s ∧ w ∈ V
          · rw [if_pos d, if_pos ⟨d.1, List.mem_cons_of_mem _ d.2⟩]
          · rw [if_neg d, if_neg fun h => by
              rcases List.mem_cons.1 h.2 with h2 | h2
              · exact c ⟨h.1, h2.symm⟩
              · exact d ⟨h.1, h2⟩]
    rw [e0, List.filter_append, List.map_append, ih, e1 _ (hW x.t), List.filter_cons]
    by_cases c : x.s = s ∧ w ∈ W x.t
    · rw [if_pos c, if_pos (by simpa using c)]; rfl
    · rw [if_neg c, if_neg (by simpa using c)]; rfl

end Go.Proofs.YtbpaepkcchpmbaaGreat
