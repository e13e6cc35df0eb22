import Derived.Test.YtbpaepkcchpmbaaGreatG14
namespace Go.Proofs.YtbpaepkcchpmbaaGreat
structure QW where
  ses : Bool
  g : Int
  W : Int → List (Int × Int)
structure QW.Ok (q : QW) : Prop where
  gap : q.ses = true → 0 < q.g
  nodup : ∀ t, (q.W t).Nodup
def winsQ (k : Int) (q : QW) (xs : List It) : List Wn := if q.ses = true then sesL k q.g xs else winsW k (prsW q.W xs)
def Times (xs : List It) : Prop := xs.Pairwise fun a b => a.t ≤ b.t
theorem times_filter {xs : List It} (h : Times xs) (f : It → Bool) : Times (xs.filter f) := List.Pairwise.filter f h
theorem winsQ_k {k : Int} {q : QW} (hq : q.Ok) {xs : List It} (ht : Times xs) {p : Wn} (hp : p ∈ winsQ k q xs) : p.k = k := by
  unfold winsQ at hp
  by_cases c : q.ses = true
  · rw [if_pos c] at hp; exact (sesL_of (hq.gap c) ht).k p hp
  · rw [if_neg c] at hp; exact (winsW_of k _).k p hp
theorem winsQ_ne {k : Int} {q : QW} (hq : q.Ok) {xs : List It} (ht : Times xs) {p : Wn} (hp : p ∈ winsQ k q xs) : p.xs ≠ [] := by
  unfold winsQ at hp
  by_cases c : q.ses = true
  · rw [if_pos c] at hp; exact (sesL_of (hq.gap c) ht).ne p hp
  · rw [if_neg c] at hp; exact (winsW_of k _).ne p hp
theorem winsQ_sub {k : Int} {q : QW} (hq : q.Ok) {xs : List It} (ht : Times xs) {p : Wn} (hp : p ∈ winsQ k q xs) {x : It} (hx : x ∈ p.xs) : x ∈ xs ∧ x.s = p.s := by
  unfold winsQ at hp
  by_cases c : q.ses = true
  · rw [if_pos c] at hp
    have h := sesL_of (k := k) (hq.gap c) ht
    exact ⟨h.mem hp hx, h.ser p hp x hx⟩
  · rw [if_neg c] at hp
    have h := ((winsW_mem hq.nodup).1 hp).2.2
    rw [h] at hx
    obtain ⟨h1, h2⟩ := List.mem_filter.1 hx
    simp only [decide_eq_true_eq] at h2
    exact ⟨h1, h2.1⟩
theorem winsQ_uniq {k : Int} {q : QW} (hq : q.Ok) {xs : List It} (ht : Times xs) : (winsQ k q xs).Pairwise fun p r => ¬ (p.a = r.a ∧ p.b = r.b ∧ p.s = r.s) := by
  unfold winsQ
  by_cases c : q.ses = true
  · rw [if_pos c]
    have h := sesL_of (k := k) (hq.gap c) ht
    have hg := hq.gap c
    refine List.Pairwise.imp_of_mem (fun {p r} hp hr hf hc => ?_) h.far
    have h1 := hf hc.2.2
    obtain ⟨l, l1, l2⟩ := h.lst r hr
    have h2 := h.le r hr l (List.mem_of_getLast? l1)
    omega
  · rw [if_neg c]; exact (winsW_of k _).uniq
def outM (late m : Int) (p : Wn) : Bool := decide (p.b ≤ m - late)
def noQW : QW := ⟨false, 0, fun _ => []⟩
def winsA (qs : List QW) (xs : List It) : List Wn := (List.range qs.length).flatMap fun k : Nat => winsQ k (qs.getD k noQW) xs
structure QsOk (qs : List QW) : Prop where
  ok : ∀ q, q ∈ qs → q.Ok
theorem QsOk.at_ {qs : List QW} (h : QsOk qs) {k : Nat} (hk : k < qs.length) : (qs.getD k noQW).Ok := by
  rw [List.getD_eq_getElem?_getD, List.getElem?_eq_getElem hk]
  exact h.ok _ (List.getElem_mem hk)
theorem winsA_mem {qs : List QW} {xs : List It} {p : Wn} : p ∈ winsA qs xs ↔ ∃ k, k < qs.length ∧ p ∈ winsQ k (qs.getD k noQW) xs := by
  unfold winsA
  simp only [List.mem_flatMap, List.mem_range]
theorem winsA_uniq {qs : List QW} (h : QsOk qs) {xs : List It} (ht : Times xs) : (winsA qs xs).Pairwise fun p r => ¬ (p.k = r.k ∧ p.a = r.a ∧ p.b = r.b ∧ p.s = r.s) := by
  have : ∀ n, n ≤ qs.length → ((List.range n).flatMap fun k : Nat => winsQ k (qs.getD k noQW) xs).Pairwise fun p r => ¬ (p.k = r.k ∧ p.a = r.a ∧ p.b = r.b ∧ p.s = r.s) := by
    intro n
    induction n with
    | zero => intro _; exact List.Pairwise.nil
    | succ n ih =>
      intro hn
      rw [List.range_succ, List.flatMap_append, List.flatMap_singleton]
      refine List.pairwise_append.2 ⟨ih (by omega), List.Pairwise.imp (fun hc h => hc h.2) (winsQ_uniq (h.at_ (by omega)) ht), fun p hp r hr hc => ?_⟩
      obtain ⟨k, hk, hp⟩ := List.mem_flatMap.1 hp
      rw [List.mem_range] at hk
      have e1 := winsQ_k (h.at_ (by omega)) ht hp
      have e2 := winsQ_k (h.at_ (by omega)) ht hr
      omega
  exact this qs.length (Nat.le_refl _)
def ahW (p r : Wn) : Bool := decide (p.b < r.b ∨ p.b = r.b ∧ (p.k < r.k ∨ p.k = r.k ∧ (p.s < r.s ∨ p.s = r.s ∧ p.a < r.a)))
theorem ahW_iff {p r : Wn} : ahW p r = true ↔ (p.b < r.b ∨ p.b = r.b ∧ (p.k < r.k ∨ p.k = r.k ∧ (p.s < r.s ∨ p.s = r.s ∧ p.a < r.a))) := decide_eq_true_iff
theorem ahW_no {p r : Wn} : ahW p r = false ↔ ¬ (p.b < r.b ∨ p.b = r.b ∧ (p.k < r.k ∨ p.k = r.k ∧ (p.s < r.s ∨ p.s = r.s ∧ p.a < r.a))) := decide_eq_false_iff_not
theorem ordW : OrdB ahW := ⟨fun x y h => by rw [ahW_iff] at h; rw [ahW_no]; omega, fun x y z h1 h2 => by rw [ahW_no] at *; omega⟩
def selB (late m0 m1 : Int) (p : Wn) : Bool := outM late m1 p && !outM late m0 p
def toldL (qs : List QW) (late m0 m1 : Int) (xs : List It) : List Wn := srtB ahW ((winsA qs xs).filter (selB late m0 m1))
theorem toldL_mem {qs : List QW} {late m0 m1 : Int} {xs : List It} {p : Wn} : p ∈ toldL qs late m0 m1 xs ↔ p ∈ winsA qs xs ∧ outM late m1 p = true ∧ outM late m0 p = false := by
  unfold toldL
  rw [srtB_mem, List.mem_filter, selB, Bool.and_eq_true, Bool.not_eq_true']
theorem toldL_srd (qs : List QW) (late m0 m1 : Int) (xs : List It) : SrdB ahW (toldL qs late m0 m1 xs) := srtB_srd ordW _
theorem toldL_nodup {qs : List QW} (h : QsOk qs) {late m0 m1 : Int} {xs : List It} (ht : Times xs) : (toldL qs late m0 m1 xs).Nodup :=
  (srtB_perm ahW _).symm.nodup_iff.1 (List.Pairwise.imp (fun {a b} hab e => hab (by rw [e]; exact ⟨rfl, rfl, rfl, rfl⟩)) (List.Pairwise.filter (selB late m0 m1) (winsA_uniq h ht)))
theorem winsA_one {qs : List QW} (h : QsOk qs) {xs : List It} (ht : Times xs) {p r : Wn} (hp : p ∈ winsA qs xs) (hr : r ∈ winsA qs xs) (h1 : ahW p r = false) (h2 : ahW r p = false) : p = r := by
  rw [ahW_no] at h1 h2
  have hu := List.pairwise_iff_getElem.1 (winsA_uniq h ht)
  obtain ⟨i, hi, rfl⟩ := List.mem_iff_getElem.1 hp
  obtain ⟨j, hj, rfl⟩ := List.mem_iff_getElem.1 hr
  rcases Nat.lt_trichotomy i j with hl | hl | hl
  · exact absurd ⟨by omega, by omega, by omega, by omega⟩ (hu i j hi hj hl)
  · subst hl; rfl
  · exact absurd ⟨by omega, by omega, by omega, by omega⟩ (hu j i hj hi hl)
def heldB (qs : List QW) (late m : Int) (xs : List It) (x : It) : Bool := (winsA qs xs).any fun p => !outM late m p && p.xs.any fun y => y.q == x.q
def heldL (qs : List QW) (late m : Int) (xs : List It) : List It := xs.filter (heldB qs late m xs)
theorem heldB_iff {qs : List QW} (h : QsOk qs) {late m : Int} {xs : List It} (ht : Times xs) (hs : Seqs xs) {x : It} (hx : x ∈ xs) : heldB qs late m xs x = true ↔ ∃ p, p ∈ winsA qs xs ∧ outM late m p = false ∧ x ∈ p.xs := by
  unfold heldB
  simp only [List.any_eq_true, Bool.and_eq_true, Bool.not_eq_true', beq_iff_eq]
  constructor
  · rintro ⟨p, hp, ho, y, hy, e⟩
    obtain ⟨k, hk, hpk⟩ := winsA_mem.1 hp
    have := hs.one (winsQ_sub (h.at_ hk) ht hpk hy).1 hx e
    exact ⟨p, hp, ho, this ▸ hy⟩
  · rintro ⟨p, hp, ho, hx⟩; exact ⟨p, hp, ho, x, hx, rfl⟩
end Go.Proofs.YtbpaepkcchpmbaaGreat
namespace Go.Proofs.YtbpaepkcchpmbaaGreat
def inW (p : Wn) (x : It) : Bool := decide (x.s = p.s ∧ p.a ≤ x.t ∧ x.t < p.b)
def QW.Over (q : QW) : Prop := ∀ t u w, w ∈ q.W t → (w ∈ q.W u ↔ w.1 ≤ u ∧ u < w.2)
theorem ses_filter {k g : Int} {xs : List It} {ps : List Wn} (hg : 0 < g) (h : SesOf k g xs ps) {p : Wn} (hp : p ∈ ps) : p.xs = xs.filter (inW p) := by
  obtain ⟨A, B, e⟩ := List.append_of_mem hp
  have hf := h.flat p.s
  have hfar := h.far
  rw [e] at hf hfar
  obtain ⟨f1, f2, f3⟩ := List.pairwise_append.1 hfar
  obtain ⟨f4, f5⟩ := List.pairwise_cons.1 f2
  have e0 : xs.filter (inW p) = (xs.filter (sitB p.s)).filter (fun x => decide (p.a ≤ x.t ∧ x.t < p.b)) := by
    rw [List.filter_filter]
    refine List.filter_congr fun x _ => ?_
    unfold inW sitB
    by_cases c : x.s = p.s
    · simp [c]
    · simp [c]
  have eA : (((A.filter (serB p.s)).map (·.xs)).flatten).filter (fun x => decide (p.a ≤ x.t ∧ x.t < p.b)) = [] := List.filter_eq_nil_iff.2 fun y hy hc => by
    obtain ⟨l, hl, hy⟩ := List.mem_flatten.1 hy
    obtain ⟨q, hq, rfl⟩ := List.mem_map.1 hl
    obtain ⟨hq, hs⟩ := List.mem_filter.1 hq
    have h1 := f3 q hq p List.mem_cons_self (by simpa [serB] using hs)
    have h2 := h.le q (by rw [e]; exact List.mem_append_left _ hq) y hy
    simp only [decide_eq_true_eq] at hc
    omega
  have eB : (((B.filter (serB p.s)).map (·.xs)).flatten).filter (fun x => decide (p.a ≤ x.t ∧ x.t < p.b)) = [] := List.filter_eq_nil_iff.2 fun y hy hc => by
    obtain ⟨l, hl, hy⟩ := List.mem_flatten.1 hy
    obtain ⟨q, hq, rfl⟩ := List.mem_map.1 hl
    obtain ⟨hq, hs⟩ := List.mem_filter.1 hq
    have h1 := f4 q hq (by have : q.s = p.s := by simpa [serB] using hs
                           exact this.symm)
    have h2 := h.le q (by rw [e]; exact List.mem_append_right _ (List.mem_cons_of_mem _ hq)) y hy
    simp only [decide_eq_true_eq] at hc
    omega
  have eP : p.xs.filter (fun x => decide (p.a ≤ x.t ∧ x.t < p.b)) = p.xs := List.filter_eq_self.2 fun y hy => by
    have h2 := h.le p hp y hy
    simp only [decide_eq_true_eq]
    omega
  rw [e0, ← hf, List.filter_append, List.filter_cons, if_pos (by simp [serB]), List.map_append, List.map_cons, List.flatten_append, List.flatten_cons, List.filter_append, List.filter_append, eA, eB, eP, List.nil_append, List.append_nil]
theorem winsQ_xs {k : Int} {q : QW} (hq : q.Ok) (ho : q.Over) {xs : List It} (ht : Times xs) {p : Wn} (hp : p ∈ winsQ k q xs) : p.xs = xs.filter (inW p) := by
  unfold winsQ at hp
  by_cases c : q.ses = true
  · rw [if_pos c] at hp
    exact ses_filter (hq.gap c) (sesL_of (hq.gap c) ht) hp
  · rw [if_neg c] at hp
    obtain ⟨h1, h2, h3⟩ := (winsW_mem hq.nodup).1 hp
    have hf := first_mem h2
    rw [h3] at hf
    have hf2 := (List.mem_filter.1 hf).2
    simp only [decide_eq_true_eq] at hf2
    refine h3.trans (List.filter_congr fun x _ => ?_)
    unfold inW
    have := ho _ x.t _ hf2.2
    simp only [this]
structure Ky where
  k : Int
  s : Int
  a : Int
  b : Int
def Wn.key (p : Wn) : Ky := ⟨p.k, p.s, p.a, p.b⟩
def strip (x : It) : Int × Int × Int := (x.s, x.t, x.v)
def plc (x : It) : Int × Int := (x.s, x.t)
def runsT (g : Int) : List Int → List (List Int)
  | [] => []
  | x :: r => match runsT g r with
    | [] => [[x]]
    | B :: Bs => if nth B 0 < x + g then (x :: B) :: Bs else [x] :: B :: Bs
def Overs (qs : List QW) : Prop := ∀ q, q ∈ qs → q.Over
theorem Overs.at_ {qs : List QW} (h : Overs qs) {k : Nat} (hk : k < qs.length) : (qs.getD k noQW).Over := by
  rw [List.getD_eq_getElem?_getD, List.getElem?_eq_getElem hk]
  exact h _ (List.getElem_mem hk)
theorem winsA_xs {qs : List QW} (h : QsOk qs) (ho : Overs qs) {xs : List It} (ht : Times xs) {p : Wn} (hp : p ∈ winsA qs xs) : p.xs = xs.filter (inW p) := by
  obtain ⟨k, hk, hp⟩ := winsA_mem.1 hp
  exact winsQ_xs (h.at_ hk) (ho.at_ hk) ht hp
def ltK (x y : Ky) : Bool := decide (x.b < y.b ∨ x.b = y.b ∧ (x.k < y.k ∨ x.k = y.k ∧ (x.s < y.s ∨ x.s = y.s ∧ x.a < y.a)))
theorem ltK_key (p r : Wn) : ltK p.key r.key = ahW p r := rfl
end Go.Proofs.YtbpaepkcchpmbaaGreat
