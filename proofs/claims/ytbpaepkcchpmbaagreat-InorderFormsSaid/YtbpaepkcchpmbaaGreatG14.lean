import Derived.Test.YtbpaepkcchpmbaaGreatG13
namespace Go.Proofs.YtbpaepkcchpmbaaGreat
def lastS (s : Int) : List Wn → Option Nat
  | [] => none
  | p :: r => match lastS s r with
    | some m => some (m + 1)
    | none => if p.s = s then some 0 else none
theorem lastS_none {s : Int} {ps : List Wn} : lastS s ps = none ↔ ∀ p, p ∈ ps → p.s ≠ s := by
  induction ps with
  | nil => simp [lastS]
  | cons p r ih =>
    unfold lastS
    cases h : lastS s r with
    | some m =>
      simp only [reduceCtorEq, false_iff]
      intro hc
      have := ih.2 fun q hq => hc q (List.mem_cons_of_mem _ hq)
      rw [h] at this; cases this
    | none =>
      have h2 := ih.1 h
      by_cases e : p.s = s
      · simp only [if_pos e, reduceCtorEq, false_iff]
        exact fun hc => hc p List.mem_cons_self e
      · simp only [if_neg e, true_iff]
        intro q hq
        rcases List.mem_cons.1 hq with hq | hq
        · rw [hq]; exact e
        · exact h2 q hq
theorem lastS_some {s : Int} {ps : List Wn} {m : Nat} (h : lastS s ps = some m) : ∃ A p B, ps = A ++ p :: B ∧ A.length = m ∧ p.s = s ∧ ∀ q, q ∈ B → q.s ≠ s := by
  induction ps generalizing m with
  | nil => simp [lastS] at h
  | cons p r ih =>
    unfold lastS at h
    cases h2 : lastS s r with
    | some j =>
      rw [h2] at h
      simp only [Option.some.injEq] at h
      obtain ⟨A, q, B, e1, e2, e3, e4⟩ := ih h2
      exact ⟨p :: A, q, B, by rw [e1]; rfl, by rw [List.length_cons, e2, h], e3, e4⟩
    | none =>
      rw [h2] at h
      by_cases e : p.s = s
      · simp only [if_pos e, Option.some.injEq] at h
        exact ⟨[], p, r, rfl, h, e, lastS_none.1 h2⟩
      · simp only [if_neg e, reduceCtorEq] at h
def Wn.ext (g : Int) (p : Wn) (x : It) : Wn := { p with b := x.t + g, xs := p.xs ++ [x] }
theorem Wn.ext_s {p : Wn} (g : Int) (x : It) (h : p.xs ≠ []) : (p.ext g x).s = p.s := by
  obtain ⟨k, a, b, xs⟩ := p
  cases xs with
  | nil => exact absurd rfl h
  | cons y r => rfl
def noW : Wn := ⟨0, 0, 0, []⟩
def addS (k g : Int) (x : It) (ps : List Wn) : List Wn :=
  match lastS x.s ps with
  | none => ps ++ [⟨k, x.t, x.t + g, [x]⟩]
  | some m => if (ps.getD m noW).b ≤ x.t then ps ++ [⟨k, x.t, x.t + g, [x]⟩] else ps.set m ((ps.getD m noW).ext g x)
def sesL (k g : Int) (xs : List It) : List Wn := xs.foldl (fun ps x => addS k g x ps) []
def serB (s : Int) (p : Wn) : Bool := decide (p.s = s)
def sitB (s : Int) (x : It) : Bool := decide (x.s = s)
def Near (g : Int) : List It → Prop
  | [] => True
  | [_] => True
  | x :: y :: r => y.t < x.t + g ∧ Near g (y :: r)
theorem near_on {g : Int} {xs : List It} {x : It} (h : Near g xs) (hl : ∀ y, xs.getLast? = some y → x.t < y.t + g) : Near g (xs ++ [x]) := by
  induction xs with
  | nil => trivial
  | cons y r ih =>
    cases r with
    | nil => exact ⟨hl y rfl, trivial⟩
    | cons z r => exact ⟨h.1, ih h.2 fun w hw => hl w (by rw [List.getLast?_cons_cons]; exact hw)⟩
structure SesOf (k g : Int) (xs : List It) (ps : List Wn) : Prop where
  k : ∀ p, p ∈ ps → p.k = k
  ne : ∀ p, p ∈ ps → p.xs ≠ []
  fst : ∀ p, p ∈ ps → ∃ y, p.xs.head? = some y ∧ p.a = y.t
  lst : ∀ p, p ∈ ps → ∃ y, p.xs.getLast? = some y ∧ p.b = y.t + g
  ser : ∀ p, p ∈ ps → ∀ y, y ∈ p.xs → y.s = p.s
  le : ∀ p, p ∈ ps → ∀ y, y ∈ p.xs → p.a ≤ y.t ∧ y.t + g ≤ p.b
  near : ∀ p, p ∈ ps → Near g p.xs
  flat : ∀ s, ((ps.filter (serB s)).map (·.xs)).flatten = xs.filter (sitB s)
  far : ps.Pairwise fun p q => p.s = q.s → p.b ≤ q.a
theorem sesOf_nil (k g : Int) : SesOf k g [] [] := ⟨by simp, by simp, by simp, by simp, by simp, by simp, by simp, by simp, List.Pairwise.nil⟩
theorem SesOf.mem {k g : Int} {xs : List It} {ps : List Wn} (h : SesOf k g xs ps) {p : Wn} (hp : p ∈ ps) {y : It} (hy : y ∈ p.xs) : y ∈ xs := by
  have : y ∈ xs.filter (sitB p.s) := by
    rw [← h.flat p.s]
    exact List.mem_flatten.2 ⟨p.xs, List.mem_map.2 ⟨p, List.mem_filter.2 ⟨hp, by simp [serB]⟩, rfl⟩, hy⟩
  exact (List.mem_filter.1 this).1
theorem SesOf.all {k g : Int} {xs : List It} {ps : List Wn} (h : SesOf k g xs ps) {y : It} (hy : y ∈ xs) : ∃ p, p ∈ ps ∧ y ∈ p.xs := by
  have : y ∈ xs.filter (sitB y.s) := List.mem_filter.2 ⟨hy, by simp [sitB]⟩
  rw [← h.flat y.s] at this
  obtain ⟨l, hl, hy⟩ := List.mem_flatten.1 this
  obtain ⟨p, hp, rfl⟩ := List.mem_map.1 hl
  exact ⟨p, (List.mem_filter.1 hp).1, hy⟩
theorem SesOf.new {k g : Int} {xs : List It} {ps : List Wn} (h : SesOf k g xs ps) {x : It} (hb : ∀ p, p ∈ ps → p.s = x.s → p.b ≤ x.t) : SesOf k g (xs ++ [x]) (ps ++ [⟨k, x.t, x.t + g, [x]⟩]) := by
  have ns : Wn.s ⟨k, x.t, x.t + g, [x]⟩ = x.s := rfl
  have two : ∀ {P : Wn → Prop}, (∀ p, p ∈ ps → P p) → P ⟨k, x.t, x.t + g, [x]⟩ → ∀ p, p ∈ ps ++ [⟨k, x.t, x.t + g, [x]⟩] → P p := fun h1 h2 p hp => by
    rcases List.mem_append.1 hp with hp | hp
    · exact h1 p hp
    · rw [List.mem_singleton.1 hp]; exact h2
  refine ⟨two h.k rfl, two h.ne (by simp), two h.fst ⟨x, rfl, rfl⟩, two h.lst ⟨x, rfl, rfl⟩, two h.ser ?_, two h.le ?_, two h.near trivial, fun s => ?_, ?_⟩
  · intro y hy; rw [List.mem_singleton.1 hy]; rfl
  · intro y hy; rw [List.mem_singleton.1 hy]; exact ⟨Int.le_refl _, Int.le_refl _⟩
  · rw [List.filter_append, List.map_append, List.flatten_append, h.flat s, List.filter_append]
    by_cases e : x.s = s
    · rw [List.filter_cons, if_pos (by simp [serB, ns, e]), List.filter_cons, if_pos (by simp [sitB, e])]; simp
    · rw [List.filter_cons, if_neg (by simp [serB, ns, e]), List.filter_cons, if_neg (by simp [sitB, e])]; simp
  · refine List.pairwise_append.2 ⟨h.far, List.pairwise_singleton _ _, fun p hp q hq => ?_⟩
    rw [List.mem_singleton.1 hq, ns]
    exact hb p hp
theorem SesOf.on {k g : Int} {xs : List It} {A B : List Wn} {p : Wn} (h : SesOf k g xs (A ++ p :: B)) {x : It} (hs : p.s = x.s) (hB : ∀ q, q ∈ B → q.s ≠ x.s) (hx : ∀ y, y ∈ xs → y.t ≤ x.t) (hb : x.t < p.b) : SesOf k g (xs ++ [x]) (A ++ p.ext g x :: B) := by
  have mp : p ∈ A ++ p :: B := by simp
  have es : (p.ext g x).s = p.s := Wn.ext_s g x (h.ne p mp)
  have mem : ∀ q, q ∈ A ++ p.ext g x :: B → q = p.ext g x ∨ q ∈ A ++ p :: B := fun q hq => by
    rcases List.mem_append.1 hq with hq | hq
    · exact Or.inr (List.mem_append_left _ hq)
    · rcases List.mem_cons.1 hq with hq | hq
      · exact Or.inl hq
      · exact Or.inr (List.mem_append_right _ (List.mem_cons_of_mem _ hq))
  have two : ∀ {P : Wn → Prop}, (∀ q, q ∈ A ++ p :: B → P q) → P (p.ext g x) → ∀ q, q ∈ A ++ p.ext g x :: B → P q := fun h1 h2 q hq => by
    rcases mem q hq with hq | hq
    · rw [hq]; exact h2
    · exact h1 q hq
  have ex : (p.ext g x).xs = p.xs ++ [x] := rfl
  obtain ⟨f, f1, f2⟩ := h.fst p mp
  obtain ⟨l, l1, l2⟩ := h.lst p mp
  refine ⟨two h.k (h.k p mp), two h.ne (by rw [ex]; simp), two h.fst ⟨f, ?_, f2⟩, two h.lst ⟨x, ?_, rfl⟩, two h.ser ?_, two h.le ?_, two h.near ?_, fun s => ?_, ?_⟩
  · rw [ex]
    cases hp : p.xs with
    | nil => exact absurd hp (h.ne p mp)
    | cons y r => rw [hp] at f1; exact f1
  · rw [ex, List.getLast?_append]; rfl
  · intro y hy
    rw [ex] at hy
    rw [es]
    rcases List.mem_append.1 hy with hy | hy
    · exact h.ser p mp y hy
    · rw [List.mem_singleton.1 hy]; exact hs.symm
  · intro y hy
    rw [ex] at hy
    have ea : (p.ext g x).a = p.a := rfl
    have eb : (p.ext g x).b = x.t + g := rfl
    have f3 := hx f (h.mem mp (List.mem_of_mem_head? f1))
    rcases List.mem_append.1 hy with hy | hy
    · have h1 := h.le p mp y hy
      have h2 := hx y (h.mem mp hy)
      rw [ea, eb]; exact ⟨h1.1, by omega⟩
    · rw [List.mem_singleton.1 hy, ea, eb, f2]; exact ⟨f3, Int.le_refl _⟩
  · rw [ex]
    exact near_on (h.near p mp) fun y hy => by rw [l1] at hy; cases hy; omega
  · have h0 := h.flat s
    have hBn : s = x.s → B.filter (serB s) = [] := fun e => List.filter_eq_nil_iff.2 fun q hq => by
      have := hB q hq
      simp only [serB, decide_eq_true_eq]; omega
    rw [List.filter_append, List.filter_cons, List.map_append, List.flatten_append] at h0 ⊢
    rw [List.filter_append, ← h0, show serB s (p.ext g x) = serB s p by unfold serB; rw [es]]
    by_cases e : s = x.s
    · rw [if_pos (by simp [serB, hs, e]), if_pos (by simp [serB, hs, e]), hBn e, List.filter_cons, if_pos (by simp [sitB, e])]
      simp [ex]
    · rw [if_neg (by simp only [serB, decide_eq_true_eq]; omega), if_neg (by simp only [serB, decide_eq_true_eq]; omega), List.filter_cons, if_neg (by simp only [sitB, decide_eq_true_eq]; omega)]
      simp
  · obtain ⟨q1, q2, q3⟩ := List.pairwise_append.1 h.far
    obtain ⟨q4, q5⟩ := List.pairwise_cons.1 q2
    refine List.pairwise_append.2 ⟨q1, List.pairwise_cons.2 ⟨fun q hq e => ?_, q5⟩, fun a ha b hb => ?_⟩
    · rw [es, hs] at e
      exact absurd e.symm (hB q hq)
    · rcases List.mem_cons.1 hb with hb | hb
      · rw [hb, es]; exact q3 a ha p List.mem_cons_self
      · exact q3 a ha b (List.mem_cons_of_mem _ hb)
theorem SesOf.step {k g : Int} (hg : 0 < g) {xs : List It} {ps : List Wn} (h : SesOf k g xs ps) (x : It) (hx : ∀ y, y ∈ xs → y.t ≤ x.t) : SesOf k g (xs ++ [x]) (addS k g x ps) := by
  unfold addS
  cases e : lastS x.s ps with
  | none => exact h.new fun p hp hs => absurd hs (lastS_none.1 e p hp)
  | some m =>
    obtain ⟨A, p, B, e1, e2, e3, e4⟩ := lastS_some e
    subst e1
    have eg : (A ++ p :: B).getD m noW = p := by simp [← e2]
    have eset : (A ++ p :: B).set m (p.ext g x) = A ++ p.ext g x :: B := by simp [← e2]
    simp only [eg]
    by_cases c : p.b ≤ x.t
    · rw [if_pos c]
      refine h.new fun q hq hs => ?_
      obtain ⟨q1, q2, q3⟩ := List.pairwise_append.1 h.far
      rcases List.mem_append.1 hq with hq | hq
      · have h1 := q3 q hq p List.mem_cons_self (by rw [hs, e3])
        obtain ⟨l, l1, l2⟩ := h.lst p (by simp)
        have h2 := (h.le p (by simp) l (List.mem_of_getLast? l1)).1
        omega
      · rcases List.mem_cons.1 hq with hq | hq
        · rw [hq]; exact c
        · exact absurd hs (e4 q hq)
    · rw [if_neg c, eset]
      exact h.on e3 e4 hx (by omega)
theorem sesL_of {k g : Int} (hg : 0 < g) {xs : List It} (h : xs.Pairwise fun a b => a.t ≤ b.t) : SesOf k g xs (sesL k g xs) := by
  have : ∀ (ys zs : List It) (ps : List Wn), (zs ++ ys).Pairwise (fun a b => a.t ≤ b.t) → SesOf k g zs ps → SesOf k g (zs ++ ys) (ys.foldl (fun ps x => addS k g x ps) ps) := by
    intro ys
    induction ys with
    | nil => intro zs ps _ h; rw [List.append_nil]; exact h
    | cons y ys ih =>
      intro zs ps hp h
      have h1 := h.step hg y fun z hz => (List.pairwise_append.1 hp).2.2 z hz y List.mem_cons_self
      have := ih (zs ++ [y]) _ (by rw [List.append_assoc]; exact hp) h1
      rw [List.append_assoc] at this
      exact this
  exact this xs [] [] h (sesOf_nil k g)
theorem srd2_times {xs : List It} (h : SrdB lt2 xs) : xs.Pairwise fun a b => a.t ≤ b.t := List.Pairwise.imp (fun hab => by rw [lt2_no] at hab; omega) h
end Go.Proofs.YtbpaepkcchpmbaaGreat
namespace Go.Proofs.YtbpaepkcchpmbaaGreat
def runsG (g : Int) : List It → List (List It)
  | [] => []
  | x :: r => match runsG g r with
    | [] => [[x]]
    | B :: Bs => if (nthI B 0).t < x.t + g then (x :: B) :: Bs else [x] :: B :: Bs
def lastI (B : List It) : It := B.getLast?.getD zeroIt
def RunsU (g : Int) : List (List It) → Prop
  | [] => True
  | [B] => B ≠ [] ∧ Near g B
  | B :: C :: r => B ≠ [] ∧ Near g B ∧ (lastI B).t + g ≤ (nthI C 0).t ∧ RunsU g (C :: r)
theorem runsU_tail {g : Int} {B : List It} {r : List (List It)} (h : RunsU g (B :: r)) : RunsU g r := by
  cases r with
  | nil => trivial
  | cons C r => exact h.2.2.2
theorem runsU_head {g : Int} {B : List It} {r : List (List It)} (h : RunsU g (B :: r)) : B ≠ [] ∧ Near g B := by
  cases r with
  | nil => exact h
  | cons C r => exact ⟨h.1, h.2.1⟩
theorem near_tail {g : Int} {x : It} {r : List It} (h : Near g (x :: r)) : Near g r := by
  cases r with
  | nil => trivial
  | cons y r => exact h.2
theorem lastI_cons {x y : It} {r : List It} : lastI (x :: y :: r) = lastI (y :: r) := by simp [lastI]
theorem runsG_blk {g : Int} {B : List It} (hne : B ≠ []) (hn : Near g B) {r : List (List It)} {xs : List It} (hr : runsG g xs = r) (hg : ∀ C, r.head? = some C → (lastI B).t + g ≤ (nthI C 0).t) : runsG g (B ++ xs) = B :: r := by
  induction B with
  | nil => exact absurd rfl hne
  | cons x B ih =>
    cases B with
    | nil =>
      show (match runsG g xs with
        | [] => [[x]]
        | B :: Bs => if (nthI B 0).t < x.t + g then (x :: B) :: Bs else [x] :: B :: Bs) = [x] :: r
      rw [hr]
      cases r with
      | nil => rfl
      | cons C r =>
        have h1 := hg C rfl
        have h2 : lastI [x] = x := rfl
        rw [h2] at h1
        simp only [if_neg (show ¬ (nthI C 0).t < x.t + g by omega)]
    | cons y B =>
      have h1 := ih (by simp) (near_tail hn) (fun C hC => by have := hg C hC; rwa [lastI_cons] at this)
      show (match runsG g (y :: B ++ xs) with
        | [] => [[x]]
        | B :: Bs => if (nthI B 0).t < x.t + g then (x :: B) :: Bs else [x] :: B :: Bs) = (x :: y :: B) :: r
      rw [h1]
      have h2 : (nthI (y :: B) 0).t = y.t := rfl
      have h3 := hn.1
      simp only [h2, if_pos h3]
theorem runsG_of {g : Int} {Bs : List (List It)} (h : RunsU g Bs) : runsG g Bs.flatten = Bs := by
  induction Bs with
  | nil => rfl
  | cons B r ih =>
    obtain ⟨h1, h2⟩ := runsU_head h
    rw [List.flatten_cons]
    refine runsG_blk h1 h2 (ih (runsU_tail h)) fun C hC => ?_
    cases r with
    | nil => simp at hC
    | cons D r => simp only [List.head?_cons, Option.some.injEq] at hC; subst hC; exact h.2.2.1
theorem runsG_flat (g : Int) (xs : List It) : (runsG g xs).flatten = xs := by
  induction xs with
  | nil => rfl
  | cons x r ih =>
    unfold runsG
    cases h : runsG g r with
    | nil => rw [h] at ih; simp only [List.flatten_nil] at ih; simp [← ih]
    | cons B Bs =>
      rw [h] at ih
      by_cases c : (nthI B 0).t < x.t + g
      · simp only [if_pos c]; rw [List.flatten_cons, List.cons_append, ← List.flatten_cons, ih]
      · simp only [if_neg c]; rw [List.flatten_cons, ih]; rfl
theorem runsG_u (g : Int) (xs : List It) : RunsU g (runsG g xs) := by
  induction xs with
  | nil => trivial
  | cons x r ih =>
    unfold runsG
    cases h : runsG g r with
    | nil => exact ⟨by simp, trivial⟩
    | cons B Bs =>
      rw [h] at ih
      obtain ⟨h1, h2⟩ := runsU_head ih
      by_cases c : (nthI B 0).t < x.t + g
      · simp only [if_pos c]
        have hn : Near g (x :: B) := by
          cases B with
          | nil => trivial
          | cons y B => exact ⟨c, h2⟩
        cases Bs with
        | nil => exact ⟨by simp, hn⟩
        | cons C Bs =>
          refine ⟨by simp, hn, ?_, ih.2.2.2⟩
          cases B with
          | nil => exact absurd rfl h1
          | cons y B => rw [lastI_cons]; exact ih.2.2.1
      · simp only [if_neg c]
        have h3 : lastI [x] = x := rfl
        exact ⟨by simp, trivial, by rw [h3]; omega, ih⟩
theorem runsU_append {g : Int} {As Bs : List (List It)} (h1 : RunsU g As) (h2 : RunsU g Bs) (h3 : ∀ A, A ∈ As → ∀ B, B ∈ Bs → (lastI A).t + g ≤ (nthI B 0).t) : RunsU g (As ++ Bs) := by
  induction As with
  | nil => exact h2
  | cons A As ih =>
    have h4 := ih (runsU_tail h1) fun a ha => h3 a (List.mem_cons_of_mem _ ha)
    obtain ⟨a1, a2⟩ := runsU_head h1
    cases As with
    | nil =>
      cases Bs with
      | nil => exact h1
      | cons B Bs => exact ⟨a1, a2, h3 A List.mem_cons_self B List.mem_cons_self, h2⟩
    | cons C As => exact ⟨a1, a2, h1.2.2.1, h4⟩
theorem last_mem {B : List It} (h : B ≠ []) : lastI B ∈ B := by
  unfold lastI
  rw [List.getLast?_eq_some_getLast h]
  exact List.getLast_mem h
theorem first_mem {B : List It} (h : B ≠ []) : nthI B 0 ∈ B := by
  cases B with
  | nil => exact absurd rfl h
  | cons x r => exact List.mem_cons_self
theorem runsG_ne {g : Int} {xs B : List It} (h : B ∈ runsG g xs) : B ≠ [] ∧ Near g B := by
  have : ∀ Bs : List (List It), RunsU g Bs → B ∈ Bs → B ≠ [] ∧ Near g B := by
    intro Bs
    induction Bs with
    | nil => intro _ h; cases h
    | cons C r ih =>
      intro hu hm
      rcases List.mem_cons.1 hm with hm | hm
      · rw [hm]; exact runsU_head hu
      · exact ih (runsU_tail hu) hm
  exact this _ (runsG_u g xs) h
theorem runsG_append {g : Int} {xs ys : List It} (h : ∀ x, x ∈ xs → ∀ y, y ∈ ys → x.t + g ≤ y.t) : runsG g (xs ++ ys) = runsG g xs ++ runsG g ys := by
  have hm : ∀ (zs B : List It), B ∈ runsG g zs → ∀ x, x ∈ B → x ∈ zs := fun zs B hB x hx => by
    rw [← runsG_flat g zs]; exact List.mem_flatten.2 ⟨B, hB, hx⟩
  have := runsG_of (runsU_append (runsG_u g xs) (runsG_u g ys) fun A hA B hB => h _ (hm xs A hA _ (last_mem (runsG_ne hA).1)) _ (hm ys B hB _ (first_mem (runsG_ne hB).1)))
  rwa [List.flatten_append, runsG_flat, runsG_flat] at this
theorem winsW_mem {W : Int → List (Int × Int)} (hW : ∀ t, (W t).Nodup) {k : Int} {xs : List It} {p : Wn} : p ∈ winsW k (prsW W xs) ↔ p.k = k ∧ p.xs ≠ [] ∧ p.xs = xs.filter fun x => decide (x.s = p.s ∧ (p.a, p.b) ∈ W x.t) := by
  have h := winsW_of k (prsW W xs)
  constructor
  · intro hp
    refine ⟨h.k p hp, h.ne p hp, ?_⟩
    have := h.xs p hp
    rwa [prsW_filter hW] at this
  · rintro ⟨h1, h2, h3⟩
    have hz : nthI p.xs 0 ∈ p.xs := first_mem h2
    rw [h3] at hz
    obtain ⟨z1, z2⟩ := List.mem_filter.1 hz
    simp only [decide_eq_true_eq] at z2
    rw [← h3] at z1 z2
    obtain ⟨q, hq, q1, q2, q3⟩ := h.all (nthI p.xs 0, (p.a, p.b)) (prsW_mem.2 ⟨z1, z2.2⟩)
    have q1 : q.a = p.a := q1
    have q2 : q.b = p.b := q2
    have q3 : q.s = p.s := q3
    have q4 := h.xs q hq
    rw [prsW_filter hW, q1, q2, q3, ← h3] at q4
    have q5 := h.k q hq
    have : q = p := by
      obtain ⟨qk, qa, qb, qx⟩ := q
      obtain ⟨pk, pa, pb, px⟩ := p
      have h1 : pk = k := h1
      have q5 : qk = k := q5
      rw [Wn.mk.injEq]
      exact ⟨by rw [q5, h1], q1, q2, q4⟩
    rw [← this]; exact hq
theorem sesOf_runs {k g : Int} {xs : List It} {ps : List Wn} (h : SesOf k g xs ps) (s : Int) : (ps.filter (serB s)).map (·.xs) = runsG g (xs.filter (sitB s)) := by
  rw [← h.flat s]
  refine (runsG_of ?_).symm
  have : ∀ qs : List Wn, (∀ p, p ∈ qs → p ∈ ps ∧ p.s = s) → qs.Pairwise (fun p q => p.s = q.s → p.b ≤ q.a) → RunsU g (qs.map (·.xs)) := by
    intro qs
    induction qs with
    | nil => intro _ _; trivial
    | cons p qs ih =>
      intro hm hp
      obtain ⟨p1, p2⟩ := List.pairwise_cons.1 hp
      have h1 := ih (fun q hq => hm q (List.mem_cons_of_mem _ hq)) p2
      obtain ⟨mp, sp⟩ := hm p List.mem_cons_self
      cases qs with
      | nil => exact ⟨h.ne p mp, h.near p mp⟩
      | cons q qs =>
        obtain ⟨mq, sq⟩ := hm q (List.mem_cons_of_mem _ List.mem_cons_self)
        have h2 := p1 q List.mem_cons_self (by rw [sp, sq])
        obtain ⟨l, l1, l2⟩ := h.lst p mp
        obtain ⟨f, f1, f2⟩ := h.fst q mq
        refine ⟨h.ne p mp, h.near p mp, ?_, h1⟩
        have e1 : lastI p.xs = l := by rw [lastI, l1]; rfl
        have e2 : nthI q.xs 0 = f := by
          cases hq : q.xs with
          | nil => rw [hq] at f1; simp at f1
          | cons y r => rw [hq] at f1; simp only [List.head?_cons, Option.some.injEq] at f1; rw [← f1]; rfl
        rw [e1, e2]; omega
  exact this _ (fun p hp => ⟨(List.mem_filter.1 hp).1, by simpa [serB] using (List.mem_filter.1 hp).2⟩) (List.Pairwise.filter _ h.far)
theorem SesOf.memI {k g : Int} {xs : List It} {ps : List Wn} (h : SesOf k g xs ps) {p : Wn} : p ∈ ps ↔ p.k = k ∧ p.xs ∈ runsG g (xs.filter (sitB p.s)) ∧ p.a = (nthI p.xs 0).t ∧ p.b = (lastI p.xs).t + g := by
  have fl : ∀ q, q ∈ ps → q.a = (nthI q.xs 0).t ∧ q.b = (lastI q.xs).t + g := fun q hq => by
    obtain ⟨l, l1, l2⟩ := h.lst q hq
    obtain ⟨f, f1, f2⟩ := h.fst q hq
    have e1 : lastI q.xs = l := by rw [lastI, l1]; rfl
    have e2 : nthI q.xs 0 = f := by
      cases hq : q.xs with
      | nil => rw [hq] at f1; simp at f1
      | cons y r => rw [hq] at f1; simp only [List.head?_cons, Option.some.injEq] at f1; rw [← f1]; rfl
    rw [e1, e2]; exact ⟨f2, l2⟩
  constructor
  · intro hp
    refine ⟨h.k p hp, ?_, fl p hp⟩
    rw [← sesOf_runs h]
    exact List.mem_map.2 ⟨p, List.mem_filter.2 ⟨hp, by simp [serB]⟩, rfl⟩
  · rintro ⟨h1, h2, h3, h4⟩
    rw [← sesOf_runs h] at h2
    obtain ⟨q, hq, e⟩ := List.mem_map.1 h2
    have hq := (List.mem_filter.1 hq).1
    obtain ⟨f1, f2⟩ := fl q hq
    have : q = p := by
      have hk := h.k q hq
      obtain ⟨qk, qa, qb, qx⟩ := q
      obtain ⟨pk, pa, pb, px⟩ := p
      simp only at *
      subst e
      rw [Wn.mk.injEq]
      exact ⟨by rw [hk, h1], by rw [f1, h3], by rw [f2, h4], rfl⟩
    rw [← this]; exact hq
end Go.Proofs.YtbpaepkcchpmbaaGreat
