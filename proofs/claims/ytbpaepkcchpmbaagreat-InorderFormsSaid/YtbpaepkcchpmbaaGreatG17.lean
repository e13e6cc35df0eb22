import Derived.Test.YtbpaepkcchpmbaaGreatG16
namespace Go.Proofs.YtbpaepkcchpmbaaGreat
structure Ln where
  its : List It
  a : Int
  b : Int
def firstQ (kd sz sl t : Int) : Int × Int := if kd = 2 then (t, t + sz) else (spQ kd sz sl t).headD (0, 0)
def Ln.push (kd sz sl : Int) (l : Ln) (x : It) : Ln :=
  ⟨l.its ++ [x], if l.its.length = 0 then (firstQ kd sz sl x.t).1 else l.a, if kd = 2 then x.t + sz else if l.its.length = 0 then (firstQ kd sz sl x.t).2 else l.b⟩
def Ln.st (kd sz sl : Int) (l : Ln) : Int := if kd = 2 then l.b - l.a else stepQ kd sz sl
def cutT (t : Int) (xs : List It) : List It := xs.dropWhile fun x => decide (x.t < t)
def Ln.next (kd sz sl : Int) (l : Ln) : Ln := ⟨cutT (l.a + l.st kd sz sl) l.its, l.a + l.st kd sz sl, l.b + l.st kd sz sl⟩
def tellLn (k kd sz sl line : Int) (l : Ln) : List Wn × Ln :=
  if l.its.length ≠ 0 ∧ l.b ≤ line ∧ 0 < l.st kd sz sl then
    (⟨k, l.a, l.b, l.its⟩ :: (tellLn k kd sz sl line (l.next kd sz sl)).1, (tellLn k kd sz sl line (l.next kd sz sl)).2)
  else ([], l)
termination_by (line - l.b + 1).toNat
decreasing_by all_goals (simp only [Ln.next]; omega)
theorem cutT_filter {t : Int} : ∀ {xs : List It}, Times xs → cutT t xs = xs.filter fun x => decide (t ≤ x.t)
  | [], _ => rfl
  | x :: r, h => by
    obtain ⟨h1, h2⟩ := List.pairwise_cons.1 h
    unfold cutT
    by_cases hx : x.t < t
    · rw [List.dropWhile_cons_of_pos (by simpa using hx), List.filter_cons_of_neg (by simp; omega)]
      exact cutT_filter h2
    · rw [List.dropWhile_cons_of_neg (by simpa using hx)]
      exact (List.filter_eq_self.2 fun y hy => decide_eq_true (by
        rcases List.mem_cons.1 hy with rfl | hy
        · omega
        · have := h1 y hy; omega)).symm
theorem mul_step {i j k : Int} (hk : 0 < k) (h : i * k < j * k + k) : i * k ≤ j * k := by
  have e : j * k + k = (j + 1) * k := by rw [Int.add_mul, Int.one_mul]
  rw [e] at h
  have := Int.lt_of_mul_lt_mul_right h (by omega)
  exact Int.mul_le_mul_of_nonneg_right (by omega) (by omega)
theorem mul_less {i j k : Int} (hk : 0 < k) (h : i * k < j * k) : i * k + k ≤ j * k := by
  have := Int.lt_of_mul_lt_mul_right h (by omega)
  have e : i * k + k = (i + 1) * k := by rw [Int.add_mul, Int.one_mul]
  rw [e]
  exact Int.mul_le_mul_of_nonneg_right (by omega) (by omega)
structure WinI (st sz : Int) (R : List It) (ℓ : Int) (l : Ln) : Prop where
  its : ∃ j : Int, l.its = R.filter (fun x => decide (j * st ≤ x.t)) ∧ ℓ < j * st + sz ∧ j * st + sz ≤ ℓ + st
  nx : ∀ y, l.its.head? = some y → (∃ j : Int, l.a = j * st) ∧ l.b = l.a + sz ∧ l.a ≤ y.t ∧ ℓ < l.b ∧ (l.b - st ≤ ℓ ∨ l.b - st ≤ y.t)
structure SesI (g : Int) (R : List It) (ℓ : Int) (l : Ln) : Prop where
  none : l.its = [] → ∀ x, x ∈ R → x.t + g ≤ ℓ
  some_ : l.its ≠ [] → ∃ R1, R = R1 ++ l.its ∧ Near g l.its ∧ (∀ x, x ∈ R1 → x.t + g ≤ (nthI l.its 0).t) ∧ l.a = (nthI l.its 0).t ∧ l.b = (lastI l.its).t + g ∧ ℓ < l.b
def qwN (kd sz sl : Int) : QW := ⟨decide (kd = 2), sz, spQ kd sz sl⟩
structure QnOk (kd sz sl : Int) : Prop where
  z : 1 ≤ sz
  s1 : kd ≠ 2 → 1 ≤ stepQ kd sz sl
  s2 : kd ≠ 2 → stepQ kd sz sl ≤ sz
structure LnI (kd sz sl : Int) (s : Int) (R : List It) (ℓ : Int) (l : Ln) : Prop where
  ser : ∀ x, x ∈ R → x.s = s
  times : Times R
  top : ∀ x, x ∈ R → x.t ≤ ℓ
  win : kd ≠ 2 → WinI (stepQ kd sz sl) sz R ℓ l
  ses : kd = 2 → SesI sz R ℓ l
theorem head_first {xs : List It} {y : It} (h : xs.head? = some y) : nthI xs 0 = y ∧ y ∈ xs ∧ xs ≠ [] := by
  cases xs with
  | nil => cases h
  | cons z r => cases h; exact ⟨rfl, by simp, by simp⟩
theorem times_head {xs : List It} (h : Times xs) {y : It} (hy : xs.head? = some y) : ∀ x, x ∈ xs → y.t ≤ x.t := by
  cases xs with
  | nil => cases hy
  | cons z r =>
    cases hy
    intro x hx
    rcases List.mem_cons.1 hx with rfl | hx
    · omega
    · exact (List.pairwise_cons.1 h).1 x hx
theorem times_last {xs : List It} (h : Times xs) (hn : xs ≠ []) : ∀ x, x ∈ xs → x.t ≤ (lastI xs).t := by
  intro x hx
  have e : xs = xs.dropLast ++ [lastI xs] := by
    unfold lastI
    rw [List.getLast?_eq_some_getLast hn]
    exact (List.dropLast_concat_getLast hn).symm
  rw [e] at h hx
  rcases List.mem_append.1 hx with hx | hx
  · exact (List.pairwise_append.1 h).2.2 x hx _ (by simp)
  · rw [List.mem_singleton] at hx; subst hx; exact Int.le_refl _
section
variable {k kd sz sl s : Int} {R : List It} {ℓ : Int} {l : Ln}
theorem win_iff (h1 : 1 ≤ stepQ kd sz sl) (hs : ∀ x, x ∈ R → x.s = s) {p : Wn} : p ∈ winsW k (prsW (spQ kd sz sl) R) ↔ p.k = k ∧ (∃ j : Int, p.a = j * stepQ kd sz sl) ∧ p.b = p.a + sz ∧ p.xs ≠ [] ∧ p.xs = R.filter fun x => decide (p.a ≤ x.t ∧ x.t < p.b) := by
  rw [winsW_mem fun t => spQ_nodup h1]
  have key : ∀ t, (p.a, p.b) ∈ spQ kd sz sl t ↔ (∃ j : Int, p.a = j * stepQ kd sz sl) ∧ p.b = p.a + sz ∧ p.a ≤ t ∧ t < p.b := by
    intro t
    rw [spQ_mem h1]
    constructor
    · rintro ⟨j, e, h2, h3⟩
      obtain ⟨a1, a2⟩ := Prod.mk.inj e
      exact ⟨⟨j, a1⟩, by rw [a1]; exact a2, h2, h3⟩
    · rintro ⟨⟨j, e⟩, e2, h2, h3⟩
      exact ⟨j, by rw [← e, ← e2], h2, h3⟩
  constructor
  · rintro ⟨e1, e2, e3⟩
    obtain ⟨y, hy⟩ := List.exists_mem_of_ne_nil _ e2
    have hy2 := hy
    rw [e3, List.mem_filter] at hy2
    obtain ⟨hR, hd⟩ := hy2
    have hd := of_decide_eq_true hd
    obtain ⟨q1, q2, _⟩ := (key y.t).1 hd.2
    have ps : p.s = s := by rw [← hd.1]; exact hs y hR
    refine ⟨e1, q1, q2, e2, e3.trans (List.filter_congr fun x hx => ?_)⟩
    rw [decide_eq_decide, key, ps]
    exact ⟨fun ⟨_, _, _, a⟩ => a, fun a => ⟨hs x hx, q1, q2, a⟩⟩
  · rintro ⟨e1, q1, q2, e2, e3⟩
    refine ⟨e1, e2, e3.trans (List.filter_congr fun x hx => ?_)⟩
    have hsub : ∀ y, y ∈ p.xs → y ∈ R := fun y hy => by rw [e3] at hy; exact (List.mem_filter.1 hy).1
    have ps : p.s = s := hs _ (hsub _ (first_mem e2))
    rw [decide_eq_decide, key, ps]
    exact ⟨fun a => ⟨hs x hx, q1, q2, a⟩, fun ⟨_, _, _, a⟩ => a⟩
theorem ses_iff (hg : 0 < sz) (ht : Times R) (hs : ∀ x, x ∈ R → x.s = s) {p : Wn} : p ∈ sesL k sz R ↔ p.k = k ∧ p.xs ∈ runsG sz R ∧ p.a = (nthI p.xs 0).t ∧ p.b = (lastI p.xs).t + sz := by
  rw [(sesL_of hg ht).memI]
  have h0 : R.filter (sitB s) = R := List.filter_eq_self.2 fun x hx => decide_eq_true (hs x hx)
  constructor
  · rintro ⟨e1, e2, e3⟩
    have hne := (runsG_ne e2).1
    have hm : nthI p.xs 0 ∈ R.filter (sitB p.s) := by
      rw [← runsG_flat sz (R.filter (sitB p.s))]
      exact List.mem_flatten.2 ⟨_, e2, first_mem hne⟩
    have ps : p.s = s := hs _ (List.mem_filter.1 hm).1
    rw [ps, h0] at e2
    exact ⟨e1, e2, e3⟩
  · rintro ⟨e1, e2, e3⟩
    have hne := (runsG_ne e2).1
    have hm : nthI p.xs 0 ∈ R := by
      rw [← runsG_flat sz R]
      exact List.mem_flatten.2 ⟨_, e2, first_mem hne⟩
    have ps : p.s = s := hs _ hm
    exact ⟨e1, by rw [ps, h0]; exact e2, e3⟩
theorem winsQ_win (h2 : kd ≠ 2) : winsQ k (qwN kd sz sl) R = winsW k (prsW (spQ kd sz sl) R) := by
  unfold winsQ qwN; rw [if_neg (by simpa using h2)]
theorem winsQ_ses (h2 : kd = 2) : winsQ k (qwN kd sz sl) R = sesL k sz R := by
  unfold winsQ qwN; rw [if_pos (by simpa using h2)]
theorem firstQ_win (h : QnOk kd sz sl) (h2 : kd ≠ 2) (t : Int) : ∃ j : Int, firstQ kd sz sl t = (j * stepQ kd sz sl, j * stepQ kd sz sl + sz) ∧ j * stepQ kd sz sl ≤ t ∧ t < j * stepQ kd sz sl + sz ∧ j * stepQ kd sz sl + sz - stepQ kd sz sl ≤ t := by
  have h1 := h.s1 h2
  have hz := h.s2 h2
  unfold firstQ spQ
  rw [if_neg h2]
  generalize stepQ kd sz sl = st at h1 hz ⊢
  have hn : 0 < (t / st - (t - sz) / st).toNat := by
    have a1 := Int.ediv_mul_add_emod t st
    have a2 := Int.emod_lt_of_pos t (show 0 < st by omega)
    have a3 := (win_begin t st sz h1 (t / st)).1.2 (by omega)
    omega
  have e := winL_at ((t - sz) / st) st sz hn
  have e2 : (winL ((t - sz) / st) st sz (t / st - (t - sz) / st).toNat).headD (0, 0) = (((t - sz) / st + 1 + (0 : Nat)) * st, ((t - sz) / st + 1 + (0 : Nat)) * st + sz) := by
    rw [List.headD_eq_head?_getD, List.head?_eq_getElem?, e]; rfl
  refine ⟨(t - sz) / st + 1 + (0 : Nat), e2, ?_, ?_, ?_⟩
  · exact (win_begin t st sz h1 _).2.1 (by omega)
  · have := (win_begin t st sz h1 ((t - sz) / st + 1 + (0 : Nat))).1.1 (by omega)
    omega
  · have a4 := Int.ediv_mul_add_emod (t - sz) st
    have a5 := Int.emod_nonneg (t - sz) (show st ≠ 0 by omega)
    have e3 : ((t - sz) / st + 1 + (0 : Nat)) * st = (t - sz) / st * st + st := by
      rw [show (t - sz) / st + 1 + ((0 : Nat) : Int) = (t - sz) / st + 1 by omega, Int.add_mul, Int.one_mul]
    omega
theorem near_last {g : Int} {xs : List It} {x : It} (h : Near g xs) (hl : xs ≠ [] → x.t < (lastI xs).t + g) : Near g (xs ++ [x]) :=
  near_on h fun y hy => by
    have hn : xs ≠ [] := by rintro rfl; cases hy
    have := hl hn
    unfold lastI at this
    rw [hy] at this
    exact this
theorem LnI.push (hq : QnOk kd sz sl) (h : LnI kd sz sl s R ℓ l) {x : It} (hx : x.t = ℓ) (hs : x.s = s) : LnI kd sz sl s (R ++ [x]) ℓ (l.push kd sz sl x) where
  ser := fun y hy => by
    rcases List.mem_append.1 hy with hy | hy
    · exact h.ser y hy
    · rw [List.mem_singleton] at hy; subst hy; exact hs
  times := List.pairwise_append.2 ⟨h.times, List.pairwise_singleton _ _, fun y hy z hz => by
    rw [List.mem_singleton] at hz; subst hz
    have := h.top y hy; omega⟩
  top := fun y hy => by
    rcases List.mem_append.1 hy with hy | hy
    · exact h.top y hy
    · rw [List.mem_singleton] at hy; subst hy; omega
  win := fun h2 => by
    have W := h.win h2
    have h1 := hq.s1 h2
    obtain ⟨j, e1, e2, e3⟩ := W.its
    refine ⟨⟨j, ?_, e2, e3⟩, ?_⟩
    · show l.its ++ [x] = _
      rw [List.filter_append, ← e1, List.filter_cons_of_pos (by have := hq.s2 h2; simp only [decide_eq_true_eq]; omega)]
      rfl
    · intro y hy
      show (∃ j : Int, (if l.its.length = 0 then (firstQ kd sz sl x.t).1 else l.a) = _) ∧ _
      unfold Ln.push at hy ⊢
      simp only at hy ⊢
      rw [if_neg h2]
      by_cases hl : l.its.length = 0
      · rw [if_pos hl, if_pos hl]
        rw [List.eq_nil_of_length_eq_zero hl] at hy
        cases hy
        obtain ⟨i, e, a1, a2, a3⟩ := firstQ_win hq h2 x.t
        rw [e]
        exact ⟨⟨i, rfl⟩, rfl, a1, by simp only; omega, Or.inr a3⟩
      · rw [if_neg hl, if_neg hl]
        refine W.nx y ?_
        rw [List.head?_append] at hy
        cases hc : l.its.head? with
        | none => rw [List.head?_eq_none_iff] at hc; rw [hc] at hl; exact absurd rfl hl
        | some z => rw [hc] at hy; exact hy
  ses := fun h2 => by
    have S := h.ses h2
    refine ⟨fun hn => absurd hn (by simp [Ln.push]), fun _ => ?_⟩
    unfold Ln.push firstQ
    simp only
    rw [if_pos h2, if_pos h2]
    have hlast : lastI (l.its ++ [x]) = x := by unfold lastI; simp
    by_cases hl : l.its.length = 0
    · have hn := List.eq_nil_of_length_eq_zero hl
      rw [if_pos hl, hn]
      refine ⟨R, rfl, trivial, fun y hy => ?_, rfl, ?_, by have := hq.z; omega⟩
      · have := S.none hn y hy
        show _ ≤ x.t
        omega
      · rfl
    · have hn : l.its ≠ [] := fun e => hl (by rw [e]; rfl)
      rw [if_neg hl, hlast]
      obtain ⟨R1, e1, e2, e3, e4, e5, e6⟩ := S.some_ hn
      have e0 : nthI (l.its ++ [x]) 0 = nthI l.its 0 := by
        cases hc : l.its with
        | nil => exact absurd hc hn
        | cons z r => rfl
      rw [e0]
      refine ⟨R1, ?_, near_last e2 fun _ => by omega, e3, e4, rfl, by have := hq.z; omega⟩
      rw [← List.append_assoc, ← e1]
end
end Go.Proofs.YtbpaepkcchpmbaaGreat
namespace Go.Proofs.YtbpaepkcchpmbaaGreat
section
variable {k kd sz sl s : Int} {R : List It} {ℓ : Int} {l : Ln}
theorem ne_head {xs : List It} (h : xs ≠ []) : xs.head? = some (nthI xs 0) := by
  cases xs with
  | nil => exact absurd rfl h
  | cons z r => rfl
theorem lnI_its (h : LnI kd sz sl s R ℓ l) : ∀ x, x ∈ l.its → x ∈ R := fun x hx => by
  by_cases h2 : kd = 2
  · have hn : l.its ≠ [] := List.ne_nil_of_mem hx
    obtain ⟨R1, e, _⟩ := (h.ses h2).some_ hn
    rw [e]; exact List.mem_append_right _ hx
  · obtain ⟨j, e, _⟩ := (h.win h2).its
    rw [e] at hx
    exact (List.mem_filter.1 hx).1
theorem lnI_times (h : LnI kd sz sl s R ℓ l) : Times l.its := by
  by_cases h2 : kd = 2
  · by_cases hn : l.its = []
    · rw [hn]; exact List.Pairwise.nil
    · obtain ⟨R1, e, _⟩ := (h.ses h2).some_ hn
      have := h.times
      rw [e] at this
      exact (List.pairwise_append.1 this).2.1
  · obtain ⟨j, e, _⟩ := (h.win h2).its
    rw [e]
    exact times_filter h.times _
theorem cut_all {t : Int} {xs : List It} (h : Times xs) (ha : ∀ x, x ∈ xs → x.t < t) : cutT t xs = [] := by
  rw [cutT_filter h]
  exact List.filter_eq_nil_iff.2 fun x hx => by have := ha x hx; simp; omega
theorem lnI_round (hq : QnOk kd sz sl) (h : LnI kd sz sl s R ℓ l) (hn : l.its ≠ []) : LnI kd sz sl s R l.b (l.next kd sz sl) ∧ (∀ p, p ∈ winsQ k (qwN kd sz sl) R ∧ ℓ < p.b ∧ p.b ≤ l.b ↔ p = ⟨k, l.a, l.b, l.its⟩) ∧ 0 < l.st kd sz sl ∧ ℓ < l.b := by
  have hh := ne_head hn
  have hit := lnI_times h
  have hsub := lnI_its h
  by_cases h2 : kd = 2
  · have S := h.ses h2
    obtain ⟨R1, e1, e2, e3, e4, e5, e6⟩ := S.some_ hn
    have hlast : ∀ x, x ∈ l.its → x.t ≤ (lastI l.its).t := times_last hit hn
    have hz := hq.z
    have hst : l.st kd sz sl = l.b - l.a := by unfold Ln.st; rw [if_pos h2]
    have hpos : 0 < l.st kd sz sl := by
      have := hlast _ (first_mem hn); omega
    have hnx : (l.next kd sz sl).its = [] := by
      unfold Ln.next
      exact cut_all hit fun x hx => by have := hlast x hx; omega
    have hR : ∀ x, x ∈ R → x.t + sz ≤ l.b := fun x hx => by
      rw [e1] at hx
      rcases List.mem_append.1 hx with hx | hx
      · have a1 := e3 x hx
        have a2 := hlast _ (first_mem hn)
        omega
      · have := hlast x hx; omega
    refine ⟨⟨h.ser, h.times, fun x hx => by have := hR x hx; omega, fun e => absurd h2 e, fun _ => ⟨fun _ => hR, fun e => absurd hnx e⟩⟩, fun p => ?_, hpos, e6⟩
    rw [winsQ_ses h2, ses_iff (by omega) h.times h.ser]
    have hruns : runsG sz R = runsG sz R1 ++ [l.its] := by
      rw [e1, runsG_append fun x hx y hy => by
        have a1 := e3 x hx
        have a2 := times_head hit hh y hy
        omega]
      have := runsG_blk (g := sz) hn e2 (r := []) (xs := []) rfl (fun C hC => by cases hC)
      rw [List.append_nil] at this
      rw [this]
    constructor
    · rintro ⟨⟨p1, p2, p3, p4⟩, p5, p6⟩
      rw [hruns] at p2
      rcases List.mem_append.1 p2 with p2 | p2
      · exfalso
        have hm : lastI p.xs ∈ R1 := by
          rw [← runsG_flat sz R1]
          exact List.mem_flatten.2 ⟨_, p2, last_mem (runsG_ne p2).1⟩
        have a1 := e3 _ hm
        have a2 := h.top _ (hsub _ (first_mem hn))
        omega
      · rw [List.mem_singleton] at p2
        obtain ⟨pk, pa, pb, px⟩ := p
        simp only at p1 p2 p3 p4
        subst p2
        rw [p1, p3, p4, ← e4, ← e5]
    · rintro rfl
      exact ⟨⟨rfl, by rw [hruns]; simp, e4, e5⟩, e6, Int.le_refl _⟩
  · have W := h.win h2
    have h1 := hq.s1 h2
    have hz := hq.s2 h2
    obtain ⟨j0, i1, i2, i3⟩ := W.its
    obtain ⟨⟨j, n1⟩, n2, n3, n4, n5⟩ := W.nx _ hh
    have hst : l.st kd sz sl = stepQ kd sz sl := by unfold Ln.st; rw [if_neg h2]
    generalize hS : stepQ kd sz sl = st at *
    have hj : j0 * st ≤ j * st := mul_step (by omega) (by omega)
    have hfirst : ∀ x, x ∈ l.its → (nthI l.its 0).t ≤ x.t := times_head hit hh
    have hits : ∀ x, x ∈ R → j0 * st ≤ x.t → x ∈ l.its := fun x hx hc => by
      rw [i1]; exact List.mem_filter.2 ⟨hx, decide_eq_true hc⟩
    have hnx : (l.next kd sz sl).its = R.filter fun x => decide ((j + 1) * st ≤ x.t) := by
      unfold Ln.next
      simp only
      rw [hst, n1, cutT_filter hit, i1, List.filter_filter]
      refine List.filter_congr fun x hx => ?_
      have e : (j + 1) * st = j * st + st := by rw [Int.add_mul, Int.one_mul]
      rw [e, Bool.eq_iff_iff]
      simp only [Bool.and_eq_true, decide_eq_true_eq]
      omega
    have e : (j + 1) * st = j * st + st := by rw [Int.add_mul, Int.one_mul]
    refine ⟨⟨h.ser, h.times, fun x hx => by have := h.top x hx; omega, fun _ => ⟨⟨j + 1, by rw [hS]; exact hnx, by rw [hS]; omega, by rw [hS]; omega⟩, fun y hy => ?_⟩, fun e => absurd e h2⟩, fun p => ?_, by omega, n4⟩
    · have hy2 := (head_first hy).2.1
      rw [hnx] at hy2
      have hy3 := of_decide_eq_true (List.mem_filter.1 hy2).2
      show (∃ i : Int, l.a + l.st kd sz sl = _) ∧ l.b + l.st kd sz sl = l.a + l.st kd sz sl + sz ∧ l.a + l.st kd sz sl ≤ y.t ∧ l.b < l.b + l.st kd sz sl ∧ (l.b + l.st kd sz sl - stepQ kd sz sl ≤ l.b ∨ _)
      rw [hst, hS]
      exact ⟨⟨j + 1, by omega⟩, by omega, by omega, by omega, Or.inl (by omega)⟩
    · rw [winsQ_win h2, win_iff (by rw [hS]; exact h1) h.ser, hS]
      have hxs : l.its = R.filter fun x => decide (l.a ≤ x.t ∧ x.t < l.b) := by
        rw [i1]
        refine List.filter_congr fun x hx => ?_
        rw [decide_eq_decide]
        have a1 := h.top x hx
        constructor
        · intro hc
          have := hfirst x (hits x hx hc)
          omega
        · rintro ⟨b1, b2⟩; omega
      constructor
      · rintro ⟨⟨p1, ⟨i, p2⟩, p3, p4, p5⟩, p6, p7⟩
        have q1 : i * st ≤ j * st := by omega
        have q2 : j * st ≤ i * st := by
          by_cases hc : i * st < j * st
          · exfalso
            have q3 := mul_less (by omega) hc
            obtain ⟨y, hy⟩ := List.exists_mem_of_ne_nil _ p4
            rw [p5] at hy
            obtain ⟨y1, y2⟩ := List.mem_filter.1 hy
            have y3 := of_decide_eq_true y2
            have q4 : j0 * st ≤ i * st := mul_step (by omega) (by omega)
            have := hfirst y (hits y y1 (by omega))
            omega
          · omega
        obtain ⟨pk, pa, pb, px⟩ := p
        simp only at p1 p2 p3 p5
        have ea : pa = l.a := by omega
        have eb : pb = l.b := by omega
        rw [ea, eb] at p5
        rw [p1, ea, eb, p5, ← hxs]
      · rintro rfl
        exact ⟨⟨rfl, ⟨j, n1⟩, n2, hn, hxs⟩, n4, Int.le_refl _⟩
theorem lnI_end (hq : QnOk kd sz sl) (h : LnI kd sz sl s R ℓ l) {ℓ' : Int} (hl : ℓ ≤ ℓ') (he : l.its = [] ∨ ℓ' < l.b) : LnI kd sz sl s R ℓ' l ∧ ∀ p, p ∈ winsQ k (qwN kd sz sl) R → ℓ < p.b → ¬ p.b ≤ ℓ' := by
  have hit := lnI_times h
  have hsub := lnI_its h
  by_cases h2 : kd = 2
  · have S := h.ses h2
    refine ⟨⟨h.ser, h.times, fun x hx => by have := h.top x hx; omega, fun e => absurd h2 e, fun _ => ⟨fun e x hx => by have := S.none e x hx; omega, fun hn => ?_⟩⟩, ?_⟩
    · obtain ⟨R1, e1, e2, e3, e4, e5, e6⟩ := S.some_ hn
      exact ⟨R1, e1, e2, e3, e4, e5, by rcases he with he | he; exact absurd he hn; exact he⟩
    · intro p hp hb hc
      by_cases hn : l.its = []
      · rw [winsQ_ses h2, ses_iff (by have := hq.z; omega) h.times h.ser] at hp
        obtain ⟨p1, p2, p3, p4⟩ := hp
        have hm : lastI p.xs ∈ R := by
          rw [← runsG_flat sz R]
          exact List.mem_flatten.2 ⟨_, p2, last_mem (runsG_ne p2).1⟩
        have := S.none hn _ hm
        omega
      · have hb2 : ℓ' < l.b := by rcases he with he | he; exact absurd he hn; exact he
        have := ((lnI_round hq h hn).2.1 p).1 ⟨hp, hb, by omega⟩
        rw [this] at hc
        simp only at hc
        omega
  · have W := h.win h2
    have h1 := hq.s1 h2
    have hz := hq.s2 h2
    refine ⟨⟨h.ser, h.times, fun x hx => by have := h.top x hx; omega, fun _ => ⟨?_, fun y hy => ?_⟩, fun e => absurd e h2⟩, ?_⟩
    · obtain ⟨j0, i1, i2, i3⟩ := W.its
      generalize hS : stepQ kd sz sl = st at *
      have a4 := Int.ediv_mul_add_emod (ℓ' - sz) st
      have a5 := Int.emod_nonneg (ℓ' - sz) (show st ≠ 0 by omega)
      have a6 := Int.emod_lt_of_pos (ℓ' - sz) (show 0 < st by omega)
      have e3 : ((ℓ' - sz) / st + 1) * st = (ℓ' - sz) / st * st + st := by rw [Int.add_mul, Int.one_mul]
      refine ⟨(ℓ' - sz) / st + 1, ?_, by omega, by omega⟩
      have q1 : j0 * st ≤ ((ℓ' - sz) / st + 1) * st := mul_step (by omega) (by omega)
      rw [i1]
      refine List.filter_congr fun x hx => ?_
      rw [decide_eq_decide]
      constructor
      · intro hc
        have hx2 : x ∈ l.its := by rw [i1]; exact List.mem_filter.2 ⟨hx, decide_eq_true hc⟩
        have hn : l.its ≠ [] := List.ne_nil_of_mem hx2
        obtain ⟨⟨j, n1⟩, n2, n3, n4, n5⟩ := W.nx _ (ne_head hn)
        have hb2 : ℓ' < l.b := by rcases he with he | he; exact absurd he hn; exact he
        have := times_head hit (ne_head hn) x hx2
        have q2 : ((ℓ' - sz) / st + 1) * st ≤ j * st := mul_step (by omega) (by omega)
        omega
      · intro hc; omega
    · obtain ⟨n1, n2, n3, n4, n5⟩ := W.nx y hy
      have hn := (head_first hy).2.2
      have hb2 : ℓ' < l.b := by rcases he with he | he; exact absurd he hn; exact he
      exact ⟨n1, n2, n3, hb2, by omega⟩
    · intro p hp hb hc
      by_cases hn : l.its = []
      · rw [winsQ_win h2, win_iff h1 h.ser] at hp
        obtain ⟨p1, ⟨i, p2⟩, p3, p4, p5⟩ := hp
        obtain ⟨j0, i1, i2, i3⟩ := W.its
        obtain ⟨y, hy⟩ := List.exists_mem_of_ne_nil _ p4
        rw [p5] at hy
        obtain ⟨y1, y2⟩ := List.mem_filter.1 hy
        have y3 := of_decide_eq_true y2
        have q4 : j0 * stepQ kd sz sl ≤ i * stepQ kd sz sl := mul_step (by omega) (by omega)
        have : y ∈ l.its := by rw [i1]; exact List.mem_filter.2 ⟨y1, decide_eq_true (by omega)⟩
        rw [hn] at this
        cases this
      · have hb2 : ℓ' < l.b := by rcases he with he | he; exact absurd he hn; exact he
        have := ((lnI_round hq h hn).2.1 p).1 ⟨hp, hb, by omega⟩
        rw [this] at hc
        simp only at hc
        omega
theorem tellLn_some {line : Int} (h1 : l.its ≠ []) (h2 : l.b ≤ line) (h3 : 0 < l.st kd sz sl) : tellLn k kd sz sl line l = (⟨k, l.a, l.b, l.its⟩ :: (tellLn k kd sz sl line (l.next kd sz sl)).1, (tellLn k kd sz sl line (l.next kd sz sl)).2) := by
  rw [tellLn, if_pos ⟨fun e => h1 (List.eq_nil_of_length_eq_zero e), h2, h3⟩]
theorem tellLn_none {line : Int} (h : l.its = [] ∨ line < l.b) : tellLn k kd sz sl line l = ([], l) := by
  rw [tellLn, if_neg fun ⟨a, b, _⟩ => by
    rcases h with h | h
    · rw [h] at a; exact a rfl
    · omega]
theorem lnI_tell (hq : QnOk kd sz sl) {line : Int} : ∀ (n : Nat) (ℓ : Int) (l : Ln), (line - ℓ).toNat ≤ n → LnI kd sz sl s R ℓ l → ℓ ≤ line →
    LnI kd sz sl s R line (tellLn k kd sz sl line l).2 ∧ (∀ p, p ∈ (tellLn k kd sz sl line l).1 ↔ p ∈ winsQ k (qwN kd sz sl) R ∧ ℓ < p.b ∧ p.b ≤ line) ∧ (tellLn k kd sz sl line l).1.Pairwise fun p q => p.b < q.b := by
  intro n
  induction n with
  | zero =>
    intro ℓ l hm h hl
    have he : l.its = [] ∨ line < l.b := by
      by_cases hn : l.its = []
      · exact Or.inl hn
      · have := (lnI_round (k := k) hq h hn).2.2.2
        exact Or.inr (by omega)
    rw [tellLn_none he]
    obtain ⟨a1, a2⟩ := lnI_end (k := k) hq h hl he
    exact ⟨a1, fun p => ⟨fun hp => (by cases hp), fun ⟨x, y, z⟩ => absurd z (a2 p x y)⟩, List.Pairwise.nil⟩
  | succ n ih =>
    intro ℓ l hm h hl
    by_cases he : l.its = [] ∨ line < l.b
    · rw [tellLn_none he]
      obtain ⟨a1, a2⟩ := lnI_end (k := k) hq h hl he
      exact ⟨a1, fun p => ⟨fun hp => (by cases hp), fun ⟨x, y, z⟩ => absurd z (a2 p x y)⟩, List.Pairwise.nil⟩
    · have hn : l.its ≠ [] := fun e => he (Or.inl e)
      have hb : l.b ≤ line := by have := fun e => he (Or.inr e); omega
      obtain ⟨r1, r2, r3, r4⟩ := lnI_round (k := k) hq h hn
      rw [tellLn_some hn hb r3]
      obtain ⟨t1, t2, t3⟩ := ih l.b (l.next kd sz sl) (by omega) r1 hb
      refine ⟨t1, fun p => ?_, List.pairwise_cons.2 ⟨fun p hp => ((t2 p).1 hp).2.1, t3⟩⟩
      rw [List.mem_cons, t2 p, ← r2 p]
      constructor
      · rintro (⟨a, b, c⟩ | ⟨a, b, c⟩)
        · exact ⟨a, b, by omega⟩
        · exact ⟨a, by omega, c⟩
      · rintro ⟨a, b, c⟩
        by_cases hc : p.b ≤ l.b
        · exact Or.inl ⟨a, b, hc⟩
        · exact Or.inr ⟨a, by omega, c⟩
end
end Go.Proofs.YtbpaepkcchpmbaaGreat
