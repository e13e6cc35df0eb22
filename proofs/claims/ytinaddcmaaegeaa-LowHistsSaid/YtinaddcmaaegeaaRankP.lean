/-
  Plain facts of LowRanks and LowHists: how many values stand at or below a bound. No program here.
-/
import Derived.Test.YtinaddcmaaegeaaBuckets
import Derived.Test.YtinaddcmaaegeaaFitP
import Derived.Test.YtinaddcmaaegeaaLow2
import Derived.Test.YtinaddcmaaegeaaOwnIt
import Derived.IntWalk
namespace Go.Proofs.Ytinaddcmaaegeaa
open Go.RowKit

def RB : List Int := [-100, 0, 50, 200]
/-- How many of the first j values are not above b. -/
def cN (vs : List Int) : Nat → Int → Int
  | 0, _ => 0
  | j + 1, b => cN vs j b + if vB (nth vs j) ≤ b then 1 else 0
theorem cN_succ_le {vs : List Int} {j : Nat} {b : Int} (h : vB (nth vs j) ≤ b) : cN vs (j + 1) b = cN vs j b + 1 := by simp only [cN]; rw [if_pos h]
theorem cN_succ_gt {vs : List Int} {j : Nat} {b : Int} (h : ¬ vB (nth vs j) ≤ b) : cN vs (j + 1) b = cN vs j b := by simp only [cN]; rw [if_neg h]; omega
theorem cN_bd (vs : List Int) (j : Nat) (b : Int) : 0 ≤ cN vs j b ∧ cN vs j b ≤ j := by
  induction j with
  | zero => simp [cN]
  | succ j ih =>
    by_cases h : vB (nth vs j) ≤ b
    · rw [cN_succ_le h]; omega
    · rw [cN_succ_gt h]; omega
theorem cN_all {vs : List Int} {j : Nat} {b : Int} (h : ∀ i, i < j → vB (nth vs i) ≤ b) : cN vs j b = j := by
  induction j with
  | zero => simp [cN]
  | succ j ih => rw [cN_succ_le (h j (by omega)), ih (fun i hi => h i (by omega))]; omega
theorem cN_none {vs : List Int} {j : Nat} {b : Int} (h : b < -500) : cN vs j b = 0 := by
  induction j with
  | zero => simp [cN]
  | succ j ih => rw [cN_succ_gt (by have := vB_bd (nth vs j); omega), ih]
theorem isum_set_take (h : List Int) : ∀ (b n : Nat), b < h.length → isum ((h.set b (nth h b + 1)).take n) = isum (h.take n) + if b < n then 1 else 0 := by
  induction h with
  | nil => intro b n hb; simp at hb
  | cons x r ih =>
    intro b n hb
    cases n with
    | zero => simp [isum]
    | succ n =>
      cases b with
      | zero => simp [isum, nth]; omega
      | succ b =>
        have := ih b n (by simpa using hb)
        rw [nth_cons_succ, List.set_cons_succ, List.take_succ_cons, List.take_succ_cons]
        simp only [isum, Nat.succ_lt_succ_iff, this]
        omega
theorem rb_bkt (v : Int) : ∀ k, k < 4 → (bkt RB v < k + 1 ↔ v ≤ nth RB k) := by
  intro k hk
  have e : bkt RB v = if 200 < v then 4 else if 50 < v then 3 else if 0 < v then 2 else if -100 < v then 1 else 0 := by
    simp only [bkt, RB]
    split <;> split <;> (try split) <;> (try split) <;> omega
  rw [e]
  match k, hk with
  | 0, _ => simp only [nth, RB, List.getD_cons_zero]; split <;> (try split) <;> (try split) <;> (try split) <;> omega
  | 1, _ => simp only [nth, RB, List.getD_cons_succ, List.getD_cons_zero]; split <;> (try split) <;> (try split) <;> (try split) <;> omega
  | 2, _ => simp only [nth, RB, List.getD_cons_succ, List.getD_cons_zero]; split <;> (try split) <;> (try split) <;> (try split) <;> omega
  | 3, _ => simp only [nth, RB, List.getD_cons_succ, List.getD_cons_zero]; split <;> (try split) <;> (try split) <;> (try split) <;> omega
theorem fold_hlen (vs : List Int) {m j : Nat} (hj : j ≤ m) : (foldTo RB (buX vs m) j).h.length = 5 := by
  induction j with
  | zero => rfl
  | succ j ih =>
    rw [foldTo_succ RB _ (by rw [bu_len]; omega), add_one_h (ih (by omega)), List.length_set]
    exact ih (by omega)
theorem hist_cN (vs : List Int) {m : Nat} : ∀ j, j ≤ m → ∀ k, k < 4 → isum ((foldTo RB (buX vs m) j).h.take (k + 1)) = cN vs j (nth RB k) := by
  intro j
  induction j with
  | zero =>
    intro _ k hk
    rw [foldTo_zero]
    match k, hk with
    | 0, _ => rfl
    | 1, _ => rfl
    | 2, _ => rfl
    | 3, _ => rfl
  | succ j ih =>
    intro hj k hk
    have hl := fold_hlen vs (m := m) (j := j) (by omega)
    have hb : bkt RB (nthI (buX vs m) j).v < (foldTo RB (buX vs m) j).h.length := by rw [hl]; have := bkt_le RB (nthI (buX vs m) j).v; rw [show RB.length = 4 from rfl] at this; omega
    rw [foldTo_succ RB _ (by rw [bu_len]; omega), add_one_h hl, isum_set_take _ _ _ hb, ih (by omega) k hk]
    have hx := bu_at vs (m := m) (i := j) (by omega)
    have hi := rb_bkt (nthI (buX vs m) j).v k hk
    rw [hx] at hi ⊢
    by_cases h : vB (nth vs j) ≤ nth RB k
    · rw [cN_succ_le h, if_pos (hi.2 h)]
    · rw [cN_succ_gt h, if_neg (fun e => h (hi.1 e))]; omega
theorem fold_mx (vs : List Int) {m : Nat} : ∀ j, 0 < j → j ≤ m → ∀ i, i < j → vB (nth vs i) ≤ (foldTo RB (buX vs m) j).mx := by
  intro j
  induction j with
  | zero => intro h; omega
  | succ j ih =>
    intro _ hj i hi
    have hx := bu_at vs (m := m) (i := j) (by omega)
    rw [foldTo_succ RB _ (by rw [bu_len]; omega), hx]
    by_cases h0 : j = 0
    · subst h0
      obtain rfl : i = 0 := by omega
      rw [foldTo_zero, add_start _ _ (one_hlen _ _)]
      exact Int.le_refl _
    · have hn : ¬ (foldTo RB (buX vs m) j).n = 0 := by rw [foldTo_n RB _ (by rw [bu_len]; omega)]; omega
      simp only [addAc, oneAc, hn, if_false]
      rcases Nat.lt_succ_iff_lt_or_eq.1 hi with h | rfl
      · have := ih (by omega) (by omega) i h; omega
      · omega

/-! What a rank tells. -/
structure RankK (vs : List Int) (m : Nat) (a : Ac) : Prop where
  n : a.n = m
  h : ∀ k, k < 4 → isum (a.h.take (k + 1)) = cN vs m (nth RB k)
  mx : cN vs m a.mx = m
  len : a.h.length = 5
  fit : fitB a (RB.length + 1) = true
theorem rank_known (vs : List Int) {m : Nat} (h0 : 0 < m) (hm : m ≤ 40) : RankK vs m (foldA RB (buX vs m)) := by
  have e := foldTo_all RB (buX vs m) (j := m) (by rw [bu_len]; exact Nat.le_refl _)
  refine ⟨?_, ?_, ?_, ?_, ?_⟩
  · rw [← e, foldTo_n RB _ (by rw [bu_len]; exact Nat.le_refl _)]
  · rw [← e]; exact hist_cN vs m (Nat.le_refl _)
  · rw [← e]; exact cN_all (fold_mx vs m h0 (Nat.le_refl _))
  · rw [← e]; exact fold_hlen vs (Nat.le_refl _)
  · refine (join_fit (bs := RB) (σ := 0) (buX vs m) (fun x hx => ?_) (by rw [bu_len]; omega)).1
    obtain ⟨i, hi, rfl⟩ := List.mem_map.1 hx
    have := List.mem_range.1 hi
    exact ⟨bu_item _ _ (by omega) (vB_bd _), rfl⟩
theorem rank_ask {vs : List Int} {m : Nat} {a : Ac} (h0 : 0 < m) (K : RankK vs m a) (g r : Int) (hr : 0 ≤ r ∧ r ≤ 1000) : askB ⟨0, g, 0, 0, RB, r⟩ a = true := by
  have e1 : wi r 0 1000 = true := wi_mk hr
  have e2 : accB a RB = true := by
    have := K.fit
    unfold accB
    rw [show boundsB RB = true by decide]
    exact this
  have e3 : decide (0 < a.n) = true := decide_eq_true (by rw [K.n]; omega)
  have e4 : decide (0 < RB.length) = true := by decide
  unfold askB
  rw [e1, e2, e3, e4]
  simp

/-- What a rank tells, at place p: a bound that holds p values, the bounds ahead of it fewer; or the greatest value, no bound holding p. -/
theorem rank_tell {vs : List Int} {m : Nat} {a : Ac} (K : RankK vs m a) (p : Int) :
    (∃ k, k < 4 ∧ rankV RB a.h p a.mx = nth RB k ∧ p ≤ cN vs m (nth RB k) ∧ ∀ i, i < k → cN vs m (nth RB i) < p) ∨ (rankV RB a.h p a.mx = a.mx ∧ ∀ i, i < 4 → cN vs m (nth RB i) < p) := by
  have h0 := K.h 0 (by omega)
  have h1 := K.h 1 (by omega)
  have h2 := K.h 2 (by omega)
  have h3 := K.h 3 (by omega)
  have e : rankV RB a.h p a.mx = rankGo RB a.h p a.mx 4 0 := rfl
  rw [e]
  by_cases c0 : p ≤ cN vs m (nth RB 0)
  · exact .inl ⟨0, by omega, rankGo_yes (by rw [h0]; exact c0), c0, fun i hi => by omega⟩
  · rw [rankGo_no (by rw [h0]; exact c0)]
    by_cases c1 : p ≤ cN vs m (nth RB 1)
    · exact .inl ⟨1, by omega, rankGo_yes (by rw [h1]; exact c1), c1, fun i hi => by
          match i, hi with
          | 0, _ => omega⟩
    · rw [rankGo_no (by rw [h1]; exact c1)]
      by_cases c2 : p ≤ cN vs m (nth RB 2)
      · exact .inl ⟨2, by omega, rankGo_yes (by rw [h2]; exact c2), c2, fun i hi => by
          match i, hi with
          | 0, _ => omega
          | 1, _ => omega⟩
      · rw [rankGo_no (by rw [h2]; exact c2)]
        by_cases c3 : p ≤ cN vs m (nth RB 3)
        · exact .inl ⟨3, by omega, rankGo_yes (by rw [h3]; exact c3), c3, fun i hi => by
            match i, hi with
            | 0, _ => omega
            | 1, _ => omega
            | 2, _ => omega⟩
        · rw [rankGo_no (by rw [h3]; exact c3)]
          exact .inr ⟨rfl, fun i hi => by
            match i, hi with
            | 0, _ => omega
            | 1, _ => omega
            | 2, _ => omega
            | 3, _ => omega⟩

/-- The greatest of the first i bounds that is less than v; none: below all values. -/
def ahB (v : Int) : Nat → Int
  | 0 => -1099511627776
  | i + 1 => if nth RB i < v then nth RB i else ahB v i
theorem ahB_yes {v : Int} {i : Nat} (h : nth RB i < v) : ahB v (i + 1) = nth RB i := by simp only [ahB]; rw [if_pos h]
theorem ahB_no {v : Int} {i : Nat} (h : ¬ nth RB i < v) : ahB v (i + 1) = ahB v i := by simp only [ahB]; rw [if_neg h]
theorem ahB_is (v : Int) : ∀ i, ahB v i = -1099511627776 ∨ ∃ k, k < i ∧ ahB v i = nth RB k ∧ nth RB k < v := by
  intro i
  induction i with
  | zero => exact .inl rfl
  | succ i ih =>
    by_cases h : nth RB i < v
    · exact .inr ⟨i, by omega, ahB_yes h, h⟩
    · rw [ahB_no h]
      rcases ih with e | ⟨k, hk, e, h2⟩
      · exact .inl e
      · exact .inr ⟨k, by omega, e, h2⟩
theorem rb_mono {i k : Nat} (hi : i < 4) (hk : k < 4) (h : nth RB i < nth RB k) : i < k := by
  match i, hi, k, hk with
  | 0, _, 0, _ => omega
  | 0, _, 1, _ => omega
  | 0, _, 2, _ => omega
  | 0, _, 3, _ => omega
  | 1, _, 0, _ => simp [nth, RB] at h
  | 1, _, 1, _ => omega
  | 1, _, 2, _ => omega
  | 1, _, 3, _ => omega
  | 2, _, 0, _ => simp [nth, RB] at h
  | 2, _, 1, _ => simp [nth, RB] at h
  | 2, _, 2, _ => omega
  | 2, _, 3, _ => omega
  | 3, _, 0, _ => simp [nth, RB] at h
  | 3, _, 1, _ => simp [nth, RB] at h
  | 3, _, 2, _ => simp [nth, RB] at h
  | 3, _, 3, _ => omega
theorem rank_said {vs : List Int} {m : Nat} {a : Ac} (h0 : 0 < m) (hm : m ≤ 40) (K : RankK vs m a) {r : Int} (hr : 0 ≤ r ∧ r ≤ 1000) {v : Int} (hv : v = rankV RB a.h (place r a.n) a.mx) :
    1 ≤ cN vs m v ∧ r * m ≤ cN vs m v * 1000 ∧ (cN vs m (ahB v 4) * 1000 < r * m ∨ cN vs m (ahB v 4) = 0) := by
  have hp : place r a.n = max 1 ((r * m + 999) / 1000) := by unfold place; rw [K.n]
  have hrm : 0 ≤ r * (m : Int) ∧ r * (m : Int) ≤ 1000 * m := ⟨Int.mul_nonneg hr.1 (by omega), Int.mul_le_mul_of_nonneg_right hr.2 (by omega)⟩
  have ht := rank_tell K (place r a.n)
  rw [← hv, hp] at ht
  have hfew : ∀ x, cN vs m x < max 1 ((r * m + 999) / 1000) → cN vs m x * 1000 < r * m ∨ cN vs m x = 0 := fun x hx => by
    have := cN_bd vs m x
    omega
  have hz : cN vs m (-1099511627776) = 0 := cN_none (by decide)
  have ha := ahB_is v 4
  generalize r * (m : Int) = R at *
  rcases ht with ⟨k, hk, e, h1, h2⟩ | ⟨e, h2⟩
  · rw [← e] at h1
    refine ⟨by omega, by omega, ?_⟩
    rcases ha with e2 | ⟨i, hi, e2, h3⟩
    · rw [e2, hz]; exact .inr rfl
    · rw [e2]
      exact hfew _ (h2 i (rb_mono hi hk (by rw [← e]; exact h3)))
  · have hmx := K.mx
    rw [← e] at hmx
    refine ⟨by omega, by omega, ?_⟩
    rcases ha with e2 | ⟨i, hi, e2, h3⟩
    · rw [e2, hz]; exact .inr rfl
    · rw [e2]
      exact hfew _ (h2 i hi)

theorem cN_mono (vs : List Int) (j : Nat) {x y : Int} (h : x ≤ y) : cN vs j x ≤ cN vs j y := by
  induction j with
  | zero => simp [cN]
  | succ j ih =>
    by_cases h1 : vB (nth vs j) ≤ x
    · rw [cN_succ_le h1, cN_succ_le (Int.le_trans h1 h)]; omega
    · rw [cN_succ_gt h1]
      by_cases h2 : vB (nth vs j) ≤ y
      · rw [cN_succ_le h2]; omega
      · rw [cN_succ_gt h2]; omega
theorem rb_le {i k : Nat} (hi : i < 4) (hk : k < 4) (h : i ≤ k) : nth RB i ≤ nth RB k := by
  by_cases e : nth RB k < nth RB i
  · have := rb_mono hk hi e; omega
  · omega
theorem rank_le {vs : List Int} {m : Nat} {a : Ac} (K : RankK vs m a) {p q : Int} (h : p ≤ q) (hq : q ≤ m) : rankV RB a.h p a.mx ≤ rankV RB a.h q a.mx := by
  have hm := K.mx
  rcases rank_tell K p with ⟨k, hk, e, h1, h2⟩ | ⟨e, h2⟩
  · rcases rank_tell K q with ⟨i, hi, e3, h3, h4⟩ | ⟨e3, h4⟩
    · rw [e, e3]
      refine rb_le hk hi ?_
      by_cases hik : i < k
      · have := h2 i hik; omega
      · omega
    · rw [e, e3]
      have := h4 k hk
      by_cases c : a.mx ≤ nth RB k
      · have := cN_mono vs m c; omega
      · omega
  · rcases rank_tell K q with ⟨i, hi, e3, h3, h4⟩ | ⟨e3, h4⟩
    · have := h2 i hi; omega
    · rw [e, e3]; exact Int.le_refl _
theorem place_le {r s n : Int} (h : r ≤ s) (hs : s ≤ 1000) (hn : 1 ≤ n) : place r n ≤ place s n ∧ place s n ≤ n := by
  have h1 := Int.mul_le_mul_of_nonneg_right h (show 0 ≤ n by omega)
  have h2 := Int.mul_le_mul_of_nonneg_right hs (show 0 ≤ n by omega)
  unfold place
  omega
theorem hist_sum {a : Ac} {m : Int} (h : fitB a m = true) : isum a.h = a.n ∧ ∀ i, i < a.h.length → 0 ≤ nth a.h i ∧ nth a.h i ≤ 8192 := by
  simp only [fitB, Bool.and_eq_true] at h
  obtain ⟨_, g, _⟩ := h
  have := of_decide_eq_true g
  exact ⟨this.2.2, this.2.1⟩
theorem bu_succ (vs : List Int) (j : Nat) : buX vs j ++ [⟨0, (j : Int), (j : Int) + 1, vB (nth vs j)⟩] = buX vs (j + 1) := by simp [buX, List.range_succ]
structure RkSt (w : World) (gb : Nat) (vs : List Int) (j : Nat) (D : Option Addr) (e : Nat) (wr : World) : Prop where
  own : OwnIt wr (gb + 1) (.slice D j e) (buX vs j)
  b : Has wr gb 3 (ints RB)
  keep : Below w.heap.size w wr
  w0 : w.heap.size ≤ gb
theorem RkSt.below {w : World} {gb : Nat} {vs : List Int} {j : Nat} {D : Option Addr} {e : Nat} {wr wy : World} (h : RkSt w gb vs j D e wr) (hb : Below wr.heap.size wr wy) : RkSt w gb vs j D e wy :=
  ⟨h.own.below hb, has_below h.b hb, h.keep.trans (hb.mono h.keep.size), h.w0⟩
theorem rank_low (k : Int) : ∃ R : Int, wrap64 ((IntKind.u64.wrap k).tmod 1001) = R ∧ 0 ≤ R ∧ R ≤ 1000 := by
  have h : 0 ≤ IntKind.u64.wrap k := by simp [IntKind.wrap, IntKind.bits, IntKind.signed]; omega
  have e : (IntKind.u64.wrap k).tmod 1001 = IntKind.u64.wrap k % 1001 := Int.tmod_eq_emod_of_nonneg h
  rw [e, IntWalk.wrap64_in _ ⟨by omega, by omega⟩]
  exact ⟨_, rfl, by omega, by omega⟩


end Go.Proofs.Ytinaddcmaaegeaa
