import Derived.WalkKit
import Derived.IntWalk
import Derived.Test.YtbpaepkcchpmbaaGreatG0
import Derived.Test.YtbpaepkcchpmbaaGreatG15
namespace Go.Proofs.YtbpaepkcchpmbaaGreat
theorem down_parts (a b : Int) (hb : 1 ≤ b) : (a.tmod b < 0 → a / b = a.tdiv b - 1 ∧ a % b = a.tmod b + b) ∧ (¬ a.tmod b < 0 → a / b = a.tdiv b ∧ a % b = a.tmod b) := by
  have h1 := Int.mul_tdiv_add_tmod a b
  have h2 := Int.tmod_lt_of_pos a (show 0 < b by omega)
  have h3 := Int.lt_tmod_of_pos a (show 0 < b by omega)
  constructor
  · intro h
    refine (Int.ediv_emod_unique (show 0 < b by omega)).2 ⟨?_, by omega, by omega⟩
    rw [Int.mul_sub]; omega
  · intro h
    refine (Int.ediv_emod_unique (show 0 < b by omega)).2 ⟨?_, by omega, by omega⟩
    omega
theorem div_bd (a b : Int) (h1 : -9223372036854775808 ≤ a) (h2 : a ≤ 9223372036854775807) (hb : 1 ≤ b) : -9223372036854775808 ≤ a / b ∧ a / b ≤ 9223372036854775807 := by
  constructor
  · exact Int.le_ediv_of_mul_le (by omega) (by
      have := Int.mul_le_mul_of_nonneg_left hb (show (0 : Int) ≤ 9223372036854775808 by decide)
      omega)
  · apply Int.ediv_le_of_le_mul (by omega)
    have := Int.mul_le_mul_of_nonneg_left hb (show (0 : Int) ≤ 9223372036854775807 by decide)
    omega
theorem tdiv_bd (a b : Int) (h1 : -9223372036854775808 ≤ a) (h2 : a ≤ 9223372036854775807) (hb : 1 ≤ b) : -9223372036854775808 ≤ a.tdiv b ∧ a.tdiv b ≤ 9223372036854775807 := by
  have h := div_bd a b h1 h2 hb
  have p := down_parts a b hb
  by_cases e : a.tmod b < 0
  · have := (p.1 e).1
    have hz : a < 0 := by
      apply Int.not_le.1; intro h0
      have := Int.tmod_nonneg b h0; omega
    have : a.tdiv b ≤ 0 := by
      have := Int.ediv_le_ediv (show 0 < b by omega) (show a ≤ -1 by omega)
      have : (-1 : Int) / b = -1 := by
        rw [Int.ediv_eq_iff_of_pos (by omega)]; omega
      omega
    omega
  · have := (p.2 e).1; omega
def gcdI (a b : Int) : Int := (Int.gcd a b : Nat)
theorem gcd_step (x y : Int) (hx : 0 ≤ x) (hy : 0 ≤ y) : gcdI y (x % y) = gcdI x y := by
  obtain ⟨m, rfl⟩ := Int.eq_ofNat_of_zero_le hx
  obtain ⟨n, rfl⟩ := Int.eq_ofNat_of_zero_le hy
  unfold gcdI
  rw [← Int.natCast_emod, Int.gcd_natCast_natCast, Int.gcd_natCast_natCast, Nat.gcd_comm m n, Nat.gcd_rec n m, Nat.gcd_comm]
theorem gcd_zero (x : Int) (hx : 0 ≤ x) : gcdI x 0 = x := by
  unfold gcdI; rw [Int.gcd_zero_right]; omega
theorem gcd_pos (x y : Int) (hx : 1 ≤ x) : 1 ≤ gcdI x y := by
  unfold gcdI
  have := Int.gcd_pos_of_ne_zero_left y (show x ≠ 0 by omega)
  omega
theorem gcd_le (x y : Int) (hx : 1 ≤ x) : gcdI x y ≤ x := Int.le_of_dvd (by omega) (Int.gcd_dvd_left x y)
end Go.Proofs.YtbpaepkcchpmbaaGreat
namespace Go.Proofs.YtbpaepkcchpmbaaGreat
def slideB (kd sz sl : Int) : Bool := if kd = 1 then decide (1 ≤ sl ∧ sl ≤ sz ∧ (sz + sl - 1) / sl ≤ 64 ∧ sz / gcdI sz sl ≤ 256) else decide (sl = 0)
def bndB (ag : Int) (bs : List Int) : Bool := if ag = 6 ∨ ag = 7 then decide (0 < bs.length) && boundsB bs else decide (bs.length = 0)
def rankB (ag rk : Int) : Bool := if ag = 7 then wi rk 0 1000 else decide (rk = 0)
def mayQ (kd ag sz sl : Int) (bs : List Int) (rk : Int) : Bool := wi kd 0 2 && (wi ag 0 7 && (wi sz 1 1073741824 && (slideB kd sz sl && (bndB ag bs && rankB ag rk))))
def stepQ (kd sz sl : Int) : Int := if kd = 1 then sl else sz
def winL (a k m : Int) : Nat → List (Int × Int)
  | 0 => []
  | n + 1 => winL a k m n ++ [((a + 1 + n) * k, (a + 1 + n) * k + m)]
theorem winL_len (a k m : Int) (n : Nat) : (winL a k m n).length = n := by
  induction n with
  | zero => rfl
  | succ n ih => rw [winL, List.length_append, ih]; rfl
theorem winL_at (a k m : Int) {n i : Nat} (h : i < n) : (winL a k m n)[i]? = some ((a + 1 + i) * k, (a + 1 + i) * k + m) := by
  induction n with
  | zero => omega
  | succ n ih =>
    rw [winL]
    by_cases e : i < n
    · rw [List.getElem?_append_left (by rw [winL_len]; exact e), ih e]
    · obtain rfl : i = n := by omega
      rw [List.getElem?_append_right (by rw [winL_len]; omega), winL_len, Nat.sub_self]; rfl
theorem stepQ_bd {kd ag sz sl rk : Int} {bs : List Int} (h : mayQ kd ag sz sl bs rk = true) : 1 ≤ stepQ kd sz sl ∧ stepQ kd sz sl ≤ sz ∧ 1 ≤ sz ∧ sz ≤ 1073741824 ∧ (sz + stepQ kd sz sl - 1) / stepQ kd sz sl ≤ 64 := by
  unfold mayQ at h
  simp only [Bool.and_eq_true] at h
  obtain ⟨h1, h2, h3, h4, _⟩ := h
  have h1 := wi_true h1
  have h3 := wi_true h3
  unfold slideB at h4
  unfold stepQ
  by_cases e : kd = 1
  · rw [if_pos e] at h4 ⊢
    have := of_decide_eq_true h4
    exact ⟨this.1, this.2.1, h3.1, h3.2, this.2.2.1⟩
  · rw [if_neg e] at h4 ⊢
    refine ⟨h3.1, by omega, h3.1, h3.2, ?_⟩
    have : (sz + sz - 1) / sz < 2 := Int.ediv_lt_of_lt_mul (by omega) (by omega)
    omega
theorem win_bd (t k m : Int) (hk : 1 ≤ k) (hkm : k ≤ m) (hp : (m + k - 1) / k ≤ 64) : (t - m) / k + 1 ≤ t / k ∧ t / k - (t - m) / k ≤ 64 ∧ t / k - (t - m) / k ≤ (m - 1) / k + 1 ∧ 0 ≤ (m - 1) / k := by
  have e1 := Int.ediv_mul_add_emod t k
  have r1 := Int.emod_nonneg t (show k ≠ 0 by omega)
  have r2 := Int.emod_lt_of_pos t (show 0 < k by omega)
  have a1 : (t - m) / k ≤ (t - k) / k := Int.ediv_le_ediv (by omega) (by omega)
  have a2 : (t - k) / k = t / k - 1 := by
    rw [show t - k = t + (-1) * k by omega, Int.add_mul_ediv_right _ _ (by omega)]; omega
  have f1 := Int.ediv_mul_add_emod (m - 1) k
  have s1 := Int.emod_nonneg (m - 1) (show k ≠ 0 by omega)
  have s2 := Int.emod_lt_of_pos (m - 1) (show 0 < k by omega)
  have p0 : 0 ≤ (m - 1) / k := Int.ediv_nonneg (by omega) (by omega)
  have p1 : (m + k - 1) / k = (m - 1) / k + 1 := by
    rw [show m + k - 1 = (m - 1) + 1 * k by omega, Int.add_mul_ediv_right _ _ (by omega)]
  have b1 : t / k - ((m - 1) / k + 1) ≤ (t - m) / k := by
    apply Int.le_ediv_of_mul_le (by omega)
    rw [Int.sub_mul, Int.add_mul]
    omega
  omega
theorem win_begin (t k m : Int) (hk : 1 ≤ k) (i : Int) : ((t - m) / k < i ↔ t - m < i * k) ∧ (i ≤ t / k ↔ i * k ≤ t) :=
  ⟨Int.ediv_lt_iff_lt_mul (by omega), Int.le_ediv_iff_mul_le (by omega)⟩
end Go.Proofs.YtbpaepkcchpmbaaGreat
namespace Go.Proofs.YtbpaepkcchpmbaaGreat
def spQ (kd sz sl t : Int) : List (Int × Int) := winL ((t - sz) / stepQ kd sz sl) (stepQ kd sz sl) sz (t / stepQ kd sz sl - (t - sz) / stepQ kd sz sl).toNat
def qw (q : Qu) : QW := ⟨decide (q.kind = 2), q.size, spQ q.kind q.size q.slide⟩
theorem winL_mem {a k m : Int} {n : Nat} {w : Int × Int} : w ∈ winL a k m n ↔ ∃ i : Nat, i < n ∧ w = ((a + 1 + i) * k, (a + 1 + i) * k + m) := by
  constructor
  · intro h
    obtain ⟨i, hi⟩ := List.mem_iff_getElem?.1 h
    have hl : i < n := by
      have := (List.getElem?_eq_some_iff.1 hi).1
      rwa [winL_len] at this
    rw [winL_at a k m hl] at hi
    exact ⟨i, hl, (Option.some.inj hi).symm⟩
  · rintro ⟨i, hi, rfl⟩
    exact List.mem_of_getElem? (winL_at a k m hi)
theorem spQ_mem {kd sz sl t : Int} (hk : 1 ≤ stepQ kd sz sl) {w : Int × Int} : w ∈ spQ kd sz sl t ↔ ∃ j : Int, w = (j * stepQ kd sz sl, j * stepQ kd sz sl + sz) ∧ w.1 ≤ t ∧ t < w.2 := by
  unfold spQ
  rw [winL_mem]
  generalize stepQ kd sz sl = k at hk ⊢
  constructor
  · rintro ⟨i, hi, rfl⟩
    refine ⟨(t - sz) / k + 1 + i, rfl, ?_, ?_⟩
    · exact (win_begin t k sz hk _).2.1 (by omega)
    · have := (win_begin t k sz hk ((t - sz) / k + 1 + i)).1.1 (by omega)
      simp only; omega
  · rintro ⟨j, rfl, h1, h2⟩
    simp only at h1 h2
    have a1 := (win_begin t k sz hk j).2.2 h1
    have a2 := (win_begin t k sz hk j).1.2 (by omega)
    refine ⟨(j - ((t - sz) / k + 1)).toNat, by omega, ?_⟩
    have : (t - sz) / k + 1 + ((j - ((t - sz) / k + 1)).toNat : Int) = j := by omega
    rw [this]
theorem spQ_nodup {kd sz sl t : Int} (hk : 1 ≤ stepQ kd sz sl) : (spQ kd sz sl t).Nodup := by
  unfold spQ
  generalize stepQ kd sz sl = k at hk ⊢
  refine List.pairwise_iff_getElem.2 fun i j hi hj hij e => ?_
  rw [winL_len] at hi hj
  have e1 := winL_at ((t - sz) / k) k sz hi
  have e2 := winL_at ((t - sz) / k) k sz hj
  rw [List.getElem?_eq_getElem (by rw [winL_len]; exact hi)] at e1
  rw [List.getElem?_eq_getElem (by rw [winL_len]; exact hj)] at e2
  have e3 := (Option.some.inj e1).symm.trans (e.trans (Option.some.inj e2))
  have e4 := congrArg Prod.fst e3
  simp only at e4
  have := Int.eq_of_mul_eq_mul_right (by omega) e4
  omega
theorem spQ_ne {kd sz sl t : Int} (hk : 1 ≤ stepQ kd sz sl) (hz : stepQ kd sz sl ≤ sz) : spQ kd sz sl t ≠ [] := by
  have h1 := Int.ediv_mul_add_emod t (stepQ kd sz sl)
  have h2 := Int.emod_nonneg t (show stepQ kd sz sl ≠ 0 by omega)
  have h3 := Int.emod_lt_of_pos t (show 0 < stepQ kd sz sl by omega)
  refine List.ne_nil_of_mem ((spQ_mem hk).2 ⟨t / stepQ kd sz sl, rfl, ?_, ?_⟩)
  · simp only; omega
  · simp only; omega
theorem qw_ok {q : Qu} (h : mayQ q.kind q.agg q.size q.slide q.bs q.rank = true) : (qw q).Ok := by
  obtain ⟨h1, h2, h3, _⟩ := stepQ_bd h
  exact ⟨fun _ => by show 0 < q.size; omega, fun t => spQ_nodup h1⟩
theorem qw_over {q : Qu} (h : mayQ q.kind q.agg q.size q.slide q.bs q.rank = true) : (qw q).Over := fun t u w hw => by
  obtain ⟨h1, _⟩ := stepQ_bd h
  show w ∈ spQ q.kind q.size q.slide u ↔ _
  obtain ⟨j, e, _⟩ := (spQ_mem h1).1 hw
  rw [spQ_mem h1]
  exact ⟨fun ⟨_, _, a⟩ => a, fun a => ⟨j, e, a⟩⟩
def QW.Full (q : QW) : Prop := q.ses = true ∨ ∀ t, q.W t ≠ []
theorem qw_full {q : Qu} (h : mayQ q.kind q.agg q.size q.slide q.bs q.rank = true) : (qw q).Full := by
  obtain ⟨h1, h2, _⟩ := stepQ_bd h
  exact Or.inr fun t => spQ_ne h1 h2
theorem winsQ_cover {k : Int} {q : QW} (hq : q.Ok) (hf : q.Full) {xs : List It} (ht : Times xs) {x : It} (hx : x ∈ xs) : ∃ p, p ∈ winsQ k q xs ∧ x ∈ p.xs := by
  unfold winsQ
  by_cases c : q.ses = true
  · rw [if_pos c]
    exact (sesL_of (hq.gap c) ht).all hx
  · rw [if_neg c]
    rcases hf with hf | hf
    · exact absurd hf c
    · obtain ⟨w, hw⟩ := List.exists_mem_of_ne_nil _ (hf x.t)
      obtain ⟨p, hp, a, b, s⟩ := (winsW_of k (prsW q.W xs)).all (x, w) (prsW_mem.2 ⟨hx, hw⟩)
      refine ⟨p, hp, ?_⟩
      rw [((winsW_mem hq.nodup).1 hp).2.2]
      refine List.mem_filter.2 ⟨hx, ?_⟩
      have a : p.a = w.1 := a
      have b : p.b = w.2 := b
      have s : p.s = x.s := s
      simp only [decide_eq_true_eq]
      exact ⟨s.symm, by rw [a, b]; exact hw⟩
structure QsFit (qs : List QW) : Prop where
  ok : QsOk qs
  over : Overs qs
  full : ∀ q, q ∈ qs → q.Full
  some_ : 0 < qs.length
theorem winsA_cover {qs : List QW} (h : QsFit qs) {xs : List It} (ht : Times xs) {x : It} (hx : x ∈ xs) : ∃ p, p ∈ winsA qs xs ∧ x ∈ p.xs := by
  have h0 := h.some_
  obtain ⟨p, hp, hm⟩ := winsQ_cover (k := ((0 : Nat) : Int)) (h.ok.at_ h0) (show (qs.getD 0 noQW).Full by rw [List.getD_eq_getElem?_getD, List.getElem?_eq_getElem h0]; exact h.full _ (List.getElem_mem h0)) ht hx
  exact ⟨p, winsA_mem.2 ⟨0, h0, hp⟩, hm⟩
theorem winsA_time {qs : List QW} (h : QsFit qs) {xs : List It} (ht : Times xs) {p : Wn} (hp : p ∈ winsA qs xs) {x : It} (hx : x ∈ p.xs) : p.a ≤ x.t ∧ x.t < p.b := by
  rw [winsA_xs h.ok h.over ht hp] at hx
  have := (List.mem_filter.1 hx).2
  simp only [inW, decide_eq_true_eq] at this
  exact this.2
theorem winsA_ne {qs : List QW} (h : QsFit qs) {xs : List It} (ht : Times xs) {p : Wn} (hp : p ∈ winsA qs xs) : p.xs ≠ [] := by
  obtain ⟨k, hk, hp⟩ := winsA_mem.1 hp
  exact winsQ_ne (h.ok.at_ hk) ht hp
theorem held_mem {qs : List QW} (h : QsFit qs) {late m : Int} {xs : List It} (ht : Times xs) (hs : Seqs xs) {x : It} : x ∈ heldL qs late m xs ↔ x ∈ xs ∧ ∃ p, p ∈ winsA qs xs ∧ outM late m p = false ∧ x ∈ p.xs := by
  unfold heldL
  rw [List.mem_filter]
  exact ⟨fun ⟨a, b⟩ => ⟨a, (heldB_iff h.ok ht hs a).1 b⟩, fun ⟨a, b⟩ => ⟨a, (heldB_iff h.ok ht hs a).2 b⟩⟩
structure Mc where
  ys : List It
  least : Int
  seq : Int
def risB (seq : Int) : List It → Bool
  | [] => true
  | x :: r => itemB x && (decide (seq < x.q) && risB x.q r)
def lastQ (seq : Int) : List It → Int
  | [] => seq
  | x :: r => lastQ x.q r
def lineM (m late : Int) : Int := max (m - late) (-4398046511104)
def lateX (line : Int) (xs : List It) : Bool := xs.any fun x => decide (x.t < line)
def feedC (f l late : Int) (m : Mc) (xs : List It) : Int :=
  if (risB m.seq xs && decide (xs.length + m.ys.length ≤ 8192)) = false then f else if lateX (lineM m.least late) xs = true then l else 0
def feedM (f l late : Int) (m : Mc) (xs : List It) : Mc := if feedC f l late m xs = 0 then ⟨rowL (m.ys ++ xs), m.least, lastQ m.seq xs⟩ else m
def markOk (m : Mc) (x : Int) : Bool := wi x m.least 4398046511104
def markM (qs : List QW) (late : Int) (m : Mc) (x : Int) : Mc := if markOk m x = true then ⟨heldL qs late x m.ys, x, m.seq⟩ else m
def markT (qs : List QW) (late : Int) (m : Mc) (x : Int) : List Wn := if markOk m x = true then toldL qs late m.least x m.ys else []
structure McOk (m : Mc) : Prop where
  srd : SrdB lt2 m.ys
  seqs : Seqs m.ys
  may : ∀ x, x ∈ m.ys → itemB x = true
  top : ∀ x, x ∈ m.ys → x.q ≤ m.seq
  len : m.ys.length ≤ 8192
  lo : -4398046511104 ≤ m.least
  hi : m.least ≤ 4398046511104
  seq0 : 0 ≤ m.seq
  seq1 : m.seq ≤ 1073741823
theorem mc_new : McOk ⟨[], -4398046511104, 0⟩ := ⟨List.Pairwise.nil, List.Pairwise.nil, by simp, by simp, by simp, by simp, by simp, by simp, by simp⟩
theorem ris_all {seq : Int} {xs : List It} (h : risB seq xs = true) : (∀ x, x ∈ xs → itemB x = true ∧ seq < x.q ∧ x.q ≤ lastQ seq xs) ∧ Seqs xs ∧ seq ≤ lastQ seq xs := by
  induction xs generalizing seq with
  | nil => exact ⟨by simp, List.Pairwise.nil, Int.le_refl _⟩
  | cons x r ih =>
    unfold risB at h
    simp only [Bool.and_eq_true, decide_eq_true_eq] at h
    obtain ⟨h1, h2, h3⟩ := h
    obtain ⟨i1, i2, i3⟩ := ih h3
    have e : lastQ seq (x :: r) = lastQ x.q r := rfl
    rw [e]
    refine ⟨fun y hy => ?_, List.pairwise_cons.2 ⟨fun y hy => ?_, i2⟩, by omega⟩
    · rcases List.mem_cons.1 hy with hy | hy
      · rw [hy]; exact ⟨h1, h2, i3⟩
      · have := i1 y hy; exact ⟨this.1, by omega, this.2.2⟩
    · have := i1 y hy; omega
theorem lastQ_top {seq : Int} {xs : List It} (h : risB seq xs = true) (h0 : seq ≤ 1073741823) : lastQ seq xs ≤ 1073741823 := by
  induction xs generalizing seq with
  | nil => exact h0
  | cons x r ih =>
    unfold risB at h
    simp only [Bool.and_eq_true, decide_eq_true_eq] at h
    obtain ⟨h1, h2, h3⟩ := h
    unfold itemB at h1
    simp only [Bool.and_eq_true] at h1
    exact ih h3 (wi_true h1.2.2.1).2
theorem McOk.feed {f l late : Int} (hf : f ≠ 0) {m : Mc} (h : McOk m) (xs : List It) : McOk (feedM f l late m xs) := by
  unfold feedM
  by_cases c : feedC f l late m xs = 0
  · rw [if_pos c]
    have ok : (risB m.seq xs && decide (xs.length + m.ys.length ≤ 8192)) = true := by
      cases e : (risB m.seq xs && decide (xs.length + m.ys.length ≤ 8192)) with
      | true => rfl
      | false => unfold feedC at c; rw [if_pos e] at c; exact absurd c hf
    simp only [Bool.and_eq_true, decide_eq_true_eq] at ok
    obtain ⟨o1, o2⟩ := ok
    obtain ⟨r1, r2, r3⟩ := ris_all o1
    have hs : Seqs (m.ys ++ xs) := List.pairwise_append.2 ⟨h.seqs, r2, fun a ha b hb => by have := h.top a ha; have := (r1 b hb).2.1; omega⟩
    have mem : ∀ x, x ∈ rowL (m.ys ++ xs) → x ∈ m.ys ∨ x ∈ xs := fun x hx => List.mem_append.1 ((srtB_mem (lt := lt2)).1 hx)
    refine ⟨rowL_srd _, rowL_seqs hs, fun x hx => ?_, fun x hx => ?_, ?_, h.lo, h.hi, by have := h.seq0; simp only; omega, lastQ_top o1 h.seq1⟩
    · rcases mem x hx with hx | hx
      · exact h.may x hx
      · exact (r1 x hx).1
    · rcases mem x hx with hx | hx
      · have := h.top x hx; simp only; omega
      · exact (r1 x hx).2.2
    · have : (rowL (m.ys ++ xs)).length = m.ys.length + xs.length := by unfold rowL; rw [srtB_len, List.length_append]
      simp only [this]; omega
  · rw [if_neg c]; exact h
theorem McOk.mark {qs : List QW} {late : Int} {m : Mc} (h : McOk m) (x : Int) : McOk (markM qs late m x) := by
  unfold markM
  by_cases c : markOk m x = true
  · rw [if_pos c]
    have := wi_true c
    refine ⟨List.Pairwise.filter _ h.srd, List.Pairwise.filter _ h.seqs, fun y hy => h.may y (List.mem_filter.1 hy).1, fun y hy => h.top y (List.mem_filter.1 hy).1, Nat.le_trans (List.length_filter_le _ _) h.len, by have := h.lo; simp only; omega, this.2, h.seq0, h.seq1⟩
  · rw [if_neg c]; exact h
end Go.Proofs.YtbpaepkcchpmbaaGreat
