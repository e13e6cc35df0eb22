/-
  Walks: acc.histFits, restIsZero, endsFit, valuesFit, fits, May.
-/
import Derived.Test.YtdoflmphkalicaaBucket
import Derived.Test.YtdoflmphkalicaaPlain
import Derived.Laws.StructEq
namespace Go.Proofs.Ytdoflmphkalicaa
open Go.RowKit

set_option maxRecDepth 100000 in
set_option maxHeartbeats 1000000 in
theorem histFits_any (a : Ac) (A : Option Addr) (n c : Nat) (m : Int) (w : World) (hr : Ints w A n a.h) (hm : 0 ≤ m ∧ m ≤ 9) (hn : n ≤ maxLen) :
    Calls Try.prog 82 #[.agg #[.int .i64 a.n, .int .i64 a.s, .int .i64 a.mn, .int .i64 a.mx, .int .i64 a.f.s, .int .i64 a.f.t, .int .i64 a.f.q, .int .i64 a.f.v, .int .i64 a.l.s, .int .i64 a.l.t, .int .i64 a.l.q, .int .i64 a.l.v, .slice A n c], .int .i64 m] w
      fun e w' => e = .returned (.bool (histB a m)) ∧ Below w.heap.size w w' := by
  have HL := Lib.hid hr.1
  unfold maxLen at hn
  by_cases hnm : (n : Int) = m
  · have h1 : ((n : Int) != m) = false := by simp [hnm]
    have HM := Lib.hid hnm; clear hnm
    have hn9 : n ≤ 9 := by have := HM.out; omega
    go_enter Try.func82, Try.ntmps82
    go_wp2
    go_loop [5, 16] (fun s i => ∃ (j : Nat) (S : Int), j ≤ n ∧ i = .int .i64 j ∧ s = .int .i64 S ∧ 0 ≤ S ∧ S ≤ 8192 * j ∧ Hid (isum (a.h.take j) = S) ∧ Hid (∀ x, x < j → 0 ≤ nth a.h x ∧ nth a.h x ≤ 8192)) (fun _ i => n - (intOf i).toNat)
    case atStart => exact ⟨0, 0, Nat.zero_le _, rfl, rfl, by omega, by omega, rfl, fun x hx => absurd hx (Nat.not_lt_zero _)⟩
    case round =>
      obtain ⟨j, S, hj, rfl, rfl, hS0, hS1, HS, HA⟩ := hrel
      by_cases hlt : j < n
      · obtain ⟨b, o, rfl, hc⟩ := hr.at_ (k := 0) (by omega)
        have hlt2 := block_lt_of_cell (hc j hlt)
        have hcell := hc j hlt
        clear hc
        cases hv : wi (nth a.h j) 0 8192
        · go_wp2_with (go_at_call 70; refine (within_any _ _ _ _).mono ?_; rintro e w' ⟨rfl, rfl⟩)
          go_ret
          exact ⟨ret_bool (histB_out HL.out hlt hv).symm, (Below.refl _ _).alloc (Nat.le_refl _) _⟩
        · obtain ⟨hv2, hv3⟩ := wi_true hv
          have hS2 : S ≤ 81920 := by omega
          go_wp2_with (go_at_call 70; refine (within_any _ _ _ _).mono ?_; rintro e w' ⟨rfl, rfl⟩)
          go_round
          case rel =>
            exact ⟨j + 1, S + nth a.h j, by omega, by go_num, rfl, by omega, by omega, by rw [Hid, isum_take_succ (by rw [HL.out]; exact hlt), HS.out], fun x hx => by rcases Nat.lt_succ_iff_lt_or_eq.1 hx with h | rfl <;> first | exact HA.out x h | exact ⟨hv2, hv3⟩⟩
          case measure => simp [intOf]; omega
      · have hkn : j = n := by omega
        subst hkn
        go_wp2
        go_ret
        exact ⟨ret_bool (histB_sum HL.out HM.out HA.out HS.out).symm, (Below.refl _ _).alloc (Nat.le_refl _) _⟩
  · have h1 : ((n : Int) != m) = true := by simp [hnm]
    have hb : histB a m = false := decide_eq_false (fun h => hnm (by rw [← h.1, hr.1]))
    clear hnm
    rw [hb]; clear hb
    go_enter Try.func82, Try.ntmps82
    go_wp2
    go_ret
    exact ⟨rfl, (Below.refl _ _).alloc (Nat.le_refl _) _⟩

set_option maxRecDepth 100000 in
set_option maxHeartbeats 1000000 in
theorem endsFit_any (a : Ac) (A : Option Addr) (n c : Nat) (w : World) :
    Calls Try.prog 84 #[.agg #[.int .i64 a.n, .int .i64 a.s, .int .i64 a.mn, .int .i64 a.mx, .int .i64 a.f.s, .int .i64 a.f.t, .int .i64 a.f.q, .int .i64 a.f.v, .int .i64 a.l.s, .int .i64 a.l.t, .int .i64 a.l.q, .int .i64 a.l.v, .slice A n c]] w
      fun e w' => e = .returned (.bool (endsB a)) ∧ Below w.heap.size w w' := by
  go_enter Try.func84, Try.ntmps84
  go_wp2_with fail
  refine (item_any a.f _).mono ?_
  rintro e w1 ⟨rfl, hb1⟩
  have hB1 : Below w.heap.size w w1 := ((Below.refl _ _).alloc (Nat.le_refl _) _).trans (hb1.mono (by simp))
  have hc1 := oldCells hb1 (Nat.le_refl _)
  cases h1 : itemB a.f
  · go_wp2
    go_ret
    exact ⟨ret_bool (by simp [endsB, h1]), hB1⟩
  · go_wp2_with fail
    refine (item_any a.l _).mono ?_
    rintro e w2 ⟨rfl, hb2⟩
    have hB2 : Below w.heap.size w w2 := hB1.trans (hb2.mono hB1.size)
    have hb2' := hb2.mono (B' := w.heap.size + 1) (by have := hb1.size; simpa using this)
    have hc2 : ∀ b o, b < w.heap.size + 1 → w2.cell? ⟨b, o, none⟩ = w1.cell? ⟨b, o, none⟩ := fun b o h => hb2'.cell (p := ⟨b, o, none⟩) h
    clear hb2'
    cases h2 : itemB a.l
    · go_wp2
      go_ret
      exact ⟨ret_bool (by simp [endsB, h2]), hB2⟩
    · by_cases h3 : a.f.s = a.l.s
      · have h3' : (a.f.s == a.l.s) = true := by simp [h3]
        have H3 := Lib.hid h3; clear h3
        go_wp2_with fail
        refine (compare_any a.f a.l _).mono ?_
        rintro e w3 ⟨rfl, hb3⟩
        have hB3 : Below w.heap.size w w3 := hB2.trans (hb3.mono hB2.size)
        have hq := cmpT_after a.f a.l
        have HQ := Lib.hid hq; clear hq
        go_wp2
        go_ret
        exact ⟨ret_bool (by rw [HQ.out]; simp [endsB, h1, h2, H3.out]), hB3⟩
      · have h3' : (a.f.s == a.l.s) = false := by simp [h3]
        have H3 := Lib.hid h3; clear h3
        go_wp2
        go_ret
        exact ⟨ret_bool (by simp [endsB, H3.out]), hB2⟩

set_option maxRecDepth 100000 in
set_option maxHeartbeats 1000000 in
theorem zero_any (a : Ac) (A : Option Addr) (n c : Nat) (w : World) :
    Calls Try.prog 83 #[.agg #[.int .i64 a.n, .int .i64 a.s, .int .i64 a.mn, .int .i64 a.mx, .int .i64 a.f.s, .int .i64 a.f.t, .int .i64 a.f.q, .int .i64 a.f.v, .int .i64 a.l.s, .int .i64 a.l.t, .int .i64 a.l.q, .int .i64 a.l.v, .slice A n c]] w
      fun e w' => e = .returned (.bool (zeroB a)) ∧ Below w.heap.size w w' := by
  go_enter Try.func83, Try.ntmps83
  go_wp2
  all_goals
    go_ret
    exact ⟨ret_bool (by simp [zeroB, *]), by repeat (first | exact Below.refl _ _ | refine Below.drew ?_ | refine Below.alloc ?_ (by simp <;> omega) _)⟩

set_option maxRecDepth 100000 in
set_option maxHeartbeats 1000000 in
theorem vals_any (a : Ac) (A : Option Addr) (n c : Nat) (w : World) (hn : 0 ≤ a.n ∧ a.n ≤ 8192) :
    Calls Try.prog 85 #[.agg #[.int .i64 a.n, .int .i64 a.s, .int .i64 a.mn, .int .i64 a.mx, .int .i64 a.f.s, .int .i64 a.f.t, .int .i64 a.f.q, .int .i64 a.f.v, .int .i64 a.l.s, .int .i64 a.l.t, .int .i64 a.l.q, .int .i64 a.l.v, .slice A n c]] w
      fun e w' => e = .returned (.bool (valsB a)) ∧ Below w.heap.size w w' := by
  cases h1 : wi a.mn (-1099511627776) a.mx
  · go_enter Try.func85, Try.ntmps85
    go_wp2_with (go_at_call 70; refine (within_any _ _ _ _).mono ?_; rintro e w' ⟨rfl, rfl⟩)
    go_ret
    exact ⟨ret_bool (valsB_no (Or.inl h1)).symm, (Below.refl _ _).alloc (Nat.le_refl _) _⟩
  · obtain ⟨g1, g2⟩ := wi_true h1
    by_cases h2 : a.mx ≤ 1099511627776
    · obtain ⟨p1, p2⟩ := mul_bd hn.1 hn.2 g1 (Int.le_trans g2 h2)
      obtain ⟨p3, p4⟩ := mul_bd hn.1 hn.2 (Int.le_trans g1 g2) h2
      cases h3 : wi a.f.v a.mn a.mx
      · go_enter Try.func85, Try.ntmps85
        go_wp2_with (go_at_call 70; refine (within_any _ _ _ _).mono ?_; rintro e w' ⟨rfl, rfl⟩)
        go_ret
        exact ⟨ret_bool (valsB_no (Or.inr (Or.inr (Or.inl h3)))).symm, (Below.refl _ _).alloc (Nat.le_refl _) _⟩
      · cases h4 : wi a.l.v a.mn a.mx
        · go_enter Try.func85, Try.ntmps85
          go_wp2_with (go_at_call 70; refine (within_any _ _ _ _).mono ?_; rintro e w' ⟨rfl, rfl⟩)
          go_ret
          exact ⟨ret_bool (valsB_no (Or.inr (Or.inr (Or.inr h4)))).symm, (Below.refl _ _).alloc (Nat.le_refl _) _⟩
        · go_enter Try.func85, Try.ntmps85
          go_wp2_with (go_at_call 70; refine (within_any _ _ _ _).mono ?_; rintro e w' ⟨rfl, rfl⟩)
          go_ret
          exact ⟨ret_bool (valsB_yes h1 h2 h3 h4).symm, (Below.refl _ _).alloc (Nat.le_refl _) _⟩
    · have h2' : decide (a.mx ≤ 1099511627776) = false := decide_eq_false h2
      go_enter Try.func85, Try.ntmps85
      go_wp2_with (go_at_call 70; refine (within_any _ _ _ _).mono ?_; rintro e w' ⟨rfl, rfl⟩)
      go_ret
      exact ⟨ret_bool (valsB_no (Or.inr (Or.inl (by omega)))).symm, (Below.refl _ _).alloc (Nat.le_refl _) _⟩

end Go.Proofs.Ytdoflmphkalicaa
