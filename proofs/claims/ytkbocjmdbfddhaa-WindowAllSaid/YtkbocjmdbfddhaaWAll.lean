/-
  Walk: WindowAll: just the spans that hold a time, and that begin at a multiple.
-/
import Derived.Test.YtkbocjmdbfddhaaWTimes
import Derived.Test.YtkbocjmdbfddhaaWMoves
namespace Go.Proofs.Ytkbocjmdbfddhaa
open Go.RowKit

theorem mask15 (n : Int) : bits .and .i64 n 15 = n % 16 := mask_of n 4 15 (by decide) (by decide)
theorem mask63 (n : Int) : bits .and .i64 n 63 = n % 64 := mask_of n 6 63 (by decide) (by decide)
theorem may_slide (k m : Int) (h1 : 1 ≤ k) (h2 : k ≤ m) (h3 : m ≤ 16 * k) (h4 : m ≤ 256) : mayQ 1 0 m k [] 0 = true := by
  unfold mayQ
  rw [wi_mk (by decide), wi_mk (by decide), wi_mk (by omega)]
  show (slideB 1 m k && true) = true
  rw [Bool.and_true]
  unfold slideB
  rw [if_pos rfl]
  refine decide_eq_true ⟨h1, h2, ?_, ?_⟩
  · have : (m + k - 1) / k < 65 := Int.ediv_lt_of_lt_mul (by omega) (by omega)
    omega
  · have : m / gcdI m k ≤ m := Int.ediv_le_self _ (by omega)
    omega
/-- Between which windows the walk over all begins stands. -/
structure InvA (a k : Int) (n j : Nat) (s : Int) : Prop where
  le : j ≤ n
  up : j = n ∨ s ≤ (a + 1 + (j : Int)) * k
  lo : j = 0 ∨ (a + (j : Int)) * k < s
theorem inv_start {a k t m L : Int} {n : Nat} (hk : 1 ≤ k) (hG : ∀ i : Int, (a < i ↔ t - m < i * k) ∧ (i ≤ L ↔ i * k ≤ t)) : InvA a k n 0 (t - m - k) :=
  ⟨by omega, Or.inr (by have := (hG (a + 1)).1.1 (by omega); simp only [Int.natCast_zero, Int.add_zero] at this ⊢; omega), Or.inl rfl⟩
theorem inv_skip {a k t m L : Int} {n j : Nat} {s : Int} (hG : ∀ i : Int, (a < i ↔ t - m < i * k) ∧ (i ≤ L ↔ i * k ≤ t)) (hL : L = a + n) (h : InvA a k n j s) (hs : s.tmod k ≠ 0 ∨ t < s ∨ s + m ≤ t) : InvA a k n j (s + 1) := by
  refine ⟨h.le, ?_, ?_⟩
  · rcases h.up with e | e
    · exact Or.inl e
    · by_cases hj : j = n
      · exact Or.inl hj
      · right
        have h1 := (hG (a + 1 + (j : Int))).1.1 (by omega)
        have h2 := (hG (a + 1 + (j : Int))).2.1 (by have := h.le; omega)
        rcases hs with h3 | h3 | h3
        · have : s ≠ (a + 1 + (j : Int)) * k := fun e2 => h3 (by rw [e2]; exact Int.mul_tmod_left _ _)
          omega
        · omega
        · omega
  · rcases h.lo with e | e
    · exact Or.inl e
    · right; omega
theorem inv_hit {a k t m L : Int} {n j : Nat} {s : Int} (hk : 1 ≤ k) (hG : ∀ i : Int, (a < i ↔ t - m < i * k) ∧ (i ≤ L ↔ i * k ≤ t)) (hL : L = a + n) (h : InvA a k n j s) (h1 : s.tmod k = 0) (h2 : s ≤ t) (h3 : t < s + m) : j < n ∧ (a + 1 + (j : Int)) * k = s ∧ InvA a k n (j + 1) (s + 1) := by
  obtain ⟨q, hq⟩ := Int.dvd_of_tmod_eq_zero h1
  rw [Int.mul_comm] at hq
  have g1 : a < q := (hG q).1.2 (by omega)
  have g2 : q ≤ L := (hG q).2.2 (by omega)
  have g3 : a + (j : Int) < q := by
    rcases h.lo with e | e
    · subst e; simpa using g1
    · rw [hq] at e
      exact Int.lt_of_mul_lt_mul_right e (by omega)
  have hj : j < n := by omega
  have g4 : q ≤ a + 1 + (j : Int) := by
    rcases h.up with e | e
    · omega
    · rw [hq] at e
      exact Int.le_of_mul_le_mul_right e (by omega)
  have hqe : a + 1 + (j : Int) = q := by omega
  refine ⟨hj, by rw [hqe, hq], by omega, Or.inr ?_, Or.inr ?_⟩
  · rw [show a + 1 + ((j + 1 : Nat) : Int) = q + 1 by omega, Int.add_mul, ← hq]; omega
  · rw [show a + ((j + 1 : Nat) : Int) = q by omega, ← hq]; omega
theorem inv_end {a k t m L : Int} {n j : Nat} {s : Int} (hk : 1 ≤ k) (hG : ∀ i : Int, (a < i ↔ t - m < i * k) ∧ (i ≤ L ↔ i * k ≤ t)) (hL : L = a + n) (h : InvA a k n j s) (hs : t + k < s) : j = n := by
  rcases h.up with e | e
  · exact e
  · by_cases hj : j = n
    · exact hj
    · have h2 := (hG (a + 1 + (j : Int))).2.1 (by have := h.le; omega)
      omega

set_option maxRecDepth 100000 in
set_option maxHeartbeats 4000000 in
theorem all_any (a0 a1 a2 : Int) (w : World) (_ : (Lit.int .i64 a0).wf = true) (_ : (Lit.int .i64 a1).wf = true) (_ : (Lit.int .i64 a2).wf = true) :
    Calls Try.prog 4 #[.int .i64 a0, .int .i64 a1, .int .i64 a2] w fun e w' => e = .returned (.bool true) ∧ Below w.heap.size w w' := by
  obtain ⟨K, k1, k2, k3⟩ : ∃ K : Int, bits .and .i64 a1 15 = K ∧ 0 ≤ K ∧ K ≤ 15 := ⟨_, mask15 a1, by omega, by omega⟩
  obtain ⟨Y, y1, y2, y3⟩ : ∃ Y : Int, bits .and .i64 a0 63 = Y ∧ 0 ≤ Y ∧ Y ≤ 63 := ⟨_, mask63 a0, by omega, by omega⟩
  obtain ⟨t, t1, t2, t3⟩ : ∃ T : Int, a2.tmod 1000000 = T ∧ -1000000 ≤ T ∧ T ≤ 1000000 := ⟨_, rfl, by have := Int.lt_tmod_of_pos a2 (show (0 : Int) < 1000000 by decide); omega, by have := Int.tmod_lt_of_pos a2 (show (0 : Int) < 1000000 by decide); omega⟩
  go_enter Try.func4, Try.ntmps4
  go_wp2_with fail
  refine (wawake_any _).mono ?_
  rintro e w1 ⟨rfl, b1⟩
  have HW := Lib.hid b1; clear b1
  go_wp2_with fail
  obtain ⟨m, hm, m1, m2, m3⟩ : ∃ m, min (1 + K + Y) ((1 + K) * 16) = m ∧ 1 + K ≤ m ∧ m ≤ 16 * (1 + K) ∧ m ≤ 79 := ⟨_, rfl, by omega, by omega, by omega⟩
  rw [hm]
  clear hm
  clear k1 y1 t1
  have k4 : 1 ≤ 1 + K := by omega
  have k5 : 1 + K ≤ 16 := by omega
  clear k2 k3 y2 y3
  generalize 1 + K = k at *
  have HMAY := Lib.hid (may_slide k m (by omega) (by omega) (by omega) (by omega))
  obtain ⟨n1, n2, n3, n4⟩ := win_bd t k m (by omega) (by omega) (by have : (m + k - 1) / k < 65 := Int.ediv_lt_of_lt_mul (by omega) (by omega)
                                                                    omega)
  have hg := win_begin t k m (by omega)
  have hW : winQ 1 m k t = winL ((t - m) / k) k m (t / k - (t - m) / k).toNat := rfl
  obtain ⟨n, hn⟩ : ∃ n : Nat, t / k - (t - m) / k = (n : Int) := ⟨(t / k - (t - m) / k).toNat, by omega⟩
  rw [hn, Int.toNat_natCast] at hW
  refine (of_lit 1 0 m k 0 t none 0 0 [] _ n _ Ints.nil (Nat.zero_le _) HMAY.out (by decide) (wi_mk (by omega)) hW (winL_len _ _ _ _)).mono ?_
  rintro e w2 ⟨A2, c2, rfl, o2, b2⟩
  have HL : Hid (t / k = (t - m) / k + n) := show _ = _ by omega
  generalize (t - m) / k = a at *
  generalize t / k = L at *
  have HG := Lib.hid hg
  have HO := Lib.hid o2.spans
  have HB := Lib.hid (HW.out.trans (b2.mono HW.out.size))
  have HS0 : Hid (InvA a k n 0 (t - m - k)) := inv_start (show 1 ≤ k by omega) HG.out
  have q0 : n ≤ 64 := by omega
  clear hW hg o2 b2 HMAY HW hn n1 n2 n3 n4
  go_wp2_with (go_at_call 17; refine (wnum_any _ _).mono ?_; rintro e w' ⟨rfl, rfl⟩)
  go_loopw [12, 13] (fun x y wr => ∃ (j : Nat) (s : Int), x = .int .i64 j ∧ y = .int .i64 s ∧ t - m - k ≤ s ∧ s ≤ t + k + 1 ∧ wr = w2 ∧ Hid (InvA a k n j s)) (fun _ y _ => (t + k + 1 - intOf y).toNat)
  case atStart => exact ⟨0, t - m - k, rfl, rfl, by omega, by omega, rfl, HS0⟩
  case round =>
    clear HS0
    obtain ⟨j, s, rfl, rfl, i1, i2, rfl, HI⟩ := hrel
    have hjn := HI.out.le
    by_cases hlt : s ≤ t + k
    · by_cases hr : s.tmod k = 0
      · by_cases hts : t < s
        · have HI2 := Lib.hid (inv_skip HG.out HL.out HI.out (Or.inr (Or.inl hts)))
          go_wp2_with fail
          go_roundw
          case rel => exact ⟨j, s + 1, rfl, by go_num, by omega, by omega, trivial, HI2⟩
          case measure => simp [intOf]; omega
        · by_cases htm : s + m ≤ t
          · have HI2 := Lib.hid (inv_skip HG.out HL.out HI.out (Or.inr (Or.inr htm)))
            go_wp2_with fail
            go_roundw
            case rel => exact ⟨j, s + 1, rfl, by go_num, by omega, by omega, trivial, HI2⟩
            case measure => simp [intOf]; omega
          · obtain ⟨hj, hz, hI2⟩ := inv_hit (show 1 ≤ k by omega) HG.out HL.out HI.out hr (by omega) (by omega)
            have HI2 := Lib.hid hI2; clear hI2
            obtain ⟨b, o, rfl, d1, d2⟩ := span_at HO.out hj hz
            clear hz
            have hj2 : (j : Int) < (n : Int) := by omega
            go_wp2_with fail
            go_roundw
            case rel => exact ⟨j + 1, s + 1, by go_num, by go_num, by omega, by omega, trivial, HI2⟩
            case measure => simp [intOf]; omega
      · have HI2 := Lib.hid (inv_skip HG.out HL.out HI.out (Or.inl hr))
        have hr2 : (s.tmod k != 0) = true := by simp [hr]
        clear hr
        go_wp2_with fail
        go_roundw
        case rel => exact ⟨j, s + 1, rfl, by go_num, by omega, by omega, trivial, HI2⟩
        case measure => simp [intOf]; omega
    · obtain rfl : j = n := inv_end (show 1 ≤ k by omega) HG.out HL.out HI.out (by omega)
      go_wp2_with fail
      have p1 := Int.ediv_mul_add_emod t m
      have p2 := Int.emod_nonneg t (show m ≠ 0 by omega)
      have p3 := Int.emod_lt_of_pos t (show 0 < m by omega)
      have p4 : (t / m * m).tmod m = 0 := Int.mul_tmod_left _ _
      have HC := tumble_any m t wr (by omega) (by omega) (wi_mk (by omega))
      generalize t / m * m = S at *
      have p5 : S ≤ t := by omega
      have p6 : t < S + m := by omega
      clear p1 p2 p3
      refine HC.mono ?_
      rintro e w3 ⟨A3, c3, rfl, o3, b3⟩
      obtain ⟨g, f, rfl, d1, d2⟩ := one_span o3.spans
      have HK := Lib.hid (HB.out.trans (b3.mono HB.out.size))
      clear o3 b3 HC HB
      have HN : ∀ W : World, Calls Try.prog 17 #[.int .i64 0] W fun e w' => e = .returned (.int .i64 0) ∧ w' = W := fun W => (wnum_any 0 W).mono fun e w2 h => ⟨h.1, h.2.symm⟩
      have p7 : wrap64 (S + m - S) = m := by unfold wrap64; omega
      have p9 : ((S + m - S) == m) = true := by rw [show S + m - S = m by omega]; exact beq_self_eq_true m
      have p8 : wrap64 (S + m) = S + m := by unfold wrap64; omega
      go_wp2_with fail
      go_quiet (first | (go_at_call 17; exact (HN _).mono fun e w2 h => ⟨h.1, _, h.2⟩))
      go_wp2_with fail
      go_ret
      exact ⟨rfl, below_drewN HK.out _⟩

end Go.Proofs.Ytkbocjmdbfddhaa
