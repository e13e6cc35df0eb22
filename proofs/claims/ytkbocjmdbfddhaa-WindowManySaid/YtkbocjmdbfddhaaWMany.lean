/-
  Walk: WindowMany: a time lies in as many windows as its size by the slide, up or down.
-/
import Derived.Test.YtkbocjmdbfddhaaWAwake
import Derived.Test.YtkbocjmdbfddhaaWMask
namespace Go.Proofs.Ytkbocjmdbfddhaa
open Go.RowKit

theorem mask31 (n : Int) : bits .and .i64 n 31 = n % 32 := mask_of n 5 31 (by decide) (by decide)
theorem many_count (t k m : Int) (hk : 1 ≤ k) :
    (t / k - (t - m) / k = m / k) ∨ (t / k - (t - m) / k = m / k + 1 ∧ (m + k - 1) / k = m / k + 1 ∧ m % k ≠ 0) := by
  have e1 := Int.ediv_mul_add_emod t k
  have r1 := Int.emod_nonneg t (show k ≠ 0 by omega)
  have r2 := Int.emod_lt_of_pos t (show 0 < k by omega)
  have f1 := Int.ediv_mul_add_emod m k
  have s1 := Int.emod_nonneg m (show k ≠ 0 by omega)
  have s2 := Int.emod_lt_of_pos m (show 0 < k by omega)
  by_cases h : m % k ≤ t % k
  · left
    have : (t - m) / k = t / k - m / k ∧ (t - m) % k = t % k - m % k := (Int.ediv_emod_unique (show 0 < k by omega)).2 ⟨by rw [Int.mul_sub, Int.mul_comm k (t / k), Int.mul_comm k (m / k)]; omega, by omega, by omega⟩
    omega
  · right
    have : (t - m) / k = t / k - m / k - 1 ∧ (t - m) % k = t % k - m % k + k := (Int.ediv_emod_unique (show 0 < k by omega)).2 ⟨by rw [Int.mul_sub, Int.mul_sub, Int.mul_comm k (t / k), Int.mul_comm k (m / k), Int.mul_one]; omega, by omega, by omega⟩
    have h2 : (m + k - 1) / k = m / k + 1 ∧ (m + k - 1) % k = m % k - 1 := (Int.ediv_emod_unique (show 0 < k by omega)).2 ⟨by rw [Int.mul_add, Int.mul_comm k (m / k), Int.mul_one]; omega, by omega, by omega⟩
    exact ⟨by omega, h2.1, by omega⟩

set_option maxRecDepth 100000 in
set_option maxHeartbeats 4000000 in
theorem many_any (a0 a1 a2 : Int) (w : World) (_ : (Lit.int .i64 a0).wf = true) (_ : (Lit.int .i64 a1).wf = true) (_ : (Lit.int .i64 a2).wf = true) :
    Calls Try.prog 8 #[.int .i64 a0, .int .i64 a1, .int .i64 a2] w fun e w' => e = .returned (.bool true) ∧ Below w.heap.size w w' := by
  obtain ⟨X, x1, x2, x3⟩ : ∃ X : Int, bits .and .i64 a0 1023 = X ∧ 0 ≤ X ∧ X ≤ 1023 := ⟨_, mask1023 a0, by omega, by omega⟩
  obtain ⟨K, k1, k2, k3⟩ : ∃ K : Int, bits .and .i64 a1 31 = K ∧ 0 ≤ K ∧ K ≤ 31 := ⟨_, mask31 a1, by omega, by omega⟩
  obtain ⟨Z, z1, z2, z3⟩ : ∃ Z : Int, X.tmod (63 * (1 + K)) = Z ∧ 0 ≤ Z ∧ Z < 63 * (1 + K) := ⟨_, Int.tmod_eq_emod_of_nonneg x2, Int.emod_nonneg _ (by omega), Int.emod_lt_of_pos _ (by omega)⟩
  obtain ⟨T, t1, t2, t3⟩ : ∃ T : Int, a2.tmod 1000000 = T ∧ -1000000 ≤ T ∧ T ≤ 1000000 := ⟨_, rfl, by have := Int.lt_tmod_of_pos a2 (show (0 : Int) < 1000000 by decide); omega, by have := Int.tmod_lt_of_pos a2 (show (0 : Int) < 1000000 by decide); omega⟩
  have hwt : wi T (-1099511627776) 1099511627776 = true := wi_mk (by omega)
  obtain ⟨M, m1, m2⟩ : ∃ M, (1 + K + Z).tdiv (1 + K) = M ∧ (1 + K + Z) / (1 + K) = M := ⟨_, Int.tdiv_eq_ediv_of_nonneg (by omega), rfl⟩
  obtain ⟨P, p1, p2⟩ : ∃ P, (1 + K + Z + (1 + K) - 1).tdiv (1 + K) = P ∧ (1 + K + Z + (1 + K) - 1) / (1 + K) = P := ⟨_, Int.tdiv_eq_ediv_of_nonneg (by omega), rfl⟩
  obtain ⟨R, r1, r2⟩ : ∃ R, (1 + K + Z).tmod (1 + K) = R ∧ (1 + K + Z) % (1 + K) = R := ⟨_, Int.tmod_eq_emod_of_nonneg (by omega), rfl⟩
  have hcnt := many_count T (1 + K) (1 + K + Z) (by omega)
  rw [m2, p2, r2] at hcnt
  have m3 : 0 ≤ M ∧ M ≤ 1 + K + Z := by rw [← m2]; exact ⟨Int.ediv_nonneg (by omega) (by omega), Int.ediv_le_self _ (by omega)⟩
  have p3 : 0 ≤ P ∧ P ≤ 64 := by
    rw [← p2]
    refine ⟨Int.ediv_nonneg (by omega) (by omega), ?_⟩
    have : (1 + K + Z + (1 + K) - 1) / (1 + K) < 65 := Int.ediv_lt_of_lt_mul (by omega) (by omega)
    omega
  have r3 : 0 ≤ R ∧ R ≤ 1 + K := by rw [← r2]; exact ⟨Int.emod_nonneg _ (by omega), by have := Int.emod_lt_of_pos (1 + K + Z) (show 0 < 1 + K by omega); omega⟩
  have hm : mayQ 1 0 (1 + K + Z) (1 + K) [] 0 = decide ((1 + K + Z) / gcdI (1 + K + Z) (1 + K) ≤ 256) := by
    unfold mayQ
    rw [wi_mk (by decide), wi_mk (by decide), wi_mk (by omega)]
    show (slideB 1 (1 + K + Z) (1 + K) && true) = _
    rw [Bool.and_true]
    unfold slideB
    rw [if_pos rfl, p2]
    exact decide_eq_decide.2 ⟨fun h => h.2.2.2, fun h => ⟨by omega, by omega, by omega, h⟩⟩
  have hg : (1 + K + Z) / gcdI (1 + K + Z) (1 + K) ≤ 1 + K + Z := Int.ediv_le_self _ (by omega)
  have HWN : Hid (∃ n : Nat, (winQ 1 (1 + K + Z) (1 + K) T).length = n ∧ (n : Int) = T / (1 + K) - (T - (1 + K + Z)) / (1 + K)) := by
    refine ⟨_, rfl, ?_⟩
    unfold winQ
    rw [winL_len, show stepQ 1 (1 + K + Z) (1 + K) = 1 + K from rfl]
    omega
  obtain ⟨n, hn1, hn2⟩ := HWN.out
  have C0 : Hid (∀ W : World, Calls Try.prog 19 #[.agg #[.int .i64 1, .int .i64 0, .int .i64 (1 + K + Z), .int .i64 (1 + K), .slice none 0 0, .int .i64 0]] W fun e w' => e = .returned (.bool (mayQ 1 0 (1 + K + Z) (1 + K) [] 0)) ∧ Below W.heap.size W w') :=
    fun W => may4_any 1 0 (1 + K + Z) (1 + K) 0 none 0 0 [] W Ints.nil (Nat.zero_le _)
  rw [← hn2] at hcnt
  clear hn2 m2 p2 r2 HWN
  have Z1 := Lib.hid z1; clear z1
  have M1 := Lib.hid m1; clear m1
  have P1 := Lib.hid p1; clear p1
  have R1 := Lib.hid r1; clear r1
  have CNT := Lib.hid hcnt; clear hcnt
  have HN1 := Lib.hid hn1; clear hn1
  cases hb : mayQ 1 0 (1 + K + Z) (1 + K) [] 0
  · have hbig : 256 < 1 + K + Z := by
      rw [hb] at hm
      have := of_decide_eq_false hm.symm
      omega
    have C1 : Hid (∀ W : World, Calls Try.prog 14 #[.agg #[.int .i64 1, .int .i64 0, .int .i64 (1 + K + Z), .int .i64 (1 + K), .slice none 0 0, .int .i64 0], .int .i64 T] W (NoSpans W)) :=
      fun W => of_bad 1 0 (1 + K + Z) (1 + K) 0 T none 0 0 [] W Ints.nil (Nat.zero_le _) (by rw [hb]; rfl)
    rw [hb] at C0
    clear hm hg hb
    go_enter Try.func8, Try.ntmps8
    go_wp2_with fail
    refine (wawake_any _).mono ?_
    rintro e w0 ⟨rfl, b0⟩
    have HM : Hid (∀ o, Has (w0.alloc (.cells o 24)) w0.heap.size 24 o) := fun o => Has.made _ _ _
    have HB0 : Hid (∀ o, Below w0.heap.size w0 (w0.alloc o)) := fun o => (Below.refl _ _).alloc (Nat.le_refl _) o
    have HW := Lib.hid b0; clear b0
    have z1 := Z1.out
    go_wp2_with fail
    refine (C1.out _).mono ?_
    rintro e w1 ⟨rfl, b1⟩
    have HQ1 := Lib.hid ((HM.out _).below b1 (by simp))
    have HK1 : Hid (Below w0.heap.size w0 w1) := (HB0.out _).trans (b1.mono (by simp))
    have hc1 : ∀ i, w1.cell? ⟨w0.heap.size, i, none⟩ = _ := fun i => HQ1.out.cell i
    clear b1 HM HB0 z1 x1 k1
    go_wp2_with fail
    refine (C0.out _).mono ?_
    rintro e w2 ⟨rfl, b2⟩
    have HK2 := Lib.hid (HK1.out.trans (b2.mono HK1.out.size))
    clear b2 hc1 HQ1 HK1
    go_wp2_with (go_at_call 17; refine (wnum_any _ _).mono ?_; rintro e w' ⟨rfl, rfl⟩)
    go_ret
    exact ⟨rfl, HW.out.trans (HK2.out.mono HW.out.size)⟩
  · have C1 : Hid (∀ W : World, Calls Try.prog 14 #[.agg #[.int .i64 1, .int .i64 0, .int .i64 (1 + K + Z), .int .i64 (1 + K), .slice none 0 0, .int .i64 0], .int .i64 T] W
        fun e w' => ∃ A c, e = .returned (.tuple #[.slice A n c, .int .i64 0]) ∧ OwnS w' W.heap.size (.slice A n c) (winQ 1 (1 + K + Z) (1 + K) T) ∧ Below W.heap.size W w') :=
      fun W => of_lit 1 0 (1 + K + Z) (1 + K) 0 T none 0 0 [] _ n W Ints.nil (Nat.zero_le _) hb (by decide) hwt rfl HN1.out
    rw [hb] at C0
    clear hm hg hb
    go_enter Try.func8, Try.ntmps8
    go_wp2_with fail
    refine (wawake_any _).mono ?_
    rintro e w0 ⟨rfl, b0⟩
    have HM : Hid (∀ o, Has (w0.alloc (.cells o 24)) w0.heap.size 24 o) := fun o => Has.made _ _ _
    have HB0 : Hid (∀ o, Below w0.heap.size w0 (w0.alloc o)) := fun o => (Below.refl _ _).alloc (Nat.le_refl _) o
    have HW := Lib.hid b0; clear b0
    have z1 := Z1.out
    go_wp2_with fail
    refine (C1.out _).mono ?_
    rintro e w1 ⟨A1, c1, rfl, _, b1⟩
    have HQ1 := Lib.hid ((HM.out _).below b1 (by simp))
    have HK1 : Hid (Below w0.heap.size w0 w1) := (HB0.out _).trans (b1.mono (by simp))
    have hc1 : ∀ i, w1.cell? ⟨w0.heap.size, i, none⟩ = _ := fun i => HQ1.out.cell i
    clear b1 HM HB0 z1 x1 k1 C1
    go_wp2_with fail
    refine (C0.out _).mono ?_
    rintro e w2 ⟨rfl, b2⟩
    have HK2 := Lib.hid (HK1.out.trans (b2.mono HK1.out.size))
    clear b2 hc1 HQ1 HK1
    have m1 := M1.out
    have p1 := P1.out
    have r1 := R1.out
    rcases CNT.out with h | ⟨h1, h2, h3⟩
    · have h4 : ((n : Int) == M) = true := by rw [h]; exact beq_self_eq_true M
      clear h
      by_cases hr : R = 0
      · have h5 : (R != 0) = false := by rw [hr]; rfl
        clear hr
        go_wp2_with (go_at_call 17; refine (wnum_any _ _).mono ?_; rintro e w' ⟨rfl, rfl⟩)
        go_ret
        exact ⟨rfl, HW.out.trans (HK2.out.mono HW.out.size)⟩
      · have h5 : (R != 0) = true := by simp [hr]
        clear hr
        go_wp2_with (go_at_call 17; refine (wnum_any _ _).mono ?_; rintro e w' ⟨rfl, rfl⟩)
        go_ret
        exact ⟨rfl, HW.out.trans (HK2.out.mono HW.out.size)⟩
    · have h4 : ((n : Int) == M) = false := beq_eq_false_iff_ne.2 (by omega)
      have h5 : ((n : Int) == P) = true := by rw [h1, h2]; exact beq_self_eq_true _
      have h6 : (R != 0) = true := by simp [h3]
      clear h1 h2 h3
      go_wp2_with (go_at_call 17; refine (wnum_any _ _).mono ?_; rintro e w' ⟨rfl, rfl⟩)
      go_ret
      exact ⟨rfl, HW.out.trans (HK2.out.mono HW.out.size)⟩

end Go.Proofs.Ytkbocjmdbfddhaa
