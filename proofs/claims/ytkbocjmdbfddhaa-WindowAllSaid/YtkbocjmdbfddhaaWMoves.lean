/-
  Walk: WindowMoves: a time that is moved by a multiple has its windows moved by it.
-/
import Derived.Test.YtkbocjmdbfddhaaWWin
namespace Go.Proofs.Ytkbocjmdbfddhaa
open Go.RowKit

set_option maxRecDepth 100000 in
set_option maxHeartbeats 4000000 in
theorem moves_any (kd ag sz sl rk : Int) (B : Option Addr) (m d : Nat) (bs : List Int) (t c : Int) (w : World) (hb : Ints w B m bs) (hm : m ≤ maxLen) (_ : (Lit.int .i64 t).wf = true) (_ : (Lit.int .i64 c).wf = true) :
    Calls Try.prog 7 #[.agg #[.int .i64 kd, .int .i64 ag, .int .i64 sz, .int .i64 sl, .slice B m d, .int .i64 rk], .int .i64 t, .int .i64 c] w fun e w' => e = .returned (.bool true) ∧ Below w.heap.size w w' := by
  have HI := Lib.hid hb; clear hb
  have HS0 : Hid (WiS w #[.int .i64 kd, .int .i64 ag, .int .i64 sz, .int .i64 sl, .slice B m d, .int .i64 rk] B m bs (w.alloc (.cells #[.int .i64 kd, .int .i64 ag, .int .i64 sz, .int .i64 sl, .slice B m d, .int .i64 rk] 24))) :=
    ⟨Has.made _ _ _, HI.out.below ((Below.refl _ _).alloc (Nat.le_refl _) _), (Below.refl _ _).alloc (Nat.le_refl _) _⟩
  go_enter Try.func7, Try.ntmps7
  go_wp2_with fail
  refine (wawake_any _).mono ?_
  rintro e w1 ⟨rfl, b1⟩
  have HS1 := Lib.hid (HS0.out.below HI.out b1 (by simp))
  have hc1 : ∀ i, w1.cell? ⟨w.heap.size, i, none⟩ = _ := fun i => HS1.out.box.cell i
  clear b1 HS0
  go_wp2_with fail
  refine (may4_any kd ag sz sl rk B m d bs _ HS1.out.bnd hm).mono ?_
  rintro e w2 ⟨rfl, b2⟩
  have HS2 := Lib.hid (HS1.out.below HI.out b2 HS1.out.box.lt)
  have hc2 : ∀ i, w2.cell? ⟨w.heap.size, i, none⟩ = _ := fun i => HS2.out.box.cell i
  clear b2 HS1 hc1
  cases h1 : mayQ kd ag sz sl bs rk
  · go_wp2_with fail
    go_ret
    exact ⟨rfl, HS2.out.keep⟩
  · by_cases h2 : kd = 2
    · subst h2
      go_wp2_with fail
      go_ret
      exact ⟨rfl, HS2.out.keep⟩
    · have k2' : (kd == 2) = false := by simp [h2]
      by_cases h3 : 1048576 < sz
      · clear h2
        go_wp2_with fail
        go_ret
        exact ⟨rfl, HS2.out.keep⟩
      · obtain ⟨s1, s2, s3, s4, s5⟩ := stepQ_bd h1
        have hk01 : kd = 0 ∨ kd = 1 := by
          unfold mayQ at h1
          simp only [Bool.and_eq_true] at h1
          have := wi_true h1.1
          omega
        obtain ⟨T, t1, t2, t3⟩ : ∃ T : Int, t.tmod 1000000 = T ∧ -1000000 ≤ T ∧ T ≤ 1000000 := ⟨_, rfl, by have := Int.lt_tmod_of_pos t (show (0 : Int) < 1000000 by decide); omega, by have := Int.tmod_lt_of_pos t (show (0 : Int) < 1000000 by decide); omega⟩
        obtain ⟨C, c1, c2, c3⟩ : ∃ C : Int, c.tmod 1000 = C ∧ -1000 ≤ C ∧ C ≤ 1000 := ⟨_, rfl, by have := Int.lt_tmod_of_pos c (show (0 : Int) < 1000 by decide); omega, by have := Int.tmod_lt_of_pos c (show (0 : Int) < 1000 by decide); omega⟩
        have hO : ∀ t W B d, Ints W B m bs → wi t (-1099511627776) 1099511627776 = true → Calls Try.prog 14 #[.agg #[.int .i64 kd, .int .i64 ag, .int .i64 sz, .int .i64 sl, .slice B m d, .int .i64 rk], .int .i64 t] W (OutSpans (winQ kd sz sl t) W) :=
          fun t W B d hI ht => of_ok kd ag sz sl rk t B m d bs W hI hm h1 h2 ht
        have hW : ∀ t, winQ kd sz sl t = winL ((t - sz) / stepQ kd sz sl) (stepQ kd sz sl) sz (t / stepQ kd sz sl - (t - sz) / stepQ kd sz sl).toNat := fun t => rfl
        have hstep : (kd = 0 → stepQ kd sz sl = sz) ∧ (kd = 1 → stepQ kd sz sl = sl) := ⟨fun e => by subst e; rfl, fun e => by subst e; rfl⟩
        have hbd := win_bd T (stepQ kd sz sl) sz s1 s2 s5
        have hmv := moved T C (stepQ kd sz sl) sz s1
        have hg := win_begin T (stepQ kd sz sl) sz s1
        generalize stepQ kd sz sl = k at *
        obtain ⟨MM, mm⟩ : ∃ MM, C * k = MM := ⟨_, rfl⟩
        have mm1 : -1048576000 ≤ MM ∧ MM ≤ 1048576000 := by
          have e1 := Int.mul_le_mul_of_nonneg_right c3 (show 0 ≤ k by omega)
          have e2 := Int.mul_le_mul_of_nonneg_right c2 (show 0 ≤ k by omega)
          omega
        obtain ⟨n, hn⟩ : ∃ n : Nat, T / k - (T - sz) / k = (n : Int) := ⟨(T / k - (T - sz) / k).toNat, by omega⟩
        have W1 : winQ kd sz sl T = winL ((T - sz) / k) k sz n := by rw [hW, hn, Int.toNat_natCast]
        have W2 : winQ kd sz sl (T + MM) = winL ((T - sz) / k + C) k sz n := by
          rw [hW, ← mm, hmv.1, hmv.2, show T / k + C - ((T - sz) / k + C) = (n : Int) by omega, Int.toNat_natCast]
        have O1 : Hid (∀ W B d, Ints W B m bs → Calls Try.prog 14 #[.agg #[.int .i64 kd, .int .i64 ag, .int .i64 sz, .int .i64 sl, .slice B m d, .int .i64 rk], .int .i64 T] W (BothS (winL ((T - sz) / k) k sz n) n 0 W)) := fun W B d hI => by
          have := hO T W B d hI (wi_mk (by omega))
          rw [W1] at this
          exact this.mono fun e w' h => by have := both_of h; rwa [winL_len] at this
        have O2 : Hid (∀ W B d, Ints W B m bs → Calls Try.prog 14 #[.agg #[.int .i64 kd, .int .i64 ag, .int .i64 sz, .int .i64 sl, .slice B m d, .int .i64 rk], .int .i64 (T + MM)] W (BothS (winL ((T - sz) / k + C) k sz n) n 0 W)) := fun W B d hI => by
          have := hO (T + MM) W B d hI (wi_mk (by omega))
          rw [W2] at this
          exact this.mono fun e w' h => by have := both_of h; rwa [winL_len] at this
        clear hO hW W1 W2 hmv h2
        generalize (T - sz) / k = a at *
        generalize T / k = L at *
        have n1 : 1 ≤ n ∧ n ≤ 64 := by omega
        have HZ : Hid (∀ j : Nat, j < n → T - sz < (a + 1 + (j : Int)) * k ∧ (a + 1 + (j : Int)) * k ≤ T ∧ (a + C + 1 + (j : Int)) * k = (a + 1 + (j : Int)) * k + MM) := fun j hj =>
          ⟨(hg (a + 1 + j)).1.1 (by omega), (hg (a + 1 + j)).2.1 (by omega), by rw [← mm, show a + C + 1 + (j : Int) = (a + 1 + j) + C by omega, Int.add_mul]⟩
        have mm3 : wrap64 (C * k) = MM := by rw [mm]; unfold wrap64; omega
        clear hn hg hbd s5 mm
        rcases hk01 with rfl | rfl
        · obtain rfl : sz = k := (hstep.1 rfl).symm
          clear hstep k2'
          go_wp2_with fail
          rw [mm3]
          clear mm3 t1 c1
          refine (O1.out _ _ _ HS2.out.bnd).mono ?_
          rintro e w3 ⟨A1, e1, rfl, o1, b3⟩
          have HS3 := Lib.hid (HS2.out.below HI.out b3 HS2.out.box.lt)
          have HA3 := Lib.hid o1
          have hc3 : ∀ i, w3.cell? ⟨w.heap.size, i, none⟩ = _ := fun i => HS3.out.box.cell i
          clear b3 o1 HS2 hc2 O1
          go_wp2_with fail
          refine (O2.out _ _ _ HS3.out.bnd).mono ?_
          rintro e w4 ⟨A2, e2, rfl, o2, b4⟩
          have HS4 := Lib.hid (HS3.out.below HI.out b4 HS3.out.box.lt)
          have HA4 := Lib.hid (HA3.out.below b4)
          have HB4 := Lib.hid o2
          clear b4 o2 HS3 hc3 HA3 O2
          have nn0 : ((n : Int) == 0) = false := beq_eq_false_iff_ne.2 (by omega)
          go_wp2_with (go_at_call 17; refine (wnum_any _ _).mono ?_; rintro e w' ⟨rfl, rfl⟩)
          go_loopw [14] (fun i wr => ∃ j : Nat, j ≤ n ∧ i = .int .i64 j ∧ ∃ p, wr = w4.drewN p) (fun i _ => n - (intOf i).toNat)
          case atStart => exact ⟨0, Nat.zero_le _, rfl, 0, rfl⟩
          case round =>
            obtain ⟨j, hj, rfl, p, rfl⟩ := hrel
            by_cases hlt : j < n
            · obtain ⟨z, hz⟩ : ∃ z, (a + 1 + (j : Int)) * sz = z := ⟨_, rfl⟩
              obtain ⟨y1, y2, y3⟩ := HZ.out j hlt
              rw [hz] at y1 y2 y3
              obtain ⟨g1, f1, rfl, d1, d2⟩ := span_at HA4.out.spans hlt hz
              obtain ⟨g2, f2, rfl, d3, d4⟩ := span_at HB4.out.spans hlt y3
              rw [show z + MM + sz = z + sz + MM by omega] at d4
              clear hz y3
              have hlt2 : (j : Int) < (n : Int) := by omega
              have q1 : wrap64 (z + MM) = z + MM := by unfold wrap64; omega
              have q2 : wrap64 (z + sz + MM) = z + sz + MM := by unfold wrap64; omega
              go_wp2
              go_quiet (fail)
              go_wp2
              go_roundw
              case rel => exact ⟨j + 1, by omega, by go_num, p + nq, by first | rfl | rw [World.drewN_drewN]⟩
              case measure => simp [intOf]; omega
            · have hjn : n = j := by omega
              subst hjn
              go_wp2_with fail
              go_ret
              exact ⟨rfl, below_drewN HS4.out.keep p⟩
        · obtain rfl : sl = k := (hstep.2 rfl).symm
          clear hstep k2'
          go_wp2_with fail
          rw [mm3]
          clear mm3 t1 c1
          refine (O1.out _ _ _ HS2.out.bnd).mono ?_
          rintro e w3 ⟨A1, e1, rfl, o1, b3⟩
          have HS3 := Lib.hid (HS2.out.below HI.out b3 HS2.out.box.lt)
          have HA3 := Lib.hid o1
          have hc3 : ∀ i, w3.cell? ⟨w.heap.size, i, none⟩ = _ := fun i => HS3.out.box.cell i
          clear b3 o1 HS2 hc2 O1
          go_wp2_with fail
          refine (O2.out _ _ _ HS3.out.bnd).mono ?_
          rintro e w4 ⟨A2, e2, rfl, o2, b4⟩
          have HS4 := Lib.hid (HS3.out.below HI.out b4 HS3.out.box.lt)
          have HA4 := Lib.hid (HA3.out.below b4)
          have HB4 := Lib.hid o2
          clear b4 o2 HS3 hc3 HA3 O2
          have nn0 : ((n : Int) == 0) = false := beq_eq_false_iff_ne.2 (by omega)
          go_wp2_with (go_at_call 17; refine (wnum_any _ _).mono ?_; rintro e w' ⟨rfl, rfl⟩)
          go_loopw [14] (fun i wr => ∃ j : Nat, j ≤ n ∧ i = .int .i64 j ∧ ∃ p, wr = w4.drewN p) (fun i _ => n - (intOf i).toNat)
          case atStart => exact ⟨0, Nat.zero_le _, rfl, 0, rfl⟩
          case round =>
            obtain ⟨j, hj, rfl, p, rfl⟩ := hrel
            by_cases hlt : j < n
            · obtain ⟨z, hz⟩ : ∃ z, (a + 1 + (j : Int)) * sl = z := ⟨_, rfl⟩
              obtain ⟨y1, y2, y3⟩ := HZ.out j hlt
              rw [hz] at y1 y2 y3
              obtain ⟨g1, f1, rfl, d1, d2⟩ := span_at HA4.out.spans hlt hz
              obtain ⟨g2, f2, rfl, d3, d4⟩ := span_at HB4.out.spans hlt y3
              rw [show z + MM + sz = z + sz + MM by omega] at d4
              clear hz y3
              have hlt2 : (j : Int) < (n : Int) := by omega
              have q1 : wrap64 (z + MM) = z + MM := by unfold wrap64; omega
              have q2 : wrap64 (z + sz + MM) = z + sz + MM := by unfold wrap64; omega
              go_wp2
              go_quiet (fail)
              go_wp2
              go_roundw
              case rel => exact ⟨j + 1, by omega, by go_num, p + nq, by first | rfl | rw [World.drewN_drewN]⟩
              case measure => simp [intOf]; omega
            · have hjn : n = j := by omega
              subst hjn
              go_wp2_with fail
              go_ret
              exact ⟨rfl, below_drewN HS4.out.keep p⟩

end Go.Proofs.Ytkbocjmdbfddhaa
