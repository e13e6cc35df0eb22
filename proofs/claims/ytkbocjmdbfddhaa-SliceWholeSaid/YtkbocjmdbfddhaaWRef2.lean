/-
  Walks: the reference's QueryMay, Windows.
-/
import Derived.Test.YtkbocjmdbfddhaaWRef
namespace Go.Proofs.Ytkbocjmdbfddhaa
open Go.RowKit

set_option maxHeartbeats 400000 in
theorem rstep_any (kd ag sz sl rk : Int) (B : Option Addr) (m d : Nat) (w : World) (hk : kd = 0 ∨ kd = 1) :
    Calls Try.prog 46 #[.agg #[.int .i64 kd, .int .i64 ag, .int .i64 sz, .int .i64 sl, .slice B m d, .int .i64 rk]] w
      fun e w' => e = .returned (.int .i64 (stepQ kd sz sl)) ∧ Below w.heap.size w w' := by
  have hbox : ∀ o, Below w.heap.size w (w.alloc o) := fun o => (Below.refl _ _).alloc (Nat.le_refl _) o
  have HBOX := Lib.hid hbox; clear hbox
  rcases hk with rfl | rfl
  all_goals
    go_enter Try.func46, Try.ntmps46
    go_wp2_with fail
    go_ret
    exact ⟨rfl, HBOX.out _⟩

set_option maxHeartbeats 1000000 in
theorem rwin_bad (kd ag sz sl rk t : Int) (B : Option Addr) (m d : Nat) (bs : List Int) (w : World) (hb : Ints w B m bs) (hm : m ≤ maxLen)
    (h : (mayQ kd ag sz sl bs rk && (decide (kd ≠ 2) && wi t (-1099511627776) 1099511627776)) = false) :
    Calls Try.prog 15 #[.agg #[.int .i64 kd, .int .i64 ag, .int .i64 sz, .int .i64 sl, .slice B m d, .int .i64 rk], .int .i64 t] w (NoSpans w) := by
  have hbox : ∀ o, Below w.heap.size w (w.alloc o) := fun o => (Below.refl _ _).alloc (Nat.le_refl _) o
  have HBOX := Lib.hid hbox; clear hbox
  have HH := Lib.hid h; clear h
  go_enter Try.func15, Try.ntmps15
  go_wp2_with fail
  refine (queryMay_any kd ag sz sl rk B m d bs _ (hb.below (HBOX.out _)) hm).mono ?_
  rintro e w1 ⟨rfl, b1⟩
  have hB1 : Below w.heap.size w w1 := (HBOX.out _).trans (b1.mono (by simp))
  have hc1 : ∀ b o, b < w.heap.size + 1 → w1.cell? ⟨b, o, none⟩ = _ := fun b o h => oldCells b1 (Nat.le_refl _) b o (by simpa using h)
  clear b1
  cases k1 : mayQ kd ag sz sl bs rk
  · go_wp2_with fail
    go_ret2
    exact ⟨rfl, hB1⟩
  · by_cases k2 : kd = 2
    · subst k2
      go_wp2_with fail
      go_ret2
      exact ⟨rfl, hB1⟩
    · have k3 : wi t (-1099511627776) 1099511627776 = false := by
        have := HH.out
        rw [k1, decide_eq_true k2] at this
        simpa using this
      have k2' : (kd == 2) = false := by simp [k2]
      clear k2
      go_wp2_with (go_at_call 45; refine (rwithin_any _ 1099511627776 _ (by omega) (by omega)).mono ?_; rintro e w' ⟨rfl, rfl⟩)
      go_ret2
      exact ⟨rfl, hB1⟩

set_option maxRecDepth 100000 in
set_option maxHeartbeats 2000000 in
theorem rwin_ok (kd ag sz sl rk t : Int) (B : Option Addr) (m d : Nat) (bs : List Int) (w : World) (hb : Ints w B m bs) (hm : m ≤ maxLen)
    (h1 : mayQ kd ag sz sl bs rk = true) (h2 : kd ≠ 2) (h3 : wi t (-1099511627776) 1099511627776 = true) :
    Calls Try.prog 15 #[.agg #[.int .i64 kd, .int .i64 ag, .int .i64 sz, .int .i64 sl, .slice B m d, .int .i64 rk], .int .i64 t] w (OutSpans (winQ kd sz sl t) w) := by
  have hbox : ∀ o, Below w.heap.size w (w.alloc o) := fun o => (Below.refl _ _).alloc (Nat.le_refl _) o
  have HBOX := Lib.hid hbox; clear hbox
  have HAS : Hid (∀ o : Array Value, Has (w.alloc (.cells o 24)) w.heap.size 24 o) := fun o => Has.made _ _ _
  obtain ⟨s1, s2, s3, s4, s5⟩ := stepQ_bd h1
  obtain ⟨t1, t2⟩ := wi_true h3
  have k2' : (kd == 2) = false := by simp [h2]
  have hk01 : kd = 0 ∨ kd = 1 := by
    unfold mayQ at h1
    simp only [Bool.and_eq_true] at h1
    have := wi_true h1.1
    omega
  clear h2
  obtain ⟨b1, b2, b3, b4⟩ := win_bd t (stepQ kd sz sl) sz s1 s2 s5
  have hW : winQ kd sz sl t = winL ((t - sz) / stepQ kd sz sl) (stepQ kd sz sl) sz (t / stepQ kd sz sl - (t - sz) / stepQ kd sz sl).toNat := rfl
  have HST := Lib.hid (fun W => rstep_any kd ag sz sl rk B m d W hk01)
  clear hk01
  have HG := Lib.hid (win_begin t (stepQ kd sz sl) sz s1)
  have D2 := down_ok t (stepQ kd sz sl) _ (by omega) (by omega) s1 rfl
  have l3 : -2199023255552 ≤ (t - sz) / stepQ kd sz sl := Int.le_ediv_of_mul_le (by omega) (by have := Int.mul_le_mul_of_nonneg_left s1 (show (0 : Int) ≤ 2199023255552 by decide); omega)
  have l4 : t / stepQ kd sz sl ≤ 2199023255552 := Int.ediv_le_of_le_mul (by omega) (by have := Int.mul_le_mul_of_nonneg_left s1 (show (0 : Int) ≤ 2199023255552 by decide); omega)
  have m1 := Int.ediv_mul_add_emod t (stepQ kd sz sl)
  have m2 := Int.emod_nonneg t (show stepQ kd sz sl ≠ 0 by omega)
  have m3 := Int.emod_lt_of_pos t (show 0 < stepQ kd sz sl by omega)
  have m4 := Int.ediv_mul_le (sz - 1) (show stepQ kd sz sl ≠ 0 by omega)
  have m5 : (sz - 1).tdiv (stepQ kd sz sl) = (sz - 1) / stepQ kd sz sl := Int.tdiv_eq_ediv_of_nonneg (by omega)
  have m6 : (sz - 1) / stepQ kd sz sl ≤ sz - 1 := Int.ediv_le_self _ (by omega)
  generalize stepQ kd sz sl = k at *
  obtain ⟨n, hn⟩ : ∃ n : Nat, t / k - (t - sz) / k = (n : Int) := ⟨(t / k - (t - sz) / k).toNat, by omega⟩
  rw [hn, Int.toNat_natCast] at hW
  rw [hW]
  clear hW
  generalize (t - sz) / k = a at *
  generalize t / k = L at *
  generalize (sz - 1) / k = P at *
  obtain ⟨LK, hLK⟩ : ∃ LK, L * k = LK := ⟨_, rfl⟩
  have x1 : t - k < LK := by omega
  have x2 : LK ≤ t := by omega
  have x3 : wrap64 (L * k) = LK := by rw [hLK]; unfold wrap64; omega
  have HLK := Lib.hid hLK; clear hLK
  have HPK := Lib.hid m4
  clear m1 m2 m3 m4
  have HD2 := Lib.hid D2; clear D2
  have hLn1 : L - a ≤ (n : Int) := by omega
  have hLn2 : (n : Int) ≤ L - a := by omega
  clear hn
  go_enter Try.func15, Try.ntmps15
  go_wp2_with fail
  refine (queryMay_any kd ag sz sl rk B m d bs _ (hb.below (HBOX.out _)) hm).mono ?_
  rintro e w1 ⟨rfl, b3⟩
  have HB1 : Hid (Below w.heap.size w w1) := (HBOX.out _).trans (b3.mono (by simp))
  have HA1 : Hid (Has w1 w.heap.size 24 #[.int .i64 kd, .int .i64 ag, .int .i64 sz, .int .i64 sl, .slice B m d, .int .i64 rk]) := (HAS.out _).below b3 (by simp)
  have hc1 : ∀ i, w1.cell? ⟨w.heap.size, i, none⟩ = _ := fun i => HA1.out.cell i
  clear b3 HAS HBOX
  go_wp2_with (go_at_call 45; refine (rwithin_any _ 1099511627776 _ (by omega) (by omega)).mono ?_; rintro e w' ⟨rfl, rfl⟩)
  refine (HST.out _).mono ?_
  rintro e w2 ⟨rfl, b3⟩
  have HB2 : Hid (Below w.heap.size w w2) := HB1.out.trans (b3.mono HB1.out.size)
  have HA2 := Lib.hid (HA1.out.below b3 HA1.out.lt)
  have hc2 : ∀ i, w2.cell? ⟨w.heap.size, i, none⟩ = _ := fun i => HA2.out.cell i
  clear b3 hc1 HB1 HA1
  go_wp2_with fail
  refine (HD2.out _).mono ?_
  rintro e w' ⟨rfl, rfl⟩
  go_wp2_with fail
  have HS : Hid (OfS w a k sz n w.heap.size #[.int .i64 kd, .int .i64 ag, .int .i64 sz, .int .i64 sl, .slice B m d, .int .i64 rk] (.slice none 0 0) 0 w2) :=
    ⟨OwnS.nil _ _, HA2.out, HB2.out, rfl, Nat.zero_le _⟩
  clear hc2 HB2 HA2
  rw [x3]
  clear x3
  go_loopw [8, 9] (fun v i wr => ∃ (j : Nat) (I : Int), i = .int .i64 I ∧ -1 ≤ I ∧ I ≤ P ∧ n - 1 - I ≤ (j : Int) ∧ (j = 0 ∨ (j : Int) ≤ n - 1 - I) ∧ Hid (OfS w a k sz n w.heap.size #[.int .i64 kd, .int .i64 ag, .int .i64 sz, .int .i64 sl, .slice B m d, .int .i64 rk] v j wr)) (fun _ i _ => (intOf i + 1).toNat)
  case atStart => exact ⟨0, P, rfl, by omega, by omega, by omega, Or.inl rfl, HS⟩
  case round =>
    clear HS
    obtain ⟨j, I, rfl, i1, i2, j1, j2, HS⟩ := hrel
    have hjn := HS.out.le
    by_cases hlt : 0 ≤ I
    · obtain ⟨IK, hIK⟩ : ∃ IK, I * k = IK := ⟨_, rfl⟩
      have y1 : 0 ≤ IK := by rw [← hIK]; exact Int.mul_nonneg hlt (by omega)
      have y2 : IK ≤ sz - 1 := by rw [← hIK]; exact Int.le_trans (Int.mul_le_mul_of_nonneg_right i2 (by omega)) HPK.out
      have y3 : wrap64 (I * k) = IK := by rw [hIK]; unfold wrap64; omega
      have hz : (L - I) * k = LK - IK := by rw [Int.sub_mul, HLK.out, hIK]
      have hg1 : a < L - I ↔ t - sz < LK - IK := by rw [← hz]; exact (HG.out (L - I)).1
      have HZ := Lib.hid hz; clear hz hIK
      have hcell : ∀ o, (wr.alloc o).cell? ⟨w.heap.size, 2, none⟩ = some (.int .i64 sz) := fun o => (HS.out.box.alloc o).cell 2
      have hcell0 : wr.cell? ⟨w.heap.size, 2, none⟩ = some (.int .i64 sz) := HS.out.box.cell 2
      have hlt0 := HS.out.box.lt
      have hg8 : n ≤ 64 := by omega
      by_cases hap : t < LK - IK + sz
      · have hj2 : (j : Int) = n - 1 - I := by
          have := hg1.2 (by omega)
          omega
        have e2 : winL a k sz j ++ [(LK - IK, LK - IK + sz)] = winL a k sz (j + 1) := by
          rw [winL, show a + 1 + (j : Int) = L - I by omega, HZ.out]
        have HJ := Lib.hid hj2; clear hj2 hg1
        go_wp2_with (refine app_span rfl _ _ rfl rfl (HS.out.own.below ((Below.refl _ _).alloc (Nat.le_refl _) _)) rfl (Has.made _ _ _) (by rw [winL_len]; omega) (by simp; omega) ?_; intro A c wn hwn hbn)
        go_roundw
        case rel =>
          rw [e2] at hwn
          have hbw : Below (w.heap.size + 1) wr wn := ((Below.refl _ _).alloc (by omega) _).trans hbn
          have hS2 : Hid (OfS w a k sz n w.heap.size #[.int .i64 kd, .int .i64 ag, .int .i64 sz, .int .i64 sl, .slice B m d, .int .i64 rk] (.slice A ((winL a k sz j).length + 1) c) (j + 1) wn) := ⟨hwn, HS.out.box.below hbw (by omega), HS.out.keep.trans (hbw.mono (by omega)), rfl, by have := HJ.out; omega⟩
          have hJ := HJ.out
          first
            | exact ⟨j + 1, I - 1, by go_num, by omega, by omega, by omega, by omega, hS2⟩
            | ((repeat apply Exists.intro); exact ⟨⟨j + 1, I - 1, by go_num, by omega, by omega, by omega, by omega, hS2⟩, rfl⟩)
        case measure => simp [intOf]; omega
      · have hj0 : n ≤ I := by
          have : ¬ a < L - I := fun h => by have := hg1.1 h; omega
          omega
        clear hg1
        go_wp2_with fail
        go_roundw
        case rel => exact ⟨j, I - 1, by go_num, by omega, by omega, by omega, by omega, HS⟩
        case measure => simp [intOf]; omega
    · have hj : j = n := by omega
      subst hj
      obtain ⟨A, c, rfl, _⟩ := HS.out.own.form
      go_wp2_with fail
      go_ret2
      exact ⟨A, c, rfl, HS.out.own.mono (by omega), HS.out.keep⟩

end Go.Proofs.Ytkbocjmdbfddhaa
