/-
  Walks: the reference's Unit, At, Cut.
-/
import Derived.Test.YtkbocjmdbfddhaaWRef2
import Derived.Test.YtkbocjmdbfddhaaSlDef
import Derived.Test.YtkbocjmdbfddhaaSlRc
import Derived.Test.YtkbocjmdbfddhaaSlCut
import Derived.Deep.DeepCutAuto
import Derived.OpenShut
namespace Go.Proofs.Ytkbocjmdbfddhaa
open Go.RowKit

set_option maxRecDepth 100000 in
set_option maxHeartbeats 1000000 in
theorem runit_bad (kd ag sz sl rk : Int) (B : Option Addr) (m d : Nat) (bs : List Int) (w : World) (hb : Ints w B m bs) (hm : m ≤ maxLen) (h : (mayQ kd ag sz sl bs rk && decide (kd ≠ 2)) = false) :
    Calls Try.prog 23 #[.agg #[.int .i64 kd, .int .i64 ag, .int .i64 sz, .int .i64 sl, .slice B m d, .int .i64 rk]] w (NoUnit w) := by
  have hbox : ∀ o, Below w.heap.size w (w.alloc o) := fun o => (Below.refl _ _).alloc (Nat.le_refl _) o
  have HBOX := Lib.hid hbox; clear hbox
  have HH := Lib.hid h; clear h
  go_enter Try.func23, Try.ntmps23
  go_wp2_with fail
  refine (queryMay_any kd ag sz sl rk B m d bs _ (hb.below (HBOX.out _)) hm).mono ?_
  rintro e w1 ⟨rfl, b1⟩
  have hB1 : Below w.heap.size w w1 := (HBOX.out _).trans (b1.mono (by simp))
  have hc1 : ∀ b o, b < w.heap.size + 1 → w1.cell? ⟨b, o, none⟩ = _ := fun b o h => oldCells b1 (Nat.le_refl _) b o (by simpa using h)
  clear b1
  cases k1 : mayQ kd ag sz sl bs rk
  · go_wp2_with fail
    go_ret2
    exact ⟨rfl, hB1⟩
  · obtain rfl : kd = 2 := by
      have := HH.out
      rw [k1] at this
      simpa using this
    go_wp2_with fail
    go_ret2
    exact ⟨rfl, hB1⟩

set_option maxRecDepth 100000 in
set_option maxHeartbeats 1000000 in
theorem runit_ok (kd ag sz sl rk : Int) (B : Option Addr) (m d : Nat) (bs : List Int) (w : World) (hb : Ints w B m bs) (hm : m ≤ maxLen) (h1 : mayQ kd ag sz sl bs rk = true) (h2 : kd ≠ 2) :
    Calls Try.prog 23 #[.agg #[.int .i64 kd, .int .i64 ag, .int .i64 sz, .int .i64 sl, .slice B m d, .int .i64 rk]] w (OutUnit (unitQ kd sz sl) w) := by
  have hbox : ∀ o, Below w.heap.size w (w.alloc o) := fun o => (Below.refl _ _).alloc (Nat.le_refl _) o
  have HBOX := Lib.hid hbox; clear hbox
  obtain ⟨s1, s2, s3, s4, s5⟩ := stepQ_bd h1
  have hk01 : kd = 0 ∨ kd = 1 := by
    unfold mayQ at h1
    simp only [Bool.and_eq_true] at h1
    have := wi_true h1.1
    omega
  go_enter Try.func23, Try.ntmps23
  go_wp2_with fail
  refine (queryMay_any kd ag sz sl rk B m d bs _ (hb.below (HBOX.out _)) hm).mono ?_
  rw [h1]
  rintro e w1 ⟨rfl, b1⟩
  have hB1 : Below w.heap.size w w1 := (HBOX.out _).trans (b1.mono (by simp))
  have hc1 : ∀ b o, b < w.heap.size + 1 → w1.cell? ⟨b, o, none⟩ = _ := fun b o h => oldCells b1 (Nat.le_refl _) b o (by simpa using h)
  clear b1
  rcases hk01 with rfl | rfl
  · go_wp2_with fail
    go_ret2
    exact ⟨rfl, hB1⟩
  · have HG : Hid (unitQ 1 sz sl = gcdI sz sl) := rfl
    rw [HG.out]
    have e : stepQ 1 sz sl = sl := rfl
    rw [e] at s1 s2
    clear e h2 s5
    go_wp2_with fail
    refine (rgcd_ok sz sl _ s3 (by omega) s1 (by omega) rfl _).mono ?_
    rintro e w2 ⟨rfl, k, rfl⟩
    go_wp2_with fail
    go_ret2
    exact ⟨rfl, below_drewN hB1 k⟩

set_option maxRecDepth 100000 in
set_option maxHeartbeats 1000000 in
theorem rat_bad (kd ag sz sl rk t : Int) (B : Option Addr) (m d : Nat) (bs : List Int) (w : World) (hb : Ints w B m bs) (hm : m ≤ maxLen) (h : (mayQ kd ag sz sl bs rk && (decide (kd ≠ 2) && wi t (-1099511627776) 1099511627776)) = false) :
    Calls Try.prog 25 #[.agg #[.int .i64 kd, .int .i64 ag, .int .i64 sz, .int .i64 sl, .slice B m d, .int .i64 rk], .int .i64 t] w (NoAt w) := by
  have HBOX : Hid (∀ o1 o2, Below w.heap.size w ((w.alloc o1).alloc o2)) := fun o1 o2 => below_alloc ((Below.refl _ _).alloc (Nat.le_refl _) _) (Nat.le_refl _) _
  have HNEW : Hid (∀ o1 cs, Has ((w.alloc o1).alloc (.cells cs 38)) (w.heap.size + 1) 38 cs) := fun o1 cs => heap_alloc2_new w _ _
  have HH := Lib.hid h; clear h
  go_enter Try.func25, Try.ntmps25
  go_wp2_with fail
  cases k0 : (mayQ kd ag sz sl bs rk && decide (kd ≠ 2))
  · refine (runit_bad kd ag sz sl rk B m d bs _ (hb.below (HBOX.out _ _)) hm k0).mono ?_
    rintro e w1 ⟨rfl, b1⟩
    have HR := (HNEW.out _ _).below b1 (by simp)
    have hB1 : Below w.heap.size w w1 := (HBOX.out _ _).trans (b1.mono (by simp; omega))
    clear b1
    go_wp2_with (refine store_span rfl _ _ rfl _ rfl rfl HR rfl ?_)
    refine bodyPost_ret (ret_span rfl _ _ _ 0 0 rfl (HR.row _)) rfl ?_
    exact ⟨rfl, below_row hB1 (by omega) _⟩
  · have k1 := k0
    simp only [Bool.and_eq_true] at k1
    have k2 := of_decide_eq_true k1.2
    have k3 : wi t (-1099511627776) 1099511627776 = false := by
      have := HH.out
      rw [← Bool.and_assoc, k0] at this
      simpa using this
    refine (runit_ok kd ag sz sl rk B m d bs _ (hb.below (HBOX.out _ _)) hm k1.1 k2).mono ?_
    rintro e w1 ⟨rfl, b1⟩
    clear k0 k1 k2
    have HR := (HNEW.out _ _).below b1 (by simp)
    have hB1 : Below w.heap.size w w1 := (HBOX.out _ _).trans (b1.mono (by simp; omega))
    clear b1
    go_wp2_with (first
      | (go_at_call 45; refine (rwithin_any _ 1099511627776 _ (by omega) (by omega)).mono ?_; rintro e w' ⟨rfl, rfl⟩)
      | (refine store_span rfl _ _ rfl _ rfl rfl HR rfl ?_))
    refine bodyPost_ret (ret_span rfl _ _ _ 0 0 rfl (HR.row _)) rfl ?_
    exact ⟨rfl, below_row hB1 (by omega) _⟩

set_option maxRecDepth 100000 in
set_option maxHeartbeats 1000000 in
theorem rat_ok (kd ag sz sl rk t : Int) (B : Option Addr) (m d : Nat) (bs : List Int) (w : World) (hb : Ints w B m bs) (hm : m ≤ maxLen) (h1 : mayQ kd ag sz sl bs rk = true) (h2 : kd ≠ 2) (h3 : wi t (-1099511627776) 1099511627776 = true) :
    Calls Try.prog 25 #[.agg #[.int .i64 kd, .int .i64 ag, .int .i64 sz, .int .i64 sl, .slice B m d, .int .i64 rk], .int .i64 t] w (OutAt (t / unitQ kd sz sl * unitQ kd sz sl) (unitQ kd sz sl) w) := by
  have HBOX : Hid (∀ o1 o2, Below w.heap.size w ((w.alloc o1).alloc o2)) := fun o1 o2 => below_alloc ((Below.refl _ _).alloc (Nat.le_refl _) _) (Nat.le_refl _) _
  have HNEW : Hid (∀ o1 cs, Has ((w.alloc o1).alloc (.cells cs 38)) (w.heap.size + 1) 38 cs) := fun o1 cs => heap_alloc2_new w _ _
  obtain ⟨u1, u2, _, _, _⟩ := unitQ_bd h1 h2
  obtain ⟨_, _, s3, s4, _⟩ := stepQ_bd h1
  obtain ⟨t1, t2⟩ := wi_true h3
  obtain ⟨a1, a2⟩ := at_bd t (unitQ kd sz sl) u1
  have HU := Lib.hid (fun W hI => runit_ok kd ag sz sl rk B m d bs W hI hm h1 h2)
  have HD := Lib.hid (down_ok t (unitQ kd sz sl) _ (by omega) (by omega) u1 rfl)
  generalize unitQ kd sz sl = u at *
  generalize t / u = p at *
  obtain ⟨z, hz⟩ : ∃ z, p * u = z := ⟨_, rfl⟩
  rw [hz] at a1 a2 ⊢
  have z1 : wrap64 (p * u) = z := by rw [hz]; unfold wrap64; omega
  clear h1 h2 hz
  go_enter Try.func25, Try.ntmps25
  go_wp2_with fail
  refine (HU.out _ (hb.below (HBOX.out _ _))).mono ?_
  rintro e w1 ⟨rfl, b1⟩
  have HR := (HNEW.out _ _).below b1 (by simp)
  have hB1 : Below w.heap.size w w1 := (HBOX.out _ _).trans (b1.mono (by simp; omega))
  clear b1 HU
  go_wp2_with (go_at_call 45; refine (rwithin_any _ 1099511627776 _ (by omega) (by omega)).mono ?_; rintro e w' ⟨rfl, rfl⟩)
  refine (HD.out _).mono ?_
  rintro e w' ⟨rfl, rfl⟩
  go_wp2_with (refine store_span rfl _ _ rfl _ rfl rfl HR rfl ?_)
  refine bodyPost_ret (ret_span rfl _ _ _ _ _ rfl (HR.row _)) rfl ?_
  exact ⟨rfl, below_row hB1 (by omega) _⟩

/-- The boxes of the reference's Cut. -/
structure RcS (w : World) (kd ag sz sl rk s e : Int) (B : Option Addr) (m d : Nat) (wr : World) : Prop where
  box : Has wr w.heap.size 24 #[.int .i64 kd, .int .i64 ag, .int .i64 sz, .int .i64 sl, .slice B m d, .int .i64 rk]
  sp : Has wr (w.heap.size + 1) 38 #[.int .i64 s, .int .i64 e]
  keep : Below w.heap.size w wr

set_option maxRecDepth 100000 in
set_option maxHeartbeats 2000000 in
theorem rcut_bad (kd ag sz sl rk s e : Int) (B : Option Addr) (m d : Nat) (bs : List Int) (w : World) (hb : Ints w B m bs) (hm : m ≤ maxLen) (he : (Lit.int .i64 e).wf = true) (hs : (Lit.int .i64 s).wf = true) (h : (mayQ kd ag sz sl bs rk && (decide (kd ≠ 2) && cutB kd sz sl s e)) = false) :
    Calls Try.prog 27 #[.agg #[.int .i64 kd, .int .i64 ag, .int .i64 sz, .int .i64 sl, .slice B m d, .int .i64 rk], .agg #[.int .i64 s, .int .i64 e]] w (NoCut w) := by
  have e1 := bounds_i64 he
  have e2 := bounds_i64 hs
  have HBOX : Hid (∀ o1 o2, Below w.heap.size w ((w.alloc o1).alloc o2)) := fun o1 o2 => below_alloc ((Below.refl _ _).alloc (Nat.le_refl _) _) (Nat.le_refl _) _
  have HS : Hid (RcS w kd ag sz sl rk s e B m d ((w.alloc (.cells #[.int .i64 kd, .int .i64 ag, .int .i64 sz, .int .i64 sl, .slice B m d, .int .i64 rk] 24)).alloc (.cells #[.int .i64 s, .int .i64 e] 38))) :=
    ⟨(Has.made _ _ _).alloc _, heap_alloc2_new w _ _, HBOX.out _ _⟩
  have HH := Lib.hid h; clear h
  go_enter Try.func27, Try.ntmps27
  go_wp2_with fail
  cases k0 : (mayQ kd ag sz sl bs rk && decide (kd ≠ 2))
  · refine (runit_bad kd ag sz sl rk B m d bs _ (hb.below (HBOX.out _ _)) hm k0).mono ?_
    rintro x w1 ⟨rfl, b1⟩
    have hB1 : Below w.heap.size w w1 := (HBOX.out _ _).trans (b1.mono (by simp; omega))
    clear b1
    go_wp2_with fail
    go_quiet (fail)
    go_wp2_with fail
    go_ret2
    exact ⟨rfl, below_drewN hB1 _⟩
  · have k1 := k0
    simp only [Bool.and_eq_true] at k1
    have k2 := of_decide_eq_true k1.2
    have k3 : cutB kd sz sl s e = false := by
      have := HH.out
      rw [← Bool.and_assoc, k0] at this
      simpa using this
    have hk01 : kd = 0 ∨ kd = 1 := by
      have h1 := k1.1
      unfold mayQ at h1
      simp only [Bool.and_eq_true] at h1
      have := wi_true h1.1
      omega
    obtain ⟨s1, s2, s3, s4, _⟩ := stepQ_bd k1.1
    refine (runit_ok kd ag sz sl rk B m d bs _ (hb.below (HBOX.out _ _)) hm k1.1 k2).mono ?_
    rintro x w1 ⟨rfl, b1⟩
    have HS1 : Hid (RcS w kd ag sz sl rk s e B m d w1) := ⟨HS.out.box.below b1 (by simp; omega), HS.out.sp.below b1 (by simp), HS.out.keep.trans (b1.mono (by simp; omega))⟩
    have hcq : ∀ i, w1.cell? ⟨w.heap.size, i, none⟩ = _ := fun i => HS1.out.box.cell i
    have hcs : ∀ i, w1.cell? ⟨w.heap.size + 1, i, none⟩ = _ := fun i => HS1.out.sp.cell i
    clear b1 k0 k1 k2 HS HBOX
    unfold cutB at k3
    have k4 := of_decide_eq_false k3
    clear k3
    by_cases g1 : s < -1100585369600
    · have f1 : decide (s < -1100585369600) = true := decide_eq_true g1
      go_wp2_with fail
      go_quiet (fail)
      go_wp2_with fail
      go_ret2
      exact ⟨rfl, below_drewN HS1.out.keep _⟩
    · have f1 : decide (s < -1100585369600) = false := decide_eq_false g1
      by_cases g2 : 1099511627776 < s
      · have f2 : decide (1099511627776 < s) = true := decide_eq_true g2
        go_wp2_with fail
        go_quiet (fail)
        go_wp2_with fail
        go_ret2
        exact ⟨rfl, below_drewN HS1.out.keep _⟩
      · have f2 : decide (1099511627776 < s) = false := decide_eq_false g2
        by_cases g3 : e = s + sz
        · subst g3
          by_cases g4 : s + sz ≤ -1099511627776
          · have f4 : decide (s + sz ≤ -1099511627776) = true := decide_eq_true g4
            go_wp2_with fail
            go_quiet (fail)
            go_wp2_with fail
            go_ret2
            exact ⟨rfl, below_drewN HS1.out.keep _⟩
          · have g5 : (s.tmod (stepQ kd sz sl) != 0) = true := by
              have : s % stepQ kd sz sl ≠ 0 := fun h => k4 ⟨by omega, by omega, rfl, by omega, h⟩
              have : s.tmod (stepQ kd sz sl) ≠ 0 := fun h => this (Int.emod_eq_zero_of_dvd (Int.dvd_of_tmod_eq_zero h))
              simp [this]
            go_upto_region 2 with fail
            refine rc2_any (kd := kd) (ag := ag) (sz := sz) (sl := sl) (rk := rk) (s := s) (B := B) (m := m) (d := d) (g := w.heap.size) (gs := w.heap.size + 1) (V := true) ⟨rfl, rfl, rfl, rfl, HS1.out.box, HS1.out.sp, by omega, by omega, ⟨s3, s4⟩, by omega, by omega, hk01, g5⟩ (by kernel_rfl) ?_
            intro w2 b2
            simp only [putAll, Act.put, List.setIfInBounds_toArray, List.set_cons_succ, List.set_cons_zero]
            go_wp2_with fail
            go_ret2
            exact ⟨rfl, HS1.out.keep.trans (b2.mono HS1.out.keep.size)⟩
        · have f3 : (e != s + sz) = true := by simp [g3]
          clear g3 k4
          go_wp2_with fail
          go_quiet (fail)
          go_wp2_with fail
          go_ret2
          exact ⟨rfl, below_drewN HS1.out.keep _⟩

set_option maxRecDepth 100000 in
set_option maxHeartbeats 2000000 in
theorem rcut_ok (kd ag sz sl rk s e : Int) (B : Option Addr) (m d n : Nat) (bs : List Int) (w : World) (hb : Ints w B m bs) (hm : m ≤ maxLen) (h1 : mayQ kd ag sz sl bs rk = true) (h2 : kd ≠ 2) (h3 : cutB kd sz sl s e = true) (hn : (n : Int) = sz / unitQ kd sz sl) :
    Calls Try.prog 27 #[.agg #[.int .i64 kd, .int .i64 ag, .int .i64 sz, .int .i64 sl, .slice B m d, .int .i64 rk], .agg #[.int .i64 s, .int .i64 e]] w (OutSpans (cutL s (unitQ kd sz sl) n) w) := by
  have HBOX : Hid (∀ o1 o2, Below w.heap.size w ((w.alloc o1).alloc o2)) := fun o1 o2 => below_alloc ((Below.refl _ _).alloc (Nat.le_refl _) _) (Nat.le_refl _) _
  obtain ⟨u1, u2, u3, _, u5⟩ := unitQ_bd h1 h2
  obtain ⟨s1, _, s3, s4, _⟩ := stepQ_bd h1
  unfold cutB at h3
  obtain ⟨g1, g2, rfl, g4, g5⟩ := of_decide_eq_true h3
  clear h3
  have HS : Hid (RcS w kd ag sz sl rk s (s + sz) B m d ((w.alloc (.cells #[.int .i64 kd, .int .i64 ag, .int .i64 sz, .int .i64 sl, .slice B m d, .int .i64 rk] 24)).alloc (.cells #[.int .i64 s, .int .i64 (s + sz)] 38))) :=
    ⟨(Has.made _ _ _).alloc _, heap_alloc2_new w _ _, HBOX.out _ _⟩
  have hk01 : kd = 0 ∨ kd = 1 := by
    unfold mayQ at h1
    simp only [Bool.and_eq_true] at h1
    have := wi_true h1.1
    omega
  have g6 : (s.tmod (stepQ kd sz sl) != 0) = false := by
    have : s.tmod (stepQ kd sz sl) = 0 := Int.tmod_eq_zero_of_dvd (Int.dvd_of_emod_eq_zero g5)
    simp [this]
  have HU := Lib.hid (fun W hI => runit_ok kd ag sz sl rk B m d bs W hI hm h1 h2)
  obtain ⟨n', c1, c2, c3, c4⟩ := cut_count u1 u3 s3 u5
  obtain rfl : n' = n := by omega
  clear hn c1 h1 h2 u3 u5
  have HST := Lib.hid (fun j => cut_step (n := n') (j := j) u1 c2)
  have HN := Lib.hid c2
  clear c2
  generalize unitQ kd sz sl = u at *
  go_enter Try.func27, Try.ntmps27
  go_wp2_with fail
  refine (HU.out _ (hb.below (HBOX.out _ _))).mono ?_
  rintro x w1 ⟨rfl, b1⟩
  have HS1 : Hid (RcS w kd ag sz sl rk s (s + sz) B m d w1) := ⟨HS.out.box.below b1 (by simp; omega), HS.out.sp.below b1 (by simp), HS.out.keep.trans (b1.mono (by simp; omega))⟩
  clear b1 HS HBOX HU
  go_upto_region 2 with fail
  refine rc2_any (kd := kd) (ag := ag) (sz := sz) (sl := sl) (rk := rk) (s := s) (B := B) (m := m) (d := d) (g := w.heap.size) (gs := w.heap.size + 1) (V := false) ⟨rfl, rfl, rfl, rfl, HS1.out.box, HS1.out.sp, by omega, by omega, ⟨s3, s4⟩, by omega, by omega, hk01, g6⟩ (by kernel_rfl) ?_
  intro w2 b2
  have HS2 : Hid (CutS w s u (s + sz) n' (.slice none 0 0) 0 w2) :=
    ⟨OwnS.nil _ _, HS1.out.sp.below b2 HS1.out.sp.lt, HS1.out.keep.trans (b2.mono HS1.out.keep.size), Nat.zero_le _⟩
  have hcs : ∀ i, w2.cell? ⟨w.heap.size + 1, i, none⟩ = _ := fun i => HS2.out.box.cell i
  clear b2 HS1
  simp only [putAll, Act.put, List.setIfInBounds_toArray, List.set_cons_succ, List.set_cons_zero]
  go_wp2_with fail
  clear hcs g5 g6
  go_loopw [8, 9] (fun v i wr => ∃ (j : Nat) (z : Int), i = .int .i64 (s + z) ∧ Hid ((j : Int) * u = z) ∧ j ≤ n' ∧ Hid (CutS w s u (s + sz) n' v j wr)) (fun _ i _ => (s + sz - intOf i).toNat)
  case atStart => exact ⟨0, 0, by simp, by show _ = _; simp, by omega, HS2⟩
  case round =>
    clear HS2
    obtain ⟨j, z, rfl, HZ, hjn, HS⟩ := hrel
    obtain ⟨t1, t2, t3, t4, t5⟩ := HST.out j hjn
    rw [HZ.out] at t1 t2 t3 t4 t5
    have hcell0 : wr.cell? ⟨w.heap.size + 1, 1, none⟩ = some (.int .i64 (s + sz)) := HS.out.box.cell 1
    have hlt0 := HS.out.box.lt
    by_cases hlt : z < sz
    · have hj : j < n' := t4 hlt
      have t3 := t3 hj
      have T5 := Lib.hid t5
      clear t4 t5
      go_wp2_with (refine app_span rfl _ _ rfl rfl (HS.out.own.below ((Below.refl _ _).alloc (Nat.le_refl _) _)) rfl (Has.made _ _ _) (by rw [cutL_len]; omega) (by simp; omega) ?_; intro A c wn hwn hbn)
      go_roundw
      case rel =>
        have e2 : cutL s u j ++ [(s + z, s + z + u)] = cutL s u (j + 1) := by rw [cutL, HZ.out]
        rw [e2] at hwn
        have hbw : Below (w.heap.size + 2) wr wn := ((Below.refl _ _).alloc (by omega) _).trans hbn
        have hS2 : Hid (CutS w s u (s + sz) n' (.slice A ((cutL s u j).length + 1) c) (j + 1) wn) := ⟨by have := hwn; simpa [cutL_len] using this, HS.out.box.below hbw (by omega), HS.out.keep.trans (hbw.mono (by omega)), by omega⟩
        exact ⟨j + 1, z + u, by rw [Int.add_assoc], T5.out, by omega, hS2⟩
      case measure => simp [intOf]; omega
    · have hj : j = n' := by
        have := HN.out
        by_cases e : j < n'
        · have := t3 e; omega
        · omega
      subst hj
      obtain ⟨A, c, rfl, _⟩ := HS.out.own.form
      go_wp2_with fail
      go_ret2
      exact ⟨A, c, rfl, HS.out.own.mono (by omega), HS.out.keep⟩

end Go.Proofs.Ytkbocjmdbfddhaa
