/-
  Walks: slice.isWindow, slice.Cut, and what they call of the library.
-/
import Derived.Test.YtkbocjmdbfddhaaSlice
import Derived.Deep.DeepCutAuto
namespace Go.Proofs.Ytkbocjmdbfddhaa
open Go.RowKit

set_option maxRecDepth 100000 in
set_option maxHeartbeats 1000000 in
theorem indexS_any (A : Option Addr) (n c : Nat) (ss : List (Int × Int)) (s e : Int) (w : World) (ha : Spans w A n ss) (hn : n ≤ maxLen) :
    Calls Try.prog 80 #[.slice A n c, .agg #[.int .i64 s, .int .i64 e]] w
      fun x w' => ∃ r : Int, x = .returned (.int .i64 r) ∧ decide (0 ≤ r) = decide ((s, e) ∈ ss) ∧ -1 ≤ r ∧ r ≤ 9223372036854775807 ∧ Below w.heap.size w w' := by
  unfold maxLen at hn
  have HS : Hid (Spans (w.alloc (.cells #[.int .i64 s, .int .i64 e] 38)) A n ss) := ha.below ((Below.refl _ _).alloc (Nat.le_refl _) _)
  have HM : Hid (Has (w.alloc (.cells #[.int .i64 s, .int .i64 e] 38)) w.heap.size 38 #[.int .i64 s, .int .i64 e]) := Has.made _ _ _
  have HB : Hid (Below w.heap.size w (w.alloc (.cells #[.int .i64 s, .int .i64 e] 38))) := (Below.refl _ _).alloc (Nat.le_refl _) _
  clear ha
  go_enter Try.func80, Try.ntmps80
  go_upto_region 1 with fail
  generalize hw0 : w.alloc (.cells #[.int .i64 s, .int .i64 e] 38) = w1 at HS HM HB ⊢
  clear hw0
  go_wp2_with fail
  go_loopw [8] (fun i wr => ∃ j : Nat, j ≤ n ∧ i = .int .i64 j ∧ Hid (∀ k, k < j → nthS ss k ≠ (s, e)) ∧ ∃ p, wr = w1.drewN p) (fun i _ => n - (intOf i).toNat)
  case atStart => exact ⟨0, Nat.zero_le _, rfl, fun k hk => absurd hk (Nat.not_lt_zero _), 0, rfl⟩
  case round =>
    obtain ⟨j, hj, rfl, HF, p, rfl⟩ := hrel
    have hd1 : w1.cell? ⟨w.heap.size, 0, none⟩ = some (.int .i64 s) := HM.out.cell 0
    have hd2 : w1.cell? ⟨w.heap.size, 1, none⟩ = some (.int .i64 e) := HM.out.cell 1
    by_cases hlt : j < n
    · obtain ⟨b, o, rfl, hc⟩ := HS.out.at_ hlt
      obtain ⟨c1, c2⟩ := hc j hlt
      clear hc
      obtain ⟨x, y, hxy⟩ : ∃ x y, nthS ss j = (x, y) := ⟨_, _, rfl⟩
      rw [hxy] at c1 c2
      have HX := Lib.hid hxy; clear hxy
      have hlt2 : (j : Int) < (n : Int) := by omega
      by_cases h1 : s = x
      · by_cases h2 : e = y
        · subst h1 h2
          go_wp2
          go_quiet (fail)
          go_wp2
          go_ret
          refine ⟨j, rfl, ?_, by omega, by omega, below_drewN (below_drewN HB.out _) _⟩
          have hm : (s, e) ∈ ss := by
            have hl : j < ss.length := by rw [HS.out.1]; exact hlt
            have : ss[j]? = some (nthS ss j) := by unfold nthS; rw [List.getD_eq_getElem?_getD, List.getElem?_eq_getElem hl]; rfl
            rw [HX.out] at this
            exact List.mem_iff_getElem?.2 ⟨j, this⟩
          rw [decide_eq_true hm, decide_eq_true (by omega)]
        · subst h1
          have h2' : (e == y) = false := by simp [h2]
          have HF2 : Hid (∀ k, k < j + 1 → nthS ss k ≠ (s, e)) := fun k hk => by
            rcases Nat.lt_succ_iff_lt_or_eq.1 hk with h | rfl
            · exact HF.out k h
            · rw [HX.out]; intro h; injection h with _ h; exact h2 h.symm
          clear h2
          go_wp2
          go_quiet (fail)
          go_wp2
          go_roundw
          case rel => exact ⟨j + 1, by omega, by go_num, HF2, p + nq, by first | rfl | rw [World.drewN_drewN]⟩
          case measure => simp [intOf]; omega
      · have h1' : (s == x) = false := by simp [h1]
        have HF2 : Hid (∀ k, k < j + 1 → nthS ss k ≠ (s, e)) := fun k hk => by
          rcases Nat.lt_succ_iff_lt_or_eq.1 hk with h | rfl
          · exact HF.out k h
          · rw [HX.out]; intro h; injection h with h _; exact h1 h.symm
        clear h1
        go_wp2
        go_quiet (fail)
        go_wp2
        go_roundw
        case rel => exact ⟨j + 1, by omega, by go_num, HF2, p + nq, by first | rfl | rw [World.drewN_drewN]⟩
        case measure => simp [intOf]; omega
    · have hjn : n = j := by omega
      subst hjn
      go_wp2
      go_ret
      refine ⟨-1, rfl, ?_, by omega, by omega, below_drewN HB.out _⟩
      have hm : (s, e) ∉ ss := fun hm => by
        obtain ⟨k, hk⟩ := List.mem_iff_getElem?.1 hm
        have hl := (List.getElem?_eq_some_iff.1 hk).1
        rw [HS.out.1] at hl
        exact HF.out k hl (nthS_of hk)
      rw [decide_eq_false hm, decide_eq_false (by omega)]

set_option maxRecDepth 100000 in
set_option maxHeartbeats 1000000 in
theorem containsS_any (A : Option Addr) (n c : Nat) (ss : List (Int × Int)) (s e : Int) (w : World) (ha : Spans w A n ss) (hn : n ≤ maxLen) :
    Calls Try.prog 73 #[.slice A n c, .agg #[.int .i64 s, .int .i64 e]] w
      fun x w' => x = .returned (.bool (decide ((s, e) ∈ ss))) ∧ Below w.heap.size w w' := by
  have HB : Hid (∀ o, Below w.heap.size w (w.alloc o)) := fun o => (Below.refl _ _).alloc (Nat.le_refl _) _
  go_enter Try.func73, Try.ntmps73
  go_wp2_with fail
  refine (indexS_any A n c ss s e _ (ha.below (HB.out _)) hn).mono ?_
  rintro x w1 ⟨r, rfl, hr, r1, r2, b1⟩
  have HR := Lib.hid hr; clear hr
  have hB1 : Below w.heap.size w w1 := (HB.out _).trans (b1.mono (by simp))
  clear b1 HB
  go_wp2_with fail
  go_ret
  exact ⟨ret_bool (by rw [HR.out]), hB1⟩

set_option maxRecDepth 100000 in
set_option maxHeartbeats 1000000 in
theorem isWin_no (kd ag sz sl rk s e T : Int) (B : Option Addr) (m d : Nat) (bs : List Int) (w : World) (hb : Ints w B m bs) (hT : (s < -1099511627776 ∧ T = -1099511627776) ∨ (s = -1099511627776 ∧ T = -1099511627776) ∨ (-1099511627776 < s ∧ T = s))
    (HO : Hid (∀ W, Ints W B m bs → Calls Try.prog 14 #[.agg #[.int .i64 kd, .int .i64 ag, .int .i64 sz, .int .i64 sl, .slice B m d, .int .i64 rk], .int .i64 T] W (NoSpans W))) :
    Calls Try.prog 54 #[.agg #[.int .i64 kd, .int .i64 ag, .int .i64 sz, .int .i64 sl, .slice B m d, .int .i64 rk], .agg #[.int .i64 s, .int .i64 e]] w
      fun x w' => x = .returned (.bool false) ∧ Below w.heap.size w w' := by
  have HB : Hid (∀ o1 o2, Below w.heap.size w ((w.alloc o1).alloc o2)) := fun o1 o2 => below_alloc ((Below.refl _ _).alloc (Nat.le_refl _) _) (Nat.le_refl _) _
  rcases hT with ⟨hs, rfl⟩ | ⟨rfl, rfl⟩ | ⟨hs, rfl⟩
  all_goals
    go_enter Try.func54, Try.ntmps54
    go_wp2_with fail
    refine (HO.out _ (hb.below (HB.out _ _))).mono ?_
    rintro x w1 ⟨rfl, b1⟩
    have hB1 : Below w.heap.size w w1 := (HB.out _ _).trans (b1.mono (by simp; omega))
    clear b1
    go_wp2_with fail
    go_ret
    exact ⟨rfl, hB1⟩

set_option maxRecDepth 100000 in
set_option maxHeartbeats 1000000 in
theorem isWin_yes (kd ag sz sl rk s e T : Int) (B : Option Addr) (m d : Nat) (bs : List Int) (ss : List (Int × Int)) (w : World) (hb : Ints w B m bs) (hT : (s < -1099511627776 ∧ T = -1099511627776) ∨ (s = -1099511627776 ∧ T = -1099511627776) ∨ (-1099511627776 < s ∧ T = s))
    (hlen : ss.length ≤ 64)
    (HO : Hid (∀ W, Ints W B m bs → Calls Try.prog 14 #[.agg #[.int .i64 kd, .int .i64 ag, .int .i64 sz, .int .i64 sl, .slice B m d, .int .i64 rk], .int .i64 T] W (OutSpans ss W))) :
    Calls Try.prog 54 #[.agg #[.int .i64 kd, .int .i64 ag, .int .i64 sz, .int .i64 sl, .slice B m d, .int .i64 rk], .agg #[.int .i64 s, .int .i64 e]] w
      fun x w' => x = .returned (.bool (decide ((s, e) ∈ ss))) ∧ Below w.heap.size w w' := by
  have HB : Hid (∀ o1 o2, Below w.heap.size w ((w.alloc o1).alloc o2)) := fun o1 o2 => below_alloc ((Below.refl _ _).alloc (Nat.le_refl _) _) (Nat.le_refl _) _
  have HNEW : Hid (∀ o1 cs, Has ((w.alloc o1).alloc (.cells cs 38)) (w.heap.size + 1) 38 cs) := fun o1 cs => heap_alloc2_new w _ _
  rcases hT with ⟨hs, rfl⟩ | ⟨rfl, rfl⟩ | ⟨hs, rfl⟩
  all_goals
    go_enter Try.func54, Try.ntmps54
    go_wp2_with fail
    refine (HO.out _ (hb.below (HB.out _ _))).mono ?_
    rintro x w1 ⟨A, c, rfl, o1, b1⟩
    have HR := Lib.hid ((HNEW.out _ _).below b1 (by simp))
    have hB1 : Below w.heap.size w w1 := (HB.out _ _).trans (b1.mono (by simp; omega))
    have hc1 : ∀ i, w1.cell? ⟨w.heap.size + 1, i, none⟩ = _ := fun i => HR.out.cell i
    have HS := Lib.hid o1.spans
    clear b1 o1
    go_wp2_with fail
    refine (containsS_any A ss.length c ss _ e _ HS.out (by unfold maxLen; omega)).mono ?_
    rintro x w2 ⟨rfl, b2⟩
    go_wp2_with fail
    go_ret
    exact ⟨rfl, hB1.trans (b2.mono hB1.size)⟩

theorem isWin_any (kd ag sz sl rk s e : Int) (B : Option Addr) (m d : Nat) (bs : List Int) (w : World) (hb : Ints w B m bs) (hm : m ≤ maxLen) (h1 : mayQ kd ag sz sl bs rk = true) (h2 : kd ≠ 2) :
    Calls Try.prog 54 #[.agg #[.int .i64 kd, .int .i64 ag, .int .i64 sz, .int .i64 sl, .slice B m d, .int .i64 rk], .agg #[.int .i64 s, .int .i64 e]] w
      fun x w' => x = .returned (.bool (cutB kd sz sl s e)) ∧ Below w.heap.size w w' := by
  have hc := cut_mem h1 s e
  have hT : (s < -1099511627776 ∧ lookT s = -1099511627776) ∨ (s = -1099511627776 ∧ lookT s = -1099511627776) ∨ (-1099511627776 < s ∧ lookT s = s) := by unfold lookT; split <;> omega
  cases k1 : wi (lookT s) (-1099511627776) 1099511627776
  · rw [k1, Bool.false_and] at hc
    rw [hc]
    exact isWin_no kd ag sz sl rk s e _ B m d bs w hb hT (Lib.hid fun W hI => of_bad kd ag sz sl rk _ B m d bs W hI hm (by rw [k1, Bool.and_false, Bool.and_false]))
  · obtain ⟨s1, s2, s3, s4, s5⟩ := stepQ_bd h1
    have hbd := win_bd (lookT s) (stepQ kd sz sl) sz s1 s2 s5
    rw [k1, Bool.true_and] at hc
    rw [hc]
    exact isWin_yes kd ag sz sl rk s e _ B m d bs (winQ kd sz sl (lookT s)) w hb hT (by unfold winQ; rw [winL_len]; omega) (Lib.hid fun W hI => of_ok kd ag sz sl rk _ B m d bs W hI hm h1 h2 k1)

/-- The row of slices so far. -/
structure CutS (w : World) (s u e : Int) (n : Nat) (v : Value) (j : Nat) (wr : World) : Prop where
  own : OwnS wr (w.heap.size + 2) v (cutL s u j)
  box : Has wr (w.heap.size + 1) 38 #[.int .i64 s, .int .i64 e]
  keep : Below w.heap.size w wr
  le : j ≤ n

set_option maxRecDepth 100000 in
set_option maxHeartbeats 1000000 in
theorem cut_bad (kd ag sz sl rk s e : Int) (B : Option Addr) (m d : Nat) (bs : List Int) (w : World) (hb : Ints w B m bs) (hm : m ≤ maxLen) (h : (mayQ kd ag sz sl bs rk && (decide (kd ≠ 2) && cutB kd sz sl s e)) = false) :
    Calls Try.prog 26 #[.agg #[.int .i64 kd, .int .i64 ag, .int .i64 sz, .int .i64 sl, .slice B m d, .int .i64 rk], .agg #[.int .i64 s, .int .i64 e]] w (NoCut w) := by
  have HB : Hid (∀ o1 o2, Below w.heap.size w ((w.alloc o1).alloc o2)) := fun o1 o2 => below_alloc ((Below.refl _ _).alloc (Nat.le_refl _) _) (Nat.le_refl _) _
  have HH := Lib.hid h; clear h
  go_enter Try.func26, Try.ntmps26
  go_wp2_with fail
  cases k0 : (mayQ kd ag sz sl bs rk && decide (kd ≠ 2))
  · refine (unit_bad kd ag sz sl rk B m d bs _ (hb.below (HB.out _ _)) hm k0).mono ?_
    rintro x w1 ⟨rfl, b1⟩
    have hB1 : Below w.heap.size w w1 := (HB.out _ _).trans (b1.mono (by simp; omega))
    clear b1
    go_wp2_with fail
    go_ret2
    exact ⟨rfl, hB1⟩
  · have k1 := k0
    simp only [Bool.and_eq_true] at k1
    have k2 := of_decide_eq_true k1.2
    have k3 : cutB kd sz sl s e = false := by
      have := HH.out
      rw [← Bool.and_assoc, k0] at this
      simpa using this
    refine (unit_ok kd ag sz sl rk B m d bs _ (hb.below (HB.out _ _)) hm k1.1 k2).mono ?_
    rintro x w1 ⟨rfl, b1⟩
    have hB1 : Below w.heap.size w w1 := (HB.out _ _).trans (b1.mono (by simp; omega))
    have HW := Lib.hid (fun W hI => isWin_any kd ag sz sl rk s e B m d bs W hI hm k1.1 k2)
    have hc1 : ∀ b o, b < w.heap.size + 2 → w1.cell? ⟨b, o, none⟩ = _ := fun b o h => oldCells b1 (Nat.le_refl _) b o (by simpa using h)
    clear b1 k0 k1 k2
    go_wp2_with fail
    refine (HW.out _ (hb.below hB1)).mono ?_
    rw [k3]
    rintro x w2 ⟨rfl, b2⟩
    go_wp2_with fail
    go_ret2
    exact ⟨rfl, hB1.trans (b2.mono hB1.size)⟩

set_option maxRecDepth 100000 in
set_option maxHeartbeats 2000000 in
theorem cut_ok (kd ag sz sl rk s e : Int) (B : Option Addr) (m d n : Nat) (bs : List Int) (w : World) (hb : Ints w B m bs) (hm : m ≤ maxLen) (h1 : mayQ kd ag sz sl bs rk = true) (h2 : kd ≠ 2) (h3 : cutB kd sz sl s e = true) (hn : (n : Int) = sz / unitQ kd sz sl) :
    Calls Try.prog 26 #[.agg #[.int .i64 kd, .int .i64 ag, .int .i64 sz, .int .i64 sl, .slice B m d, .int .i64 rk], .agg #[.int .i64 s, .int .i64 e]] w (OutSpans (cutL s (unitQ kd sz sl) n) w) := by
  have HB : Hid (∀ o1 o2, Below w.heap.size w ((w.alloc o1).alloc o2)) := fun o1 o2 => below_alloc ((Below.refl _ _).alloc (Nat.le_refl _) _) (Nat.le_refl _) _
  have HNEW : Hid (∀ o1 cs, Has ((w.alloc o1).alloc (.cells cs 38)) (w.heap.size + 1) 38 cs) := fun o1 cs => heap_alloc2_new w _ _
  obtain ⟨u1, u2, u3, _, u5⟩ := unitQ_bd h1 h2
  obtain ⟨_, _, s3, s4, _⟩ := stepQ_bd h1
  have hs : -1100585369600 ≤ s ∧ s ≤ 1099511627776 := by
    unfold cutB at h3
    have := of_decide_eq_true h3
    omega
  have HU := Lib.hid (fun W hI => unit_ok kd ag sz sl rk B m d bs W hI hm h1 h2)
  have HW : Hid (∀ W, Ints W B m bs → Calls Try.prog 54 #[.agg #[.int .i64 kd, .int .i64 ag, .int .i64 sz, .int .i64 sl, .slice B m d, .int .i64 rk], .agg #[.int .i64 s, .int .i64 e]] W fun x w' => x = .returned (.bool true) ∧ Below W.heap.size W w') := fun W hI => by
    have := isWin_any kd ag sz sl rk s e B m d bs W hI hm h1 h2
    rwa [h3] at this
  have HD := Lib.hid (div_ok sz (unitQ kd sz sl) _ (by omega) (by omega) u1 hn.symm)
  obtain ⟨n', c1, c2, c3, c4⟩ := cut_count u1 u3 s3 u5
  obtain rfl : n' = n := by omega
  clear hn c1 h1 h2 h3 u3 u5
  have HST := Lib.hid (fun j => cut_step (n := n') (j := j) u1 c2)
  clear c2
  generalize unitQ kd sz sl = u at *
  go_enter Try.func26, Try.ntmps26
  go_wp2_with fail
  refine (HU.out _ (hb.below (HB.out _ _))).mono ?_
  rintro x w1 ⟨rfl, b1⟩
  have hB1 : Below w.heap.size w w1 := (HB.out _ _).trans (b1.mono (by simp; omega))
  have HR1 := Lib.hid ((HNEW.out _ _).below b1 (by simp))
  have hc1 : ∀ b o, b < w.heap.size + 2 → w1.cell? ⟨b, o, none⟩ = _ := fun b o h => oldCells b1 (Nat.le_refl _) b o (by simpa using h)
  have hs1 : w.heap.size + 2 ≤ w1.heap.size := by have := b1.size; simpa using this
  clear b1 HU
  go_wp2_with fail
  refine (HW.out _ (hb.below hB1)).mono ?_
  rintro x w2 ⟨rfl, b2⟩
  have hB2 : Below w.heap.size w w2 := hB1.trans (b2.mono hB1.size)
  have HR2 := Lib.hid (HR1.out.below b2 (by omega))
  have hc2 : ∀ b o, b < w.heap.size + 2 → w2.cell? ⟨b, o, none⟩ = w1.cell? ⟨b, o, none⟩ := fun b o h => oldCells b2 hs1 b o (by omega)
  have hs2 : w.heap.size + 2 ≤ w2.heap.size := by have := b2.size; omega
  clear b2 HW
  go_wp2_with fail
  refine (HD.out _).mono ?_
  rintro x w' ⟨rfl, rfl⟩
  go_wp2_with (refine make_span rfl _ _ rfl n' rfl rfl rfl (by omega) ?_; intro v0 w3 hown hb3)
  have HS : Hid (CutS w s u e n' v0 0 w3) :=
    ⟨hown.mono hs2, HR2.out.below hb3 (by omega), hB2.trans (hb3.mono hB2.size), Nat.zero_le _⟩
  clear hown hb3 hc1 hc2 HR1 HR2 hB1 hB2 HB HNEW HD
  go_wp2_with fail
  go_loopw [35, 10] (fun i v wr => ∃ j : Nat, i = .int .i64 j ∧ Hid (CutS w s u e n' v j wr)) (fun i _ _ => n' - (intOf i).toNat)
  case atStart => exact ⟨0, rfl, HS⟩
  case round =>
    clear HS
    obtain ⟨j, rfl, HS⟩ := hrel
    have hjn := HS.out.le
    by_cases hlt : j < n'
    · obtain ⟨t1, t2, t3, _, _⟩ := HST.out j (by omega)
      have t3 := t3 hlt
      obtain ⟨z, hz⟩ : ∃ z, (j : Int) * u = z := ⟨_, rfl⟩
      rw [hz] at t1 t2 t3
      have hz3 : wrap64 ((j : Int) * u) = z := by rw [hz]; unfold wrap64; omega
      have HZ := Lib.hid hz; clear hz
      have hcell : ∀ o, (wr.alloc o).cell? ⟨w.heap.size + 1, 0, none⟩ = some (.int .i64 s) := fun o => (HS.out.box.alloc o).cell 0
      have hcell0 : wr.cell? ⟨w.heap.size + 1, 0, none⟩ = some (.int .i64 s) := HS.out.box.cell 0
      have hlt0 := HS.out.box.lt
      go_wp2_with (refine app_span rfl _ _ rfl rfl (HS.out.own.below ((Below.refl _ _).alloc (Nat.le_refl _) _)) rfl (Has.made _ _ _) (by rw [cutL_len]; omega) (by simp; omega) ?_; intro A c wn hwn hbn)
      go_roundw
      case rel =>
        have e2 : cutL s u j ++ [(s + z, s + z + u)] = cutL s u (j + 1) := by rw [cutL, HZ.out]
        rw [e2] at hwn
        have hbw : Below (w.heap.size + 2) wr wn := ((Below.refl _ _).alloc (by omega) _).trans hbn
        have hS2 : Hid (CutS w s u e n' (.slice A ((cutL s u j).length + 1) c) (j + 1) wn) := ⟨by have := hwn; simpa [cutL_len] using this, HS.out.box.below hbw (by omega), HS.out.keep.trans (hbw.mono (by omega)), by omega⟩
        exact ⟨j + 1, by go_num, hS2⟩
      case measure => simp [intOf]; omega
    · have hj : j = n' := by omega
      subst hj
      obtain ⟨A, c, rfl, _⟩ := HS.out.own.form
      go_wp2_with fail
      go_ret2
      exact ⟨A, c, rfl, HS.out.own.mono (by omega), HS.out.keep⟩

end Go.Proofs.Ytkbocjmdbfddhaa
