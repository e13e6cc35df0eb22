/-
  Walk: QueueSlides.
-/
import Derived.Test.YtjmaeiilkbfnaaaG17g
import Derived.Test.YtjmaeiilkbfnaaaG17h
import Derived.Test.YtjmaeiilkbfnaaaFMask
import Derived.IntWalk
import Derived.Lib.MinMax
import Derived.Deep.DeepCutAuto
import Derived.Deep.CutBlock
import Derived.OpenShut
namespace Go.Proofs.Ytjmaeiilkbfnaaa
open Go.RowKit

theorem nthmask (xs : List Int) (j : Nat) : -600 ≤ nth xs j % 1024 - 500 ∧ nth xs j % 1024 - 500 ≤ 600 := by omega
/-- The queue at the head of a round: the last ones, at most so many. -/
def SlS (w : World) (g : Nat) (V : Nat → Int) (Wd i : Nat) (wr : World) : Prop := ∃ O, LQ w O g [0] (slW V (i - Wd) (i - (i - Wd))) wr

set_option maxRecDepth 100000 in
set_option maxHeartbeats 8000000 in
theorem queueslides_any (A : Option Addr) (n c : Nat) (xs : List Int) (W0 : Int) (w : World) (hI : Ints w A n xs) (hm : n ≤ maxLen) (_ : ∀ x ∈ xs, (Lit.int .i64 x).wf = true) (_ : (Lit.int .i64 W0).wf = true) :
    Calls Try.prog 5 #[.slice A n c, .int .i64 W0] w fun e w' => e = .returned (.bool true) ∧ Below w.heap.size w w' := by
  obtain ⟨V, hVd⟩ : ∃ V : Nat → Int, ∀ j, V j = nth xs j % 1024 - 500 := ⟨fun j => nth xs j % 1024 - 500, fun _ => rfl⟩
  have hV : ∀ j, -600 ≤ V j ∧ V j ≤ 600 := fun j => by rw [hVd]; exact nthmask xs j
  have HV := Lib.hid hV
  have HVD := Lib.hid hVd
  obtain ⟨Wd, hWd, hW1, hW8⟩ : ∃ Wd : Nat, bits .and .i64 W0 7 = (Wd : Int) - 1 ∧ 1 ≤ Wd ∧ Wd ≤ 8 := ⟨(W0 % 8).toNat + 1, by rw [mask7]; omega, by omega, by omega⟩
  have e7 : 1 + ((Wd : Int) - 1) = (Wd : Int) := by omega
  have HI := Lib.hid hI
  unfold maxLen at hm
  clear hV hVd hI
  go_enter Try.func5, Try.ntmps5
  go_wp2_with fail
  refine (aw17_any w).mono ?_
  rintro e w1 ⟨rfl, b1⟩
  have B1 := Lib.hid b1
  clear b1
  go_wp2_with fail
  refine (qnew_ok (some ⟨w1.heap.size, 0, none⟩) 1 1 [0] _ (ints_of_has (Has.made _ _ _) rfl) (fun e => by cases e) (by decide)).mono ?_
  intro e w2 hnew
  obtain ⟨g, rfl, hq, hb⟩ := pq_new hnew
  have hal := B1.out.alloc B1.out.size (.cells #[.int .i64 0] 3)
  have HS := Lib.hid (show SlS w g V Wd 0 w2 from ⟨_, by have := lq_new hal hq hb; simpa [slW] using this⟩)
  clear hnew hq hb hal B1
  go_wp2_with (go_at_call 14; refine (num_any _ _).mono ?_; rintro e w' ⟨rfl, rfl⟩)
  clear e7 hWd
  go_loopw [8] (fun i wr => ∃ j : Nat, j ≤ n ∧ j ≤ 40 ∧ i = .int .i64 j ∧ Hid (SlS w g V Wd j wr)) (fun i _ => 41 - (intOf i).toNat)
  case atStart => exact ⟨0, Nat.zero_le _, by omega, rfl, HS⟩
  case round =>
    clear HS
    obtain ⟨j, hjn, hj40, rfl, HS⟩ := hrel
    by_cases hgo : j < n ∧ j < 40
    · obtain ⟨hlt, hlt40⟩ := hgo
      have hz1 : (j : Int) < (n : Int) := by omega
      have hz2 : (j : Int) < 40 := by omega
      obtain ⟨O, hq⟩ := HS.out
      have hIr := HI.out.below (hq.keep)
      obtain ⟨b, f, rfl, hc⟩ := hIr.at_ hlt
      have hcj := hc j hlt
      have HC := Lib.hid hc
      have HQ := Lib.hid hq
      have hvb : bits .and .i64 (nth xs j) 1023 = nth xs j % 1024 := mask1023 _
      have ev := (HVD.out j).symm
      obtain ⟨a, ha⟩ : ∃ a, j - Wd = a := ⟨_, rfl⟩
      obtain ⟨m, hm2⟩ : ∃ m, j - a = m := ⟨_, rfl⟩
      have haj : a + m = j := by omega
      rw [ha, hm2] at HQ
      clear hc hq HS hIr
      go_wp2_with fail
      clear ev
      refine (item17_any _ _ _ _ _).mono ?_
      rintro e w3 ⟨rfl, hb⟩
      have HQ3 := Lib.hid (HQ.out.below hb)
      clear hb HQ hcj
      go_wp2_with fail
      refine (one17_any (slI V j) (some ⟨w3.heap.size, 0, none⟩) 1 1 [0] _ (ints_of_has (Has.made _ _ _) rfl) (slI_ok V HV.out j (by omega)) (by decide)).mono ?_
      rintro e w4 ⟨Hp, _, rfl, hh, hb⟩
      have HQ4 := Lib.hid ((HQ3.out.below ((Below.refl _ _).alloc (Nat.le_refl _) _)).below hb)
      have HH := Lib.hid (ints_of_has hh rfl)
      clear hh hb HQ3
      have HJ : Hid (RowJ [0] (slW V a m ++ [slA V j])) := by
        have := sl_row V HV.out a (m + 1) (by omega)
        rw [slW_succ, haj] at this
        exact this
      have HLH := Lib.hid (show (slA V j).h.length = 2 by rw [slA_h]; rfl)
      go_wp2_with fail
      refine (HQ4.out.push (a := slA V j) (by rw [slW_len]; omega) HH.out (Nat.le_refl _) (by rw [show (oneAc (slI V j) [0]).h.length = 2 from HLH.out]; unfold maxLen; omega) HJ.out).mono ?_
      rintro e w5 ⟨rfl, l, _⟩
      have HQ5 : Hid (∃ O, LQ w O g [0] (slW V a (m + 1)) w5) := ⟨_, by rw [slW_succ, haj]; exact l⟩
      clear l HQ4 HH HLH HJ HC
      go_upto_if 68 with (go_at_call 14; refine (num_any _ _).mono ?_; rintro e w' ⟨rfl, rfl⟩)
      go_cut [11, 12] (fun _ _ wx => Hid (SlS w g V Wd (j + 1) wx))
      case first =>
        by_cases hwj : Wd ≤ j
        · have hz3 : (Wd : Int) ≤ (j : Int) := by omega
          obtain ⟨O5, h5⟩ := HQ5.out
          rw [slW_head] at h5
          have hJ5 : RowJ [0] (slA V a :: slW V (a + 1) m) := by
            have := sl_row V HV.out a (m + 1) (by omega)
            rwa [slW_head] at this
          have HPOP := Lib.hid (h5.pop hJ5 (by rw [List.length_cons, slW_len]; omega))
          clear h5 hJ5 HQ5
          go_wp2_with fail
          refine HPOP.out.mono ?_
          rintro e w6 ⟨hh, cc, rfl, _, hb, l, _, _⟩
          have hal := (Below.refl w6.heap.size w6).alloc (Nat.le_refl _) (.cells (accC (slA V a) (some ⟨hh, 0, none⟩) (slA V a).h.length cc) 29)
          have HQ7 := Lib.hid (l.below hal)
          have HBX := Lib.hid (Has.made w6 29 (accC (slA V a) (some ⟨hh, 0, none⟩) (slA V a).h.length cc))
          clear hb l hal HPOP
          go_upto_region 16 with (refine store_made rfl _ _ rfl rfl rfl rfl ?_)
          generalize hw7 : w6.alloc _ = w7 at HQ7 HBX ⊢
          generalize w6.heap.size = y at HBX ⊢
          have hcv : w7.cell? ⟨b, f + a * 1, none⟩ = some (.int .i64 (nth xs a)) := by
            obtain ⟨b', f', e, hc⟩ := (HI.out.below HQ7.out.keep).at_ hlt
            injection e with e
            injection e with e1 e2
            subst e1 e2
            rw [Nat.mul_one]
            exact hc a (by omega)
          refine ssl16_any (b := b) (f := f) (n := n) (c := c) (k := a) (y := y) (x := nth xs a) (m := nth xs a % 1024) (I := j) (W := Wd) ⟨rfl, rfl, rfl, rfl, rfl, rfl, by rw [HBX.out.cell, accC_1, slA_s, HVD.out a], hcv, mask1023 _, by omega, by omega, by omega, by omega⟩ (by kernel_rfl) ?_
          intro w8 hB8
          have H8 : Hid (SlS w g V Wd (j + 1) w8) := by
            have e1 : j + 1 - Wd = a + 1 := by omega
            have e2 : j + 1 - (a + 1) = m := by omega
            unfold SlS
            rw [e1, e2]
            exact ⟨_, HQ7.out.below hB8⟩
          clear hB8 HQ7 HBX hcv hw7
          simp only [putAll, Act.put, List.setIfInBounds_toArray, List.set_cons_succ, List.set_cons_zero]
          go_wp2_with fail
          go_meet
          case rel => exact H8
        · have hz3 : ¬ (Wd : Int) ≤ (j : Int) := by omega
          have H8 : Hid (SlS w g V Wd (j + 1) w5) := by
            have e1 : j + 1 - Wd = a := by omega
            have e2 : j + 1 - a = m + 1 := by omega
            unfold SlS
            rw [e1, e2]
            exact HQ5.out
          clear HQ5
          go_wp2_with fail
          go_meet
          case rel => exact H8
      case rest =>
        obtain ⟨O6, h6⟩ := hcut.out
        obtain ⟨F, hF⟩ : ∃ F, j + 1 - Wd = F := ⟨_, rfl⟩
        obtain ⟨p, hp⟩ : ∃ p, j + 1 - F = p + 1 := ⟨j - F, by omega⟩
        rw [hF, hp] at h6
        have HQ6 := Lib.hid h6
        clear h6
        clear hcut HQ5
        have hmx : max (0 : Int) ((j : Int) - (Wd : Int) + 1) = (F : Int) := by omega
        have HCV : Hid (∀ q, q < n → wc.cell? ⟨b, f + q, none⟩ = some (.int .i64 (nth xs q))) := by
          obtain ⟨b', f', e, hc⟩ := (HI.out.below HQ6.out.keep).at_ hlt
          injection e with e
          injection e with e1 e2
          subst e1 e2
          exact hc
        have HSU := Lib.hid (su_bd V HV.out F)
        have HUP := Lib.hid (up_bd V F)
        have HFJ := Lib.hid (show F + p = j by omega)
        go_wp2_with fail
        go_loop [14, 15, 16, 17, 18] (fun s l h u q => ∃ k r : Nat, k ≤ p + 1 ∧ Hid (F + k = r) ∧ q = .int .i64 r ∧ s = .int .i64 (suV V F k) ∧ l = .int .i64 (loV V F k) ∧ h = .int .i64 (hiV V F k) ∧ u = .int .i64 (upV V F k)) (fun _ _ _ _ q => j + 2 - (intOf q).toNat)
        case atStart => exact ⟨0, F, by omega, rfl, rfl, rfl, rfl, rfl, rfl⟩
        case round =>
          obtain ⟨k, r, hk, HR, rfl, rfl, rfl, rfl, rfl⟩ := hrel
          have hsb := HSU.out k
          have hub := HUP.out k
          have hr1 := HR.out
          have e1 : suV V F (k + 1) = suV V F k + V r := by rw [← hr1]; rfl
          have e2 : loV V F (k + 1) = min (loV V F k) (V r) := by rw [← hr1]; rfl
          have e3 : hiV V F (k + 1) = max (hiV V F k) (V r) := by rw [← hr1]; rfl
          have e4 : upV V F (k + 1) = upV V F k + (if 0 < V r then 1 else 0) := by rw [← hr1]; rfl
          by_cases hkp : k ≤ p
          · have E1 := Lib.hid e1
            have E2 := Lib.hid e2
            have E3 := Lib.hid e3
            have E4 := Lib.hid e4
            have hj1 : r ≤ j := by omega
            have hz5 : (r : Int) ≤ (j : Int) := by omega
            have hcr := HCV.out r (by omega)
            have hrn : (r : Int) < (n : Int) := by omega
            have hvr : bits .and .i64 (nth xs r) 1023 = nth xs r % 1024 := mask1023 _
            have ev := (HVD.out r).symm
            have hvv := HV.out r
            clear e1 e2 e3 e4 hr1
            generalize suV V F k = s0 at hsb E1 ⊢
            generalize loV V F k = l0 at E2 ⊢
            generalize hiV V F k = h0 at E3 ⊢
            generalize upV V F k = u0 at hub E4 ⊢
            by_cases hpos : 0 < V r
            · go_wp2_with fail
              go_round
              case rel => exact ⟨k + 1, r + 1, by omega, Lib.hid (by have := HR.out; omega), by go_num, by rw [E1.out], by rw [E2.out], by rw [E3.out], by rw [E4.out, if_pos hpos]⟩
              case measure => simp [intOf]; omega
            · have hpos2 : ¬ V r > 0 := hpos
              go_wp2_with fail
              go_round
              case rel => exact ⟨k + 1, r + 1, by omega, Lib.hid (by have := HR.out; omega), by go_num, by rw [E1.out], by rw [E2.out], by rw [E3.out], by rw [E4.out, if_neg hpos, Int.add_zero]⟩
              case measure => simp [intOf]; omega
          · obtain rfl : k = p + 1 := by omega
            have hFJ := HFJ.out
            obtain rfl : r = j + 1 := by omega
            have hz6 : ¬ ((j + 1 : Nat) : Int) ≤ (j : Int) := by omega
            have HJ := Lib.hid (sl_join V HV.out F p (by omega))
            have HRJ := Lib.hid (sl_row V HV.out F (p + 1) (by omega))
            have HUB := Lib.hid hub
            clear e1 e2 e3 e4 hr1 hsb hub HSU HUP HR hk
            go_wp2_with fail
            refine (HQ6.out.q.total HRJ.out (by rw [slW_len]; omega)).mono ?_
            rintro e w6 ⟨Hh, _, rfl, hh, hb⟩
            have hJ := HJ.out
            have HLN : Hid (∀ w', Below w6.heap.size w6 w' → Calls Try.prog 31 #[.pointer (some ⟨g, 0, none⟩)] w' fun e w2 => e = .returned (.int .i64 ((p + 1 : Nat) : Int)) ∧ ∃ k, w2 = w'.drewN k) := fun w' hb' => by
              have := (HQ6.out.below (hb.trans (hb'.mono hb.size))).q.len (by rw [slW_len]; omega)
              rwa [slW_len] at this
            generalize joinAc [0] (slW V F (p + 1)) = J at hJ hh ⊢
            have hJl : J.h.length = 2 := by rw [hJ.jh]; rfl
            rw [hJl]
            have hal := (Below.refl w6.heap.size w6).alloc (Nat.le_refl _) (.cells (accC J (some ⟨Hh, 0, none⟩) 2 2) 29)
            have HQ7 := Lib.hid ((HQ6.out.below hb).below hal)
            have HBX := Lib.hid (Has.made w6 29 (accC J (some ⟨Hh, 0, none⟩) 2 2))
            have HHI := Lib.hid (show Ints (w6.alloc (.cells (accC J (some ⟨Hh, 0, none⟩) 2 2) 29)) (some ⟨Hh, 0, none⟩) 2 J.h from (ints_of_has hh hJl).below hal)
            have HAL := Lib.hid hal
            have HJ2 := Lib.hid hJ
            clear hJ hh hb hal HJ HRJ HQ6 HCV
            go_upto_region 30 with (refine store_made rfl _ _ rfl (ac := J) (A := some ⟨Hh, 0, none⟩) (k := 2) (c := 2) rfl rfl rfl ?_)
            generalize w6.alloc _ = w7 at HQ7 HBX HHI HAL ⊢
            generalize w6.heap.size = y at HBX ⊢
            refine ssl30_any (g := g) (y := y) (hb := Hh) (hc := 2) (I := j) (F := F) (su := suV V F (p + 1)) (lo := loV V F (p + 1)) (hi := hiV V F (p + 1)) (up := upV V F (p + 1)) (n := ((p + 1 : Nat) : Int))
              ⟨rfl, rfl, rfl, rfl, rfl, rfl, rfl, rfl, rfl, by rw [HBX.out.cell, accC_0, HJ2.out.jn]; rfl, by rw [HBX.out.cell, accC_1, HJ2.out.js], by rw [HBX.out.cell, accC_2, HJ2.out.jmn], by rw [HBX.out.cell, accC_3, HJ2.out.jmx], by rw [HBX.out.cell, accC_6, HJ2.out.jf]; rfl, by rw [HBX.out.cell, accC_10, HJ2.out.jl, hFJ]; rfl, by rw [HBX.out.cell, accC_12],
                by have := HHI.out; rw [HJ2.out.jh] at this; exact this, by omega, by omega, by have := HUB.out; omega, fun w' hb' => HLN.out w' (HAL.out.trans (hb'.mono HAL.out.size))⟩ (by kernel_rfl) ?_
            intro e8 w8 hB8 _
            have H8 : Hid (SlS w g V Wd (j + 1) w8) := by
              unfold SlS
              rw [hF, hp]
              exact ⟨_, HQ7.out.below hB8⟩
            clear hB8 HQ7 HBX HHI HAL HJ2 HLN HUB
            simp only [putAll, Act.put, List.setIfInBounds_toArray, List.set_cons_succ, List.set_cons_zero]
            go_wp2_with fail
            go_roundw
            case rel => exact ⟨j + 1, by omega, by omega, by go_num, H8⟩
            case measure => simp [intOf]; omega
    · have hx : ¬ (j : Int) < (n : Int) ∨ ((j : Int) < (n : Int) ∧ ¬ (j : Int) < 40) := by omega
      obtain ⟨O, hq⟩ := HS.out
      have HF := Lib.hid hq.keep
      clear hq HS
      rcases hx with hx | ⟨hx, hy⟩
      · go_wp2_with fail
        go_ret
        exact ⟨rfl, HF.out⟩
      · go_wp2_with fail
        go_ret
        exact ⟨rfl, HF.out⟩

end Go.Proofs.Ytjmaeiilkbfnaaa
