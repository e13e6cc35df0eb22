/-
  Walk: LowRanks: a rank's value has at least so many at or below it, and the bound ahead has fewer.
-/
import Derived.Test.YtinaddcmaaegeaaRankP
import Derived.Test.YtinaddcmaaegeaaAwake2
import Derived.Test.YtinaddcmaaegeaaMask
import Derived.Deep.DeepCutAuto
import Derived.Deep.CutBlock
import Derived.Deep.QuietTactic
namespace Go.Proofs.Ytinaddcmaaegeaa
open Go.RowKit

set_option maxRecDepth 100000 in
set_option maxHeartbeats 20000000 in
theorem ranks_any (A : Option Addr) (n c : Nat) (vs : List Int) (k : Int) (w : World) (hr : Ints w A n vs) (hn : n ≤ maxLen) :
    Calls Try.prog 12 #[.slice A n c, .int .i64 k] w fun e w' => e = .returned (.bool true) ∧ Below w.heap.size w w' := by
  have HR := Lib.hid hr
  unfold maxLen at hn
  obtain ⟨m, hm1, hm2, hm3⟩ : ∃ m : Nat, m ≤ n ∧ m ≤ 30 ∧ (m = n ∨ m = 30) := ⟨min n 30, by omega, by omega, by omega⟩
  go_enter Try.func12, Try.ntmps12
  go_wp2_with fail
  refine (awake2_any _).mono ?_
  rintro e w1 ⟨rfl, hB0⟩
  go_upto_block 0 with fail
  have hP0 : Hid (RkSt w w1.heap.size vs 0 none 0 (w1.alloc (.cells #[.int .i64 (-100), .int .i64 0, .int .i64 50, .int .i64 200] 3))) :=
    ⟨OwnIt.nil _ _, Has.made w1 _ _, below_alloc hB0 (Nat.le_refl _) _, hB0.size⟩
  clear hB0
  generalize w1.alloc (.cells #[.int .i64 (-100), .int .i64 0, .int .i64 50, .int .i64 200] 3) = wz at hP0 ⊢
  generalize w1.heap.size = gb at hP0 ⊢
  go_cut [6, 7] (fun x t wx => ∃ (D : Option Addr) (e : Nat) (T : Int), x = .slice D m e ∧ t = .int .i64 T ∧ Hid (RkSt w gb vs m D e wx))
  case first =>
    go_wp2_with fail
    go_loopw [6, 7, 8] (fun x t i wr => ∃ (j : Nat) (D : Option Addr) (e : Nat) (T : Int), j ≤ m ∧ i = .int .i64 j ∧ x = .slice D j e ∧ t = .int .i64 T ∧ Hid (RkSt w gb vs j D e wr)) (fun _ _ i _ => m - (intOf i).toNat)
    case atStart => exact ⟨0, none, 0, _, Nat.zero_le _, rfl, rfl, rfl, hP0⟩
    case round =>
      clear hP0
      obtain ⟨j, D, e, T, hj, rfl, rfl, rfl, HP⟩ := hrel
      by_cases hlt : j < m
      · obtain ⟨b, o, rfl, hc⟩ := HR.out.at_ (k := 0) (by omega)
        have hcell : wr.cell? ⟨b, o + j, none⟩ = some (.int .i64 (nth vs j)) := (HP.out.keep.cell (block_lt_of_cell (hc j (by omega)))).trans (hc j (by omega))
        clear hc
        have hv := vB_bd (nth vs j)
        have hmask : bits .and .i64 (nth vs j) 1023 = vB (nth vs j) + 500 := by rw [mask1023]; unfold vB; omega
        have hjn : (j : Int) < (n : Int) := by omega
        have hj30 : (j : Int) < 30 := by omega
        have HX : Hid (buX vs j ++ [⟨0, (j : Int), (j : Int) + 1, vB (nth vs j)⟩] = buX vs (j + 1)) := bu_succ vs j
        generalize vB (nth vs j) = v at hv hmask HX
        go_wp2_with fail
        refine (mkItem2_any _ _ _ _ _).mono ?_
        rintro e w2 ⟨rfl, hb2⟩
        have HP2 := Lib.hid (HP.out.below hb2)
        have HPa : ∀ o, OwnIt (w2.alloc o) (gb + 1) (.slice D j e) (buX vs j) := fun o => HP2.out.own.below ((Below.refl _ _).alloc (Nat.le_refl _) _)
        have hks := HP2.out.b.lt
        clear hb2 HP hcell
        go_wp2_with (refine app_item rfl _ _ rfl rfl (HPa _) (g := w2.heap.size) (y := ⟨0, (j : Int), (j : Int) + 1, v⟩) rfl (Has.made _ _ _) (by rw [bu_len]; omega) (by simp; omega) ?_; intro D2 e2 wn hwn hbn; rw [HX.out, bu_len] at hwn; have HP3 : Hid (RkSt w gb vs (j + 1) D2 e2 wn) := ⟨hwn, (HP2.out.b.alloc _).below hbn (by omega), (below_alloc HP2.out.keep (Nat.le_refl _) _).trans (hbn.mono (by have := HP2.out.w0; omega)), HP2.out.w0⟩; clear HPa HP2 hwn hbn)
        all_goals go_roundw
        all_goals first
          | exact ⟨j + 1, D2, e2, _, by omega, by go_num, by rw [bu_len], rfl, HP3⟩
          | (simp [intOf]; omega)
      · have hjm : j = m := by omega
        subst hjm
        by_cases hjn : j < n
        · have hj30 : ¬ (j : Int) < 30 := by omega
          have hjn2 : (j : Int) < (n : Int) := by omega
          go_wp2
          go_meet
          exact ⟨D, e, T, rfl, rfl, HP⟩
        · go_wp2
          go_meet
          exact ⟨D, e, T, rfl, rfl, HP⟩
  case rest =>
    clear hP0
    obtain ⟨D, e, T, rfl, rfl, HP⟩ := hcut
    by_cases h0 : m = 0
    · subst h0
      have hB := HP.out.keep
      go_wp2
      go_ret
      exact ⟨rfl, hB⟩
    · have hm0 : ((m : Int) == 0) = false := by simp; omega
      have hmp : 0 < m := by omega
      obtain ⟨R, eR, R1, R2⟩ := rank_low k
      have K := rank_known vs hmp (show m ≤ 40 by omega)
      obtain ⟨V, hV⟩ : ∃ V, V = rankV RB (foldA RB (buX vs m)).h (place R (foldA RB (buX vs m)).n) (foldA RB (buX vs m)).mx := ⟨_, rfl⟩
      have said := rank_said hmp (show m ≤ 40 by omega) K ⟨R1, R2⟩ hV
      have hask := rank_ask hmp K 7 R ⟨R1, R2⟩
      have hok : ∀ i, i < m → itemB (nthI (buX vs m) i) = true := fun i hi => (bu_ok vs (show m ≤ 40 by omega) i (by rw [bu_len]; exact hi)).1
      have c1 := fun W (hI : Ints W (some ⟨gb, 0, none⟩) 4 RB) (hT : Items W D m (buX vs m)) => lfold_any D m e (buX vs m) (some ⟨gb, 0, none⟩) 4 4 RB W hT hI (by decide) hok (by omega)
      have c2 := fun W AA nA cA (hI : Ints W (some ⟨gb, 0, none⟩) 4 RB) (hT : AccIn W 0 (foldA RB (buX vs m)) AA nA cA) => value_rank ⟨0, 7, 0, 0, RB, R⟩ (some ⟨gb, 0, none⟩) 4 4 (foldA RB (buX vs m)) AA nA cA W hI (by unfold maxLen; omega) hT.hist (by have := hT.cap; have := hT.most; omega) hask rfl
      simp only at c2
      rw [← hV] at c2
      clear K hask hV hok
      generalize foldA RB (buX vs m) = FA at c1 c2
      have C1 := Lib.hid c1; clear c1
      have C2 := Lib.hid c2; clear c2
      have SD := Lib.hid said; clear said
      go_upto_region 15 with fail
      rw [eR]
      clear eR
      generalize (IntKind.u64.wrap k).tmod 1001 = junk
      go_wp2_with fail
      refine (C1.out _ (ints_of_has HP.out.b rfl) HP.out.own.items).mono ?_
      clear C1
      rintro e1 wf ⟨AA, nA, cA, rfl, hin, hb2⟩
      replace HP := Lib.hid (HP.out.below hb2)
      clear hb2
      go_wp2_with fail
      refine (C2.out _ AA nA cA (ints_of_has HP.out.b rfl) (hin.mono (Nat.zero_le _))).mono ?_
      clear C2 hin
      rintro e1 wg ⟨AO, nO, cO, rfl, hIO, hcap, hmost, hnew, hb2⟩
      replace HP := Lib.hid (HP.out.below hb2)
      obtain rfl : nO = 0 := hIO.1.symm
      clear hb2 hIO hcap hmost hnew
      go_upto_region 16 with (refine store_newO rfl _ _ rfl rfl rfl rfl ?_; intro wn hbn hvn)
      replace HP := Lib.hid (HP.out.below hbn)
      generalize wg.heap.size = gO at hvn ⊢
      have o0 : wn.cell? ⟨gO, 0, none⟩ = some (.int .i64 V) := hvn.cell 0
      have o1 : wn.cell? ⟨gO, 1, none⟩ = some (.bool false) := hvn.cell 1
      have o2 : wn.cell? ⟨gO, 2, none⟩ = some (.slice AO 0 cO) := hvn.cell 2
      clear hbn hvn
      obtain ⟨b, o, rfl, hi⟩ := HP.out.own.items.at_ (by omega)
      have hcI : ∀ j : Nat, j < m → wn.cell? ⟨b, o + j * 4 + 3, none⟩ = some (.int .i64 (vB (nth vs j))) := fun j hj => by
        have := hi j hj
        rw [bu_at vs hj] at this
        simpa using this 3 _ rfl
      have hcB : ∀ j : Nat, j < 4 → wn.cell? ⟨gb, 0 + j, none⟩ = some (.int .i64 (nth RB j)) := fun j hj => by rw [HP.out.b.cell, Nat.zero_add, ints_get _ (by simpa [RB] using hj)]
      have HCI := Lib.hid hcI; clear hcI hi
      have HCB := Lib.hid hcB; clear hcB
      have HB := Lib.hid HP.out.keep
      clear HP HR hr
      go_wp2_with (go_at_call 23; refine (num_any _ _).mono ?_; rintro e w' ⟨rfl, rfl⟩)
      clear o1 o2
      go_loopw [13, 14] (fun x i wr => ∃ (j t : Nat), j ≤ 4 ∧ i = .int .i64 j ∧ x = .int .i64 (ahB V j) ∧ wr = wn.drewN t) (fun _ i _ => 4 - (intOf i).toNat)
      case atStart => exact ⟨0, 0, Nat.zero_le _, rfl, rfl, rfl⟩
      case round =>
        obtain ⟨j, t, hj, rfl, rfl, rfl⟩ := hrel
        by_cases hlt : j < 4
        · have hj4 : (j : Int) < 4 := by omega
          have hcj := HCB.out j hlt
          have hcj2 : wn.cell? ⟨gb, j, none⟩ = some (.int .i64 (nth RB j)) := by rw [Nat.zero_add] at hcj; exact hcj
          by_cases hV : nth RB j < V
          · have HA := Lib.hid (ahB_yes hV)
            generalize nth RB j = bj at hV hcj hcj2 HA
            generalize ahB V j = aj
            go_wp2_with fail
            go_quiet (fail)
            rw [World.drewN_drewN]
            go_wp2_with fail
            go_roundw
            case rel => exact ⟨j + 1, _, by omega, by go_num, by rw [HA.out], rfl⟩
            case measure => simp [intOf]; omega
          · have HA := Lib.hid (ahB_no hV)
            generalize nth RB j = bj at hV hcj hcj2
            generalize ahB V j = aj at HA ⊢
            go_wp2_with fail
            go_quiet (fail)
            rw [World.drewN_drewN]
            go_wp2_with fail
            go_roundw
            case rel => exact ⟨j + 1, _, by omega, by go_num, by rw [HA.out], rfl⟩
            case measure => simp [intOf]; omega
        · have hj4 : j = 4 := by omega
          subst hj4
          generalize ahB V 4 = AH at SD ⊢
          go_wp2_with fail
          go_loopw [15, 16, 17] (fun a f i wr => ∃ (j t : Nat), j ≤ m ∧ i = .int .i64 j ∧ a = .int .i64 (cN vs j V) ∧ f = .int .i64 (cN vs j AH) ∧ wr = wn.drewN t) (fun _ _ i _ => m - (intOf i).toNat)
          case atStart => exact ⟨0, t, Nat.zero_le _, rfl, rfl, rfl, rfl⟩
          case round =>
            obtain ⟨j, t, hj, rfl, rfl, rfl, rfl⟩ := hrel
            have q1 := cN_bd vs j V
            have q2 := cN_bd vs j AH
            by_cases hlt : j < m
            · have hcj := HCI.out j hlt
              have hjm : (j : Int) < (m : Int) := by omega
              by_cases hV : vB (nth vs j) ≤ V
              all_goals
                by_cases hA : vB (nth vs j) ≤ AH
                all_goals
                  have HA := Lib.hid (show cN vs (j + 1) V = _ ∧ cN vs (j + 1) AH = _ from ⟨by first | exact cN_succ_le hV | exact cN_succ_gt hV, by first | exact cN_succ_le hA | exact cN_succ_gt hA⟩)
                  generalize vB (nth vs j) = v at hV hA hcj
                  generalize cN vs j V = cv at q1 HA ⊢
                  generalize cN vs j AH = ca at q2 HA ⊢
                  go_wp2_with fail
                  go_quiet (fail)
                  rw [World.drewN_drewN]
                  go_wp2_with fail
                  go_roundw
                  case rel => first | exact ⟨j + 1, _, by omega, by go_num, by rw [HA.out.1], by rw [HA.out.2], rfl⟩ | ((repeat apply Exists.intro); exact ⟨⟨j + 1, _, by omega, by go_num, by rw [HA.out.1], by rw [HA.out.2], rfl⟩, rfl⟩)
                  case measure => simp [intOf]; omega
            · have hjm : j = m := by omega
              subst hjm
              obtain ⟨s1, s2, s3⟩ := SD.out
              have s4 : 0 ≤ R * (j : Int) ∧ R * (j : Int) ≤ 30000 := by
                have p1 := Int.mul_nonneg R1 (show (0 : Int) ≤ (j : Int) by omega)
                have p2 := Int.mul_le_mul_of_nonneg_right R2 (show (0 : Int) ≤ (j : Int) by omega)
                omega
              clear SD HCI HCB o0 hm0
              generalize cN vs j V = cv at q1 s1 s2 ⊢
              generalize cN vs j AH = ca at q2 s3 ⊢
              have s5 : R * (j : Int) ≤ cv * 1000 := s2
              rcases s3 with s3 | rfl
              · go_wp2_with fail
                go_ret
                exact ⟨rfl, below_drewN HB.out _⟩
              · by_cases s6 : 0 < R * (j : Int)
                · go_wp2_with fail
                  go_ret
                  exact ⟨rfl, below_drewN HB.out _⟩
                · go_wp2_with fail
                  go_ret
                  exact ⟨rfl, below_drewN HB.out _⟩

end Go.Proofs.Ytinaddcmaaegeaa
