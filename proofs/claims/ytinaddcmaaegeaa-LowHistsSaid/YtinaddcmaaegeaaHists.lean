/-
  Walk: LowHists: all buckets together are the count; a greater rank never tells less.
-/
import Derived.Test.YtinaddcmaaegeaaRankP
import Derived.Test.YtinaddcmaaegeaaAwake2
import Derived.Test.YtinaddcmaaegeaaMask
import Derived.Deep.DeepCutAuto
import Derived.Deep.CutBlock
import Derived.Deep.QuietTactic
namespace Go.Proofs.Ytinaddcmaaegeaa
open Go.RowKit

/-- What is told of the row: the buckets' aggregate in a variable, and all that lies ahead. -/
structure HiSt (w : World) (gb gA : Nat) (a : Ac) (A : Option Addr) (n c : Nat) (wr : World) : Prop where
  b : Has wr gb 3 (ints RB)
  acc : Vg wr gA a A n c
  keep : Below w.heap.size w wr
theorem HiSt.below {w : World} {gb gA : Nat} {a : Ac} {A : Option Addr} {n c : Nat} {wr wy : World} (h : HiSt w gb gA a A n c wr) (hb : Below wr.heap.size wr wy) : HiSt w gb gA a A n c wy :=
  ⟨has_below h.b hb, h.acc.below hb, h.keep.trans (hb.mono h.keep.size)⟩

set_option maxRecDepth 100000 in
set_option maxHeartbeats 20000000 in
theorem hists_any (A : Option Addr) (n c : Nat) (vs : List Int) (k1 k2 : Int) (w : World) (hr : Ints w A n vs) (hn : n ≤ maxLen) :
    Calls Try.prog 15 #[.slice A n c, .int .i64 k1, .int .i64 k2] w fun e w' => e = .returned (.bool true) ∧ Below w.heap.size w w' := by
  have HR := Lib.hid hr
  unfold maxLen at hn
  obtain ⟨m, hm1, hm2, hm3⟩ : ∃ m : Nat, m ≤ n ∧ m ≤ 30 ∧ (m = n ∨ m = 30) := ⟨min n 30, by omega, by omega, by omega⟩
  go_enter Try.func15, Try.ntmps15
  go_wp2_with fail
  refine (awake2_any _).mono ?_
  rintro e w1 ⟨rfl, hB0⟩
  go_upto_block 0 with fail
  have hP0 : Hid (RkSt w w1.heap.size vs 0 none 0 (w1.alloc (.cells #[.int .i64 (-100), .int .i64 0, .int .i64 50, .int .i64 200] 3))) :=
    ⟨OwnIt.nil _ _, Has.made w1 _ _, below_alloc hB0 (Nat.le_refl _) _, hB0.size⟩
  clear hB0
  generalize w1.alloc (.cells #[.int .i64 (-100), .int .i64 0, .int .i64 50, .int .i64 200] 3) = wz at hP0 ⊢
  generalize w1.heap.size = gb at hP0 ⊢
  go_cut [8] (fun x wx => ∃ (D : Option Addr) (e : Nat), x = .slice D m e ∧ Hid (RkSt w gb vs m D e wx))
  case first =>
    go_wp2_with fail
    go_loopw [8, 9] (fun x i wr => ∃ (j : Nat) (D : Option Addr) (e : Nat), j ≤ m ∧ i = .int .i64 j ∧ x = .slice D j e ∧ Hid (RkSt w gb vs j D e wr)) (fun _ i _ => m - (intOf i).toNat)
    case atStart => exact ⟨0, none, 0, Nat.zero_le _, rfl, rfl, hP0⟩
    case round =>
      clear hP0
      obtain ⟨j, D, e, hj, rfl, rfl, HP⟩ := hrel
      by_cases hlt : j < m
      · obtain ⟨b, o, rfl, hc⟩ := HR.out.at_ (k := 0) (by omega)
        have hcell : wr.cell? ⟨b, o + j, none⟩ = some (.int .i64 (nth vs j)) := (HP.out.keep.cell (block_lt_of_cell (hc j (by omega)))).trans (hc j (by omega))
        clear hc
        have hv := vB_bd (nth vs j)
        have hmask : bits .and .i64 (nth vs j) 1023 = vB (nth vs j) + 500 := by rw [mask1023]; unfold vB; omega
        have hjn : (j : Int) < (n : Int) := by omega
        have hj30 : (j : Int) < 30 := by omega
        have HX : Hid (buX vs j ++ [⟨0, (j : Int), (j : Int) + 1, vB (nth vs j)⟩] = buX vs (j + 1)) := bu_succ vs j
        generalize vB (nth vs j) = v at hv hmask HX
        go_wp2_with fail
        refine (mkItem2_any _ _ _ _ _).mono ?_
        rintro e w2 ⟨rfl, hb2⟩
        have HP2 := Lib.hid (HP.out.below hb2)
        have HPa : ∀ o, OwnIt (w2.alloc o) (gb + 1) (.slice D j e) (buX vs j) := fun o => HP2.out.own.below ((Below.refl _ _).alloc (Nat.le_refl _) _)
        have hks := HP2.out.b.lt
        clear hb2 HP hcell
        go_wp2_with (refine app_item rfl _ _ rfl rfl (HPa _) (g := w2.heap.size) (y := ⟨0, (j : Int), (j : Int) + 1, v⟩) rfl (Has.made _ _ _) (by rw [bu_len]; omega) (by simp; omega) ?_; intro D2 e2 wn hwn hbn; rw [HX.out, bu_len] at hwn; have HP3 : Hid (RkSt w gb vs (j + 1) D2 e2 wn) := ⟨hwn, (HP2.out.b.alloc _).below hbn (by omega), (below_alloc HP2.out.keep (Nat.le_refl _) _).trans (hbn.mono (by have := HP2.out.w0; omega)), HP2.out.w0⟩; clear HPa HP2 hwn hbn)
        go_roundw
        case rel => exact ⟨j + 1, D2, e2, by omega, by go_num, by rw [bu_len], HP3⟩
        case measure => simp [intOf]; omega
      · have hjm : j = m := by omega
        subst hjm
        by_cases hjn : j < n
        · have hj30 : ¬ (j : Int) < 30 := by omega
          have hjn2 : (j : Int) < (n : Int) := by omega
          go_wp2
          go_meet
          exact ⟨D, e, rfl, HP⟩
        · go_wp2
          go_meet
          exact ⟨D, e, rfl, HP⟩
  case rest =>
    clear hP0
    obtain ⟨D, e, rfl, HP⟩ := hcut
    by_cases h0 : m = 0
    · subst h0
      have hB := HP.out.keep
      go_wp2
      go_ret
      exact ⟨rfl, hB⟩
    · have hm0 : ((m : Int) == 0) = false := by simp; omega
      have hmp : 0 < m := by omega
      obtain ⟨r, er, r1, r2⟩ := rank_low k1
      obtain ⟨s, es, s1, s2⟩ := rank_low k2
      have K := rank_known vs hmp (show m ≤ 40 by omega)
      have hok : ∀ i, i < m → itemB (nthI (buX vs m) i) = true := fun i hi => (bu_ok vs (show m ≤ 40 by omega) i (by rw [bu_len]; exact hi)).1
      have c1 := fun W (hI : Ints W (some ⟨gb, 0, none⟩) 4 RB) (hT : Items W D m (buX vs m)) => lfold_any D m e (buX vs m) (some ⟨gb, 0, none⟩) 4 4 RB W hT hI (by decide) hok (by omega)
      clear hok
      generalize foldA RB (buX vs m) = FA at K c1
      have c2 := fun W AA nA cA (hI : Ints W (some ⟨gb, 0, none⟩) 4 RB) (gA : Nat) (hT : Vg W gA FA AA nA cA) => value_hist ⟨0, 6, 0, 0, RB, 0⟩ (some ⟨gb, 0, none⟩) 4 4 FA AA nA cA W hI (by unfold maxLen; omega) hT.hist (by have := hT.cap; have := hT.most; omega) (rank_ask hmp K 6 0 (by omega)) rfl
      have c3 := fun (x : Int) (hx : 0 ≤ x ∧ x ≤ 1000) W AA nA cA (hI : Ints W (some ⟨gb, 0, none⟩) 4 RB) (gA : Nat) (hT : Vg W gA FA AA nA cA) => value_rank ⟨0, 7, 0, 0, RB, x⟩ (some ⟨gb, 0, none⟩) 4 4 FA AA nA cA W hI (by unfold maxLen; omega) hT.hist (by have := hT.cap; have := hT.most; omega) (rank_ask hmp K 7 x hx) rfl
      simp only at c2 c3
      have hle : ∀ x y : Int, x ≤ y → y ≤ 1000 → rankV RB FA.h (place x FA.n) FA.mx ≤ rankV RB FA.h (place y FA.n) FA.mx := fun x y h1 h2 => by
        have hp := place_le h1 h2 (show 1 ≤ FA.n by rw [K.n]; omega)
        exact rank_le K hp.1 (by have := hp.2; rw [K.n] at this ⊢; exact this)
      obtain ⟨f, hf⟩ : ∃ f : Int → Int, ∀ x, rankV RB FA.h (place x FA.n) FA.mx = f x := ⟨fun x => _, fun x => rfl⟩
      simp only [hf] at c3 hle
      have hsum := hist_sum K.fit
      rw [K.n] at hsum
      have HSUM := Lib.hid hsum; clear hsum
      have HLEN := Lib.hid K.len
      have C1 := Lib.hid c1; clear c1
      have C2 := Lib.hid c2; clear c2
      have C3 := Lib.hid c3; clear c3
      have HLE := Lib.hid hle; clear hle hf K
      go_wp2_with fail
      refine (C1.out _ (ints_of_has HP.out.b rfl) HP.out.own.items).mono ?_
      clear C1
      rintro e1 wf ⟨AA, nA, cA, rfl, hin, hb2⟩
      replace HP := Lib.hid (HP.out.below hb2)
      clear hb2
      go_upto_region 12 with (refine store_new rfl _ _ rfl rfl rfl rfl ?_; intro wn hbn hvn)
      have HI : Hid (HiSt w gb wf.heap.size FA AA nA cA wn) := ⟨has_below HP.out.b hbn, ⟨hvn, hin.hist.below hbn, hin.cap, hin.most⟩, (HP.out.below hbn).keep⟩
      generalize wf.heap.size = gA at HI ⊢
      clear HP hbn hvn hin
      go_wp2_with (refine load_has rfl _ rfl _ rfl HI.out.acc.cells ?_)
      refine (C2.out _ AA nA cA (ints_of_has HI.out.b rfl) gA HI.out.acc).mono ?_
      clear C2
      rintro e1 wg ⟨AO, nO, cO, rfl, hIO, hcap, hmost, hnew, hb2⟩
      replace HI := Lib.hid (HI.out.below hb2)
      obtain rfl : nO = 5 := by rw [← hIO.1]; exact HLEN.out
      clear hb2 hcap hmost hnew
      go_upto_region 13 with (refine store_newO rfl _ _ rfl rfl rfl rfl ?_; intro wn hbn hvn)
      replace HI := Lib.hid (HI.out.below hbn)
      have HO : Hid (Vo wn wg.heap.size 0 false FA.h AO 5 cO) := ⟨hvn, hIO.below hbn⟩
      generalize wg.heap.size = gO at HO ⊢
      clear hbn hvn hIO
      go_upto_region 14 with fail
      rw [er, es]
      clear er es
      generalize (IntKind.u64.wrap k1).tmod 1001 = junk1
      generalize (IntKind.u64.wrap k2).tmod 1001 = junk2
      obtain ⟨lo, hi, l1, l2, l3, hcase⟩ : ∃ lo hi : Int, 0 ≤ lo ∧ lo ≤ hi ∧ hi ≤ 1000 ∧ ((r < s ∧ lo = r ∧ hi = s) ∨ (s < r ∧ lo = s ∧ hi = r) ∨ (r = s ∧ lo = r ∧ hi = r)) := by
        by_cases h : r < s
        · exact ⟨r, s, by omega, by omega, by omega, .inl ⟨h, rfl, rfl⟩⟩
        · by_cases h2 : s < r
          · exact ⟨s, r, by omega, by omega, by omega, .inr (.inl ⟨h2, rfl, rfl⟩)⟩
          · exact ⟨r, r, by omega, by omega, by omega, .inr (.inr ⟨by omega, rfl, rfl⟩)⟩
      have HPQ := Lib.hid (HLE.out lo hi l2 l3)
      clear HLE
      clear l2
      rcases hcase with ⟨hrs, rfl, rfl⟩ | ⟨hrs, rfl, rfl⟩ | ⟨rfl, rfl, rfl⟩
      all_goals
        go_wp2_with (refine load_has rfl _ rfl _ rfl HI.out.acc.cells ?_)
        refine (C3.out _ (by omega) _ AA nA cA (ints_of_has HI.out.b rfl) gA HI.out.acc).mono ?_
        rintro e1 wg ⟨AP, nP, cP, rfl, hIO, hcap, hmost, hnew, hb2⟩
        replace HI := Lib.hid (HI.out.below hb2)
        replace HO := Lib.hid (HO.out.below hb2)
        obtain rfl : nP = 0 := hIO.1.symm
        clear hb2 hcap hmost hnew hIO
        go_upto_region 15 with (refine store_newO rfl _ _ rfl rfl rfl rfl ?_; intro wn hbn hvn)
        replace HI := Lib.hid (HI.out.below hbn)
        replace HO := Lib.hid (HO.out.below hbn)
        generalize wg.heap.size = gP at hvn ⊢
        clear hbn
        go_wp2_with (refine load_has rfl _ rfl _ rfl HI.out.acc.cells ?_)
        refine (C3.out _ (by omega) _ AA nA cA (ints_of_has HI.out.b rfl) gA HI.out.acc).mono ?_
        rintro e1 wg ⟨AQ, nQ, cQ, rfl, hIO, hcap, hmost, hnew, hb2⟩
        replace HI := Lib.hid (HI.out.below hb2)
        replace HO := Lib.hid (HO.out.below hb2)
        replace hvn := has_below hvn hb2
        obtain rfl : nQ = 0 := hIO.1.symm
        clear hb2 hcap hmost hnew hIO C3
        go_upto_region 16 with (refine store_newO rfl _ _ rfl rfl rfl rfl ?_; intro wn2 hbn hvn2)
        replace HI := Lib.hid (HI.out.below hbn)
        replace HO := Lib.hid (HO.out.below hbn)
        replace hvn := has_below hvn hbn
        generalize wg.heap.size = gQ at hvn2 ⊢
        clear hbn
        have cP : wn2.cell? ⟨gP, 0, none⟩ = some (.int .i64 _) := hvn.cell 0
        have cQ : wn2.cell? ⟨gQ, 0, none⟩ = some (.int .i64 _) := hvn2.cell 0
        have cH : wn2.cell? ⟨gO, 2, none⟩ = some (.slice AO 5 cO) := HO.out.cells.cell 2
        obtain ⟨b, o, rfl, hcO⟩ := HO.out.hist.at_ (k := 0) (by omega)
        have HCO := Lib.hid hcO; clear hcO
        have HB := Lib.hid HI.out.keep
        clear HI HO hvn hvn2 HR hr
        have hpq := HPQ.out
        clear HPQ
        go_wp2_with fail
        go_loop [19, 20] (fun x i => ∃ (j : Nat) (S : Int), j ≤ 5 ∧ i = .int .i64 j ∧ x = .int .i64 S ∧ 0 ≤ S ∧ S ≤ 8192 * j ∧ Hid (isum (FA.h.take j) = S)) (fun _ i => 5 - (intOf i).toNat)
        case atStart => exact ⟨0, 0, Nat.zero_le _, rfl, rfl, by omega, by omega, rfl⟩
        case round =>
          obtain ⟨j, S, hj, rfl, rfl, S1, S2, HS⟩ := hrel
          by_cases hlt : j < 5
          · have hj5 : (j : Int) < 5 := by omega
            have hcj := HCO.out j hlt
            obtain ⟨x1, x2⟩ := HSUM.out.2 j (by rw [HLEN.out]; exact hlt)
            have HX : Hid (isum (FA.h.take (j + 1)) = S + nth FA.h j) := by rw [Hid, isum_take_succ (by rw [HLEN.out]; exact hlt), HS.out]
            generalize nth FA.h j = x at x1 x2 hcj HX
            go_wp2
            go_round
            case rel => exact ⟨j + 1, S + x, by omega, by go_num, rfl, by omega, by omega, HX⟩
            case measure => simp [intOf]; omega
          · have hj5 : j = 5 := by omega
            subst hj5
            obtain rfl : S = (m : Int) := by
              have := HS.out
              rw [List.take_of_length_le (by rw [HLEN.out]; exact Nat.le_refl _)] at this
              rw [← this]; exact HSUM.out.1
            go_wp2_with (go_at_call 23; refine (num_any _ _).mono ?_; rintro e w' ⟨rfl, rfl⟩)
            go_ret
            exact ⟨rfl, HB.out⟩

end Go.Proofs.Ytinaddcmaaegeaa
