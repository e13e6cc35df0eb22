/-
  Walk: LowPlain: each aggregate of some values is what a plain walk finds.
-/
import Derived.Test.YtdnlkimibdojmaaOwnIt
import Derived.Test.YtdnlkimibdojmaaPlain21
import Derived.Test.YtdnlkimibdojmaaMask
import Derived.Deep.DeepCutAuto
import Derived.Deep.CutBlock
import Derived.StillTailTactics
namespace Go.Proofs.Ytdnlkimibdojmaa
open Go.RowKit

def plS (vs : List Int) (m j : Nat) : Int := (foldTo [] (plainX vs m) j).s
def plL (vs : List Int) (m j : Nat) : Int := if j = 0 then 1099511627776 else (foldTo [] (plainX vs m) j).mn
def plT (vs : List Int) (m j : Nat) : Int := if j = 0 then -1099511627776 else (foldTo [] (plainX vs m) j).mx
theorem pl_succ (vs : List Int) {m j : Nat} (h : j < m) : plS vs m (j + 1) = plS vs m j + vOf (nth vs j) ∧ plL vs m (j + 1) = min (plL vs m j) (vOf (nth vs j)) ∧ plT vs m (j + 1) = max (plT vs m j) (vOf (nth vs j)) ∧ -500 * (j : Int) ≤ plS vs m j ∧ plS vs m j ≤ 523 * (j : Int) ∧ -500 ≤ plL vs m j ∧ plL vs m j ≤ 1099511627776 ∧ -1099511627776 ≤ plT vs m j ∧ plT vs m j ≤ 523 := by
  have hv := vOf_bd (nth vs j)
  unfold plS plL plT
  by_cases h0 : j = 0
  · subst h0
    have k := plain_known vs (m := m) 1 (by omega) (by omega)
    have e : foldTo [] (plainX vs m) 1 = oneAc (nthI (plainX vs m) 0) [] := foldTo_one [] _ (by rw [plain_len]; omega)
    rw [plain_at vs h] at e
    rw [foldTo_zero, show (0 + 1 : Nat) = 1 from rfl, e]
    simp only [oneAc, startJ, if_true, Nat.one_ne_zero, if_false]
    omega
  · obtain ⟨k1, k2, k3, k4, k5, -, -, -, -, -, -, -⟩ := plain_known vs (m := m) j (by omega) (by omega)
    have e := foldTo_succ [] (plainX vs m) (j := j) (by rw [plain_len]; omega)
    rw [plain_at vs h] at e
    have hn : ¬ (foldTo [] (plainX vs m) j).n = 0 := by rw [k1]; omega
    rw [e, if_neg h0, if_neg h0, if_neg (show ¬ j + 1 = 0 by omega), if_neg (show ¬ j + 1 = 0 by omega)]
    simp only [addAc, oneAc, hn, if_false, true_and]
    omega
structure PlSt (w : World) (vs : List Int) (j : Nat) (D : Option Addr) (e : Nat) (wr : World) : Prop where
  own : OwnIt wr w.heap.size (.slice D j e) (plainX vs j)
  keep : Below w.heap.size w wr

def wantL (p : Nat) (a : Ac) : List Int := [(p : Int) + 1, a.s, a.mn, a.mx, a.f.v, a.l.v]
structure PlW (w : World) (gA gw p : Nat) (a : Ac) (A : Option Addr) (n c : Nat) (wr : World) : Prop where
  acc : Vg wr gA a A n c
  want : Has wr gw 3 (ints (wantL p a))
  keep : Below w.heap.size w wr
theorem PlW.below {w : World} {gA gw p : Nat} {a : Ac} {A : Option Addr} {n c : Nat} {wr wy : World} (h : PlW w gA gw p a A n c wr) (hb : Below wr.heap.size wr wy) : PlW w gA gw p a A n c wy := ⟨h.acc.below hb, has_below h.want hb, h.keep.trans (hb.mono h.keep.size)⟩
theorem plain_value {vs : List Int} {p : Nat} {a : Ac} (hp : p + 1 ≤ 30) (K : PlainK vs (p + 1) a) {j : Nat} (hj : j < 6) {g : Nat} {A : Option Addr} {n c : Nat} (W : World) (hV : Vg W g a A n c) :
    Calls Try.prog 33 #[.agg (quC ⟨0, j, 0, 0, [], 0⟩ none 0 0), .agg (accC a A n c)] W (OkOut (nth (wantL p a) j) false [] W) := by
  have hl : n ≤ maxLen := by have := hV.cap; have := hV.most; omega
  have ask : ∀ i : Int, i ≠ 7 → askB ⟨0, i, 0, 0, [], 0⟩ a = true := fun i hi => plain_ask vs (by omega) hp ⟨0, i, 0, 0, [], 0⟩ ⟨rfl, rfl, hi⟩ K
  match j, hj with
  | 0, _ =>
    have h := value_count ⟨0, 0, 0, 0, [], 0⟩ none 0 0 a A n c W Ints.nil (Nat.zero_le _) hV.hist hl (ask 0 (by decide)) rfl
    rw [K.n] at h
    exact h
  | 1, _ =>
    have h := value_sum ⟨0, 1, 0, 0, [], 0⟩ none 0 0 a A n c W Ints.nil (Nat.zero_le _) hV.hist hl (ask 1 (by decide)) rfl
    have hs := K.s0
    have ht := K.s1
    have e : wi a.s (-1125899906842624) 1125899906842624 = true := wi_mk (by omega)
    simp only [e, if_true, Bool.not_true] at h
    exact h
  | 2, _ => exact value_min ⟨0, 2, 0, 0, [], 0⟩ none 0 0 a A n c W Ints.nil (Nat.zero_le _) hV.hist hl (ask 2 (by decide)) rfl
  | 3, _ => exact value_max ⟨0, 3, 0, 0, [], 0⟩ none 0 0 a A n c W Ints.nil (Nat.zero_le _) hV.hist hl (ask 3 (by decide)) rfl
  | 4, _ => exact value_first ⟨0, 4, 0, 0, [], 0⟩ none 0 0 a A n c W Ints.nil (Nat.zero_le _) hV.hist hl (ask 4 (by decide)) rfl
  | 5, _ => exact value_last ⟨0, 5, 0, 0, [], 0⟩ none 0 0 a A n c W Ints.nil (Nat.zero_le _) hV.hist hl (ask 5 (by decide)) rfl

set_option maxRecDepth 100000 in
set_option maxHeartbeats 20000000 in
theorem plain_any (A : Option Addr) (n c : Nat) (vs : List Int) (w : World) (hr : Ints w A n vs) (hn : n ≤ maxLen) :
    Calls Try.prog 11 #[.slice A n c] w fun e w' => e = .returned (.bool true) ∧ Below w.heap.size w w' := by
  have HR := Lib.hid hr
  unfold maxLen at hn
  obtain ⟨m, hm1, hm2, hm3⟩ : ∃ m : Nat, m ≤ n ∧ m ≤ 30 ∧ (m = n ∨ m = 30) := ⟨min n 30, by omega, by omega, by omega⟩
  go_enter Try.func11, Try.ntmps11
  go_wp2_with fail
  refine (awake2_any _).mono ?_
  rintro e w1 ⟨rfl, hB0⟩
  have hP0 : Hid (PlSt w vs 0 none 0 w1) := ⟨OwnIt.nil _ _, hB0⟩
  clear hB0
  go_upto_block 0 with fail
  go_cut [3, 4, 5, 6] (fun x s l t wx => ∃ (D : Option Addr) (e : Nat), x = .slice D m e ∧ s = .int .i64 (plS vs m m) ∧ l = .int .i64 (plL vs m m) ∧ t = .int .i64 (plT vs m m) ∧ Hid (PlSt w vs m D e wx))
  case first =>
    go_wp2_with fail
    go_loopw [3, 4, 5, 6, 7] (fun x s l t i wr => ∃ (j : Nat) (D : Option Addr) (e : Nat), j ≤ m ∧ i = .int .i64 j ∧ x = .slice D j e ∧ s = .int .i64 (plS vs m j) ∧ l = .int .i64 (plL vs m j) ∧ t = .int .i64 (plT vs m j) ∧ Hid (PlSt w vs j D e wr)) (fun _ _ _ _ i _ => m - (intOf i).toNat)
    case atStart => exact ⟨0, none, 0, Nat.zero_le _, rfl, rfl, rfl, rfl, rfl, hP0⟩
    case round =>
      clear hP0
      obtain ⟨j, D, e, hj, rfl, rfl, rfl, rfl, rfl, HP⟩ := hrel
      by_cases hlt : j < m
      · obtain ⟨g1, g2, g3, g4, g5, g6, g7, g8, g9⟩ := pl_succ vs hlt
        have G1 := Lib.hid g1
        have G2 := Lib.hid g2
        have G3 := Lib.hid g3
        clear g1 g2 g3
        obtain ⟨b, o, rfl, hc⟩ := HR.out.at_ (k := 0) (by omega)
        have hcell : wr.cell? ⟨b, o + j, none⟩ = some (.int .i64 (nth vs j)) := (HP.out.keep.cell (block_lt_of_cell (hc j (by omega)))).trans (hc j (by omega))
        clear hc
        have hv := vOf_bd (nth vs j)
        have hmask : bits .and .i64 (nth vs j) 1023 = vOf (nth vs j) + 500 := by rw [mask1023]; unfold vOf; omega
        have hjn : (j : Int) < (n : Int) := by omega
        have hj30 : (j : Int) < 30 := by omega
        have HX : Hid (plainX vs j ++ [⟨0, (j : Int) / 2, (j : Int) + 1, vOf (nth vs j)⟩] = plainX vs (j + 1)) := plain_succ vs j
        generalize plS vs m j = S at g4 g5 G1 ⊢
        generalize plL vs m j = L at g6 g7 G2 ⊢
        generalize plT vs m j = T at g8 g9 G3 ⊢
        generalize vOf (nth vs j) = v at hv hmask HX G1 G2 G3
        go_wp2_with fail
        refine (mkItem2_any _ _ _ _ _).mono ?_
        rintro e w2 ⟨rfl, hb2⟩
        have HP2 : Hid (PlSt w vs j D e w2) := ⟨HP.out.own.below hb2, HP.out.keep.trans (hb2.mono HP.out.keep.size)⟩
        have HPa : ∀ o, OwnIt (w2.alloc o) w.heap.size (.slice D j e) (plainX vs j) := fun o => HP2.out.own.below ((Below.refl _ _).alloc (Nat.le_refl _) _)
        have hks := HP2.out.keep.size
        clear hb2 HP hcell
        go_wp2_with (refine app_item rfl _ _ rfl rfl (HPa _) (g := w2.heap.size) (y := ⟨0, (j : Int) / 2, (j : Int) + 1, v⟩) rfl (Has.made _ _ _) (by rw [plain_len]; omega) (by simp; omega) ?_; intro D2 e2 wn hwn hbn; rw [HX.out, plain_len] at hwn; have HP3 : Hid (PlSt w vs (j + 1) D2 e2 wn) := ⟨hwn, (below_alloc HP2.out.keep (Nat.le_refl _) _).trans hbn⟩; clear HPa HP2 hwn hbn)
        all_goals go_roundw
        all_goals first
          | exact ⟨j + 1, D2, e2, by omega, by go_num, by rw [plain_len], congrArg (Value.int .i64) (by rw [G1.out]), congrArg (Value.int .i64) (by rw [G2.out]; omega), congrArg (Value.int .i64) (by rw [G3.out]; omega), HP3⟩
          | (simp [intOf]; omega)
      · have hjm : j = m := by omega
        subst hjm
        by_cases hjn : j < n
        · have hj30 : ¬ (j : Int) < 30 := by omega
          have hjn2 : (j : Int) < (n : Int) := by omega
          go_wp2
          go_meet
          exact ⟨D, e, rfl, rfl, rfl, rfl, HP⟩
        · go_wp2
          go_meet
          exact ⟨D, e, rfl, rfl, rfl, rfl, HP⟩
  case rest =>
    clear hP0
    obtain ⟨D, e, rfl, rfl, rfl, rfl, HP⟩ := hcut
    by_cases h0 : m = 0
    · subst h0
      have hB := HP.out.keep
      go_wp2
      go_ret
      exact ⟨rfl, hB⟩
    · have hm0 : ((m : Int) == 0) = false := by simp; omega
      have K := plain_known vs (m := m) m (by omega) (Nat.le_refl _)
      have HK := Lib.hid K
      have hL : plL vs m m = (foldTo [] (plainX vs m) m).mn := by unfold plL; rw [if_neg h0]
      have hT : plT vs m m = (foldTo [] (plainX vs m) m).mx := by unfold plT; rw [if_neg h0]
      have hS : plS vs m m = (foldTo [] (plainX vs m) m).s := rfl
      have hF : foldTo [] (plainX vs m) m = foldA [] (plainX vs m) := foldTo_all [] _ (by rw [plain_len]; exact Nat.le_refl _)
      rw [hL, hT, hS, hF]
      rw [hF] at HK
      clear K hL hT hS hF
      go_wp2_with fail
      refine (lfold_any D m e (plainX vs m) none 0 0 [] _ HP.out.own.items Ints.nil (by decide) (plain_ok vs hm2) (by omega)).mono ?_
      generalize foldA [] (plainX vs m) = FA at HK ⊢
      rintro e1 wf ⟨AA, nA, cA, rfl, hin, hb2⟩
      have HP2 : Hid (PlSt w vs m D e wf) := ⟨HP.out.own.below hb2, HP.out.keep.trans (hb2.mono HP.out.keep.size)⟩
      clear hb2 HP
      go_upto_region 16 with (refine store_new rfl _ _ rfl rfl rfl rfl ?_; intro wn hbn hvn)
      have VA : Vg wn wf.heap.size FA AA nA cA := ⟨hvn, hin.hist.below hbn, hin.cap, hin.most⟩
      have HP3 : Hid (PlSt w vs m D e wn) := ⟨HP2.out.own.below hbn, HP2.out.keep.trans (hbn.mono HP2.out.keep.size)⟩
      clear hbn hvn hin HP2
      generalize wf.heap.size = gA at VA ⊢
      obtain ⟨p, rfl⟩ : ∃ p, m = p + 1 := ⟨m - 1, by omega⟩
      obtain ⟨b, o, rfl, hi⟩ := HP3.out.own.items.at_ (by omega)
      have h3 := hi 0 (by omega)
      have h4 := hi p (by omega)
      rw [plain_at vs (show 0 < p + 1 by omega)] at h3
      rw [plain_at vs (show p < p + 1 by omega)] at h4
      have cF : wn.cell? ⟨b, o + 3, none⟩ = some (.int .i64 FA.f.v) := by have := h3 3 _ rfl; rw [HK.out.f]; simpa using this
      have cL : wn.cell? ⟨b, o + p * 4 + 3, none⟩ = some (.int .i64 FA.l.v) := by have := h4 3 _ rfl; rw [HK.out.l]; simpa using this
      clear hi h3 h4 hm0
      have q1 : IntKind.i64.wrap ((p : Int) + 1 - 1) = (p : Int) := by rw [show (p : Int) + 1 - 1 = p by omega]; exact IntWalk.i64_in _ (by omega)
      have q2 : (p : Int) < (p : Int) + 1 := by omega
      have q4 : IntKind.i64.wrap (p : Int) = (p : Int) := IntWalk.i64_in _ (by omega)
      have q5 : ¬ ((p : Int) < 0) := by omega
      have q3 : (0 : Int) < (p : Int) + 1 := by omega
      go_still_tail 16, (by kernel_rfl)
      change wpList _ _ _ _ _ wn.drew
      have HP4 : Hid (Below w.heap.size w wn.drew) := HP3.out.keep.drew
      have VA4 : Vg wn.drew gA FA AA nA cA := ⟨VA.cells.drew, VA.hist.drew, VA.cap, VA.most⟩
      clear VA HP3 cF cL q1 q2 q3 q4 q5 HR hr
      generalize wn.drew = w2 at HP4 VA4 ⊢
      have hW6 : Has (w2.alloc (.cells #[.int .i64 ((p : Int) + 1), .int .i64 FA.s, .int .i64 FA.mn, .int .i64 FA.mx, .int .i64 FA.f.v, .int .i64 FA.l.v] 3)) w2.heap.size 3 (ints (wantL p FA)) := Has.made _ _ _
      have HI : Hid (PlW w gA w2.heap.size p FA AA nA cA (w2.alloc (.cells #[.int .i64 ((p : Int) + 1), .int .i64 FA.s, .int .i64 FA.mn, .int .i64 FA.mx, .int .i64 FA.f.v, .int .i64 FA.l.v] 3))) := ⟨VA4.below ((Below.refl _ _).alloc (Nat.le_refl _) _), hW6, below_alloc HP4.out (Nat.le_refl _) _⟩
      clear hW6 VA4 HP4
      go_wp2_with fail
      have hgw : Hid (∀ j : Nat, j < 6 → ∀ wr, PlW w gA w2.heap.size p FA AA nA cA wr → wr.cell? ⟨w2.heap.size, 0 + j, none⟩ = some (.int .i64 (nth (wantL p FA) j))) := fun j hj wr h => by rw [h.want.cell, Nat.zero_add, ints_get _ (by simpa [wantL] using hj)]
      generalize w2.heap.size = gw at HI hgw ⊢
      go_loopw [11] (fun i wr => ∃ j : Nat, j ≤ 6 ∧ i = .int .i64 j ∧ Hid (PlW w gA gw p FA AA nA cA wr)) (fun i _ => 6 - (intOf i).toNat)
      case atStart => exact ⟨0, Nat.zero_le _, rfl, HI⟩
      case round =>
        clear HI
        obtain ⟨j, hj, rfl, HP⟩ := hrel
        by_cases hlt : j < 6
        · have hlt2 : (j : Int) < 6 := by omega
          go_wp2_with (refine load_has rfl _ rfl _ rfl HP.out.acc.cells ?_)
          refine (plain_value hm2 HK.out hlt _ HP.out.acc).mono ?_
          rintro e1 wf ⟨AO, nO, cO, rfl, hIO, hcap, hmost, hnew, hb2⟩
          have HP2 := Lib.hid (HP.out.below hb2)
          obtain rfl : nO = 0 := hIO.1.symm
          clear hcap hmost hnew hb2 hIO HP
          go_upto_region 21 with (refine store_newO rfl _ _ rfl rfl rfl rfl ?_; intro wn hbn hvn)
          have HP3 := Lib.hid (HP2.out.below hbn)
          clear hbn HP2
          refine pl21_any (gw := gw) (gO := wf.heap.size) (j := j) (v := nth (wantL p FA) j) (A := AO) (c := cO) ⟨rfl, rfl, rfl, rfl, rfl, hvn, hgw.out j hlt _ HP3.out, hlt⟩ (by kernel_rfl) ?_
          intro w5 hB5
          have HP5 := Lib.hid (HP3.out.below hB5)
          clear hB5 HP3 hvn
          simp only [putAll, Act.put, List.setIfInBounds_toArray, List.set_cons_succ, List.set_cons_zero]
          go_wp2_with fail
          go_roundw
          case rel => exact ⟨j + 1, by omega, by go_num, HP5⟩
          case measure => simp [intOf]; omega
        · have hj6 : j = 6 := by omega
          subst hj6
          have hB := HP.out.keep
          go_wp2
          go_ret
          exact ⟨rfl, hB⟩

end Go.Proofs.Ytdnlkimibdojmaa
