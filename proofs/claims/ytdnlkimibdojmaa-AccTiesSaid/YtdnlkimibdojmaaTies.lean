/-
  Walk: AccTies: items of like stamps: the first stays the first, the last becomes the last.
-/
import Derived.Test.YtdnlkimibdojmaaBuckets
import Derived.Test.YtdnlkimibdojmaaTieHead
import Derived.Deep.DeepCutAuto
import Derived.Deep.CutBlock
import Derived.Deep.CutRange
namespace Go.Proofs.Ytdnlkimibdojmaa
open Go.RowKit

structure TiS (w : World) (vs : List Int) (m j : Nat) (v : Value) (ps : List (Ac × Nat)) (wr : World) : Prop where
  own : Own wr w.heap.size v ps
  acs : ps.map (·.1) = (ones [] (tieX vs m)).take j
  keep : Below w.heap.size w wr

set_option maxRecDepth 100000 in
set_option maxHeartbeats 20000000 in
theorem ties_any (A : Option Addr) (n c : Nat) (vs : List Int) (w : World) (hr : Ints w A n vs) (hn : n ≤ maxLen) :
    Calls Try.prog 9 #[.slice A n c] w fun e w' => e = .returned (.bool true) ∧ Below w.heap.size w w' := by
  have HR := Lib.hid hr
  unfold maxLen at hn
  obtain ⟨m, hm1, hm2, hm3⟩ : ∃ m : Nat, m ≤ n ∧ m ≤ 12 ∧ (m = n ∨ (m = 12 ∧ 12 < n)) := ⟨min n 12, by omega, by omega, by omega⟩
  go_enter Try.func9, Try.ntmps9
  go_wp2_with fail
  refine (awake_any _).mono ?_
  rintro e w1 ⟨rfl, hB0⟩
  go_upto_region 4 with fail
  go_cut [4] (fun x wx => x = .int .i64 (m : Int) ∧ wx = w1)
  case first =>
    rcases hm3 with rfl | ⟨rfl, h12⟩
    · have hc : ¬ (12 : Int) < (m : Int) := by omega
      have hc2 : (m : Int) ≤ 12 := by omega
      go_wp2_with fail
      go_meet
      exact ⟨rfl, rfl⟩
    · have hc : (12 : Int) < (n : Int) := by omega
      have hc2 : ¬ (n : Int) ≤ 12 := by omega
      go_wp2_with fail
      go_meet
      exact ⟨rfl, rfl⟩
  case rest =>
    obtain ⟨rfl, rfl⟩ := hcut
    have hP0 : Hid (TiS w vs m 0 (.slice none 0 0) [] wc) := ⟨Own.nil _ _, rfl, hB0⟩
    clear hB0
    go_upto_block 0 with fail
    go_cut [3] (fun x wx => ∃ (D : Option Addr) (e : Nat) (ps : List (Ac × Nat)), x = .slice D m e ∧ Hid (TiS w vs m m (.slice D m e) ps wx))
    case first =>
      go_wp2_with fail
      go_loopw [3, 5] (fun x i wr => ∃ (j : Nat) (D : Option Addr) (e : Nat) (ps : List (Ac × Nat)), j ≤ m ∧ i = .int .i64 j ∧ x = .slice D j e ∧ Hid (TiS w vs m j (.slice D j e) ps wr)) (fun _ i _ => m - (intOf i).toNat)
      case atStart => exact ⟨0, none, 0, [], Nat.zero_le _, rfl, rfl, hP0⟩
      case round =>
        clear hP0
        obtain ⟨j, D, e, ps, hj, rfl, rfl, HP⟩ := hrel
        by_cases hlt : j < m
        · obtain ⟨b, o, rfl, hc⟩ := HR.out.at_ (k := 0) (by omega)
          have hcell : wr.cell? ⟨b, o + j, none⟩ = some (.int .i64 (nth vs j)) := (HP.out.keep.cell (block_lt_of_cell (hc j (by omega)))).trans (hc j (by omega))
          clear hc
          have hv := tie_bd (nth vs j)
          have hmask : bits .and .i64 (nth vs j) 255 = tieV (nth vs j) := by rw [mask255]; rfl
          have hjn : (j : Int) < (n : Int) := by omega
          have hjm : (j : Int) < (m : Int) := by omega
          have HXJ : Hid (nthI (tieX vs m) j = ⟨4, 7, 9, tieV (nth vs j)⟩) := tie_at vs hlt
          have HTK : Hid ((ones [] (tieX vs m)).take (j + 1) = (ones [] (tieX vs m)).take j ++ [oneAc ⟨4, 7, 9, tieV (nth vs j)⟩ []]) := by have := ones_take_succ [] (tieX vs m) (j := j) (by rw [tie_len]; exact hlt); rw [HXJ.out] at this; exact this
          clear HXJ
          generalize tieV (nth vs j) = v at hv hmask HTK
          have ho2 := HP.out.own
          have hk2 := HP.out.keep
          have hacs := HP.out.acs
          clear HP
          go_wp2_with fail
          refine (mkItem_any _ _ _ _ _).mono ?_
          rintro e1 wa ⟨rfl, hb1⟩
          replace ho2 := ho2.below hb1
          replace hk2 := hk2.trans (hb1.mono hk2.size)
          clear hb1 hcell
          go_wp2_with fail
          refine (one_ok ⟨4, 7, 9, v⟩ none 0 0 [] _ Ints.nil (tie_item _ hv) (by decide)).mono ?_
          generalize oneAc ⟨4, 7, 9, v⟩ [] = Z at HTK ⊢
          rintro e1 wf ⟨y, hy, rfl, hh, hb1⟩
          replace ho2 := ho2.below hb1
          replace hk2 := hk2.trans (hb1.mono hk2.size)
          clear hb1 hy
          go_upto_region 9 with (refine store_new rfl _ _ rfl rfl rfl rfl ?_; intro wn hbn hvn)
          replace ho2 := ho2.below hbn
          replace hk2 := hk2.trans (hbn.mono hk2.size)
          have VZ : V wn wf.heap.size y Z := ⟨hvn, has_below hh hbn⟩
          clear hbn hvn hh
          generalize wf.heap.size = gz at VZ ⊢
          have hpl : ps.length = j := by have := congrArg List.length hacs; rw [List.length_map, List.length_take, ones_len, tie_len] at this; omega
          go_wp2_with (first
            | (go_at_call 22; refine (num_any _ _).mono ?_; rintro e w' ⟨rfl, rfl⟩)
            | (refine load_has rfl _ rfl _ rfl VZ.cells ?_)
            | (refine lit1 rfl _ rfl rfl ?_; intro wl hbl hvl)
            | (refine app_acc rfl _ _ rfl rfl (ho2.below hbl) rfl hvl (has_below VZ.hist hbl) (by omega) (by have := hbl.size; have := hk2.size; omega) ?_; intro v' w' hown hbb; obtain ⟨D2, e2, rfl, _⟩ := hown.form))
          have hk3 := (hk2.trans (hbl.mono hk2.size)).trans hbb
          rw [show (ps ++ [(Z, y)]).length = j + 1 by simp [hpl]] at hown
          have HP3 : Hid (TiS w vs m (j + 1) (.slice D2 (j + 1) e2) (ps ++ [(Z, y)]) w') := ⟨hown, by rw [List.map_append, hacs, HTK.out]; rfl, hk3⟩
          clear ho2 hk2 VZ hbl hvl hown hbb hk3
          go_wp2_with fail
          go_roundw
          case rel => exact ⟨j + 1, D2, e2, _, by omega, by go_num, rfl, HP3⟩
          case measure => simp [intOf]; omega
        · have hjm : j = m := by omega
          subst hjm
          go_wp2
          go_meet
          exact ⟨D, e, ps, rfl, HP⟩
    case rest =>
      clear hP0
      obtain ⟨D, e, ps, rfl, HP⟩ := hcut
      have hAll : ps.map (·.1) = ones [] (tieX vs m) := by rw [HP.out.acs, List.take_of_length_le (by rw [ones_len, tie_len]; exact Nat.le_refl _)]
      have hAs : Accs wc D m (ones [] (tieX vs m)) := by
        have := HP.out.own.accs (fun p hp => by
          have hm : p.1 ∈ ps.map (·.1) := List.mem_map.2 ⟨p, hp, rfl⟩
          rw [hAll] at hm
          obtain ⟨x, _, hx⟩ := List.mem_map.1 hm
          rw [← hx]
          have := one_hlen x []
          unfold maxLen
          simp only [List.length_nil] at this ⊢
          omega)
        rw [hAll] at this
        exact this
      have hC := join_ok none 0 0 [] D m e (ones [] (tieX vs m)) wc Ints.nil hAs (by omega) (by decide) (ones_tog (tieX vs m) (tie_ok vs m) (-1) (Or.inl rfl)) (by rw [ones_total, tie_len]; omega)
      have hJn : Hid ((joinAc [] (ones [] (tieX vs m))).n = (m : Int)) := by
        rcases Nat.eq_zero_or_pos m with h | h
        · subst h; rfl
        · have := (tie_known vs m h (Nat.le_refl _)).1; rwa [tie_fold] at this
      have hJf : Hid (0 < m → (joinAc [] (ones [] (tieX vs m))).f = ⟨4, 7, 9, tieV (nth vs 0)⟩ ∧ (joinAc [] (ones [] (tieX vs m))).l = ⟨4, 7, 9, tieV (nth vs (m - 1))⟩) := fun h => by
        have := (tie_known vs m h (Nat.le_refl _)).2; rwa [tie_fold] at this
      have HAS := Lib.hid hAs; clear hAs hAll
      have hk2 := HP.out.keep
      clear HP
      generalize joinAc [] (ones [] (tieX vs m)) = J at hC hJn hJf
      have HC := Lib.hid hC; clear hC
      go_wp2_with fail
      refine HC.out.mono ?_
      rintro e1 wf ⟨yJ, _, rfl, hh, hb1⟩
      have HA1 : Hid (Accs wf D m (ones [] (tieX vs m))) := HAS.out.below hb1
      replace hk2 := hk2.trans (hb1.mono hk2.size)
      clear hb1 HC HAS
      go_upto_region 13 with (refine store_new rfl _ _ rfl rfl rfl rfl ?_; intro wn hbn hvn)
      have HA2 : Hid (Accs wn D m (ones [] (tieX vs m))) := HA1.out.below hbn
      replace hk2 := hk2.trans (hbn.mono hk2.size)
      have hh2 := has_below hh hbn
      clear hbn hh HA1
      generalize wf.heap.size = gJ at hvn ⊢
      by_cases h0 : m = 0
      · subst h0
        have c0 : wn.cell? ⟨gJ, 0, none⟩ = some (.int .i64 0) := by rw [hvn.cell]; show some (Value.int .i64 J.n) = _; rw [hJn.out]; rfl
        clear hvn hh2 HA2 hJn hJf
        go_wp2_with (go_at_call 22; refine (num_any _ _).mono ?_; rintro e w' ⟨rfl, rfl⟩)
        go_ret
        exact ⟨rfl, hk2⟩
      · obtain ⟨p, hp⟩ : ∃ p : Nat, m = p + 1 := ⟨m - 1, by omega⟩
        have hm0 : ¬ (m : Int) = 0 := by omega
        have hpm : p < m := by omega
        have HPI : Hid ((m : Int) = (p : Int) + 1) := show (m : Int) = (p : Int) + 1 by omega
        obtain ⟨hf, hl⟩ := hJf.out (by omega)
        rw [show m - 1 = p by omega] at hl
        obtain ⟨b, o, rfl, hrow⟩ := HA2.out.2 (by omega)
        obtain ⟨A1, k1, d1, h1⟩ := hrow 0 (by omega)
        obtain ⟨A2, k2, d2, h2⟩ := hrow p (by omega)
        rw [ones_at [] _ (by rw [tie_len]; omega), tie_at vs (by omega)] at h1 h2
        clear hrow HA2 hJf
        have ht := tie_two (tieV (nth vs 0)) (tieV (nth vs p))
        have hg1 : togB 1 (-1) [oneAc ⟨4, 7, 9, tieV (nth vs 0)⟩ [], oneAc ⟨4, 7, 9, tieV (nth vs p)⟩ []] = true := ones_tog (bs := []) (σ := 4) [⟨4, 7, 9, tieV (nth vs 0)⟩, ⟨4, 7, 9, tieV (nth vs p)⟩] (fun i hi => by
          have : i = 0 ∨ i = 1 := by simp only [List.length_cons, List.length_nil] at hi; omega
          rcases this with rfl | rfl
          · exact ⟨tie_item _ (tie_bd _), rfl⟩
          · exact ⟨tie_item _ (tie_bd _), rfl⟩) (-1) (Or.inl rfl)
        have hg2 : totalA [oneAc ⟨4, 7, 9, tieV (nth vs 0)⟩ [], oneAc ⟨4, 7, 9, tieV (nth vs p)⟩ []] ≤ 8192 := by
          have := ones_total [] [(⟨4, 7, 9, tieV (nth vs 0)⟩ : It), ⟨4, 7, 9, tieV (nth vs p)⟩]
          have e : ones [] [(⟨4, 7, 9, tieV (nth vs 0)⟩ : It), ⟨4, 7, 9, tieV (nth vs p)⟩] = [oneAc ⟨4, 7, 9, tieV (nth vs 0)⟩ [], oneAc ⟨4, 7, 9, tieV (nth vs p)⟩ []] := rfl
          rw [e] at this
          simp only [List.length_cons, List.length_nil] at this
          omega
        generalize oneAc ⟨4, 7, 9, tieV (nth vs 0)⟩ [] = X at h1 ht hg1 hg2
        generalize oneAc ⟨4, 7, 9, tieV (nth vs p)⟩ [] = Y at h2 ht hg1 hg2
        obtain ⟨J2, hJ2⟩ : ∃ J2, joinAc [] [X, Y] = J2 := ⟨_, rfl⟩
        rw [hJ2] at ht
        have HT := Lib.hid ht; clear ht
        have HF := Lib.hid (And.intro hf hl); clear hf hl
        have HP1 := Lib.hid hp; clear hp
        go_upto_region 15 with fail
        go_cut [10, 11] (fun x y wx => ∃ g10 y3 : Nat, x = .pointer (some ⟨g10, 0, none⟩) ∧ y = .int .i64 0 ∧ Has wx g10 29 (accC J2 (some ⟨y3, 0, none⟩) J2.h.length J2.h.length) ∧ Has wx gJ 29 (accC J (some ⟨yJ, 0, none⟩) J.h.length J.h.length) ∧ Below w.heap.size w wx)
        case first =>
          have hgJ := hvn.lt
          refine tie15_any (b := b) (f := o) (p := p) (cc := e) (X := X) (Y := Y) (J := J2) (A := A1) (B := A2) (k := k1) (c := d1) (l := k2) (d := d2) ⟨rfl, by rw [HP1.out]; rfl, by rw [← HPI.out]; rfl, h1, h2, by omega, hg1, hg2, hJ2⟩ (by kernel_rfl) ?_ ?_
          all_goals (intro g y1 y2 y3 g10 w2 hB9 hy hN hg)
          · have hvn2 := has_below hvn hB9
            have hk3 := hk2.trans (hB9.mono hk2.size)
            have hne : gJ ≠ g10 := by omega
            have hk4 : w.heap.size ≤ g10 := by have := hk2.size; omega
            clear hvn hk2 hB9 h1 h2 hh2
            simp only [putAll, Act.put, List.setIfInBounds_toArray, List.set_cons_succ, List.set_cons_zero, List.drop_succ_cons, List.drop_zero]
            refine store_has rfl _ _ rfl g10 rfl rfl hg rfl ?_
            go_wp2_with fail
            go_meet
            exact ⟨g10, y3, rfl, rfl, hg.row _, hvn2.rowFar hne _, below_row hk3 hk4 _⟩
          · have hvn2 := has_below hvn hB9
            have hk3 := hk2.trans (hB9.mono hk2.size)
            have hne : gJ ≠ g10 := by omega
            have hk4 : w.heap.size ≤ g10 := by have := hk2.size; omega
            clear hvn hk2 hB9 h1 h2 hh2
            simp only [putAll, Act.put, List.setIfInBounds_toArray, List.set_cons_succ, List.set_cons_zero, pickL, List.filterMap_cons, List.filterMap_nil, List.getElem?_cons_succ, List.getElem?_cons_zero]
            refine store_has rfl _ _ rfl g10 rfl rfl hg rfl ?_
            go_wp2_with fail
            go_meet
            exact ⟨g10, y3, rfl, rfl, hg.row _, hvn2.rowFar hne _, below_row hk3 hk4 _⟩
        case rest =>
          obtain ⟨g10, y3, rfl, rfl, hg, hvn2, hk3⟩ := hcut
          go_upto_region 16 with fail
          clear h1 h2 hg1 hg2 hJ2 hvn hk2 hh2
          obtain ⟨bv, ov, rfl, hv⟩ := HR.out.at_ (k := 0) (by omega)
          have cv0 : wc.cell? ⟨bv, ov, none⟩ = some (.int .i64 (nth vs 0)) := (hk3.cell (block_lt_of_cell (hv 0 (by omega)))).trans (hv 0 (by omega))
          have cvp : wc.cell? ⟨bv, ov + p, none⟩ = some (.int .i64 (nth vs p)) := (hk3.cell (block_lt_of_cell (hv p (by omega)))).trans (hv p (by omega))
          have hsub : IntKind.i64.wrap ((m : Int) - 1) = (p : Int) := by rw [HPI.out, show (p : Int) + 1 - 1 = p by omega]; exact IntWalk.i64_in _ (by omega)
          have hpn : (p : Int) < (n : Int) := by omega
          have h0n : (0 : Int) < (n : Int) := by omega
          have m0 : bits .and .i64 (nth vs 0) 255 = tieV (nth vs 0) := by rw [mask255]; rfl
          have mp : bits .and .i64 (nth vs p) 255 = tieV (nth vs p) := by rw [mask255]; rfl
          have c0 : wc.cell? ⟨gJ, 0, none⟩ = some (.int .i64 (m : Int)) := by rw [hvn2.cell]; show some (Value.int .i64 J.n) = _; rw [hJn.out]
          have a4 : wc.cell? ⟨gJ, 4, none⟩ = some (.int .i64 4) := by rw [hvn2.cell]; show some (Value.int .i64 J.f.s) = _; rw [HF.out.1]
          have a5 : wc.cell? ⟨gJ, 5, none⟩ = some (.int .i64 7) := by rw [hvn2.cell]; show some (Value.int .i64 J.f.t) = _; rw [HF.out.1]
          have a6 : wc.cell? ⟨gJ, 6, none⟩ = some (.int .i64 9) := by rw [hvn2.cell]; show some (Value.int .i64 J.f.q) = _; rw [HF.out.1]
          have a7 : wc.cell? ⟨gJ, 7, none⟩ = some (.int .i64 (tieV (nth vs 0))) := by rw [hvn2.cell]; show some (Value.int .i64 J.f.v) = _; rw [HF.out.1]
          have a8 : wc.cell? ⟨gJ, 8, none⟩ = some (.int .i64 4) := by rw [hvn2.cell]; show some (Value.int .i64 J.l.s) = _; rw [HF.out.2]
          have a9 : wc.cell? ⟨gJ, 9, none⟩ = some (.int .i64 7) := by rw [hvn2.cell]; show some (Value.int .i64 J.l.t) = _; rw [HF.out.2]
          have a10 : wc.cell? ⟨gJ, 10, none⟩ = some (.int .i64 9) := by rw [hvn2.cell]; show some (Value.int .i64 J.l.q) = _; rw [HF.out.2]
          have a11 : wc.cell? ⟨gJ, 11, none⟩ = some (.int .i64 (tieV (nth vs p))) := by rw [hvn2.cell]; show some (Value.int .i64 J.l.v) = _; rw [HF.out.2]
          have b4 : wc.cell? ⟨g10, 4, none⟩ = some (.int .i64 4) := by rw [hg.cell]; show some (Value.int .i64 J2.f.s) = _; rw [HT.out.1]
          have b5 : wc.cell? ⟨g10, 5, none⟩ = some (.int .i64 7) := by rw [hg.cell]; show some (Value.int .i64 J2.f.t) = _; rw [HT.out.1]
          have b6 : wc.cell? ⟨g10, 6, none⟩ = some (.int .i64 9) := by rw [hg.cell]; show some (Value.int .i64 J2.f.q) = _; rw [HT.out.1]
          have b7 : wc.cell? ⟨g10, 7, none⟩ = some (.int .i64 (tieV (nth vs 0))) := by rw [hg.cell]; show some (Value.int .i64 J2.f.v) = _; rw [HT.out.1]
          have b8 : wc.cell? ⟨g10, 8, none⟩ = some (.int .i64 4) := by rw [hg.cell]; show some (Value.int .i64 J2.l.s) = _; rw [HT.out.2]
          have b9 : wc.cell? ⟨g10, 9, none⟩ = some (.int .i64 7) := by rw [hg.cell]; show some (Value.int .i64 J2.l.t) = _; rw [HT.out.2]
          have b10 : wc.cell? ⟨g10, 10, none⟩ = some (.int .i64 9) := by rw [hg.cell]; show some (Value.int .i64 J2.l.q) = _; rw [HT.out.2]
          have b11 : wc.cell? ⟨g10, 11, none⟩ = some (.int .i64 (tieV (nth vs p))) := by rw [hg.cell]; show some (Value.int .i64 J2.l.v) = _; rw [HT.out.2]
          have HNM : ∀ k, Calls Try.prog 22 #[.int .i64 0] (wc.drewN k) fun e w' => e = .returned (.int .i64 0) ∧ ∃ n, w' = wc.drewN n := fun k => (num_any 0 _).mono fun e w2 ⟨h1, h2⟩ => ⟨h1, k, h2.symm⟩
          clear hv hg hvn2
          generalize tieV (nth vs 0) = v0 at *
          generalize tieV (nth vs p) = vp at *
          go_quiet (first | (go_at_call 22; exact HNM _))
          clear HNM
          go_wp2_with fail
          go_ret
          exact ⟨rfl, below_drewN hk3 _⟩

end Go.Proofs.Ytdnlkimibdojmaa
