/-
  Walk: AccBuckets: each value falls into the bucket whose bound it is not above.
-/
import Derived.Test.YtinaddcmaaegeaaApp
import Derived.Test.YtinaddcmaaegeaaOneP
import Derived.Test.YtinaddcmaaegeaaOwnI
import Derived.Test.YtinaddcmaaegeaaMask
import Derived.Test.YtinaddcmaaegeaaTieP
import Derived.Deep.DeepCutAuto
import Derived.Deep.CutBlock
import Derived.Deep.CutRange
namespace Go.Proofs.Ytinaddcmaaegeaa
open Go.RowKit

def bkB : List Int := [-50, 0, 20, 300]
def vB (x : Int) : Int := x % 1024 - 500
theorem vB_bd (x : Int) : -500 ≤ vB x ∧ vB x ≤ 523 := by unfold vB; omega
def buX (vs : List Int) (m : Nat) : List It := (List.range m).map fun (i : Nat) => ⟨0, (i : Int), (i : Int) + 1, vB (nth vs i)⟩
theorem bu_len (vs : List Int) (m : Nat) : (buX vs m).length = m := by simp [buX]
theorem bu_at (vs : List Int) {m i : Nat} (h : i < m) : nthI (buX vs m) i = ⟨0, (i : Int), (i : Int) + 1, vB (nth vs i)⟩ := by
  simp [nthI, buX, List.getElem?_range h]
theorem bu_item (i v : Int) (h : 0 ≤ i ∧ i ≤ 40) (hv : -500 ≤ v ∧ v ≤ 523) : itemB ⟨0, i, i + 1, v⟩ = true := itemB_iff.2 (by simp only; omega)
theorem bu_ok (vs : List Int) {m : Nat} (hm : m ≤ 40) : ∀ i, i < (buX vs m).length → itemB (nthI (buX vs m) i) = true ∧ (nthI (buX vs m) i).s = 0 := fun i hi => by
  rw [bu_len] at hi
  rw [bu_at vs hi]
  exact ⟨bu_item _ _ (by omega) (vB_bd _), rfl⟩
theorem add_one_h {o : Ac} {x : It} {bs : List Int} (hl : o.h.length = bs.length + 1) : (addAc o (oneAc x bs)).h = o.h.set (bkt bs x.v) (nth o.h (bkt bs x.v) + 1) := by
  have hk := bkt_le bs x.v
  refine nth_ext (by simp [addAc]) fun i hi => ?_
  have hi' : i < o.h.length := by simpa [addAc] using hi
  have e1 : nth (addAc o (oneAc x bs)).h i = nth o.h i + nth (oneAc x bs).h i := nth_range_map _ _ hi'
  rw [e1]
  by_cases e : bkt bs x.v = i
  · subst e
    have e2 : nth (oneAc x bs).h (bkt bs x.v) = 1 := by simp [oneAc, nth, Nat.lt_succ_iff, hk]
    rw [e2]
    simp [nth, hi']
  · have e2 : nth (oneAc x bs).h i = 0 := by simp [oneAc, nth, e, show i < bs.length + 1 by omega]
    rw [e2]
    simp [nth, e]
theorem bu_bkt (v : Int) : bkt bkB v = if 300 < v then 4 else if 20 < v then 3 else if 0 < v then 2 else if -50 < v then 1 else 0 := by
  simp only [bkt, bkB]
  split <;> split <;> (try split) <;> (try split) <;> omega
theorem ints_of_hasT {w : World} {y : Nat} {t : TypeId} {xs : List Int} {n : Nat} (h : Has w y t (ints xs)) (hn : xs.length = n) : Ints w (some ⟨y, 0, none⟩) n xs :=
  ⟨hn, fun _ => ⟨y, 0, rfl, fun k hk => by rw [Nat.zero_add, h.cell, ints_get _ (by omega)]⟩⟩

structure BuS (w : World) (gb gw : Nat) (vs : List Int) (m j : Nat) (v : Value) (ps : List (Ac × Nat)) (wr : World) : Prop where
  b : Has wr gb 3 (ints bkB)
  want : Has wr gw 51 (ints (foldTo bkB (buX vs m) j).h)
  own : Own wr (gw + 1) v ps
  acs : ps.map (·.1) = (ones bkB (buX vs m)).take j
  keep : Below w.heap.size w wr
  bw : gb < gw
  w0 : w.heap.size ≤ gb

theorem ones_take_succ (bs : List Int) (xs : List It) {j : Nat} (h : j < xs.length) : (ones bs xs).take (j + 1) = (ones bs xs).take j ++ [oneAc (nthI xs j) bs] := by
  rw [List.take_add_one]
  congr 1
  simp [ones, nthI, h]
theorem Own.put {w : World} {base g : Nat} {v : Value} {ps : List (Ac × Nat)} (h : Own w base v ps) (hg : g < base) {t : TypeId} {cs : Array Value} (hc : Has w g t cs) (ht : 3 ≠ t) (i : Nat) (u : Value) : Own (w.setCell ⟨g, i, none⟩ u) base v ps :=
  ⟨World.ownsRow.kept h.row (row := some g) ⟨rfl, rfl, rfl, by simp, fun k hk hne => heap_setCell_other w _ k _ (fun e => hne (by rw [e]))⟩ (by
    cases e : v.ownBlock with
    | none => exact .inl rfl
    | some k => exact .inr (fun e2 => by
        have := World.ownsRow.lt h.row k e
        obtain ⟨A, c, rfl, h3⟩ := h.form
        cases A with
        | none => simp [Value.ownBlock] at e
        | some ad => simp [Value.ownBlock] at e; have := h3 ad rfl; injection e2 with e2; omega)),
   fun p hp => (h.hist p hp).putFar (fun e => has_types (h.hist p hp) (show Has w p.2 t cs by rw [show p.2 = g from e]; exact hc) ht) u⟩

set_option maxRecDepth 100000 in
set_option maxHeartbeats 20000000 in
theorem buckets_any (A : Option Addr) (n c : Nat) (vs : List Int) (w : World) (hr : Ints w A n vs) (hn : n ≤ maxLen) :
    Calls Try.prog 7 #[.slice A n c] w fun e w' => e = .returned (.bool true) ∧ Below w.heap.size w w' := by
  have HR := Lib.hid hr
  unfold maxLen at hn
  obtain ⟨m, hm1, hm2, hm3⟩ : ∃ m : Nat, m ≤ n ∧ m ≤ 40 ∧ (m = n ∨ m = 40) := ⟨min n 40, by omega, by omega, by omega⟩
  go_enter Try.func7, Try.ntmps7
  go_wp2_with fail
  refine (awake_any _).mono ?_
  rintro e w1 ⟨rfl, hB0⟩
  go_upto_block 0 with fail
  have hP0 : Hid (BuS w w1.heap.size (w1.heap.size + 1) vs m 0 (.slice none 0 0) [] ((w1.alloc (.cells #[.int .i64 (-50), .int .i64 0, .int .i64 20, .int .i64 300] 3)).alloc (.cells #[.int .i64 0, .int .i64 0, .int .i64 0, .int .i64 0, .int .i64 0] 51))) :=
    ⟨heap_alloc2_old w1 _ _, heap_alloc2_new w1 _ _, Own.nil _ _, rfl, below_alloc (below_alloc hB0 (Nat.le_refl _) _) (Nat.le_refl _) _, by omega, hB0.size⟩
  clear hB0
  generalize (w1.alloc (.cells #[.int .i64 (-50), .int .i64 0, .int .i64 20, .int .i64 300] 3)).alloc (.cells #[.int .i64 0, .int .i64 0, .int .i64 0, .int .i64 0, .int .i64 0] 51) = wz at hP0 ⊢
  generalize w1.heap.size = gb at hP0 ⊢
  go_cut [5] (fun x wx => ∃ (D : Option Addr) (e : Nat) (ps : List (Ac × Nat)), x = .slice D m e ∧ Hid (BuS w gb (gb + 1) vs m m (.slice D m e) ps wx))
  case first =>
    go_wp2_with fail
    go_loopw [5, 6] (fun x i wr => ∃ (j : Nat) (D : Option Addr) (e : Nat) (ps : List (Ac × Nat)), j ≤ m ∧ i = .int .i64 j ∧ x = .slice D j e ∧ Hid (BuS w gb (gb + 1) vs m j (.slice D j e) ps wr)) (fun _ i _ => m - (intOf i).toNat)
    case atStart => exact ⟨0, none, 0, [], Nat.zero_le _, rfl, rfl, hP0⟩
    case round =>
      clear hP0
      obtain ⟨j, D, e, ps, hj, rfl, rfl, HP⟩ := hrel
      by_cases hlt : j < m
      · obtain ⟨b, o, rfl, hc⟩ := HR.out.at_ (k := 0) (by omega)
        have hcell : wr.cell? ⟨b, o + j, none⟩ = some (.int .i64 (nth vs j)) := (HP.out.keep.cell (block_lt_of_cell (hc j (by omega)))).trans (hc j (by omega))
        clear hc
        have hv := vB_bd (nth vs j)
        have hmask : bits .and .i64 (nth vs j) 1023 = vB (nth vs j) + 500 := by rw [mask1023]; unfold vB; omega
        have hjn : (j : Int) < (n : Int) := by omega
        have hj40 : (j : Int) < 40 := by omega
        have HXJ : Hid (nthI (buX vs m) j = ⟨0, (j : Int), (j : Int) + 1, vB (nth vs j)⟩) := bu_at vs hlt
        have HFT : Hid (Fit 5 (foldTo bkB (buX vs m) j)) := foldTo_fit bkB (buX vs m) (fun i hi => (bu_ok vs hm2 i hi).1) (by rw [bu_len]; omega) (j := j) (by rw [bu_len]; exact hj)
        have HFS : Hid (foldTo bkB (buX vs m) (j + 1) = addAc (foldTo bkB (buX vs m) j) (oneAc ⟨0, (j : Int), (j : Int) + 1, vB (nth vs j)⟩ bkB)) := by have := foldTo_succ bkB (buX vs m) (j := j) (by rw [bu_len]; exact hlt); rw [HXJ.out] at this; exact this
        have HTK : Hid ((ones bkB (buX vs m)).take (j + 1) = (ones bkB (buX vs m)).take j ++ [oneAc ⟨0, (j : Int), (j : Int) + 1, vB (nth vs j)⟩ bkB]) := by have := ones_take_succ bkB (buX vs m) (j := j) (by rw [bu_len]; exact hlt); rw [HXJ.out] at this; exact this
        clear HXJ
        generalize vB (nth vs j) = v at hv hmask HFS HTK
        have hbk := bu_bkt v
        have HBK := Lib.hid hbk; clear hbk
        go_upto_block 2 with fail
        go_cut [8] from 16 to 66 (fun kk wx => ∃ K : Nat, K < 5 ∧ Hid (bkt bkB v = K) ∧ kk = .int .i64 (K : Int) ∧ wx = wr)
        case first =>
          by_cases c4 : 300 < v
          · have hK : Hid (bkt bkB v = 4) := by rw [Hid, HBK.out, if_pos c4]
            go_wp2_with fail
            go_meet
            exact ⟨4, by omega, hK, rfl, rfl⟩
          · by_cases c3 : 20 < v
            · have hK : Hid (bkt bkB v = 3) := by rw [Hid, HBK.out, if_neg c4, if_pos c3]
              go_wp2_with fail
              go_meet
              exact ⟨3, by omega, hK, rfl, rfl⟩
            · by_cases c2 : 0 < v
              · have hK : Hid (bkt bkB v = 2) := by rw [Hid, HBK.out, if_neg c4, if_neg c3, if_pos c2]
                go_wp2_with fail
                go_meet
                exact ⟨2, by omega, hK, rfl, rfl⟩
              · by_cases c1 : -50 < v
                · have hK : Hid (bkt bkB v = 1) := by rw [Hid, HBK.out, if_neg c4, if_neg c3, if_neg c2, if_pos c1]
                  go_wp2_with fail
                  go_meet
                  exact ⟨1, by omega, hK, rfl, rfl⟩
                · have hK : Hid (bkt bkB v = 0) := by rw [Hid, HBK.out, if_neg c4, if_neg c3, if_neg c2, if_neg c1]
                  go_wp2_with fail
                  go_meet
                  exact ⟨0, by omega, hK, rfl, rfl⟩
        case rest =>
          obtain ⟨K, hK5, HK, rfl, rfl⟩ := hcut
          clear hcell hmask HBK
          have hlen := HFT.out.len
          have hlow := HFT.out.low K hK5
          have htop := HFT.out.top K hK5
          have hn1 := HFT.out.n1
          have HADD : Hid ((foldTo bkB (buX vs m) (j + 1)).h = (foldTo bkB (buX vs m) j).h.set K (nth (foldTo bkB (buX vs m) j).h K + 1)) := by
            have := add_one_h (o := foldTo bkB (buX vs m) j) (x := ⟨0, (j : Int), (j : Int) + 1, v⟩) (bs := bkB) hlen
            rw [Hid, HFS.out, this]
            simp only [HK.out]
          have cw : wc.cell? ⟨gb + 1, K, none⟩ = some (.int .i64 (nth (foldTo bkB (buX vs m) j).h K)) := by rw [HP.out.want.cell, ints_get _ (by omega)]
          have mw : wc.frozen? ⟨gb + 1, K, none⟩ = false := HP.out.want.mark K
          have hKi : (K : Int) < 5 := by omega
          have hw2 : Has (wc.setCell ⟨gb + 1, K, none⟩ (.int .i64 (nth (foldTo bkB (buX vs m) j).h K + 1))) (gb + 1) 51 (ints (foldTo bkB (buX vs m) (j + 1)).h) := by rw [HADD.out, ← ints_set]; exact HP.out.want.put K _
          have hb2 : Has (wc.setCell ⟨gb + 1, K, none⟩ (.int .i64 (nth (foldTo bkB (buX vs m) j).h K + 1))) gb 3 (ints bkB) := HP.out.b.putFar (show gb ≠ gb + 1 by omega) _
          have ho2 : Own (wc.setCell ⟨gb + 1, K, none⟩ (.int .i64 (nth (foldTo bkB (buX vs m) j).h K + 1))) (gb + 1 + 1) (.slice D j e) ps := HP.out.own.put (by omega) HP.out.want (by decide) K _
          have hk2 : Below w.heap.size w (wc.setCell ⟨gb + 1, K, none⟩ (.int .i64 (nth (foldTo bkB (buX vs m) j).h K + 1))) := HP.out.keep.setCell (show w.heap.size ≤ gb + 1 by have := HP.out.w0; omega) _
          have hg0 := HP.out.w0
          have hacs := HP.out.acs
          clear HADD HK HFS hlen HP
          go_upto_region 20 with fail
          generalize wc.setCell ⟨gb + 1, K, none⟩ (.int .i64 (nth (foldTo bkB (buX vs m) j).h K + 1)) = wq at hw2 hb2 ho2 hk2 ⊢
          clear cw mw
          go_wp2_with fail
          refine (mkItem_any _ _ _ _ _).mono ?_
          rintro e1 wa ⟨rfl, hb1⟩
          replace hw2 := has_below hw2 hb1
          replace hb2 := has_below hb2 hb1
          replace ho2 := ho2.below hb1
          replace hk2 := hk2.trans (hb1.mono hk2.size)
          clear hb1
          go_wp2_with fail
          refine (one_ok ⟨0, (j : Int), (j : Int) + 1, v⟩ _ 4 4 bkB _ (ints_of_has hb2 rfl) (bu_item _ _ (by omega) hv) (by decide)).mono ?_
          generalize oneAc ⟨0, (j : Int), (j : Int) + 1, v⟩ bkB = Z at HTK ⊢
          rintro e1 wf ⟨y, hy, rfl, hh, hb1⟩
          replace hw2 := has_below hw2 hb1
          replace hb2 := has_below hb2 hb1
          replace ho2 := ho2.below hb1
          replace hk2 := hk2.trans (hb1.mono hk2.size)
          clear hb1 hy
          go_upto_region 21 with (refine store_new rfl _ _ rfl rfl rfl rfl ?_; intro wn hbn hvn)
          replace hw2 := has_below hw2 hbn
          replace hb2 := has_below hb2 hbn
          replace ho2 := ho2.below hbn
          replace hk2 := hk2.trans (hbn.mono hk2.size)
          have VZ : V wn wf.heap.size y Z := ⟨hvn, has_below hh hbn⟩
          clear hbn hvn hh
          generalize wf.heap.size = gz at VZ ⊢
          have hpl : ps.length = j := by have := congrArg List.length hacs; rw [List.length_map, List.length_take, ones_len, bu_len] at this; omega
          go_wp2_with (first
            | (go_at_call 23; refine (num_any _ _).mono ?_; rintro e w' ⟨rfl, rfl⟩)
            | (refine load_has rfl _ rfl _ rfl VZ.cells ?_)
            | (refine lit1 rfl _ rfl rfl ?_; intro wl hbl hvl)
            | (refine app_acc rfl _ _ rfl rfl (ho2.below hbl) rfl hvl (has_below VZ.hist hbl) (by omega) (by have := hbl.size; have := hb2.lt; have := hw2.lt; omega) ?_; intro v' w' hown hbb; obtain ⟨D2, e2, rfl, _⟩ := hown.form))
          have hw3 := (has_below hw2 hbl).below hbb (by omega)
          have hb3 := (has_below hb2 hbl).below hbb (by omega)
          have hk3 := (hk2.trans (hbl.mono hk2.size)).trans (hbb.mono (by omega))
          rw [show (ps ++ [(Z, y)]).length = j + 1 by simp [hpl]] at hown
          have HP3 : Hid (BuS w gb (gb + 1) vs m (j + 1) (.slice D2 (j + 1) e2) (ps ++ [(Z, y)]) w') := ⟨hb3, hw3, hown, by rw [List.map_append, hacs, HTK.out]; rfl, hk3, by omega, hg0⟩
          clear hw2 hb2 ho2 hk2 VZ hbl hvl hown hbb hw3 hb3 hk3
          go_wp2_with fail
          go_roundw
          case rel => exact ⟨j + 1, D2, e2, _, by omega, by go_num, rfl, HP3⟩
          case measure => simp [intOf]; omega
      · have hjm : j = m := by omega
        subst hjm
        by_cases hjn : j < n
        · have hj40 : ¬ (j : Int) < 40 := by omega
          have hjn2 : (j : Int) < (n : Int) := by omega
          go_wp2
          go_meet
          exact ⟨D, e, ps, rfl, HP⟩
        · go_wp2
          go_meet
          exact ⟨D, e, ps, rfl, HP⟩
  case rest =>
    clear hP0
    obtain ⟨D, e, ps, rfl, HP⟩ := hcut
    have hAll : ps.map (·.1) = ones bkB (buX vs m) := by rw [HP.out.acs, List.take_of_length_le (by rw [ones_len, bu_len]; exact Nat.le_refl _)]
    have hAs : Accs wc D m (ones bkB (buX vs m)) := by
      have := HP.out.own.accs (fun p hp => by
        have hm : p.1 ∈ ps.map (·.1) := List.mem_map.2 ⟨p, hp, rfl⟩
        rw [hAll] at hm
        obtain ⟨x, _, hx⟩ := List.mem_map.1 hm
        rw [← hx]
        have := one_hlen x bkB
        unfold maxLen
        simp only [bkB, List.length_cons, List.length_nil] at this ⊢
        omega)
      rw [hAll] at this
      exact this
    have hJ := foldTo_all bkB (buX vs m) (j := m) (by rw [bu_len]; exact Nat.le_refl _)
    have hJl : (foldTo bkB (buX vs m) m).h.length = 5 := (foldTo_fit bkB (buX vs m) (fun i hi => (bu_ok vs hm2 i hi).1) (by rw [bu_len]; omega) (j := m) (by rw [bu_len]; exact Nat.le_refl _)).len
    have hC := join_ok (some ⟨gb, 0, none⟩) 4 4 bkB D m e (ones bkB (buX vs m)) wc (ints_of_has HP.out.b rfl) hAs (by omega) (by decide) (ones_tog (buX vs m) (bu_ok vs hm2) (-1) (Or.inl rfl)) (by rw [ones_total, bu_len]; omega)
    have e0 : joinAc bkB (ones bkB (buX vs m)) = foldTo bkB (buX vs m) m := hJ.symm
    rw [e0] at hC
    clear hJ e0 hAs hAll
    have hwant := HP.out.want
    have hB := HP.out.keep
    clear HP
    generalize foldTo bkB (buX vs m) m = J at hC hJl hwant
    have HC := Lib.hid hC; clear hC
    go_wp2_with fail
    refine HC.out.mono ?_
    rintro e1 wf ⟨yJ, _, rfl, hh, hb1⟩
    replace hwant := has_below hwant hb1
    replace hB := hB.trans (hb1.mono hB.size)
    clear hb1 HC
    go_upto_region 25 with (refine store_new rfl _ _ rfl rfl rfl rfl ?_; intro wn hbn hvn)
    replace hwant := has_below hwant hbn
    replace hB := hB.trans (hbn.mono hB.size)
    have hh2 := has_below hh hbn
    clear hbn hh
    generalize wf.heap.size = gJ at hvn ⊢
    have c12 : wn.cell? ⟨gJ, 12, none⟩ = some (.slice (some ⟨yJ, 0, none⟩) 5 5) := hvn.cell 12
    have hI1 : ∀ k, Ints (wn.drewN k) (some ⟨yJ, 0, none⟩) 5 J.h := fun k => (ints_of_has hh2 hJl).drewN k
    have hI2 : ∀ k, Ints (wn.drewN k) (some ⟨gb + 1, 0, none⟩) 5 J.h := fun k => (ints_of_hasT hwant hJl).drewN k
    have HSI : ∀ k, Calls Try.prog 32 #[.slice (some ⟨yJ, 0, none⟩) 5 5, .slice (some ⟨gb + 1, 0, none⟩) 5 5] (wn.drewN k) fun e w' => e = .returned (.bool true) ∧ ∃ n, w' = wn.drewN n := fun k => (sameInts_true _ _ 5 5 5 J.h _ (hI1 k) (hI2 k) (by unfold maxLen; omega)).mono fun e w2 ⟨h1, q, h2⟩ => ⟨h1, k + q, by rw [h2, World.drewN_drewN]⟩
    have HNM : ∀ k, Calls Try.prog 23 #[.int .i64 0] (wn.drewN k) fun e w' => e = .returned (.int .i64 0) ∧ ∃ n, w' = wn.drewN n := fun k => (num_any 0 _).mono fun e w2 ⟨h1, h2⟩ => ⟨h1, k, h2.symm⟩
    clear hvn hh2 hwant hI1 hI2
    go_quiet (first | (go_at_call 23; exact HNM _) | (go_at_call 32; exact HSI _))
    clear HSI HNM
    go_wp2_with fail
    go_ret
    exact ⟨rfl, below_drewN hB _⟩

end Go.Proofs.Ytinaddcmaaegeaa
