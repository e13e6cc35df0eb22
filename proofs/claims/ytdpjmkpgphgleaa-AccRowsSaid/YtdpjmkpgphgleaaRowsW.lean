/-
  Walk: AccRows: the row does not matter, nor where it is cut.
-/
import Derived.Test.YtdpjmkpgphgleaaRowsHead
import Derived.Test.YtdpjmkpgphgleaaRowsP
import Derived.Test.YtdpjmkpgphgleaaFitP
import Derived.Test.YtdpjmkpgphgleaaOwnRow
import Derived.Test.YtdpjmkpgphgleaaRef
import Derived.Test.YtdpjmkpgphgleaaBuckets
import Derived.Test.YtdpjmkpgphgleaaRowsEnd
import Derived.Test.YtdpjmkpgphgleaaCutRow
import Derived.Deep.DeepCutAuto
import Derived.Deep.CutBlock
import Derived.Deep.CutRange
namespace Go.Proofs.Ytdpjmkpgphgleaa
open Go.RowKit

structure RoS (w : World) (bs : List Int) (vs : List Int) (m j : Nat) (v : Value) (ps : List (Ac × Nat)) (wr : World) : Prop where
  own : Own wr w.heap.size v ps
  acs : ps.map (·.1) = (ones bs (rowX vs m)).take j
  keep : Below w.heap.size w wr

/-- The row laid down backwards. -/
structure RoB (w0 : World) (ps : List (Ac × Nat)) (j : Nat) (v : Value) (qs : List (Ac × Nat)) (wr : World) : Prop where
  own : Own wr w0.heap.size v qs
  acs : qs.map (·.1) = (ps.map (·.1)).reverse.take j
  keep : Below w0.heap.size w0 wr

theorem join_n {bs : List Int} (xs : List It) : (joinAc bs (ones bs xs)).n = xs.length := by
  have h := fold_ns (bs := bs) xs (startJ bs)
  have h0 : (startJ bs).n = 0 := rfl
  have e : joinAc bs (ones bs xs) = (ones bs xs).foldl joinStep (startJ bs) := rfl
  rw [e, h, h0]; omega
theorem join_hlen {bs : List Int} (xs : List It) : (joinAc bs (ones bs xs)).h.length = bs.length + 1 := (fold_len (bs := bs) xs (startJ bs)).trans (start_hlen bs)
theorem part_fit {bs : List Int} {vs : List Int} {m : Nat} (hm : m ≤ 20) (xs : List It) (hx : ∀ x, x ∈ xs → x ∈ rowX vs m) (hl : xs.length ≤ 8192) : fitB (joinAc bs (ones bs xs)) (bs.length + 1) = true ∧ (¬ (joinAc bs (ones bs xs)).n = 0 → (joinAc bs (ones bs xs)).f.s = 3) :=
  join_fit (σ := 3) xs (fun x h => by
    obtain ⟨k, hk, e⟩ := row_mem (hx x h)
    rw [e]
    exact ⟨row_item vs (by omega), rfl⟩) hl
theorem two_tog {bs : List Int} {a b : Ac} (ha : fitB a (bs.length + 1) = true) (hb : fitB b (bs.length + 1) = true) (sa : ¬ a.n = 0 → a.f.s = 3) (sb : ¬ b.n = 0 → b.f.s = 3) : togB (bs.length + 1) (-1) [a, b] = true := by
  by_cases h1 : a.n = 0
  · by_cases h2 : b.n = 0
    · simp [togB, ha, hb, h1, h2]
    · simp [togB, ha, hb, h1, h2]
  · have e1 := sa h1
    by_cases h2 : b.n = 0
    · simp [togB, ha, hb, h1, h2]
    · have e2 := sb h2
      simp [togB, ha, hb, h1, h2, e1, e2]
theorem cut_low (k : Int) (m : Nat) (hm : m ≤ 20) : ∃ u : Nat, u ≤ m ∧ wrap64 ((IntKind.u64.wrap k).tmod ((m : Int) + 1)) = u := by
  have h : 0 ≤ IntKind.u64.wrap k := by simp [IntKind.wrap, IntKind.bits, IntKind.signed]; omega
  have h1 := Int.emod_nonneg (IntKind.u64.wrap k) (show (m : Int) + 1 ≠ 0 by omega)
  have h2 := Int.emod_lt_of_pos (IntKind.u64.wrap k) (show (0 : Int) < (m : Int) + 1 by omega)
  have e : (IntKind.u64.wrap k).tmod ((m : Int) + 1) = IntKind.u64.wrap k % ((m : Int) + 1) := Int.tmod_eq_emod_of_nonneg h
  rw [e, IntWalk.wrap64_in _ ⟨by omega, by omega⟩]
  exact ⟨(IntKind.u64.wrap k % ((m : Int) + 1)).toNat, by omega, by omega⟩

set_option maxRecDepth 100000 in
set_option maxHeartbeats 20000000 in
theorem rows_any (A : Option Addr) (n c : Nat) (vs : List Int) (k : Int) (B : Option Addr) (q d : Nat) (bs : List Int) (w : World) (hr : Ints w A n vs) (hn : n ≤ maxLen) (hbs : Ints w B q bs) (hq : q ≤ maxLen) :
    Calls Try.prog 4 #[.slice A n c, .int .i64 k, .slice B q d] w fun e w' => e = .returned (.bool true) ∧ Below w.heap.size w w' := by
  have HR := Lib.hid hr
  have HB := Lib.hid hbs
  have hn2 := hn
  unfold maxLen at hn2
  obtain ⟨m, hm1, hm2, hm3⟩ : ∃ m : Nat, m ≤ n ∧ m ≤ 20 ∧ (m = n ∨ (m = 20 ∧ 20 < n)) := ⟨min n 20, by omega, by omega, by omega⟩
  go_enter Try.func4, Try.ntmps4
  go_wp2_with fail
  refine (awake_any _).mono ?_
  rintro e w1 ⟨rfl, hB0⟩
  go_wp2_with fail
  refine (rbounds_any B q d bs _ (HB.out.below hB0) hq).mono ?_
  rintro e w2 ⟨rfl, k2, rfl⟩
  have hk1 := below_drewN hB0 k2
  clear hB0
  generalize w1.drewN k2 = w2 at hk1 ⊢
  cases hbb : boundsB bs with
  | false =>
    go_wp2_with fail
    refine (join_form B q d bs none 0 0 [] _ (HB.out.below hk1) hq (Accs.nil _ _) (by omega) (by rw [hbb]; rfl)).mono ?_
    rintro e w3 ⟨rfl, hb3⟩
    replace hk1 := hk1.trans (hb3.mono hk1.size)
    go_upto_region 5 with (refine store_new rfl _ _ rfl rfl rfl rfl ?_; intro wn hbn hvn)
    replace hk1 := hk1.trans (hbn.mono hk1.size)
    clear hb3 hbn hvn
    go_wp2_with (go_at_call 22; refine (num_any _ _).mono ?_; rintro e w' ⟨rfl, rfl⟩)
    go_ret
    exact ⟨rfl, hk1⟩
  | true =>
    go_upto_region 7 with fail
    go_cut [11] (fun x wx => x = .int .i64 (m : Int) ∧ wx = w2)
    case first =>
      rcases hm3 with rfl | ⟨rfl, h12⟩
      · have hc : ¬ (20 : Int) < (m : Int) := by omega
        have hc2 : (m : Int) ≤ 20 := by omega
        go_wp2_with fail
        go_meet
        exact ⟨rfl, rfl⟩
      · have hc : (20 : Int) < (n : Int) := by omega
        have hc2 : ¬ (n : Int) ≤ 20 := by omega
        go_wp2_with fail
        go_meet
        exact ⟨rfl, rfl⟩
    case rest =>
      obtain ⟨rfl, rfl⟩ := hcut
      have hP0 : Hid (RoS w bs vs m 0 (.slice none 0 0) [] wc) := ⟨Own.nil _ _, rfl, hk1⟩
      clear hk1
      go_upto_block 0 with fail
      go_cut [9] (fun x wx => ∃ (D : Option Addr) (e : Nat) (ps : List (Ac × Nat)), x = .slice D m e ∧ Hid (RoS w bs vs m m (.slice D m e) ps wx))
      case first =>
        go_wp2_with fail
        go_loopw [9, 12] (fun x i wr => ∃ (j : Nat) (D : Option Addr) (e : Nat) (ps : List (Ac × Nat)), j ≤ m ∧ i = .int .i64 j ∧ x = .slice D j e ∧ Hid (RoS w bs vs m j (.slice D j e) ps wr)) (fun _ i _ => m - (intOf i).toNat)
        case atStart => exact ⟨0, none, 0, [], Nat.zero_le _, rfl, rfl, hP0⟩
        case round =>
          clear hP0
          obtain ⟨j, D, e, ps, hj, rfl, rfl, HP⟩ := hrel
          by_cases hlt : j < m
          · obtain ⟨b, o, rfl, hc⟩ := HR.out.at_ (k := 0) (by omega)
            have hcell : wr.cell? ⟨b, o + j, none⟩ = some (.int .i64 (nth vs j)) := (HP.out.keep.cell (block_lt_of_cell (hc j (by omega)))).trans (hc j (by omega))
            clear hc
            have hjn : j < n := by omega
            have hjm : (j : Int) < (m : Int) := by omega
            have HXJ : Hid (nthI (rowX vs m) j = ⟨3, rowY (nth vs j) - 3, (j : Int) + 1, rowZ (nth vs j) - 100⟩) := row_at vs hlt
            have HTK : Hid ((ones bs (rowX vs m)).take (j + 1) = (ones bs (rowX vs m)).take j ++ [oneAc ⟨3, rowY (nth vs j) - 3, (j : Int) + 1, rowZ (nth vs j) - 100⟩ bs]) := by have := ones_take_succ bs (rowX vs m) (j := j) (by rw [row_len]; exact hlt); rw [HXJ.out] at this; exact this
            clear HXJ
            obtain ⟨Z, hZ⟩ : ∃ Z, oneAc ⟨3, rowY (nth vs j) - 3, (j : Int) + 1, rowZ (nth vs j) - 100⟩ bs = Z := ⟨_, rfl⟩
            rw [hZ] at HTK
            have ho2 := HP.out.own
            have hk2 := HP.out.keep
            have hacs := HP.out.acs
            have hb2 := HB.out.below hk2
            clear HP
            go_upto_region 11 with fail
            go_cut [13, 14] from 43 to 75 (fun x y wx => ∃ g y3 : Nat, x = .pointer (some ⟨g, 0, none⟩) ∧ y = .int .i64 0 ∧ V wx g y3 Z ∧ Own wx w.heap.size (.slice D j e) ps ∧ Below w.heap.size w wx)
            case first =>
              refine row11_any (b := b) (f := o) (n := n) (c := c) (j := j) (B := B) (m := q) (d := d) (x := nth vs j) (y := rowY (nth vs j)) (z := rowZ (nth vs j)) (Z := Z) (bs := bs) ⟨rfl, rfl, rfl, rfl, hcell, hjn, by omega, by rw [mask7]; rfl, rowY_bd _, by rw [mask255]; rfl, rowZ_bd _, hb2, hbb, hZ⟩ (by kernel_rfl) ?_ ?_
              all_goals (intro y1 y2 y3 g13 w2 hB9 hy hN hg)
              · have hB10 := below_row hB9 hN (accC Z (some ⟨y3, 0, none⟩) Z.h.length Z.h.length)
                have ho3 := ho2.below hB10
                have hk3 := hk2.trans (hB10.mono hk2.size)
                have VZ : V (w2.setRow g13 (accC Z (some ⟨y3, 0, none⟩) Z.h.length Z.h.length)) g13 y3 Z := ⟨hg.row _, hy.rowFar (fun e => has_types hy (show Has w2 y3 29 _ by rw [e]; exact hg) (by decide)) _⟩
                clear ho2 hk2 hB9 hB10 hcell hacs hb2 hy
                simp only [putAll, Act.put, List.setIfInBounds_toArray, List.set_cons_succ, List.set_cons_zero, List.drop_succ_cons, List.drop_zero]
                refine store_has rfl _ _ rfl g13 rfl rfl hg rfl ?_
                go_wp2_with fail
                go_meet
                exact ⟨g13, y3, rfl, rfl, VZ, ho3, hk3⟩
              · have hB10 := below_row hB9 hN (accC Z (some ⟨y3, 0, none⟩) Z.h.length Z.h.length)
                have ho3 := ho2.below hB10
                have hk3 := hk2.trans (hB10.mono hk2.size)
                have VZ : V (w2.setRow g13 (accC Z (some ⟨y3, 0, none⟩) Z.h.length Z.h.length)) g13 y3 Z := ⟨hg.row _, hy.rowFar (fun e => has_types hy (show Has w2 y3 29 _ by rw [e]; exact hg) (by decide)) _⟩
                clear ho2 hk2 hB9 hB10 hcell hacs hb2 hy
                simp only [putAll, Act.put, List.setIfInBounds_toArray, List.set_cons_succ, List.set_cons_zero, pickL, List.filterMap_cons, List.filterMap_nil, List.getElem?_cons_succ, List.getElem?_cons_zero]
                refine store_has rfl _ _ rfl g13 rfl rfl hg rfl ?_
                go_wp2_with fail
                go_meet
                exact ⟨g13, y3, rfl, rfl, VZ, ho3, hk3⟩
            case rest =>
              clear ho2 hk2 hcell hb2 hZ
              obtain ⟨gz, y, rfl, rfl, VZ, ho2, hk2⟩ := hcut
              have hpl : ps.length = j := by have := congrArg List.length hacs; rw [List.length_map, List.length_take, ones_len, row_len] at this; omega
              go_wp2_with (first
                | (go_at_call 22; refine (num_any _ _).mono ?_; rintro e w' ⟨rfl, rfl⟩)
                | (refine load_has rfl _ rfl _ rfl VZ.cells ?_)
                | (refine lit1 rfl _ rfl rfl ?_; intro wl hbl hvl)
                | (refine app_acc rfl _ _ rfl rfl (ho2.below hbl) rfl hvl (has_below VZ.hist hbl) (by omega) (by have := hbl.size; have := hk2.size; omega) ?_; intro v' w' hown hbb2; obtain ⟨D2, e2, rfl, _⟩ := hown.form))
              have hk3 := (hk2.trans (hbl.mono hk2.size)).trans hbb2
              rw [show (ps ++ [(Z, y)]).length = j + 1 by simp [hpl]] at hown
              have HP3 : Hid (RoS w bs vs m (j + 1) (.slice D2 (j + 1) e2) (ps ++ [(Z, y)]) w') := ⟨hown, by rw [List.map_append, hacs, HTK.out]; rfl, hk3⟩
              clear ho2 hk2 VZ hbl hvl hown hbb2 hk3
              go_wp2_with fail
              go_roundw
              case rel => exact ⟨j + 1, D2, e2, _, by omega, by go_num, rfl, HP3⟩
              case measure => simp [intOf]; omega
          · have hjm : j = m := by omega
            subst hjm
            go_wp2
            go_meet
            exact ⟨D, e, ps, rfl, HP⟩
      case rest =>
        clear hP0
        obtain ⟨D, e, ps, rfl, HP⟩ := hcut
        have hAll : ps.map (·.1) = ones bs (rowX vs m) := by rw [HP.out.acs, List.take_of_length_le (by rw [ones_len, row_len]; exact Nat.le_refl _)]
        have hlen : ps.length = m := by have := congrArg List.length hAll; rw [List.length_map, ones_len, row_len] at this; exact this
        have hb8 := (boundsB_true hbb).1
        have hpl : ∀ p, p ∈ ps → p.1.h.length ≤ maxLen := fun p hp => by
          have hm : p.1 ∈ ps.map (·.1) := List.mem_map.2 ⟨p, hp, rfl⟩
          rw [hAll] at hm
          obtain ⟨x, _, hx⟩ := List.mem_map.1 hm
          rw [← hx]
          have := one_hlen x bs
          unfold maxLen
          omega
        have hown := HP.out.own
        have hk1 := HP.out.keep
        clear HP
        have HPL := Lib.hid hpl; clear hpl
        have HALL := Lib.hid hAll; clear hAll
        have HLEN := Lib.hid hlen; clear hlen
        have hQ0 : Hid (RoB wc ps 0 (.slice none 0 0) [] wc) := ⟨Own.nil _ _, rfl, Below.refl _ _⟩
        have hms : IntKind.i64.wrap ((m : Int) - 1) = (m : Int) - 1 := IntWalk.i64_in _ (by omega)
        go_upto_block 2 with fail
        go_cut [10] (fun x wx => ∃ (D2 : Option Addr) (e2 : Nat) (qs : List (Ac × Nat)), x = .slice D2 m e2 ∧ Hid (RoB wc ps m (.slice D2 m e2) qs wx))
        case first =>
          go_wp2_with fail
          go_loopw [10, 15] (fun x i wr => ∃ (j : Nat) (t : Int) (D2 : Option Addr) (e2 : Nat) (qs : List (Ac × Nat)), j ≤ m ∧ t = (m : Int) - 1 - j ∧ i = .int .i64 t ∧ x = .slice D2 j e2 ∧ Hid (RoB wc ps j (.slice D2 j e2) qs wr)) (fun _ i _ => (intOf i + 1).toNat)
          case atStart => exact ⟨0, _, none, 0, [], Nat.zero_le _, by simp, rfl, rfl, hQ0⟩
          case round =>
            clear hQ0 hms
            obtain ⟨j, t, D2, e2, qs, hj, ht, rfl, rfl, HQ⟩ := hrel
            by_cases hlt : j < m
            · obtain ⟨p, hp⟩ : ∃ p : Nat, t = p := ⟨m - 1 - j, by omega⟩
              subst hp
              have hpm : p < m := by omega
              have hpM : (p : Int) < (m : Int) := by omega
              have hp0 : (0 : Int) ≤ (p : Int) := by omega
              have hw1 : IntKind.i64.wrap ((p : Int) - 1) = (p : Int) - 1 := IntWalk.i64_in _ (by omega)
              have hpj : p = m - 1 - j := by omega
              have HPJ := Lib.hid ht; clear ht
              obtain ⟨_, g, rfl, _, hrows⟩ := hown.rows HPL.out (by omega)
              have hpl : p < ps.length := by rw [HLEN.out]; exact hpm
              have hAt := (hrows p hpl).keep (fun _ hp => HQ.out.keep.cell hp)
              have hH := has_below (hown.hist ps[p] (List.getElem_mem hpl)) HQ.out.keep
              have HTK : Hid ((ps.map (·.1)).reverse.take (j + 1) = (ps.map (·.1)).reverse.take j ++ [(ps[p]).1]) := by
                have hjl : j < (ps.map (·.1)).reverse.length := by simp; rw [HLEN.out]; exact hlt
                rw [Hid, List.take_succ_eq_append_getElem hjl]
                congr 2
                simp only [List.getElem_reverse, List.getElem_map, List.length_map]
                congr 2
                rw [HLEN.out, hpj]
              have hql : qs.length = j := by have := congrArg List.length HQ.out.acs; rw [List.length_map, List.length_take, List.length_reverse, List.length_map, HLEN.out] at this; omega
              have ho2 := HQ.out.own
              have hk2 := HQ.out.keep
              have hacs := HQ.out.acs
              clear HQ hrows hpj
              generalize (ps[p]).1 = Z at hAt hH HTK
              generalize (ps[p]).2 = y at hAt hH
              go_wp2_with (first
                | (refine load_acc rfl _ rfl _ _ rfl hAt ?_)
                | (refine lit1 rfl _ rfl rfl ?_; intro wl hbl hvl)
                | (refine app_acc rfl _ _ rfl rfl (ho2.below hbl) rfl hvl (has_below hH hbl) (by omega) (by have := hbl.size; have := hk2.size; omega) ?_; intro v' w' hown2 hbb2; obtain ⟨D3, e3, rfl, _⟩ := hown2.form))
              have hk3 := (hk2.trans (hbl.mono hk2.size)).trans hbb2
              rw [show (qs ++ [(Z, y)]).length = j + 1 by simp [hql]] at hown2
              have HQ3 : Hid (RoB wc ps (j + 1) (.slice D3 (j + 1) e3) (qs ++ [(Z, y)]) w') := ⟨hown2, by rw [List.map_append, hacs, HTK.out]; rfl, hk3⟩
              clear ho2 hk2 hbl hvl hown2 hbb2 hk3 hAt hH
              go_wp2_with fail
              go_roundw
              case rel => exact ⟨j + 1, _, D3, e3, _, by omega, by have := HPJ.out; push_cast; omega, rfl, rfl, HQ3⟩
              case measure => simp [intOf]
            · have hjm : j = m := by omega
              have htn : ¬ (0 : Int) ≤ t := by omega
              subst hjm
              go_wp2
              go_meet
              exact ⟨D2, e2, qs, rfl, HQ⟩
        case rest =>
          clear hQ0 hms
          obtain ⟨D2, e2, qs, rfl, HQ⟩ := hcut
          have hH2 := HQ.out.keep
          have hkw := hk1.trans (hH2.mono hk1.size)
          have HUP : Hid (Accs wc D m (ones bs (rowX vs m))) := by
            have := (hown.below hH2).accs HPL.out
            rwa [HALL.out] at this
          have HDN : Hid (Accs wc D2 m (ones bs (rowX vs m).reverse)) := by
            have hq2 : qs.map (·.1) = ones bs (rowX vs m).reverse := by
              rw [HQ.out.acs, HALL.out, ones_reverse, List.take_of_length_le (by rw [ones_len, List.length_reverse, row_len]; exact Nat.le_refl _)]
            have hql : ∀ p, p ∈ qs → p.1.h.length ≤ maxLen := fun p hp => by
              have hm : p.1 ∈ qs.map (·.1) := List.mem_map.2 ⟨p, hp, rfl⟩
              rw [hq2] at hm
              obtain ⟨x, _, hx⟩ := List.mem_map.1 hm
              rw [← hx]
              have := one_hlen x bs
              unfold maxLen
              omega
            have := HQ.out.own.accs hql
            rwa [hq2] at this
          have hD : (D = none ∧ m = 0 ∧ e = 0) ∨ (∃ g, D = some ⟨g, 0, none⟩ ∧ m ≤ e ∧ e ≤ maxLen) := by
            rcases hown.row.2 with ⟨e1, h0⟩ | ⟨g, cap, cur, e1, hg, hh, hn, hc, _⟩
            · injection e1 with e1 e2 e3
              exact .inl ⟨e1, by rw [← HLEN.out]; exact h0, e3⟩
            · injection e1 with e1 e2 e3
              exact .inr ⟨g, e1, by rw [e3, e2]; exact hn, by rw [e3]; exact hc⟩
          clear HQ hown hk1 hH2 HPL HALL HLEN
          have hbw := HB.out.below hkw
          have H5 := Lib.hid hbw; clear hbw
          have HW := Lib.hid hkw; clear hkw
          obtain ⟨u, hu, eu⟩ := cut_low k m hm2
          have hme : m ≤ e := by
            rcases hD with ⟨_, h1, h2⟩ | ⟨_, _, h1, _⟩
            · omega
            · exact h1
          clear hD
          have hJl : (rowX vs m).length ≤ 8192 := by rw [row_len]; omega
          have hlr : (rowX vs m).reverse.length ≤ 8192 := by rw [List.length_reverse]; exact hJl
          have htk : ((rowX vs m).take u).length ≤ 8192 := by rw [List.length_take]; omega
          have hdr : ((rowX vs m).drop u).length ≤ 8192 := by rw [List.length_drop]; omega
          have mtk : ∀ x, x ∈ (rowX vs m).take u → x ∈ rowX vs m := fun x h => List.mem_of_mem_take h
          have mdr : ∀ x, x ∈ (rowX vs m).drop u → x ∈ rowX vs m := fun x h => List.mem_of_mem_drop h
          have mrv : ∀ x, x ∈ (rowX vs m).reverse → x ∈ rowX vs m := fun x h => List.mem_reverse.1 h
          have fC := part_fit (bs := bs) hm2 _ mtk htk
          have fD := part_fit (bs := bs) hm2 _ mdr hdr
          have c1 : ∀ W, Ints W B q bs → Accs W D m (ones bs (rowX vs m)) → Calls Try.prog 19 #[.slice B q d, .slice D m e] W (GoodAcc (joinAc bs (ones bs (rowX vs m))) W) := fun W hI hA => join_ok B q d bs D m e _ W hI hA (by omega) hbb (row_tog hm2 _ (fun x h => h)) (by rw [ones_total]; omega)
          have c2 : ∀ W, Ints W B q bs → Accs W D2 m (ones bs (rowX vs m).reverse) → Calls Try.prog 19 #[.slice B q d, .slice D2 m e2] W (GoodAcc (joinAc bs (ones bs (rowX vs m))) W) := fun W hI hA => by
            have := join_ok B q d bs D2 m e2 _ W hI hA (by omega) hbb (row_tog hm2 _ mrv) (by rw [ones_total]; omega)
            rwa [row_reverse] at this
          have c3 : ∀ W, Ints W B q bs → Accs W D m (ones bs (rowX vs m)) → Calls Try.prog 19 #[.slice B q d, .slice D u e] W (GoodAcc (joinAc bs (ones bs ((rowX vs m).take u))) W) := fun W hI hA => by
            have hA2 := hA.take hu
            rw [ones_take] at hA2
            exact join_ok B q d bs D u e _ W hI hA2 (by omega) hbb (row_tog hm2 _ mtk) (by rw [ones_total]; omega)
          have c4 : ∀ W D3, Ints W B q bs → Accs W D3 (m - u) ((ones bs (rowX vs m)).drop u) → Calls Try.prog 19 #[.slice B q d, .slice D3 (m - u) (e - u)] W (GoodAcc (joinAc bs (ones bs ((rowX vs m).drop u))) W) := fun W D3 hI hA => by
            rw [ones_drop] at hA
            exact join_ok B q d bs D3 (m - u) (e - u) _ W hI hA (by omega) hbb (row_tog hm2 _ mdr) (by rw [ones_total]; omega)
          have c5 : ∀ W D3, Ints W B q bs → Accs W D3 2 [joinAc bs (ones bs ((rowX vs m).drop u)), joinAc bs (ones bs ((rowX vs m).take u))] → Calls Try.prog 19 #[.slice B q d, .slice D3 2 2] W (GoodAcc (joinAc bs (ones bs (rowX vs m))) W) := fun W D3 hI hA => by
            have := join_ok B q d bs D3 2 2 _ W hI hA (by omega) hbb (two_tog fD.1 fC.1 fD.2 fC.2) (by
              have e1 : totalA [joinAc bs (ones bs ((rowX vs m).drop u)), joinAc bs (ones bs ((rowX vs m).take u))] = (((rowX vs m).drop u).length : Int) + ((rowX vs m).take u).length := by
                simp [totalA, isum, join_n]
              rw [e1, List.length_take, List.length_drop, row_len]; omega)
            rwa [row_halves] at this
          have jn : (joinAc bs (ones bs (rowX vs m))).n = (m : Int) := by rw [join_n, row_len]
          have jl : (joinAc bs (ones bs (rowX vs m))).h.length ≤ maxLen := by rw [join_hlen]; unfold maxLen; omega
          have cl : (joinAc bs (ones bs ((rowX vs m).take u))).h.length ≤ maxLen := by rw [join_hlen]; unfold maxLen; omega
          have dl : (joinAc bs (ones bs ((rowX vs m).drop u))).h.length ≤ maxLen := by rw [join_hlen]; unfold maxLen; omega
          clear fC fD htk hdr mtk mdr mrv hlr hJl
          generalize joinAc bs (ones bs (rowX vs m)) = J at c1 c2 c5 jn jl
          generalize joinAc bs (ones bs ((rowX vs m).take u)) = JC at c3 c5 cl
          generalize joinAc bs (ones bs ((rowX vs m).drop u)) = JD at c4 c5 dl
          have C1 := Lib.hid c1; clear c1
          have C2 := Lib.hid c2; clear c2
          have C3 := Lib.hid c3; clear c3
          have C4 := Lib.hid c4; clear c4
          have C5 := Lib.hid c5; clear c5
          have JN := Lib.hid jn; clear jn
          go_upto_region 19 with fail
          go_upto_region 20 with fail
          rw [eu]
          clear eu
          generalize (IntKind.u64.wrap k).tmod ((m : Int) + 1) = junk
          go_wp2_with fail
          refine (C1.out _ H5.out HUP.out).mono ?_
          rintro e w3 ⟨y17, hy, rfl, hh17, hb⟩
          clear hy C1
          replace HW := Lib.hid (HW.out.trans (hb.mono HW.out.size))
          replace H5 := Lib.hid (H5.out.below hb)
          replace HUP := Lib.hid (HUP.out.below hb)
          replace HDN := Lib.hid (HDN.out.below hb)
          clear hb
          go_upto_region 21 with (refine store_new rfl _ _ rfl rfl rfl rfl ?_; intro wn hb hvn)
          replace HW := Lib.hid (HW.out.trans (hb.mono HW.out.size))
          replace H5 := Lib.hid (H5.out.below hb)
          replace HUP := Lib.hid (HUP.out.below hb)
          replace HDN := Lib.hid (HDN.out.below hb)
          have V17 : V wn w3.heap.size y17 J := ⟨hvn, has_below hh17 hb⟩
          generalize w3.heap.size = g17 at V17 ⊢
          clear hb hvn hh17
          go_wp2_with fail
          refine (C2.out _ H5.out HDN.out).mono ?_
          rintro e w4 ⟨y19, hy, rfl, hh19, hb⟩
          clear hy C2 HDN
          replace HW := Lib.hid (HW.out.trans (hb.mono HW.out.size))
          replace H5 := Lib.hid (H5.out.below hb)
          replace HUP := Lib.hid (HUP.out.below hb)
          replace V17 := V17.below hb
          clear hb
          go_upto_region 22 with (refine store_new rfl _ _ rfl rfl rfl rfl ?_; intro wn hb hvn)
          replace HW := Lib.hid (HW.out.trans (hb.mono HW.out.size))
          replace H5 := Lib.hid (H5.out.below hb)
          replace HUP := Lib.hid (HUP.out.below hb)
          replace V17 := V17.below hb
          have V19 : V wn w4.heap.size y19 J := ⟨hvn, has_below hh19 hb⟩
          generalize w4.heap.size = g19 at V19 ⊢
          clear hb hvn hh19
          go_wp2_with (refine cut_to rfl _ _ rfl rfl rfl (show u ≤ e by omega) ?_)
          refine (C3.out _ H5.out HUP.out).mono ?_
          rintro e w5 ⟨y21, hy, rfl, hh21, hb⟩
          clear hy C3
          replace HW := Lib.hid (HW.out.trans (hb.mono HW.out.size))
          replace H5 := Lib.hid (H5.out.below hb)
          replace HUP := Lib.hid (HUP.out.below hb)
          replace V17 := V17.below hb
          replace V19 := V19.below hb
          clear hb
          go_upto_region 23 with (refine store_new rfl _ _ rfl rfl rfl rfl ?_; intro wn hb hvn)
          replace HW := Lib.hid (HW.out.trans (hb.mono HW.out.size))
          replace H5 := Lib.hid (H5.out.below hb)
          replace HUP := Lib.hid (HUP.out.below hb)
          replace V17 := V17.below hb
          replace V19 := V19.below hb
          have V21 : V wn w5.heap.size y21 JC := ⟨hvn, has_below hh21 hb⟩
          generalize w5.heap.size = g21 at V21 ⊢
          clear hb hvn hh21
          go_wp2_with (refine cut_from rfl _ _ rfl rfl rfl hu hme HUP.out ?_; intro D3 hA3)
          refine (C4.out _ _ H5.out hA3).mono ?_
          rintro e w6 ⟨y23, hy, rfl, hh23, hb⟩
          clear hy C4 hA3 HUP
          replace HW := Lib.hid (HW.out.trans (hb.mono HW.out.size))
          replace H5 := Lib.hid (H5.out.below hb)
          replace V17 := V17.below hb
          replace V19 := V19.below hb
          replace V21 := V21.below hb
          clear hb
          go_upto_region 24 with (refine store_new rfl _ _ rfl rfl rfl rfl ?_; intro wn hb hvn)
          replace HW := Lib.hid (HW.out.trans (hb.mono HW.out.size))
          replace H5 := Lib.hid (H5.out.below hb)
          replace V17 := V17.below hb
          replace V19 := V19.below hb
          replace V21 := V21.below hb
          have V23 : V wn w6.heap.size y23 JD := ⟨hvn, has_below hh23 hb⟩
          generalize w6.heap.size = g23 at V23 ⊢
          clear hb hvn hh23
          go_wp2_with (first | (refine load_has rfl _ rfl _ rfl V23.cells ?_) | (refine load_has rfl _ rfl _ rfl V21.cells ?_) | (refine lit2 rfl _ _ rfl rfl rfl ?_; intro wl hb hvl))
          replace HW := Lib.hid (HW.out.trans (hb.mono HW.out.size))
          replace H5 := Lib.hid (H5.out.below hb)
          replace V17 := V17.below hb
          replace V19 := V19.below hb
          replace V21 := V21.below hb
          replace V23 := V23.below hb
          have hAs := accs_two hvl rfl V23.ints V21.ints ⟨Nat.le_refl _, dl⟩ ⟨Nat.le_refl _, cl⟩
          clear hvl hb
          refine (C5.out _ _ H5.out hAs).mono ?_
          clear hAs V21 V23 C5
          rintro e w7 ⟨y25, hy, rfl, hh25, hb⟩
          clear hy H5
          replace HW := Lib.hid (HW.out.trans (hb.mono HW.out.size))
          replace V17 := V17.below hb
          replace V19 := V19.below hb
          clear hb
          go_upto_region 25 with (refine store_new rfl _ _ rfl rfl rfl rfl ?_; intro wn hb hvn)
          replace HW := Lib.hid (HW.out.trans (hb.mono HW.out.size))
          replace V17 := V17.below hb
          replace V19 := V19.below hb
          have V25 : V wn w7.heap.size y25 J := ⟨hvn, has_below hh25 hb⟩
          generalize w7.heap.size = g25 at V25 ⊢
          clear hb hvn hh25
          refine rowsEnd_any (J := J) (K := (m : Int)) (g17 := g17) (g19 := g19) (g25 := g25) (y17 := y17) (y19 := y19) (y25 := y25) ⟨rfl, V17, V19, V25, JN.out, jl, rfl, rfl, rfl, rfl, rfl, rfl, rfl, rfl, rfl⟩ ?_
          intro ax wx hbx hdx hvx
          go_wp2_with fail
          have hv2 : ax.tmps[6]?.getD undef = .bool true := by simpa using hvx
          exact bodyPost_ret (v := .bool true) (by simp [results, Try.results4, hv2, go_sem]) hdx ⟨rfl, HW.out.trans (hbx.mono HW.out.size)⟩

end Go.Proofs.Ytdpjmkpgphgleaa
