/-
  Walk: SessionRows: items in any row come to the same sessions.
-/
import Derived.Test.YtgdeaddfkcokpaaG6j
import Derived.Test.YtgdeaddfkcokpaaG6i
namespace Go.Proofs.Ytgdeaddfkcokpaa
open Go.RowKit

/-! Plain: the items, in their row and in the other. -/
def tT (vs : List Int) (i : Nat) : Int := nth vs i % 1024 - 500
def rx (vs : List Int) (n : Nat) : List It := (List.range n).map fun i => ⟨7, tT vs i, (i : Int) + 1, 1⟩
theorem tT_bd (vs : List Int) (i : Nat) : -500 ≤ tT vs i ∧ tT vs i ≤ 523 := by unfold tT; omega
theorem rx_len (vs : List Int) (n : Nat) : (rx vs n).length = n := by simp [rx]
theorem rx_succ (vs : List Int) (n : Nat) : rx vs (n + 1) = rx vs n ++ [⟨7, tT vs n, (n : Int) + 1, 1⟩] := by simp [rx, List.range_succ]
theorem rx_at (vs : List Int) {n i : Nat} (h : i < n) : nthI (rx vs n) i = ⟨7, tT vs i, (i : Int) + 1, 1⟩ := by simp [nthI, rx, h]
theorem rx_mem {vs : List Int} {n : Nat} {x : It} (h : x ∈ rx vs n) : ∃ i, i < n ∧ x = ⟨7, tT vs i, (i : Int) + 1, 1⟩ := by
  obtain ⟨i, hi, rfl⟩ := List.mem_map.1 h
  exact ⟨i, List.mem_range.1 hi, rfl⟩
theorem rx_ok (vs : List Int) {n : Nat} (hn : n ≤ 30) : ItsOk 7 (rx vs n) := fun x hx => by
  obtain ⟨i, hi, rfl⟩ := rx_mem hx
  have := tT_bd vs i
  exact ⟨itemB_iff.2 (by simp only; omega), rfl⟩
theorem rx_alone (vs : List Int) (n : Nat) : ∀ x, x ∈ rx vs n → ∀ y, y ∈ rx vs n → x = y ∨ Apart x y := fun x hx y hy => by
  obtain ⟨i, _, rfl⟩ := rx_mem hx
  obtain ⟨j, _, rfl⟩ := rx_mem hy
  by_cases e : i = j
  · subst e; exact .inl rfl
  · exact .inr (.inr (by show (i : Int) + 1 ≠ (j : Int) + 1; omega))
theorem rx_drop (vs : List Int) {n r : Nat} (h : r < n) : ((rx vs n).drop r).reverse = ((rx vs n).drop (r + 1)).reverse ++ [nthI (rx vs n) r] := by
  have hl : r < (rx vs n).length := by rw [rx_len]; exact h
  rw [List.drop_eq_getElem_cons hl, List.reverse_cons]
  simp [nthI, hl]
/-- Where the counts so far went. -/
theorem countsR {T : List Se} {j : Nat} (h : j < T.length) : isum ((T.map (·.a.n)).take (j + 1)) = isum ((T.map (·.a.n)).take j) + (nthE T j).a.n := by
  rw [isum_take_succ (by rw [List.length_map]; exact h)]
  simp [nth, nthE, h]
/-- What the sessions of these items are. -/
structure RoT (g : Int) (vs : List Int) (K : Nat) (T : List Se) : Prop where
  ends : ∀ i, i < T.length → -500 ≤ (nthE T i).f ∧ (nthE T i).f ≤ (nthE T i).l ∧ (nthE T i).l ≤ 523 ∧ 0 ≤ (nthE T i).a.n
  next : ∀ i, i < T.length → ∀ c, (nthE T i).f ≤ c → c < (nthE T i).l → ∃ k, k < K ∧ c < tT vs k ∧ tT vs k - c < g ∧ tT vs k ≤ (nthE T i).l
  sum : isum (T.map (·.a.n)) = K
  most : ∀ i, isum ((T.map (·.a.n)).take i) ≤ K
  least : ∀ i, 0 ≤ isum ((T.map (·.a.n)).take i)
theorem ro_facts {g : Int} (hg : 0 < g) (vs : List Int) (K : Nat) : RoT g vs K (SS g (rx vs K)) := by
  obtain ⟨Bs, e1, r1, p1⟩ := all_nil hg (bs := []) (rx vs K)
  have e2 : SS g (rx vs K) = Bs.map (seOf []) := e1
  rw [e2]
  have get : ∀ i, i < (Bs.map (seOf [])).length → ∃ B, B ∈ Bs ∧ B ≠ [] ∧ Conn g B ∧ nthE (Bs.map (seOf [])) i = seOf [] B := fun i hi => by
    rw [List.length_map] at hi
    refine ⟨Bs[i], List.getElem_mem hi, runs_ne r1 (List.getElem_mem hi), ?_, by rw [nthE_map hi]; simp [hi]⟩
    have : ∀ (l : List (List It)), Runs g l → ∀ B, B ∈ l → Conn g B := fun l => by
      induction l with
      | nil => intro _ B hB; cases hB
      | cons C l ih =>
        intro hr B hB
        rcases List.mem_cons.1 hB with rfl | hB
        · exact hr.2.1
        · exact ih hr.2.2.2 B hB
    exact this Bs r1 _ (List.getElem_mem hi)
  have nn : ∀ i, i < (Bs.map (seOf [])).length → 0 ≤ (nthE (Bs.map (seOf [])) i).a.n := fun i hi => by
    obtain ⟨B, _, _, _, e⟩ := get i hi
    rw [e]
    show 0 ≤ (blkA [] B).n
    rw [blk_n]; omega
  have nth0 : ∀ k, k < ((Bs.map (seOf [])).map (·.a.n)).length → 0 ≤ nth ((Bs.map (seOf [])).map (·.a.n)) k := fun k hk => by
    rw [List.length_map] at hk
    have := nn k hk
    have e : nth ((Bs.map (seOf [])).map (·.a.n)) k = (nthE (Bs.map (seOf [])) k).a.n := by
      have hk2 : k < Bs.length := by rwa [List.length_map] at hk
      simp [nth, nthE, hk2]
    rw [e]; exact this
  have sm : isum ((Bs.map (seOf [])).map (·.a.n)) = K := by rw [flat_count, p1.length_eq, rx_len]
  refine ⟨fun i hi => ?_, fun i hi c h1 h2 => ?_, sm, fun i => ?_, fun i => ?_⟩
  · obtain ⟨B, hB, hne, _, e⟩ := get i hi
    have h0 := nn i hi
    rw [e] at h0 ⊢
    obtain ⟨f1, f2⟩ := blk_f (bs := []) hne
    obtain ⟨l1, l2⟩ := blk_l (bs := []) hne
    obtain ⟨a, _, ea⟩ := rx_mem (p1.mem_iff.1 (mem_flat hB f1))
    obtain ⟨b, _, eb⟩ := rx_mem (p1.mem_iff.1 (mem_flat hB l1))
    have ba := tT_bd vs a
    have bb := tT_bd vs b
    have hfl := f2 _ l1
    have ta : (blkA [] B).f.t = tT vs a := by rw [ea]
    have tb : (blkA [] B).l.t = tT vs b := by rw [eb]
    show -500 ≤ (blkA [] B).f.t ∧ (blkA [] B).f.t ≤ (blkA [] B).l.t ∧ (blkA [] B).l.t ≤ 523 ∧ _
    exact ⟨by omega, by omega, by omega, h0⟩
  · obtain ⟨B, hB, hne, hc, e⟩ := get i hi
    rw [e] at h1 h2 ⊢
    obtain ⟨z, hz, z1, z2, z3⟩ := blk_next (bs := []) hc hne h1 h2
    obtain ⟨k, hk, ek⟩ := rx_mem (p1.mem_iff.1 (mem_flat hB hz))
    have tz : z.t = tT vs k := by rw [ek]
    exact ⟨k, hk, by omega, by omega, by show tT vs k ≤ (blkA [] B).l.t; omega⟩
  · rw [← sm]
    exact isum_take_le nth0 i
  · have h := isum_append (((Bs.map (seOf [])).map (·.a.n)).take i) (((Bs.map (seOf [])).map (·.a.n)).drop i)
    refine isum_nonneg fun k hk => ?_
    rw [List.length_take] at hk
    have := nth0 k (by omega)
    simpa [nth, List.getElem?_take, show k < i by omega] using this

set_option maxRecDepth 100000 in
set_option maxHeartbeats 1000000 in
theorem srows_any (A : Option Addr) (m c : Nat) (vs : List Int) (a1 : Int) (w : World) (hr : Ints w A m vs) (_ : m ≤ maxLen) (_ : (Lit.int .i64 a1).wf = true) :
    Calls Try.prog 5 #[.slice A m c, .int .i64 a1] w fun e w' => e = .returned (.bool true) ∧ Below w.heap.size w w' := by
  obtain ⟨d1, m1, l1, u1⟩ : ∃ d : Int, bits .and .i64 a1 31 = d ∧ 0 ≤ d ∧ d ≤ 31 := ⟨a1 % 32, mask31 a1, by omega, by omega⟩
  have HI : Hid (∀ (s t q v : Int) (W : World), Calls Try.prog 34 #[.int .i64 s, .int .i64 t, .int .i64 q, .int .i64 v] W fun e w' => e = .returned (.agg #[.int .i64 s, .int .i64 t, .int .i64 q, .int .i64 v]) ∧ Below W.heap.size W w') := sitem_any
  have HAL : Hid (∀ (W : World) o, Below W.heap.size W (W.alloc o)) := fun W o => (Below.refl _ _).alloc (Nat.le_refl _) o
  have HR := Lib.hid hr; clear hr
  go_enter Try.func5, Try.ntmps5
  go_wp2_with fail
  refine (sawake_any _).mono ?_
  rintro e v0 ⟨rfl, hb⟩
  have HW0 := Lib.hid hb
  clear hb
  go_upto_region 4 with fail
  have bg : 1 ≤ 1 + d1 ∧ 1 + d1 ≤ 32 := by omega
  clear m1
  generalize 1 + d1 = g at bg ⊢
  clear l1 u1
  go_upto_region 5 with fail
  obtain ⟨K, hK, hK1, hK2⟩ : ∃ K : Nat, min (m : Int) 30 = K ∧ K ≤ m ∧ K ≤ 30 := ⟨min m 30, by omega, by omega, by omega⟩
  rw [hK]
  clear hK
  go_wp2_with fail
  have HX0 : Hid (OwnIt v0 w.heap.size (.slice none 0 0) (rx vs 0) ∧ Below w.heap.size w v0) := ⟨OwnIt.nil _ _, HW0.out⟩
  go_loopw [7, 9] (fun xv iv wr => ∃ (j : Nat) (X : Option Addr) (cx : Nat), j ≤ K ∧ xv = .slice X j cx ∧ iv = .int .i64 j ∧ Hid (OwnIt wr w.heap.size (.slice X j cx) (rx vs j) ∧ Below w.heap.size w wr)) (fun _ iv _ => K - (intOf iv).toNat)
  case atStart => exact ⟨0, none, 0, Nat.zero_le _, rfl, rfl, HX0⟩
  case round =>
    clear HX0 HW0
    obtain ⟨j, X, cx, hj, rfl, rfl, HP⟩ := hrel
    by_cases hlt : j < K
    · obtain ⟨b, o, rfl, hc⟩ := (HR.out.below HP.out.2).at_ (k := j) (by omega)
      have hcell := hc j (by omega)
      obtain ⟨d, hmk, hdT, hd0, hd1⟩ : ∃ d : Int, bits .and .i64 (nth vs j) 1023 = d ∧ d - 500 = tT vs j ∧ 0 ≤ d ∧ d ≤ 1023 := ⟨nth vs j % 1024, mask1023 _, rfl, by omega, by omega⟩
      have HDT := Lib.hid hdT
      clear hc hdT
      go_wp2_with fail
      refine (HI.out _ _ _ _ _).mono ?_
      rintro e w1 ⟨rfl, hb⟩
      have HP1 : Hid (OwnIt w1 w.heap.size (.slice X j cx) (rx vs j) ∧ Below w.heap.size w w1) := ⟨HP.out.1.below hb, HP.out.2.trans (hb.mono HP.out.2.size)⟩
      clear hb hcell hmk HP
      go_wp2_with (refine app_itemG rfl _ _ rfl ⟨7, d - 500, j + 1, 1⟩ rfl (HP1.out.1.below (HAL.out _ _)) rfl (Has.made _ _ _) (by omega) (by have := HP1.out.2.size; simp; omega) ?_; intro X2 cx2 w5 hown hgr; have HX5 := Lib.hid hown; have HGR5 := Lib.hid hgr; clear hown hgr)
      have HPN : Hid (OwnIt w5 w.heap.size (.slice X2 (j + 1) cx2) (rx vs (j + 1)) ∧ Below w.heap.size w w5) := ⟨by rw [rx_succ, ← HDT.out]; exact HX5.out, (HP1.out.2.trans ((HAL.out _ _).mono HP1.out.2.size)).trans HGR5.out.below⟩
      clear HX5 HGR5 HP1 HDT
      go_roundw
      case rel => exact ⟨j + 1, X2, cx2, by omega, rfl, by go_num, HPN⟩
      case measure => simp [intOf]; omega
    · obtain rfl : j = K := by omega
      clear hlt hj
      have HX := Lib.hid HP.out.1
      have HW := Lib.hid HP.out.2
      clear HP
      obtain ⟨wa, hwa⟩ : ∃ wa, wa = wr := ⟨_, rfl⟩
      rw [← hwa] at HX HW ⊢
      clear hwa
      have HY0 : Hid (OwnIt wa wa.heap.size (.slice none 0 0) ((rx vs j).drop j).reverse ∧ Below wa.heap.size wa wa) := ⟨by rw [List.drop_of_length_le (by rw [rx_len]; exact Nat.le_refl _)]; exact OwnIt.nil _ _, Below.refl _ _⟩
      go_wp2_with fail
      go_loopw [8, 10] (fun yv iv wr => ∃ (r n : Nat) (z : Int) (Y : Option Addr) (cy : Nat), n + r = j ∧ Hid (z = (r : Int) - 1) ∧ -1 ≤ z ∧ z ≤ 30 ∧ yv = .slice Y n cy ∧ iv = .int .i64 z ∧ Hid (OwnIt wr wa.heap.size (.slice Y n cy) ((rx vs j).drop r).reverse ∧ Below wa.heap.size wa wr)) (fun _ iv _ => (intOf iv + 1).toNat)
      case atStart => exact ⟨j, 0, (j : Int) - 1, none, 0, by omega, rfl, by omega, by omega, rfl, by go_num, HY0⟩
      case round =>
        clear HY0
        obtain ⟨r, n, z, Y, cy, hn, HZ, hz0, hz1, rfl, rfl, HY⟩ := hrel
        by_cases hr0 : 0 < r
        · obtain ⟨r, rfl⟩ : ∃ r', r = r' + 1 := ⟨r - 1, by omega⟩
          obtain rfl : z = (r : Int) := by have := HZ.out; omega
          clear HZ
          obtain ⟨bx, ox, rfl, hix⟩ := HX.out.items.2 (by omega)
          have hri : wr.rangeAt bx (ox + r * 4) (itemL (nthI (rx vs j) r)) := rangeAt_keep (hix r (by omega)) (by simp [itemL]) fun _ hp => HY.out.2.cell hp
          have HRI := Lib.hid hri
          have HDR := Lib.hid (rx_drop vs (n := j) (r := r) (by omega))
          clear hix hri
          generalize nthI (rx vs j) r = x at HRI HDR
          go_wp2_with (first
            | (refine load_item rfl _ rfl bx (ox + r * 4) rfl HRI.out ?_)
            | (refine app_itemG rfl _ _ rfl x rfl (HY.out.1.below (HAL.out _ _)) rfl (Has.made _ _ _) (by omega) (by have := HY.out.2.size; simp; omega) ?_; intro Y2 cy2 w5 hown hgr; have HY5 := Lib.hid hown; have HGR5 := Lib.hid hgr; clear hown hgr))
          have HYN : Hid (OwnIt w5 wa.heap.size (.slice Y2 (n + 1) cy2) ((rx vs j).drop r).reverse ∧ Below wa.heap.size wa w5) := ⟨by rw [HDR.out]; exact HY5.out, (HY.out.2.trans ((HAL.out _ _).mono HY.out.2.size)).trans HGR5.out.below⟩
          clear HY5 HGR5 HY HRI HDR
          go_roundw
          case rel => exact ⟨r, n + 1, (r : Int) - 1, Y2, cy2, by omega, rfl, by omega, by omega, rfl, by go_num, HYN⟩
          case measure => simp [intOf]
        · obtain rfl : r = 0 := by omega
          obtain rfl : z = -1 := by have := HZ.out; omega
          obtain rfl : n = j := by omega
          clear HZ hr0
          have HYR : Hid (OwnIt wr wa.heap.size (.slice Y n cy) (rx vs n).reverse) := by have h := HY.out.1; rwa [List.drop_zero] at h
          have HXR : Hid (OwnIt wr w.heap.size (.slice X n cx) (rx vs n)) := HX.out.below HY.out.2
          have HWR : Hid (Below w.heap.size w wr) := HW.out.trans (HY.out.2.mono HW.out.size)
          clear HY HX HW HR HI HAL hz0 hz1 hn
          obtain ⟨T, hT⟩ : ∃ T, SS g (rx vs n) = T := ⟨_, rfl⟩
          have hT2 : SS g (rx vs n).reverse = T := by rw [← hT]; exact (all_rows (by omega) (bs := []) (List.reverse_perm _).symm (rx_alone vs n)).symm
          obtain ⟨n1, hn1⟩ : ∃ n1, T.length = n1 := ⟨_, rfl⟩
          have hs1 : n1 ≤ 30 := by have h := ss_len (g := g) (by omega) (rx vs n); rw [hT, rx_len] at h; omega
          have TF := ro_facts (g := g) (by omega) vs n
          rw [hT] at TF
          have TF := Lib.hid TF
          have okx := rx_ok vs hK2
          have oky : ItsOk 7 (rx vs n).reverse := fun x hx => okx x (List.mem_reverse.1 hx)
          have CA : Hid (∀ W, OwnIt W w.heap.size (.slice X n cx) (rx vs n) → Calls Try.prog 26 #[.slice none 0 0, .int .i64 g, .slice none 0 0, .slice X n cx] W fun e w' => ∃ A c rs, e = .returned (.tuple #[.slice A n1 c, .int .i64 0]) ∧ OwnE w' W.heap.size (.slice A n1 c) rs ∧ rs.map (·.s) = T ∧ n1 ≤ c ∧ Below W.heap.size W w') := fun W h =>
            (add_items g 7 ⟨bg.1, by omega⟩ [] (rx vs n) (fun x hx => by cases hx) okx (by rw [List.nil_append, rx_len]; omega) none 0 0 X n cx W (Sess.nil _ _) (Nat.le_refl _) (by decide) h.items h.some_ h.caps.2).mono fun e w' hh => by
              rw [List.nil_append, hT] at hh
              exact good_lit hn1 hh
          have CB : Hid (∀ W, OwnIt W wa.heap.size (.slice Y n cy) (rx vs n).reverse → Calls Try.prog 26 #[.slice none 0 0, .int .i64 g, .slice none 0 0, .slice Y n cy] W fun e w' => ∃ A c rs, e = .returned (.tuple #[.slice A n1 c, .int .i64 0]) ∧ OwnE w' W.heap.size (.slice A n1 c) rs ∧ rs.map (·.s) = T ∧ n1 ≤ c ∧ Below W.heap.size W w') := fun W h =>
            (add_items g 7 ⟨bg.1, by omega⟩ [] (rx vs n).reverse (fun x hx => by cases hx) oky (by rw [List.nil_append, List.length_reverse, rx_len]; omega) none 0 0 Y n cy W (Sess.nil _ _) (Nat.le_refl _) (by decide) h.items h.some_ h.caps.2).mono fun e w' hh => by
              rw [List.nil_append, hT2] at hh
              exact good_lit hn1 hh
          have CM : Hid (∀ W A c, Sess W A n1 T → Calls Try.prog 30 #[.slice A n1 c, .int .i64 g, .slice none 0 0] W fun e w' => e = .returned (.bool true) ∧ Below W.heap.size W w') := fun W A c hs =>
            (sesmay_any A n1 c T g none 0 0 [] W hs (by omega) Ints.nil (Nat.zero_le _)).mono fun e w' h => by
              rw [← hT, ss_may ⟨bg.1, by omega⟩ okx (by rw [rx_len]; omega)] at h; exact h
          have HN1 := Lib.hid hn1
          clear hT hT2 hn1 okx oky
          go_wp2_with fail
          refine (CA.out _ HXR.out).mono ?_
          rintro e w1 ⟨A1, c1, r1, rfl, o1, e1, k1, b1⟩
          have SA := Lib.hid (o1.sess e1)
          replace HXR := Lib.hid (HXR.out.below b1)
          replace HYR := Lib.hid (HYR.out.below b1)
          replace HWR := Lib.hid (HWR.out.trans (b1.mono HWR.out.size))
          clear o1 e1 b1 k1 CA
          go_wp2_with fail
          refine (CB.out _ HYR.out).mono ?_
          rintro e w2 ⟨A2, c2, r2, rfl, o2, e2, k2, b2⟩
          have SB := Lib.hid (o2.sess e2)
          replace SA := Lib.hid (SA.out.below b2)
          replace HXR := Lib.hid (HXR.out.below b2)
          replace HWR := Lib.hid (HWR.out.trans (b2.mono HWR.out.size))
          clear o2 e2 b2 k2 CB HYR
          go_wp2_with (go_at_call 17; refine (num_any _ _).mono ?_; rintro e w' ⟨rfl, rfl⟩)
          refine (samesess_any _ _ _ _ _ _ _ SA.out SB.out (by omega)).mono ?_
          rintro e w3 ⟨rfl, b3⟩
          replace SA := Lib.hid (SA.out.below b3)
          replace HXR := Lib.hid (HXR.out.below b3)
          replace HWR := Lib.hid (HWR.out.trans (b3.mono HWR.out.size))
          clear b3 SB
          go_wp2_with fail
          refine (CM.out _ _ _ SA.out).mono ?_
          rintro e w6 ⟨rfl, b4⟩
          replace SA := Lib.hid (SA.out.below b4)
          replace HXR := Lib.hid (HXR.out.below b4)
          replace HWR := Lib.hid (HWR.out.trans (b4.mono HWR.out.size))
          clear b4 CM
          go_wp2_with fail
          go_loopw [15, 16] (fun mv iv wr => ∃ (i : Nat) (M : Int), i ≤ n1 ∧ iv = .int .i64 i ∧ mv = .int .i64 M ∧ 0 ≤ M ∧ M ≤ 30 ∧ Hid (M = isum ((T.map (·.a.n)).take i)) ∧ wr = w6) (fun _ iv _ => n1 - (intOf iv).toNat)
          case atStart => exact ⟨0, 0, Nat.zero_le _, rfl, rfl, by omega, by omega, rfl, rfl⟩
          case round =>
            obtain ⟨i, M, hi, rfl, rfl, hM0, hM1, HM, rfl⟩ := hrel
            by_cases hlti : i < n1
            · have hil : i < T.length := by rw [HN1.out]; exact hlti
              obtain ⟨p, q, rfl, hc⟩ := SA.out.cells (by omega)
              obtain ⟨y1, y2, y3⟩ := hc i hlti
              obtain ⟨f1, f2, f3, f4⟩ := TF.out.ends i hil
              have HNX := Lib.hid (TF.out.next i hil)
              have hsu := countsR hil
              have hmo := TF.out.most (i + 1)
              have hle := TF.out.least (i + 1)
              generalize (nthE T i).f = F at y1 f1 f2 HNX
              generalize (nthE T i).l = L at y2 f2 f3 HNX
              generalize (nthE T i).a.n = N at y3 f4 hsu
              have HM2 : Hid (M + N = isum ((T.map (·.a.n)).take (i + 1))) := by have h := HM.out; rw [Hid]; omega
              have hMN : 0 ≤ M + N ∧ M + N ≤ 30 := by have h := HM2.out; omega
              clear hc hsu hmo hle HM
              go_upto_region 24 with fail
              go_loopw [17] (fun av w' => ∃ a : Int, av = .int .i64 a ∧ F ≤ a ∧ a ≤ L ∧ w' = wr) (fun av _ => (L - intOf av).toNat)
              case atStart => exact ⟨F, rfl, Int.le_refl _, f2, rfl⟩
              case round =>
                obtain ⟨a, rfl, ha1, ha2, rfl⟩ := hrel
                by_cases halt : a < L
                · obtain ⟨k0, hk0, z1, z2, z3⟩ := HNX.out a ha1 halt
                  obtain ⟨bx, ox, rfl, hix⟩ := HXR.out.items.2 (by omega)
                  have HTC : Hid (∀ k, k < n → wr.cell? ⟨bx, ox + k * 4 + 1, none⟩ = some (.int .i64 (tT vs k))) := fun k hk => by
                    have h := hix k hk
                    rw [rx_at vs hk] at h
                    exact h 1 _ rfl
                  clear hix
                  go_wp2_with fail
                  go_loopw [18, 19] (fun nv jv w' => ∃ (j : Nat) (N' : Int), j ≤ n ∧ jv = .int .i64 j ∧ nv = .int .i64 N' ∧ a < N' ∧ N' ≤ L + 1 ∧ Hid (∀ k, k < j → a < tT vs k → N' ≤ tT vs k) ∧ w' = wr) (fun _ jv _ => n - (intOf jv).toNat)
                  case atStart => exact ⟨0, L + 1, Nat.zero_le _, rfl, rfl, by omega, by omega, fun k hk => by omega, rfl⟩
                  case round =>
                    obtain ⟨j, N', hj, rfl, rfl, hN1, hN2, HJ, rfl⟩ := hrel
                    by_cases hjn : j < n
                    · have hcj := HTC.out j hjn
                      have bj := tT_bd vs j
                      obtain ⟨t, ht⟩ : ∃ t, tT vs j = t := ⟨_, rfl⟩
                      rw [ht] at hcj bj
                      have HT := Lib.hid ht; clear ht
                      by_cases hgt : a < t
                      · have hmx : ∃ M2, min N' t = M2 ∧ a < M2 ∧ M2 ≤ L + 1 ∧ M2 ≤ N' ∧ M2 ≤ t := ⟨min N' t, rfl, by omega, by omega, by omega, by omega⟩
                        obtain ⟨M2, hM2, q1, q2, q3, q4⟩ := hmx
                        have HJ2 : Hid (∀ k, k < j + 1 → a < tT vs k → M2 ≤ tT vs k) := fun k hk hak => by
                          by_cases e : k = j
                          · subst e; rw [HT.out]; exact q4
                          · have := HJ.out k (by omega) hak; omega
                        go_wp2_with fail
                        go_roundw
                        case rel => first | exact ⟨j + 1, M2, by omega, by go_num, rfl, q1, q2, HJ2, by first | rfl | trivial⟩ | ((repeat apply Exists.intro); exact ⟨⟨j + 1, M2, by omega, by go_num, rfl, q1, q2, HJ2, by first | rfl | trivial⟩, rfl⟩)
                        case measure => simp [intOf]; omega
                      · have HJ2 : Hid (∀ k, k < j + 1 → a < tT vs k → N' ≤ tT vs k) := fun k hk hak => by
                          by_cases e : k = j
                          · subst e; rw [HT.out] at hak; exact absurd hak hgt
                          · exact HJ.out k (by omega) hak
                        go_wp2_with fail
                        go_roundw
                        case rel => first | exact ⟨j + 1, N', by omega, by go_num, rfl, hN1, hN2, HJ2, by first | rfl | trivial⟩ | ((repeat apply Exists.intro); exact ⟨⟨j + 1, N', by omega, by go_num, rfl, hN1, hN2, HJ2, by first | rfl | trivial⟩, rfl⟩)
                        case measure => simp [intOf]; omega
                    · have hjn2 : j = n := by omega
                      subst hjn2
                      have hnz := HJ.out k0 hk0 z1
                      have g1 : ¬ (g ≤ N' - a) := by omega
                      have g2 : ¬ (L < N') := by omega
                      clear z1 z2 z3 hnz
                      go_wp2_with fail
                      go_roundw
                      case rel => first | exact ⟨N', rfl, by omega, by omega, by first | rfl | trivial⟩ | ((repeat apply Exists.intro); exact ⟨⟨N', rfl, by omega, by omega, by first | rfl | trivial⟩, rfl⟩)
                      case measure => simp [intOf]; omega
                · have haL : ¬ (a < L) := halt
                  go_wp2_with fail
                  go_roundw
                  case rel => first | exact ⟨i + 1, M + N, by omega, by go_num, rfl, by omega, by omega, HM2, by first | rfl | trivial⟩ | ((repeat apply Exists.intro); exact ⟨⟨i + 1, M + N, by omega, by go_num, rfl, by omega, by omega, HM2, by first | rfl | trivial⟩, rfl⟩)
                  case measure => simp [intOf]; omega
            · have hin : i = n1 := by omega
              have hMn : M = (n : Int) := by
                have h := HM.out
                rw [List.take_of_length_le (by rw [List.length_map, HN1.out]; omega), TF.out.sum] at h
                exact h
              subst hMn
              go_wp2_with fail
              go_ret
              exact ⟨rfl, HWR.out⟩

end Go.Proofs.Ytgdeaddfkcokpaa
