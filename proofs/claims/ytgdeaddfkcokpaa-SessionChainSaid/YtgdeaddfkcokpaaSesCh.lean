/-
  Walk: SessionChain: times that rise by less than the gap are one session, by the gap or more are each one.
-/
import Derived.Test.YtgdeaddfkcokpaaSesG
import Derived.BigQuiet
namespace Go.Proofs.Ytgdeaddfkcokpaa
open Go.RowKit

/-- Where the counts so far went. -/
theorem counts_succ {T : List Se} {j : Nat} (h : j < T.length) : isum ((T.map (·.a.n)).take (j + 1)) = isum ((T.map (·.a.n)).take j) + (nthE T j).a.n := by
  rw [isum_take_succ (by rw [List.length_map]; exact h)]
  simp [nth, nthE, h]
/-- What stands at a round's head. -/
structure ChS (w : World) (g : Int) (j n : Nat) (t : Int) (xv fv : Value) (zs : List It) (fs : List Int) (wr : World) : Prop where
  own : OwnIt wr w.heap.size xv zs
  fst : OwnI wr w.heap.size fv fs
  zl : zs.length = j + 1
  fl : fs.length = n
  chain : Chain g zs t fs
  ok : ItsOk 3 zs
  keep : Below w.heap.size w wr
theorem ChS.below {w : World} {g : Int} {j n : Nat} {t : Int} {xv fv : Value} {zs : List It} {fs : List Int} {wr wy : World} (h : ChS w g j n t xv fv zs fs wr) (hb : Below wr.heap.size wr wy) : ChS w g j n t xv fv zs fs wy :=
  ⟨h.own.below hb, h.fst.below hb, h.zl, h.fl, h.chain, h.ok, h.keep.trans (hb.mono h.keep.size)⟩

set_option maxRecDepth 100000 in
set_option maxHeartbeats 4000000 in
theorem chain_any (A : Option Addr) (m c : Nat) (xs : List Int) (a1 : Int) (w : World) (hr : Ints w A m xs) (_ : m ≤ maxLen) (_ : (Lit.int .i64 a1).wf = true) :
    Calls Try.prog 9 #[.slice A m c, .int .i64 a1] w fun e w' => e = .returned (.bool true) ∧ Below w.heap.size w w' := by
  obtain ⟨d1, m1, l1, u1⟩ : ∃ d : Int, bits .and .i64 a1 15 = d ∧ 0 ≤ d ∧ d ≤ 15 := ⟨a1 % 16, mask15 a1, by omega, by omega⟩
  have HI : Hid (∀ (s t q v : Int) (W : World), Calls Try.prog 34 #[.int .i64 s, .int .i64 t, .int .i64 q, .int .i64 v] W fun e w' => e = .returned (.agg #[.int .i64 s, .int .i64 t, .int .i64 q, .int .i64 v]) ∧ Below W.heap.size W w') := sitem_any
  have HAL : Hid (∀ (W : World) o, Below W.heap.size W (W.alloc o)) := fun W o => (Below.refl _ _).alloc (Nat.le_refl _) o
  have HR := Lib.hid hr; clear hr
  go_enter Try.func9, Try.ntmps9
  go_wp2_with fail
  refine (sawake_any _).mono ?_
  rintro e v0 ⟨rfl, hb⟩
  have HW0 := Lib.hid hb
  clear hb
  go_upto_region 4 with fail
  have bg : 1 ≤ 1 + d1 ∧ 1 + d1 ≤ 16 := by omega
  clear m1
  generalize 1 + d1 = g at bg ⊢
  clear l1 u1
  go_wp2_with fail
  refine (HI.out _ _ _ _ _).mono ?_
  rintro e v1 ⟨rfl, hb⟩
  have HW1 := Lib.hid (HW0.out.trans (hb.mono HW0.out.size))
  clear hb HW0
  go_upto_region 7 with fail
  have hX1 : OwnIt (v1.alloc (.cells #[.int .i64 3, .int .i64 0, .int .i64 1, .int .i64 1] 23)) w.heap.size (.slice (some ⟨v1.heap.size, 0, none⟩) 1 1) [⟨3, 0, 1, 1⟩] ∧ Below w.heap.size w (v1.alloc (.cells #[.int .i64 3, .int .i64 0, .int .i64 1, .int .i64 1] 23)) := ⟨ownIt_one (x := ⟨3, 0, 1, 1⟩) (Has.made _ _ _) HW1.out.size, HW1.out.trans ((HAL.out v1 _).mono HW1.out.size)⟩
  generalize v1.alloc (.cells #[.int .i64 3, .int .i64 0, .int .i64 1, .int .i64 1] 23) = v2 at hX1 ⊢
  have HX1 := Lib.hid hX1.1
  have HW2 := Lib.hid hX1.2
  clear hX1
  have HSZ : Hid (w.heap.size ≤ v2.heap.size) := HW2.out.size
  go_wp2_with (refine app_intG (base := v2.heap.size) (n := 0) (y := 0) rfl _ _ rfl rfl (OwnI.nil _ _) rfl ((Has.made _ _ _).cell 0) (by decide) (by simp) ?_; intro F cf w3 hown hgr; have HF := Lib.hid hown; have HGR := Lib.hid hgr; clear hown hgr)
  have HP0 : Hid (ChS w g 0 1 0 (.slice (some ⟨v1.heap.size, 0, none⟩) 1 1) (.slice F 1 cf) [⟨3, 0, 1, 1⟩] [0] w3) := by
    have hb : Below v2.heap.size v2 w3 := (HAL.out _ _).trans HGR.out.below
    exact ⟨HX1.out.below hb, HF.out.mono HSZ.out, rfl, rfl, chain_one (g := g) ⟨3, 0, 1, 1⟩, fun x hx => by
      simp only [List.mem_cons, List.not_mem_nil, or_false] at hx
      subst hx; decide, HW2.out.trans (hb.mono HW2.out.size)⟩
  clear HX1 HF HGR HW1 HW2 HSZ
  go_upto_region 8 with fail
  go_wp2_with fail
  go_loopw [6, 7, 8, 9, 10, 11] (fun tv wv mv xv fv iv wr => ∃ (j n : Nat) (t : Int) (X : Option Addr) (cx : Nat) (F : Option Addr) (cf : Nat) (zs : List It) (fs : List Int), j ≤ m ∧ j ≤ 30 ∧ 1 ≤ n ∧ n ≤ j + 1 ∧ 0 ≤ t ∧ t ≤ 31 * (j : Int) ∧ tv = .int .i64 t ∧ wv = .int .i64 n ∧ mv = .int .i64 ((j + 1 : Nat) : Int) ∧ xv = .slice X (j + 1) cx ∧ fv = .slice F n cf ∧ iv = .int .i64 j ∧ Hid (ChS w g j n t (.slice X (j + 1) cx) (.slice F n cf) zs fs wr)) (fun _ _ _ _ _ iv _ => m - (intOf iv).toNat)
  case atStart => exact ⟨0, 1, 0, _, 1, F, cf, _, _, Nat.zero_le _, by omega, by omega, by omega, by omega, by omega, rfl, rfl, rfl, rfl, rfl, rfl, HP0⟩
  case round =>
    clear HP0
    obtain ⟨j, n, t, X, cx, F, cf, zs, fs, hj, hj30, hn1, hnj, ht0, ht1, rfl, rfl, rfl, rfl, rfl, rfl, HP⟩ := hrel
    by_cases hlt : j < m ∧ j < 30
    · obtain ⟨hlt, hlt30⟩ := hlt
      obtain ⟨b, o, rfl, hc⟩ := (HR.out.below HP.out.keep).at_ (k := j) hlt
      have hcell := hc j hlt
      have hd : ∃ d : Int, bits .and .i64 (nth xs j) 31 = d ∧ 0 ≤ d ∧ d ≤ 31 := ⟨nth xs j % 32, mask31 _, by omega, by omega⟩
      obtain ⟨d, hmk, hd0, hd1⟩ := hd
      clear hc
      generalize nth xs j = z at hcell hmk
      go_upto_region 14 with fail
      clear hcell hmk
      by_cases hge : g ≤ d
      · go_upto_region 17 with (refine app_intG (y := t + d) rfl _ _ rfl rfl (HP.out.fst.below (HAL.out _ _)) rfl ((Has.made _ _ _).cell 0) (by omega) (by have := HP.out.keep.size; simp; omega) ?_; intro F2 cf2 w4 hown hgr; have HF4 := Lib.hid hown; have HGR4 := Lib.hid hgr; clear hown hgr)
        have HG := Lib.hid hge; clear hge
        have HX4 : Hid (OwnIt w4 w.heap.size (.slice X (j + 1) cx) zs) := (HP.out.own.below (HAL.out _ _)).grew HGR4.out (HP.out.own.other HP.out.fst)
        have HK4 : Hid (Below w.heap.size w w4) := (HP.out.keep.trans ((HAL.out _ _).mono HP.out.keep.size)).trans HGR4.out.below
        have HCH : Hid (Chain g (zs ++ [⟨3, t + d, j + 2, 1⟩]) (t + d) (fs ++ [t + d])) := chain_new (by omega) HP.out.chain (x := ⟨3, t + d, j + 2, 1⟩) (by have := HG.out; show t + g ≤ t + d; omega)
        have HOK := Lib.hid HP.out.ok
        have HZL := Lib.hid HP.out.zl
        have HFL := Lib.hid HP.out.fl
        clear HP
        go_wp2_with fail
        refine (HI.out _ _ _ _ _).mono ?_
        rintro e w5 ⟨rfl, hb⟩
        have HF5 := Lib.hid (HF4.out.below hb)
        have HX5 := Lib.hid (HX4.out.below hb)
        have HK5 := Lib.hid (HK4.out.trans (hb.mono HK4.out.size))
        clear hb HF4 HX4 HK4
        go_wp2_with (refine app_itemG rfl _ _ rfl ⟨3, t + d, j + 2, 1⟩ rfl (HX5.out.below (HAL.out _ _)) rfl (Has.made _ _ _) (by omega) (by have := HK5.out.size; simp; omega) ?_; intro X2 cx2 w6 hown hgr; have HX6 := Lib.hid hown; have HGR6 := Lib.hid hgr; clear hown hgr)
        have HP6 : Hid (ChS w g (j + 1) (n + 1) (t + d) (.slice X2 (j + 1 + 1) cx2) (.slice F2 (n + 1) cf2) (zs ++ [⟨3, t + d, j + 2, 1⟩]) (fs ++ [t + d]) w6) :=
          ⟨HX6.out, (HF5.out.below (HAL.out _ _)).grew HGR6.out (fun k hk e => HX5.out.other HF5.out k e hk), by rw [List.length_append, HZL.out]; rfl, by rw [List.length_append, HFL.out]; rfl, HCH.out, HOK.out.append fun x hx => by
            simp only [List.mem_cons, List.not_mem_nil, or_false] at hx
            subst hx
            exact ⟨itemB_iff.2 (by simp only; omega), rfl⟩, (HK5.out.trans ((HAL.out _ _).mono HK5.out.size)).trans HGR6.out.below⟩
        clear HX6 HGR6 HF5 HX5 HK5 HCH HOK HZL HFL
        go_roundw
        case rel => exact ⟨j + 1, n + 1, t + d, X2, cx2, F2, cf2, _, _, by omega, by omega, by omega, by omega, by omega, by omega, rfl, by go_num, by go_num, rfl, rfl, by go_num, HP6⟩
        case measure => simp [intOf]; omega
      · go_upto_region 17 with fail
        have HG := Lib.hid hge; clear hge
        obtain ⟨w4, hw4⟩ : ∃ w4, w4 = wr := ⟨_, rfl⟩
        have HF4 : Hid (OwnI w4 w.heap.size (.slice F n cf) fs) := by rw [hw4]; exact HP.out.fst
        have HX4 : Hid (OwnIt w4 w.heap.size (.slice X (j + 1) cx) zs) := by rw [hw4]; exact HP.out.own
        have HK4 : Hid (Below w.heap.size w w4) := by rw [hw4]; exact HP.out.keep
        rw [← hw4]
        clear hw4
        have HCH : Hid (Chain g (zs ++ [⟨3, t + d, j + 2, 1⟩]) (t + d) fs) := chain_same (by omega) HP.out.chain (x := ⟨3, t + d, j + 2, 1⟩) (by show t ≤ t + d; omega) (by have := HG.out; show t + d < t + g; omega)
        have HOK := Lib.hid HP.out.ok
        have HZL := Lib.hid HP.out.zl
        have HFL := Lib.hid HP.out.fl
        clear HP
        go_wp2_with fail
        refine (HI.out _ _ _ _ _).mono ?_
        rintro e w5 ⟨rfl, hb⟩
        have HF5 := Lib.hid (HF4.out.below hb)
        have HX5 := Lib.hid (HX4.out.below hb)
        have HK5 := Lib.hid (HK4.out.trans (hb.mono HK4.out.size))
        clear hb HF4 HX4 HK4
        go_wp2_with (refine app_itemG rfl _ _ rfl ⟨3, t + d, j + 2, 1⟩ rfl (HX5.out.below (HAL.out _ _)) rfl (Has.made _ _ _) (by omega) (by have := HK5.out.size; simp; omega) ?_; intro X2 cx2 w6 hown hgr; have HX6 := Lib.hid hown; have HGR6 := Lib.hid hgr; clear hown hgr)
        have HP6 : Hid (ChS w g (j + 1) (n) (t + d) (.slice X2 (j + 1 + 1) cx2) (.slice F (n) cf) (zs ++ [⟨3, t + d, j + 2, 1⟩]) fs w6) :=
          ⟨HX6.out, (HF5.out.below (HAL.out _ _)).grew HGR6.out (fun k hk e => HX5.out.other HF5.out k e hk), by rw [List.length_append, HZL.out]; rfl, HFL.out, HCH.out, HOK.out.append fun x hx => by
            simp only [List.mem_cons, List.not_mem_nil, or_false] at hx
            subst hx
            exact ⟨itemB_iff.2 (by simp only; omega), rfl⟩, (HK5.out.trans ((HAL.out _ _).mono HK5.out.size)).trans HGR6.out.below⟩
        clear HX6 HGR6 HF5 HX5 HK5 HCH HOK HZL HFL
        go_roundw
        case rel => exact ⟨j + 1, n, t + d, X2, cx2, F, cf, _, _, by omega, by omega, by omega, by omega, by omega, by omega, rfl, by go_num, by go_num, rfl, rfl, by go_num, HP6⟩
        case measure => simp [intOf]; omega
    · obtain ⟨n', rfl⟩ : ∃ n', n = n' + 1 := ⟨n - 1, by omega⟩
      obtain ⟨T, hT⟩ : ∃ T, SS g zs = T := ⟨_, rfl⟩
      obtain ⟨t1, _, t3, t4, t5⟩ := chain_end (show 0 < g by omega) HP.out.chain
      have hmay := ss_may (g := g) ⟨bg.1, by omega⟩ HP.out.ok (by rw [HP.out.zl]; omega)
      rw [HP.out.fl] at t1 t3 t4
      rw [HP.out.zl] at t5
      have e0 : allE g [] zs [] = T := hT
      rw [e0] at t1 t3 t4 t5
      rw [hT] at hmay
      have T1 := Lib.hid t1
      have T3 := Lib.hid t3
      have T4 : Hid ((nthE T n').l = t) := by rw [show n' + 1 - 1 = n' by omega] at t4; exact t4
      have TS : Hid (isum (T.map (·.a.n)) = (j : Int) + 1) := by rw [Hid, t5]; omega
      have TB : Hid (∀ i, i < n' + 1 → 0 ≤ (nthE T i).a.n) := fun i hi => by
        obtain ⟨a1, a2, _⟩ := (ses_ok hmay).1.fit _ (nthE_mem (show i < T.length by rw [t1]; exact hi))
        have := (fit_ends a1 a2).2.2.2.1
        omega
      have TL : Hid (∀ i, isum ((T.map (·.a.n)).take i) ≤ (j : Int) + 1) := fun i => by
        rw [← TS.out]
        refine isum_take_le (fun k hk => ?_) i
        rw [List.length_map, t1] at hk
        have := TB.out k hk
        simpa [nth, nthE, show k < T.length by rw [t1]; exact hk] using this
      have C1 : ∀ (W : World) (X : Option Addr) (cx : Nat) (zs' : List It), j ≤ 30 → ChS w g j (n' + 1) t (.slice X (j + 1) cx) (.slice F (n' + 1) cf) zs fs W → zs' = zs → Calls Try.prog 26 #[.slice none 0 0, .int .i64 g, .slice none 0 0, .slice X (j + 1) cx] W fun e w' => ∃ A c, e = .returned (.tuple #[.slice A (n' + 1) c, .int .i64 0]) ∧ Sess w' A (n' + 1) T ∧ n' + 1 ≤ c ∧ Below W.heap.size W w' := fun W X cx _ hj h _ =>
        (add_items g 3 ⟨bg.1, by omega⟩ [] zs (fun x hx => by cases hx) h.ok (by rw [List.nil_append, h.zl]; omega) none 0 0 X (j + 1) cx W (Sess.nil _ _) (Nat.le_refl _) (by decide) h.own.items h.own.some_ h.own.caps.2).mono fun e w' hh => by
          rw [List.nil_append, hT] at hh
          obtain ⟨A, c, rs, h1, h2, h3, h4, h5⟩ := good_lit t1 hh
          exact ⟨A, c, h1, h2.sess h3, h4, h5⟩
      clear hT t1 t3 t4 t5 hmay e0
      have C1 := Lib.hid C1
      by_cases hjm : j < m
      · have hj3 : j = 30 := by omega
        have hj4 : ¬ (j < 30) := by omega
        clear hlt hj3
        go_wp2_with fail
        refine (C1.out _ X cx zs (by omega) HP.out rfl).mono ?_
        rintro e w5 ⟨A2, c2, rfl, o2, n2, b2⟩
        have HS5 := Lib.hid o2
        have HF5 := Lib.hid (HP.out.fst.below b2)
        have HW5 := Lib.hid (HP.out.keep.trans (b2.mono HP.out.keep.size))
        clear o2 b2 HP
        obtain ⟨p2, q2, rfl, hc2⟩ := HS5.out.cells (by omega)
        have x9 := (hc2 n' (by omega)).2.1
        rw [T4.out] at x9
        clear hc2
        go_upto_region 21 with (go_at_call 17; refine (num_any _ _).mono ?_; rintro e w' ⟨rfl, rfl⟩)
        clear x9
        go_wp2_with fail
        go_loopw [8, 15] (fun mv iv wr => ∃ (i : Nat) (M : Int), i ≤ n' + 1 ∧ iv = .int .i64 i ∧ mv = .int .i64 M ∧ 0 ≤ M ∧ M ≤ 31 ∧ Hid (M + isum ((T.map (·.a.n)).take i) = (j : Int) + 1) ∧ Hid (Below w5.heap.size w5 wr)) (fun _ iv _ => n' + 1 - (intOf iv).toNat)
        case atStart => exact ⟨0, (j + 1 : Nat), Nat.zero_le _, rfl, rfl, by omega, by omega, by simp [Hid, isum], Below.refl _ _⟩
        case round =>
          obtain ⟨i, M, hi, rfl, rfl, hM0, hM1, HM, HW⟩ := hrel
          by_cases hlti : i < n' + 1
          · obtain ⟨p3, q3, e3, hc3⟩ := (HS5.out.below HW.out).cells (by omega)
            injection e3 with e3
            injection e3 with e4 e5
            subst e4; subst e5
            obtain ⟨y1, _, y3⟩ := hc3 i hlti
            obtain ⟨b4, o4, rfl, hc4⟩ := (HF5.out.below HW.out).ints.at_ (k := i) hlti
            have y2 := hc4 i hlti
            rw [T3.out i hlti] at y1
            clear hc3 hc4
            have HT := Lib.hid (TB.out i hlti)
            obtain ⟨K, hK⟩ : ∃ K, nth fs i = K := ⟨_, rfl⟩
            rw [hK] at y1 y2
            obtain ⟨N, hN⟩ : ∃ N, (nthE T i).a.n = N := ⟨_, rfl⟩
            rw [hN] at y3 HT
            have HSU : Hid (isum ((T.map (·.a.n)).take (i + 1)) = isum ((T.map (·.a.n)).take i) + N) := by rw [Hid, ← hN]; exact counts_succ (by rw [T1.out]; exact hlti)
            have HLE := Lib.hid (TL.out (i + 1))
            clear hK hN
            have hN0 : 0 ≤ M - N ∧ M - N ≤ 31 ∧ 0 ≤ N := by have a := HM.out; have b := HSU.out; have c := HLE.out; have d := HT.out; omega
            have HM2 : Hid (M - N + isum ((T.map (·.a.n)).take (i + 1)) = (j : Int) + 1) := by have a := HM.out; have b := HSU.out; rw [Hid]; omega
            clear HSU HLE HT HM
            go_upto_if 101 with (go_quiet (fail))
            have y4 : (wr.drewN nq).cell? ⟨p2, q2 + i * 15 + 2, none⟩ = some (.int .i64 N) := y3
            go_wp2_with fail
            go_roundw
            case rel => exact ⟨i + 1, M - N, by omega, by go_num, by go_num, by omega, by omega, HM2, below_drewN HW.out nq⟩
            case measure => simp [intOf]; omega
          · have hin : i = n' + 1 := by omega
            subst hin
            have hMZ : M = 0 := by
              have a := HM.out
              have b := TS.out
              rw [List.take_of_length_le (by rw [List.length_map, T1.out]; exact Nat.le_refl _)] at a
              omega
            subst hMZ
            go_wp2_with fail
            go_ret
            exact ⟨rfl, HW5.out.trans (HW.out.mono HW5.out.size)⟩
      · clear hlt
        go_wp2_with fail
        refine (C1.out _ X cx zs (by omega) HP.out rfl).mono ?_
        rintro e w5 ⟨A2, c2, rfl, o2, n2, b2⟩
        have HS5 := Lib.hid o2
        have HF5 := Lib.hid (HP.out.fst.below b2)
        have HW5 := Lib.hid (HP.out.keep.trans (b2.mono HP.out.keep.size))
        clear o2 b2 HP
        obtain ⟨p2, q2, rfl, hc2⟩ := HS5.out.cells (by omega)
        have x9 := (hc2 n' (by omega)).2.1
        rw [T4.out] at x9
        clear hc2
        go_upto_region 21 with (go_at_call 17; refine (num_any _ _).mono ?_; rintro e w' ⟨rfl, rfl⟩)
        clear x9
        go_wp2_with fail
        go_loopw [8, 15] (fun mv iv wr => ∃ (i : Nat) (M : Int), i ≤ n' + 1 ∧ iv = .int .i64 i ∧ mv = .int .i64 M ∧ 0 ≤ M ∧ M ≤ 31 ∧ Hid (M + isum ((T.map (·.a.n)).take i) = (j : Int) + 1) ∧ Hid (Below w5.heap.size w5 wr)) (fun _ iv _ => n' + 1 - (intOf iv).toNat)
        case atStart => exact ⟨0, (j + 1 : Nat), Nat.zero_le _, rfl, rfl, by omega, by omega, by simp [Hid, isum], Below.refl _ _⟩
        case round =>
          obtain ⟨i, M, hi, rfl, rfl, hM0, hM1, HM, HW⟩ := hrel
          by_cases hlti : i < n' + 1
          · obtain ⟨p3, q3, e3, hc3⟩ := (HS5.out.below HW.out).cells (by omega)
            injection e3 with e3
            injection e3 with e4 e5
            subst e4; subst e5
            obtain ⟨y1, _, y3⟩ := hc3 i hlti
            obtain ⟨b4, o4, rfl, hc4⟩ := (HF5.out.below HW.out).ints.at_ (k := i) hlti
            have y2 := hc4 i hlti
            rw [T3.out i hlti] at y1
            clear hc3 hc4
            have HT := Lib.hid (TB.out i hlti)
            obtain ⟨K, hK⟩ : ∃ K, nth fs i = K := ⟨_, rfl⟩
            rw [hK] at y1 y2
            obtain ⟨N, hN⟩ : ∃ N, (nthE T i).a.n = N := ⟨_, rfl⟩
            rw [hN] at y3 HT
            have HSU : Hid (isum ((T.map (·.a.n)).take (i + 1)) = isum ((T.map (·.a.n)).take i) + N) := by rw [Hid, ← hN]; exact counts_succ (by rw [T1.out]; exact hlti)
            have HLE := Lib.hid (TL.out (i + 1))
            clear hK hN
            have hN0 : 0 ≤ M - N ∧ M - N ≤ 31 ∧ 0 ≤ N := by have a := HM.out; have b := HSU.out; have c := HLE.out; have d := HT.out; omega
            have HM2 : Hid (M - N + isum ((T.map (·.a.n)).take (i + 1)) = (j : Int) + 1) := by have a := HM.out; have b := HSU.out; rw [Hid]; omega
            clear HSU HLE HT HM
            go_upto_if 101 with (go_quiet (fail))
            have y4 : (wr.drewN nq).cell? ⟨p2, q2 + i * 15 + 2, none⟩ = some (.int .i64 N) := y3
            go_wp2_with fail
            go_roundw
            case rel => exact ⟨i + 1, M - N, by omega, by go_num, by go_num, by omega, by omega, HM2, below_drewN HW.out nq⟩
            case measure => simp [intOf]; omega
          · have hin : i = n' + 1 := by omega
            subst hin
            have hMZ : M = 0 := by
              have a := HM.out
              have b := TS.out
              rw [List.take_of_length_le (by rw [List.length_map, T1.out]; exact Nat.le_refl _)] at a
              omega
            subst hMZ
            go_wp2_with fail
            go_ret
            exact ⟨rfl, HW5.out.trans (HW.out.mono HW5.out.size)⟩

end Go.Proofs.Ytgdeaddfkcokpaa
