/-
  Walk: TreeParts: a range is its parts together.
-/
import Derived.Test.YtjgjbhbpndjnnaaG44
import Derived.Test.YtjgjbhbpndjnnaaG45
import Derived.Test.YtjgjbhbpndjnnaaG46
import Derived.Test.YtjgjbhbpndjnnaaRJoin
import Derived.Test.YtjgjbhbpndjnnaaG15
import Derived.IntWalk
namespace Go.Proofs.Ytjgjbhbpndjnnaa
open Go.RowKit

def paF (xs : List Int) (i : Nat) : It := ⟨2, nth xs i % 64, (i : Int) + 1, nth xs i / 64 % 32 - 9⟩
theorem maskP63 (x : Int) : bits .and .i64 x 63 = x % 64 := mask_of x 6 63 (by decide) (by decide)
theorem maskP31 (x : Int) : bits .and .i64 x 31 = x % 32 := mask_of x 5 31 (by decide) (by decide)
theorem paFam (xs : List Int) : Fam 2 (paF xs) := ⟨fun _ => rfl, fun _ => rfl, fun i hi => itemB_iff.2 (by simp only [paF]; omega)⟩
theorem placeP (a : Int) (n : Nat) (h0 : 0 < n) (hn : n ≤ 1000) : ∃ k : Nat, k < n ∧ (IntKind.u64.wrap a).tmod (n : Int) = k := by
  have h1 : 0 ≤ IntKind.u64.wrap a := by rw [IntKind.wrap_u64]; omega
  have h2 := Int.tmod_nonneg (n : Int) h1
  have h3 := Int.tmod_lt_of_pos (IntKind.u64.wrap a) (show (0 : Int) < n by omega)
  obtain ⟨k, hk⟩ := Int.eq_ofNat_of_zero_le h2
  exact ⟨k, by omega, hk⟩
theorem spanP (x1 x2 x3 : Int) : ∃ (am a s b m : Int) (L k : Nat), bits .and .i64 x1 63 = am ∧ wrap64 (am - 5) = a ∧ bits .and .i64 x2 63 = s ∧ wrap64 (a + s) = b ∧ wrap64 (b - a) = s ∧ wrap64 (s + 1) = (L : Int) ∧ IntKind.u64.wrap (L : Int) = (L : Int) ∧ (IntKind.u64.wrap x3).tmod (L : Int) = (k : Int) ∧ wrap64 (k : Int) = (k : Int) ∧ wrap64 (a + (k : Int)) = m ∧ ¬ ((L : Int) = 0) ∧ a ≤ m ∧ m ≤ b ∧ a ≤ b := by
  obtain ⟨am, ham, ham0, ham1⟩ : ∃ am : Int, bits .and .i64 x1 63 = am ∧ 0 ≤ am ∧ am ≤ 63 := ⟨_, maskP63 x1, by omega, by omega⟩
  obtain ⟨s, hsm, hs0, hs1⟩ : ∃ s : Int, bits .and .i64 x2 63 = s ∧ 0 ≤ s ∧ s ≤ 63 := ⟨_, maskP63 x2, by omega, by omega⟩
  obtain ⟨L, hL⟩ : ∃ L : Nat, s + 1 = (L : Int) := ⟨(s + 1).toNat, by omega⟩
  obtain ⟨k, hk, hkp⟩ := placeP x3 L (by omega) (by omega)
  exact ⟨am, am - 5, s, am - 5 + s, am - 5 + k, L, k, ham, IntWalk.wrap64_in _ (by omega), hsm, IntWalk.wrap64_in _ (by omega), by rw [IntWalk.wrap64_in _ (by omega)]; omega, by rw [IntWalk.wrap64_in _ (by omega)]; exact hL, by rw [IntKind.wrap_u64]; omega, hkp, IntWalk.wrap64_in _ (by omega), IntWalk.wrap64_in _ (by omega), by omega, by omega, by omega, by omega⟩
theorem made3 (w : World) (o o' : Obj) (t : TypeId) (cs : Array Value) : Has (((w.alloc o).alloc o').alloc (.cells cs t)) (w.heap.size + 2) t cs := by
  have := Has.made ((w.alloc o).alloc o') t cs
  simpa using this
theorem three_made (w : World) (o c1 c2 c3 : Array Value) :
    Has ((((((w.alloc (.cells o 29)).alloc (.cells o 29)).alloc (.cells o 29)).setRow w.heap.size c1).setRow (w.heap.size + 1) c2).setRow (w.heap.size + 2) c3) w.heap.size 29 c1 ∧
    Has ((((((w.alloc (.cells o 29)).alloc (.cells o 29)).alloc (.cells o 29)).setRow w.heap.size c1).setRow (w.heap.size + 1) c2).setRow (w.heap.size + 2) c3) (w.heap.size + 1) 29 c2 ∧
    Has ((((((w.alloc (.cells o 29)).alloc (.cells o 29)).alloc (.cells o 29)).setRow w.heap.size c1).setRow (w.heap.size + 1) c2).setRow (w.heap.size + 2) c3) (w.heap.size + 2) 29 c3 ∧
    Below w.heap.size w ((((((w.alloc (.cells o 29)).alloc (.cells o 29)).alloc (.cells o 29)).setRow w.heap.size c1).setRow (w.heap.size + 1) c2).setRow (w.heap.size + 2) c3) :=
  ⟨(((((Has.made _ _ _).alloc _).alloc _).row _).rowFar (by omega) _).rowFar (by omega) _, (((made2 _ _ _ _).alloc _).rowFar (by omega) _ |>.row _).rowFar (by omega) _, (((made3 _ _ _ _ _).rowFar (by omega) _).rowFar (by omega) _).row _,
    below_row (below_row (below_row (below_alloc (below_alloc ((Below.refl _ _).alloc (Nat.le_refl _) _) (Nat.le_refl _) _) (Nat.le_refl _) _) (Nat.le_refl _) _) (by omega) _) (by omega) _⟩
/-- The two parts of a span, joined, are the span. -/
theorem partsC {bs : List Int} {R : List It} {a m b : Int} (h : ItsT bs R) (hs : StrS R) (h1 : a ≤ m) (h2 : m ≤ b) : RowJ bs [foldA bs (inS a m R), foldA bs (inS m b R)] ∧ joinAc bs [foldA bs (inS a m R), foldA bs (inS m b R)] = foldA bs (inS a b R) := by
  have e : [inS a m R, inS m b R].flatten = inS a b R := by simp [inS_cut hs h1 h2]
  have hits : ItsT bs [inS a m R, inS m b R].flatten := e ▸ h.sublist List.filter_sublist
  exact ⟨groups_row hits, (groups_join hits).trans (by rw [e])⟩
theorem joinR_ok {bs : List Int} {xs : List Ac} {w w' : World} {e : Ending} (hJ : RowJ bs xs) (h : JoinR bs xs w e w') : JoinOut (joinAc bs xs) w e w' := by
  have hok : (boundsB bs && togB (bs.length + 1) (-1) xs) = true := by rw [hJ.bd, hJ.tog]; rfl
  have htot := hJ.tot
  rcases h with ⟨h, _⟩ | ⟨_, _, h⟩ | ⟨_, h, _⟩
  · rw [hok] at h; cases h
  · exact h
  · omega
set_option maxRecDepth 100000 in
set_option maxHeartbeats 1000000 in
theorem treeparts_any (A : Option Addr) (n c : Nat) (xs : List Int) (x1 x2 x3 : Int) (w : World) (hI : Ints w A n xs) (_ : n ≤ maxLen) (_ : ∀ x ∈ xs, (Lit.int .i64 x).wf = true) (_ : (Lit.int .i64 x1).wf = true) (_ : (Lit.int .i64 x2).wf = true) (_ : (Lit.int .i64 x3).wf = true) :
    Calls Try.prog 5 #[.slice A n c, .int .i64 x1, .int .i64 x2, .int .i64 x3] w fun e w' => e = .returned (.bool true) ∧ Below w.heap.size w w' := by
  obtain ⟨f, hf⟩ : ∃ f, paF xs = f := ⟨_, rfl⟩
  have HF := Lib.hid hf
  have HFAM := Lib.hid (hf ▸ paFam xs)
  have HI := Lib.hid hI
  clear hI hf
  go_enter Try.func5, Try.ntmps5
  go_wp2_with fail
  refine (aw19_any w).mono ?_
  rintro e w1 ⟨rfl, b1⟩
  have B1 := Lib.hid (b1.alloc b1.size (.cells #[.int .i64 0, .int .i64 9] 3))
  clear b1
  go_wp2_with fail
  refine (tnew_ok (some ⟨w1.heap.size, 0, none⟩) 2 2 [0, 9] _ (ints_of_has (Has.made _ _ _) rfl) (fun e => by cases e) (by decide)).mono ?_
  rintro e w2 ⟨g, rfl, hq, hb⟩
  have HS := Lib.hid (show ∃ O, LT w O g [0, 9] (insAll [] (rowF f 0)) w2 from ⟨_, LT.new B1.out hq hb⟩)
  clear hq hb B1
  go_wp2_with (go_at_call 16; refine (num0_any _ _).mono ?_; rintro e w' ⟨rfl, rfl⟩)
  go_loopw [11] (fun i wr => ∃ j : Nat, j ≤ n ∧ j ≤ 40 ∧ i = .int .i64 j ∧ Hid (∃ O, LT w O g [0, 9] (insAll [] (rowF f j)) wr)) (fun i _ => 41 - (intOf i).toNat)
  case atStart => exact ⟨0, Nat.zero_le _, by omega, rfl, HS⟩
  case round =>
    clear HS
    obtain ⟨j, hjn, hj40, rfl, HS⟩ := hrel
    by_cases hgo : j < n ∧ j < 40
    · obtain ⟨hlt, hlt40⟩ := hgo
      have hz1 : (j : Int) < (n : Int) := by omega
      have hz2 : (j : Int) < 40 := by omega
      obtain ⟨O, l1⟩ := HS.out
      have HL1 := Lib.hid l1
      have hIr := HI.out.below l1.keep
      obtain ⟨bb, o, rfl, hc⟩ := hIr.at_ hlt
      have HC := Lib.hid (hc j hlt)
      have hfj : f j = ⟨2, nth xs j % 64, (j : Int) + 1, nth xs j / 64 % 32 - 9⟩ := by rw [← HF.out]; rfl
      have HFJ := Lib.hid hfj
      have HM1 := Lib.hid (show ∀ y, y ∈ insAll [] (rowF f j) → y ∈ rowF f j from fun y hy => insAll_mem.1 hy)
      clear hfj hIr hc l1 HS
      go_upto_region 9 with fail
      refine tp9_any (b := bb) (oo := o) (n := n) (c := c) (jj := j) (g := g) (x := nth xs j) (t1 := nth xs j % 64) (sh := nth xs j / 64 % 32) (v1 := nth xs j / 64 % 32 - 9) ⟨rfl, rfl, rfl, rfl, hlt, by omega, fun w' hb => (hb.cell (block_lt_of_cell HC.out)).trans HC.out, maskP63 _, maskP31 _, rfl, by omega⟩ (by kernel_rfl) (fun _ _ h => h) ?_
      intro e62 w5 hB5 hE
      have HX := Lib.hid (show Has w5 e62 23 (itemL (f j)).toArray from by rw [HFJ.out]; exact hE.1)
      have L5 := Lib.hid (HL1.out.below hB5)
      clear hB5 hE HL1 HC HFJ
      simp only [putAll, Act.put, List.setIfInBounds_toArray, List.set_cons_succ, List.set_cons_zero, List.drop_succ_cons, List.drop_zero]
      go_wp2_with fail
      refine (L5.out.insert (n := 1) (c := 1) (xs := [f j]) (items_has (xs := [f j]) HX.out rfl) (fun ad e => by injection e with e; rw [← e]; exact L5.out.apart HX.out) (HFAM.out.fit (bs := [0, 9]) (by decide) (by omega) HM1.out (by rw [insAll_len, rowF_len]; exact Nat.le_refl _)) (HFAM.out.new HM1.out)).mono ?_
      rintro e w6 ⟨rfl, l, _⟩
      rw [show insAll (insAll [] (rowF f j)) [f j] = insAll [] (rowF f (j + 1)) by rw [rowF_succ, insAll_snoc]; rfl] at l
      have hR : Hid (∃ O, LT w O g [0, 9] (insAll [] (rowF f (j + 1))) w6) := ⟨_, l⟩
      clear l L5 HX HM1
      go_wp2_with (go_at_call 16; refine (num0_any _ _).mono ?_; rintro e w' ⟨rfl, rfl⟩)
      go_roundw
      case rel => exact ⟨j + 1, by omega, by omega, by go_num, hR⟩
      case measure => simp [intOf]; omega
    · obtain ⟨am, a, s, b, m, L, k, ham, hwa, hsm, hwb, hw1, hw2, hu, hkp, hwk, hwm, hne, hle1, hle2, hle3⟩ := spanP x1 x2 x3
      have HAM := Lib.hid (show a ≤ m ∧ m ≤ b ∧ a ≤ b from ⟨hle1, hle2, hle3⟩)
      clear hle1 hle2 hle3
      have HJ : Hid (j = n ∨ j = 40) := by show j = n ∨ j = 40; omega
      obtain ⟨O, l1⟩ := HS.out
      have L0 := Lib.hid l1
      have HITS := Lib.hid l1.q.its
      have HSTR := Lib.hid (insAll_str List.Pairwise.nil (HFAM.out.news j))
      clear l1 HS HI HF HFAM
      generalize insAll [] (rowF f j) = R at L0 HITS HSTR
      by_cases hz1 : (j : Int) < (n : Int)
      · have hz2 : ¬ ((j : Int) < 40) := by have := HJ.out; omega
        clear HJ
        go_upto_region 15 with fail
        go_wp2_with fail
        refine (L0.out.q.range a b).mono ?_
        rintro e v1 ⟨HX, _, rfl, hx, hb⟩
        have A1 := Lib.hid (show LT w O g [0, 9] R v1 ∧ Has v1 HX 3 (ints (foldA [0, 9] (inS a b R)).h) from ⟨L0.out.below hb, hx⟩)
        clear hx hb L0
        go_wp2_with fail
        refine (A1.out.1.q.range a m).mono ?_
        rintro e v2 ⟨HY, _, rfl, hy, hb⟩
        have A2 := Lib.hid (show LT w O g [0, 9] R v2 ∧ Has v2 HX 3 (ints (foldA [0, 9] (inS a b R)).h) ∧ Has v2 HY 3 (ints (foldA [0, 9] (inS a m R)).h) from ⟨A1.out.1.below hb, A1.out.2.below hb A1.out.2.lt, hy⟩)
        clear hy hb A1
        go_wp2_with fail
        refine (A2.out.1.q.range m b).mono ?_
        rintro e v3 ⟨HZ, _, rfl, hz, hb⟩
        have A3 := Lib.hid (show LT w O g [0, 9] R v3 ∧ Has v3 HX 3 (ints (foldA [0, 9] (inS a b R)).h) ∧ Has v3 HY 3 (ints (foldA [0, 9] (inS a m R)).h) ∧ Has v3 HZ 3 (ints (foldA [0, 9] (inS m b R)).h) from ⟨A2.out.1.below hb, A2.out.2.1.below hb A2.out.2.1.lt, A2.out.2.2.below hb A2.out.2.2.lt, hz⟩)
        clear hz hb A2
        have HPC := Lib.hid (partsC HITS.out HSTR.out HAM.out.1 HAM.out.2.1)
        have HLX := Lib.hid (foldA_len [0, 9] (inS a b R))
        have HLY := Lib.hid (foldA_len [0, 9] (inS a m R))
        have HLZ := Lib.hid (foldA_len [0, 9] (inS m b R))
        clear HITS HSTR
        generalize foldA [0, 9] (inS a b R) = VX at A3 HPC HLX ⊢
        generalize foldA [0, 9] (inS a m R) = VY at A3 HPC HLY ⊢
        generalize foldA [0, 9] (inS m b R) = VZ at A3 HPC HLZ ⊢
        go_upto_region 16 with (first | (refine store_has rfl _ _ rfl v3.heap.size (old := #[.int .i64 0, .int .i64 0, .int .i64 0, .int .i64 0, .int .i64 0, .int .i64 0, .int .i64 0, .int .i64 0, .int .i64 0, .int .i64 0, .int .i64 0, .int .i64 0, .slice none 0 0]) (ac := VX) (A := some ⟨HX, 0, none⟩) (k := VX.h.length) (c := VX.h.length) rfl rfl ?_ rfl ?_; · exact (((Has.made _ _ _).alloc _).alloc _)) | (refine store_has rfl _ _ rfl (v3.heap.size + 1) (old := #[.int .i64 0, .int .i64 0, .int .i64 0, .int .i64 0, .int .i64 0, .int .i64 0, .int .i64 0, .int .i64 0, .int .i64 0, .int .i64 0, .int .i64 0, .int .i64 0, .slice none 0 0]) (ac := VY) (A := some ⟨HY, 0, none⟩) (k := VY.h.length) (c := VY.h.length) rfl rfl ?_ rfl ?_; · exact (((made2 _ _ _ _).alloc _).rowFar (by omega) _)) | (refine store_has rfl _ _ rfl (v3.heap.size + 2) (old := #[.int .i64 0, .int .i64 0, .int .i64 0, .int .i64 0, .int .i64 0, .int .i64 0, .int .i64 0, .int .i64 0, .int .i64 0, .int .i64 0, .int .i64 0, .int .i64 0, .slice none 0 0]) (ac := VZ) (A := some ⟨HZ, 0, none⟩) (k := VZ.h.length) (c := VZ.h.length) rfl rfl ?_ rfl ?_; · exact (((made3 _ _ _ _ _).rowFar (by omega) _).rowFar (by omega) _)))
        obtain ⟨x1, x2, x3, x4⟩ := three_made v3 #[.int .i64 0, .int .i64 0, .int .i64 0, .int .i64 0, .int .i64 0, .int .i64 0, .int .i64 0, .int .i64 0, .int .i64 0, .int .i64 0, .int .i64 0, .int .i64 0, .slice none 0 0] (accC VX (some ⟨HX, 0, none⟩) VX.h.length VX.h.length) (accC VY (some ⟨HY, 0, none⟩) VY.h.length VY.h.length) (accC VZ (some ⟨HZ, 0, none⟩) VZ.h.length VZ.h.length)
        generalize World.setRow _ (v3.heap.size + 2) _ = v4 at x1 x2 x3 x4 ⊢
        have A4 := Lib.hid (show LT w O g [0, 9] R v4 ∧ Has v4 HX 3 (ints VX.h) ∧ Has v4 HY 3 (ints VY.h) ∧ Has v4 HZ 3 (ints VZ.h) from ⟨A3.out.1.below x4, A3.out.2.1.below x4 A3.out.2.1.lt, A3.out.2.2.1.below x4 A3.out.2.2.1.lt, A3.out.2.2.2.below x4 A3.out.2.2.2.lt⟩)
        have K1 := Lib.hid x1
        have K2 := Lib.hid x2
        have K3 := Lib.hid x3
        clear x1 x2 x3 x4 A3
        generalize v3.heap.size + 2 = s3 at K3 ⊢
        generalize v3.heap.size + 1 = s2 at K2 ⊢
        generalize v3.heap.size = s1 at K1 ⊢
        go_wp2_with (first | (refine load_has rfl _ rfl _ rfl (K2.out.alloc _) ?_) | (refine load_has rfl _ rfl _ rfl (K3.out.alloc _) ?_) | (refine lit2 rfl _ _ rfl rfl rfl ?_; intro vL hbn hvn))
        have HB0 := (Has.made v4 3 #[.int .i64 0, .int .i64 9]).below hbn (by simp)
        have hb45 := ((Below.refl v4.heap.size v4).alloc (Nat.le_refl _) _).trans (hbn.mono (by simp))
        have has := (accs_two hvn rfl (ints_of_has (A4.out.2.2.1.below hb45 A4.out.2.2.1.lt) rfl) (ints_of_has (A4.out.2.2.2.below hb45 A4.out.2.2.2.lt) rfl) ⟨Nat.le_refl _, by rw [HLY.out]; decide⟩ ⟨Nat.le_refl _, by rw [HLZ.out]; decide⟩)
        rw [show (v4.alloc (.cells #[.int .i64 0, .int .i64 9] 3)).heap.size = v4.heap.size + 1 by simp] at has
        have HAS := Lib.hid has
        clear has
        have HI0 := Lib.hid (ints_of_has (xs := [0, 9]) HB0 rfl)
        have HB45 := Lib.hid hb45
        clear hbn hvn HB0 hb45
        refine (rjoin_any _ 2 2 [0, 9] _ 2 2 [VY, VZ] _ HI0.out (by unfold maxLen; omega) HAS.out (by omega)).mono ?_
        intro e v5 hJ
        obtain ⟨J, n', c', rfl, hin, hb⟩ := joinR_ok HPC.out.1 hJ
        rw [HPC.out.2] at hin ⊢
        have hb := HB45.out.trans (hb.mono HB45.out.size)
        obtain rfl : VX.h.length = n' := hin.hist.1
        have A5 := Lib.hid (show LT w O g [0, 9] R v5 ∧ Has v5 HX 3 (ints VX.h) ∧ Has v5 s1 29 (accC VX (some ⟨HX, 0, none⟩) VX.h.length VX.h.length) ∧ Ints v5 J VX.h.length VX.h from ⟨A4.out.1.below hb, A4.out.2.1.below hb A4.out.2.1.lt, K1.out.below hb K1.out.lt, hin.hist⟩)
        clear hJ hin hb A4 K1 K2 K3 HPC HLY HLZ HAS HI0 HB45
        go_upto_region 17 with (refine store_made rfl _ _ rfl rfl rfl rfl ?_)
        have hal := (Below.refl v5.heap.size v5).alloc (Nat.le_refl _) (.cells (accC VX J VX.h.length c') 29)
        have A6 := Lib.hid (show LT w O g [0, 9] R (v5.alloc (.cells (accC VX J VX.h.length c') 29)) ∧ Has (v5.alloc (.cells (accC VX J VX.h.length c') 29)) HX 3 (ints VX.h) ∧ Has (v5.alloc (.cells (accC VX J VX.h.length c') 29)) s1 29 (accC VX (some ⟨HX, 0, none⟩) VX.h.length VX.h.length) ∧ Ints (v5.alloc (.cells (accC VX J VX.h.length c') 29)) J VX.h.length VX.h ∧ Has (v5.alloc (.cells (accC VX J VX.h.length c') 29)) v5.heap.size 29 (accC VX J VX.h.length c') from ⟨A5.out.1.below hal, A5.out.2.1.alloc _, A5.out.2.2.1.alloc _, A5.out.2.2.2.below hal, Has.made _ _ _⟩)
        clear hal A5
        generalize v5.alloc _ = v6 at A6 ⊢
        generalize v5.heap.size = s4 at A6 ⊢
        go_wp2_with fail
        refine (A6.out.1.q.range b a).mono ?_
        rintro e v7 ⟨H0, _, rfl, h0, hb⟩
        rw [inS_none HAM.out.2.2] at h0 ⊢
        have hl0 : (foldA [0, 9] []).h.length = 3 := foldA_len [0, 9] []
        have N0 := Lib.hid (show (foldA [0, 9] []).n = 0 from rfl)
        have A7 := Lib.hid (show LT w O g [0, 9] R v7 ∧ Has v7 HX 3 (ints VX.h) ∧ Has v7 s1 29 (accC VX (some ⟨HX, 0, none⟩) VX.h.length VX.h.length) ∧ Ints v7 J VX.h.length VX.h ∧ Has v7 s4 29 (accC VX J VX.h.length c') from ⟨A6.out.1.below hb, A6.out.2.1.below hb A6.out.2.1.lt, A6.out.2.2.1.below hb A6.out.2.2.1.lt, A6.out.2.2.2.1.below hb, A6.out.2.2.2.2.below hb A6.out.2.2.2.2.lt⟩)
        clear hb h0 A6
        generalize foldA [0, 9] [] = V0 at hl0 N0 ⊢
        rw [hl0]
        clear hl0
        go_upto_region 18 with (refine store_made rfl _ _ rfl rfl rfl rfl ?_)
        have hal := (Below.refl v7.heap.size v7).alloc (Nat.le_refl _) (.cells (accC V0 (some ⟨H0, 0, none⟩) 3 3) 29)
        have A8 := Lib.hid (show LT w O g [0, 9] R (v7.alloc (.cells (accC V0 (some ⟨H0, 0, none⟩) 3 3) 29)) ∧ Has (v7.alloc (.cells (accC V0 (some ⟨H0, 0, none⟩) 3 3) 29)) HX 3 (ints VX.h) ∧ Has (v7.alloc (.cells (accC V0 (some ⟨H0, 0, none⟩) 3 3) 29)) s1 29 (accC VX (some ⟨HX, 0, none⟩) VX.h.length VX.h.length) ∧ Ints (v7.alloc (.cells (accC V0 (some ⟨H0, 0, none⟩) 3 3) 29)) J VX.h.length VX.h ∧ Has (v7.alloc (.cells (accC V0 (some ⟨H0, 0, none⟩) 3 3) 29)) s4 29 (accC VX J VX.h.length c') ∧ Has (v7.alloc (.cells (accC V0 (some ⟨H0, 0, none⟩) 3 3) 29)) v7.heap.size 29 (accC V0 (some ⟨H0, 0, none⟩) 3 3) from ⟨A7.out.1.below hal, A7.out.2.1.alloc _, A7.out.2.2.1.alloc _, A7.out.2.2.2.1.below hal, A7.out.2.2.2.2.alloc _, Has.made _ _ _⟩)
        clear hal A7
        generalize v7.alloc _ = v8 at A8 ⊢
        generalize v7.heap.size = s5 at A8 ⊢
        have hc0 : v8.cell? ⟨s5, 0, none⟩ = some (.int .i64 0) := by rw [A8.out.2.2.2.2.2.cell, accC_0, N0.out]
        have hc12 : v8.cell? ⟨s5, 12, none⟩ = some (.slice (some ⟨H0, 0, none⟩) 3 3) := by rw [A8.out.2.2.2.2.2.cell, accC_12]
        go_wp2_with (refine load_hasG rfl _ rfl _ rfl (by first | exact A8.out.2.2.1 | exact A8.out.2.2.2.2.1) ?_)
        refine (sameAcc_true VX _ _ _ _ _ _ (ints_of_has A8.out.2.1 rfl) A8.out.2.2.2.1 (by rw [HLX.out]; decide)).mono ?_
        rintro e v9 ⟨rfl, hb⟩
        have hd0 := (hb.cell (block_lt_of_cell hc0)).trans hc0
        have hd12 := (hb.cell (block_lt_of_cell hc12)).trans hc12
        have KP := Lib.hid (A8.out.1.below hb).keep
        clear hb hc0 hc12 A8
        go_wp2_with fail
        go_ret
        exact ⟨rfl, KP.out⟩
      · clear HJ
        go_upto_region 15 with fail
        go_wp2_with fail
        refine (L0.out.q.range a b).mono ?_
        rintro e v1 ⟨HX, _, rfl, hx, hb⟩
        have A1 := Lib.hid (show LT w O g [0, 9] R v1 ∧ Has v1 HX 3 (ints (foldA [0, 9] (inS a b R)).h) from ⟨L0.out.below hb, hx⟩)
        clear hx hb L0
        go_wp2_with fail
        refine (A1.out.1.q.range a m).mono ?_
        rintro e v2 ⟨HY, _, rfl, hy, hb⟩
        have A2 := Lib.hid (show LT w O g [0, 9] R v2 ∧ Has v2 HX 3 (ints (foldA [0, 9] (inS a b R)).h) ∧ Has v2 HY 3 (ints (foldA [0, 9] (inS a m R)).h) from ⟨A1.out.1.below hb, A1.out.2.below hb A1.out.2.lt, hy⟩)
        clear hy hb A1
        go_wp2_with fail
        refine (A2.out.1.q.range m b).mono ?_
        rintro e v3 ⟨HZ, _, rfl, hz, hb⟩
        have A3 := Lib.hid (show LT w O g [0, 9] R v3 ∧ Has v3 HX 3 (ints (foldA [0, 9] (inS a b R)).h) ∧ Has v3 HY 3 (ints (foldA [0, 9] (inS a m R)).h) ∧ Has v3 HZ 3 (ints (foldA [0, 9] (inS m b R)).h) from ⟨A2.out.1.below hb, A2.out.2.1.below hb A2.out.2.1.lt, A2.out.2.2.below hb A2.out.2.2.lt, hz⟩)
        clear hz hb A2
        have HPC := Lib.hid (partsC HITS.out HSTR.out HAM.out.1 HAM.out.2.1)
        have HLX := Lib.hid (foldA_len [0, 9] (inS a b R))
        have HLY := Lib.hid (foldA_len [0, 9] (inS a m R))
        have HLZ := Lib.hid (foldA_len [0, 9] (inS m b R))
        clear HITS HSTR
        generalize foldA [0, 9] (inS a b R) = VX at A3 HPC HLX ⊢
        generalize foldA [0, 9] (inS a m R) = VY at A3 HPC HLY ⊢
        generalize foldA [0, 9] (inS m b R) = VZ at A3 HPC HLZ ⊢
        go_upto_region 16 with (first | (refine store_has rfl _ _ rfl v3.heap.size (old := #[.int .i64 0, .int .i64 0, .int .i64 0, .int .i64 0, .int .i64 0, .int .i64 0, .int .i64 0, .int .i64 0, .int .i64 0, .int .i64 0, .int .i64 0, .int .i64 0, .slice none 0 0]) (ac := VX) (A := some ⟨HX, 0, none⟩) (k := VX.h.length) (c := VX.h.length) rfl rfl ?_ rfl ?_; · exact (((Has.made _ _ _).alloc _).alloc _)) | (refine store_has rfl _ _ rfl (v3.heap.size + 1) (old := #[.int .i64 0, .int .i64 0, .int .i64 0, .int .i64 0, .int .i64 0, .int .i64 0, .int .i64 0, .int .i64 0, .int .i64 0, .int .i64 0, .int .i64 0, .int .i64 0, .slice none 0 0]) (ac := VY) (A := some ⟨HY, 0, none⟩) (k := VY.h.length) (c := VY.h.length) rfl rfl ?_ rfl ?_; · exact (((made2 _ _ _ _).alloc _).rowFar (by omega) _)) | (refine store_has rfl _ _ rfl (v3.heap.size + 2) (old := #[.int .i64 0, .int .i64 0, .int .i64 0, .int .i64 0, .int .i64 0, .int .i64 0, .int .i64 0, .int .i64 0, .int .i64 0, .int .i64 0, .int .i64 0, .int .i64 0, .slice none 0 0]) (ac := VZ) (A := some ⟨HZ, 0, none⟩) (k := VZ.h.length) (c := VZ.h.length) rfl rfl ?_ rfl ?_; · exact (((made3 _ _ _ _ _).rowFar (by omega) _).rowFar (by omega) _)))
        obtain ⟨x1, x2, x3, x4⟩ := three_made v3 #[.int .i64 0, .int .i64 0, .int .i64 0, .int .i64 0, .int .i64 0, .int .i64 0, .int .i64 0, .int .i64 0, .int .i64 0, .int .i64 0, .int .i64 0, .int .i64 0, .slice none 0 0] (accC VX (some ⟨HX, 0, none⟩) VX.h.length VX.h.length) (accC VY (some ⟨HY, 0, none⟩) VY.h.length VY.h.length) (accC VZ (some ⟨HZ, 0, none⟩) VZ.h.length VZ.h.length)
        generalize World.setRow _ (v3.heap.size + 2) _ = v4 at x1 x2 x3 x4 ⊢
        have A4 := Lib.hid (show LT w O g [0, 9] R v4 ∧ Has v4 HX 3 (ints VX.h) ∧ Has v4 HY 3 (ints VY.h) ∧ Has v4 HZ 3 (ints VZ.h) from ⟨A3.out.1.below x4, A3.out.2.1.below x4 A3.out.2.1.lt, A3.out.2.2.1.below x4 A3.out.2.2.1.lt, A3.out.2.2.2.below x4 A3.out.2.2.2.lt⟩)
        have K1 := Lib.hid x1
        have K2 := Lib.hid x2
        have K3 := Lib.hid x3
        clear x1 x2 x3 x4 A3
        generalize v3.heap.size + 2 = s3 at K3 ⊢
        generalize v3.heap.size + 1 = s2 at K2 ⊢
        generalize v3.heap.size = s1 at K1 ⊢
        go_wp2_with (first | (refine load_has rfl _ rfl _ rfl (K2.out.alloc _) ?_) | (refine load_has rfl _ rfl _ rfl (K3.out.alloc _) ?_) | (refine lit2 rfl _ _ rfl rfl rfl ?_; intro vL hbn hvn))
        have HB0 := (Has.made v4 3 #[.int .i64 0, .int .i64 9]).below hbn (by simp)
        have hb45 := ((Below.refl v4.heap.size v4).alloc (Nat.le_refl _) _).trans (hbn.mono (by simp))
        have has := (accs_two hvn rfl (ints_of_has (A4.out.2.2.1.below hb45 A4.out.2.2.1.lt) rfl) (ints_of_has (A4.out.2.2.2.below hb45 A4.out.2.2.2.lt) rfl) ⟨Nat.le_refl _, by rw [HLY.out]; decide⟩ ⟨Nat.le_refl _, by rw [HLZ.out]; decide⟩)
        rw [show (v4.alloc (.cells #[.int .i64 0, .int .i64 9] 3)).heap.size = v4.heap.size + 1 by simp] at has
        have HAS := Lib.hid has
        clear has
        have HI0 := Lib.hid (ints_of_has (xs := [0, 9]) HB0 rfl)
        have HB45 := Lib.hid hb45
        clear hbn hvn HB0 hb45
        refine (rjoin_any _ 2 2 [0, 9] _ 2 2 [VY, VZ] _ HI0.out (by unfold maxLen; omega) HAS.out (by omega)).mono ?_
        intro e v5 hJ
        obtain ⟨J, n', c', rfl, hin, hb⟩ := joinR_ok HPC.out.1 hJ
        rw [HPC.out.2] at hin ⊢
        have hb := HB45.out.trans (hb.mono HB45.out.size)
        obtain rfl : VX.h.length = n' := hin.hist.1
        have A5 := Lib.hid (show LT w O g [0, 9] R v5 ∧ Has v5 HX 3 (ints VX.h) ∧ Has v5 s1 29 (accC VX (some ⟨HX, 0, none⟩) VX.h.length VX.h.length) ∧ Ints v5 J VX.h.length VX.h from ⟨A4.out.1.below hb, A4.out.2.1.below hb A4.out.2.1.lt, K1.out.below hb K1.out.lt, hin.hist⟩)
        clear hJ hin hb A4 K1 K2 K3 HPC HLY HLZ HAS HI0 HB45
        go_upto_region 17 with (refine store_made rfl _ _ rfl rfl rfl rfl ?_)
        have hal := (Below.refl v5.heap.size v5).alloc (Nat.le_refl _) (.cells (accC VX J VX.h.length c') 29)
        have A6 := Lib.hid (show LT w O g [0, 9] R (v5.alloc (.cells (accC VX J VX.h.length c') 29)) ∧ Has (v5.alloc (.cells (accC VX J VX.h.length c') 29)) HX 3 (ints VX.h) ∧ Has (v5.alloc (.cells (accC VX J VX.h.length c') 29)) s1 29 (accC VX (some ⟨HX, 0, none⟩) VX.h.length VX.h.length) ∧ Ints (v5.alloc (.cells (accC VX J VX.h.length c') 29)) J VX.h.length VX.h ∧ Has (v5.alloc (.cells (accC VX J VX.h.length c') 29)) v5.heap.size 29 (accC VX J VX.h.length c') from ⟨A5.out.1.below hal, A5.out.2.1.alloc _, A5.out.2.2.1.alloc _, A5.out.2.2.2.below hal, Has.made _ _ _⟩)
        clear hal A5
        generalize v5.alloc _ = v6 at A6 ⊢
        generalize v5.heap.size = s4 at A6 ⊢
        go_wp2_with fail
        refine (A6.out.1.q.range b a).mono ?_
        rintro e v7 ⟨H0, _, rfl, h0, hb⟩
        rw [inS_none HAM.out.2.2] at h0 ⊢
        have hl0 : (foldA [0, 9] []).h.length = 3 := foldA_len [0, 9] []
        have N0 := Lib.hid (show (foldA [0, 9] []).n = 0 from rfl)
        have A7 := Lib.hid (show LT w O g [0, 9] R v7 ∧ Has v7 HX 3 (ints VX.h) ∧ Has v7 s1 29 (accC VX (some ⟨HX, 0, none⟩) VX.h.length VX.h.length) ∧ Ints v7 J VX.h.length VX.h ∧ Has v7 s4 29 (accC VX J VX.h.length c') from ⟨A6.out.1.below hb, A6.out.2.1.below hb A6.out.2.1.lt, A6.out.2.2.1.below hb A6.out.2.2.1.lt, A6.out.2.2.2.1.below hb, A6.out.2.2.2.2.below hb A6.out.2.2.2.2.lt⟩)
        clear hb h0 A6
        generalize foldA [0, 9] [] = V0 at hl0 N0 ⊢
        rw [hl0]
        clear hl0
        go_upto_region 18 with (refine store_made rfl _ _ rfl rfl rfl rfl ?_)
        have hal := (Below.refl v7.heap.size v7).alloc (Nat.le_refl _) (.cells (accC V0 (some ⟨H0, 0, none⟩) 3 3) 29)
        have A8 := Lib.hid (show LT w O g [0, 9] R (v7.alloc (.cells (accC V0 (some ⟨H0, 0, none⟩) 3 3) 29)) ∧ Has (v7.alloc (.cells (accC V0 (some ⟨H0, 0, none⟩) 3 3) 29)) HX 3 (ints VX.h) ∧ Has (v7.alloc (.cells (accC V0 (some ⟨H0, 0, none⟩) 3 3) 29)) s1 29 (accC VX (some ⟨HX, 0, none⟩) VX.h.length VX.h.length) ∧ Ints (v7.alloc (.cells (accC V0 (some ⟨H0, 0, none⟩) 3 3) 29)) J VX.h.length VX.h ∧ Has (v7.alloc (.cells (accC V0 (some ⟨H0, 0, none⟩) 3 3) 29)) s4 29 (accC VX J VX.h.length c') ∧ Has (v7.alloc (.cells (accC V0 (some ⟨H0, 0, none⟩) 3 3) 29)) v7.heap.size 29 (accC V0 (some ⟨H0, 0, none⟩) 3 3) from ⟨A7.out.1.below hal, A7.out.2.1.alloc _, A7.out.2.2.1.alloc _, A7.out.2.2.2.1.below hal, A7.out.2.2.2.2.alloc _, Has.made _ _ _⟩)
        clear hal A7
        generalize v7.alloc _ = v8 at A8 ⊢
        generalize v7.heap.size = s5 at A8 ⊢
        have hc0 : v8.cell? ⟨s5, 0, none⟩ = some (.int .i64 0) := by rw [A8.out.2.2.2.2.2.cell, accC_0, N0.out]
        have hc12 : v8.cell? ⟨s5, 12, none⟩ = some (.slice (some ⟨H0, 0, none⟩) 3 3) := by rw [A8.out.2.2.2.2.2.cell, accC_12]
        go_wp2_with (refine load_hasG rfl _ rfl _ rfl (by first | exact A8.out.2.2.1 | exact A8.out.2.2.2.2.1) ?_)
        refine (sameAcc_true VX _ _ _ _ _ _ (ints_of_has A8.out.2.1 rfl) A8.out.2.2.2.1 (by rw [HLX.out]; decide)).mono ?_
        rintro e v9 ⟨rfl, hb⟩
        have hd0 := (hb.cell (block_lt_of_cell hc0)).trans hc0
        have hd12 := (hb.cell (block_lt_of_cell hc12)).trans hc12
        have KP := Lib.hid (A8.out.1.below hb).keep
        clear hb hc0 hc12 A8
        go_wp2_with fail
        go_ret
        exact ⟨rfl, KP.out⟩

end Go.Proofs.Ytjgjbhbpndjnnaa
