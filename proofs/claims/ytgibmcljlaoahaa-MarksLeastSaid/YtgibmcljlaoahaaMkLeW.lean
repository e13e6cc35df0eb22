/-
  Walk: MarksLeast: the marks against the law's own row.
-/
import Derived.Test.YtgibmcljlaoahaaMkLeP
namespace Go.Proofs.Ytgibmcljlaoahaa
open Go.RowKit

theorem mset_le (w0 : World) (g b c rb rc k : Nat) (xs ys : List Int) (s t N : Int) (B : Bool) (w : World) (h : LeS w0 g b c rb rc k xs w) (hB : setB xs s t = B) (hN : setN xs s t = N) (hI : setI xs s t = ys) :
    Calls Try.prog 11 #[.pointer (some ⟨g, 0, none⟩), .int .i64 s, .int .i64 t] w fun e w' => e = .returned (.tuple #[.bool B, .int .i64 N]) ∧ Mk 51 w' g b c ys ∧ ButS [b] w w' := by
  subst hB hN hI
  refine (mset_any g b c xs s t w h.mkk.row).mono ?_
  rintro e w' ⟨rfl, h1, h2⟩
  exact ⟨rfl, h1, h2⟩

set_option maxRecDepth 100000 in
set_option maxHeartbeats 8000000 in
theorem marksleast_any (a0 : Int) (A : Option Addr) (n cc : Nat) (ss : List (Int × Int)) (w : World) (_ : (Lit.int .i64 a0).wf = true) (hx : Prs w A n ss) (hn : n ≤ maxLen) :
    Calls Try.prog 4 #[.int .i64 a0, .slice A n cc] w fun e w' => e = .returned (.bool true) ∧ Below w.heap.size w w' := by
  have HX := Lib.hid hx
  have hn63 : n ≤ 9223372036854775807 := by unfold maxLen at hn; omega
  clear hx hn
  obtain ⟨u, hu, eu⟩ := place_at a0 (m := 8) (by decide)
  have eu8 : (IntKind.u64.wrap a0).tmod 8 = u := eu
  obtain ⟨k, hk⟩ : ∃ k : Nat, u + 1 = k := ⟨_, rfl⟩
  have hk8 : 1 ≤ k ∧ k ≤ 8 := by omega
  have hwk : wrap64 (1 + wrap64 ((IntKind.u64.wrap a0).tmod 8)) = (k : Int) := by rw [eu8, IntWalk.wrap64_in (u : Int) (by omega), IntWalk.wrap64_in _ (by omega)]; omega
  have HE := Lib.hid hwk
  clear eu eu8 hwk
  have HA := Lib.hid (mawake_any w)
  go_enter Try.func4, Try.ntmps4
  go_wp2_with fail
  refine (HA.out).mono ?_; rintro e w1 ⟨rfl, b1⟩
  have B1 := Lib.hid b1
  clear b1 HA
  go_upto_region 4 with fail
  rw [HE.out]
  go_wp2_with fail
  refine (mnew_ok k _ hk8).mono ?_; rintro e w2 ⟨g, b, c, rfl, h1, h2, h3, h4⟩
  have H0 : Hid (RoS w g b c k w2.heap.size none 0 0 w2) := Lib.hid ⟨⟨h1, B1.out.trans (h4.mono B1.out.size), Nat.le_trans B1.out.size h2, Nat.le_trans B1.out.size h3⟩, OwnI.nil _ _, h1.gLt, h1.bLt, Nat.le_trans B1.out.size h4.size, Nat.le_refl _⟩
  clear h1 h2 h3 h4 B1
  generalize w2.heap.size = B at H0
  go_wp2_with (go_at_call 8; refine (gnum_any _ _).mono ?_; rintro e w' ⟨rfl, rfl⟩)
  go_loopw [8, 9] (fun v i wr => ∃ (j : Nat) (A : Option Addr) (rc : Nat), j ≤ k ∧ i = .int .i64 j ∧ v = .slice A j rc ∧ Hid (RoS w g b c k B A j rc wr)) (fun _ i _ => k - (intOf i).toNat)
  case atStart => exact ⟨0, none, 0, Nat.zero_le _, rfl, rfl, H0⟩
  case round =>
    clear H0
    obtain ⟨j, A1, rc, hj, rfl, rfl, HS⟩ := hrel
    by_cases hlt : j < k
    · have hlt2 : (j : Int) < (k : Int) := by omega
      have H4 := Lib.hid (HS.out.one (.cells #[.int .i64 (-4398046511104)] 3))
      have hone : (wr.alloc (.cells #[.int .i64 (-4398046511104)] 3)).cell? ⟨wr.heap.size, 0, none⟩ = some (.int .i64 (-4398046511104)) := (Has.made wr 3 #[.int .i64 (-4398046511104)]).cell 0
      have HO := Lib.hid hone
      clear hone
      go_wp2_with (refine gapp_int (y := -4398046511104) (n := j) rfl _ _ rfl rfl H4.out.own rfl HO.out (noneM_len j) (by omega) H4.out.lw ?_; intro A2 m2 r2 w5 hm2 ho5 hg5 hl5)
      subst hm2
      have HX5 := Lib.hid (H4.out.next rfl ho5 hg5)
      clear ho5 hg5 hl5 HO H4 HS
      go_roundw
      case rel => exact ⟨j + 1, A2, r2, by omega, by go_num, rfl, HX5⟩
      case measure => simp [intOf]; omega
    · obtain rfl : k = j := by omega
      obtain ⟨rb, rfl, h5⟩ := HS.out.done hk8.1
      have HL : Hid (∃ xs, LeS w g b c rb rc k xs wr) := Lib.hid ⟨_, h5⟩
      clear h5 HS hj hlt
      obtain ⟨kk, hkk⟩ : ∃ kk, kk + 1 = k := ⟨k - 1, by omega⟩
      have hwu : IntKind.u64.wrap (k : Int) = k := by rw [IntKind.wrap_u64]; omega
      have hk0 : ¬ (k : Int) = 0 := by omega
      go_wp2_with fail
      go_loopw [10] (fun i wr => ∃ j : Nat, j ≤ n ∧ i = .int .i64 j ∧ Hid (∃ xs, LeS w g b c rb rc k xs wr)) (fun i _ => n - (intOf i).toNat)
      case atStart => exact ⟨0, Nat.zero_le _, rfl, HL⟩
      case round =>
        clear HL
        obtain ⟨j, hj, rfl, HS⟩ := hrel
        obtain ⟨xs, hS⟩ := HS.out
        by_cases hlt : j < n
        · have hlt2 : (j : Int) < (n : Int) := by omega
          by_cases h60 : j < 60
          · have hlt3 : (j : Int) < 60 := by omega
            obtain ⟨bs, f, rfl, hc⟩ := HX.out.at_ (by omega)
            obtain ⟨x, hxx⟩ : ∃ x, (nthP ss j).1 = x := ⟨_, rfl⟩
            obtain ⟨z, hzz⟩ : ∃ z, (nthP ss j).2 = z := ⟨_, rfl⟩
            obtain ⟨c0, c1⟩ := hc j hlt
            rw [hxx] at c0
            rw [hzz] at c1
            have k0 := (hS.mkk.keep.cell (block_lt_of_cell c0)).trans c0
            have k1 := (hS.mkk.keep.cell (block_lt_of_cell c1)).trans c1
            obtain ⟨q, hq, eq⟩ := place_at x hk8
            have eq2 : wrap64 ((IntKind.u64.wrap x).tmod (k : Int)) = (q : Int) := by rw [eq]; exact IntWalk.wrap64_in _ (by omega)
            obtain ⟨t, ht⟩ : ∃ t, z.tmod 1000 = t := ⟨_, rfl⟩
            have HD := Lib.hid hS
            clear HS hS c0 c1 hc hxx hzz eq
            go_wp2_with fail
            go_quiet (fail)
            rw [eq2]
            have HD2 := Lib.hid (HD.out.below (below_drewN (Below.refl _ _) nq))
            clear HD k0 k1 eq2
            generalize wr.drewN nq = wd at HD2 ⊢
            have hok : okM xs.length (q : Int) t := by have h1 := HD2.out.len; have h2 := tmod1000 z; rw [ht] at h2; unfold okM; omega
            obtain ⟨ys, hy⟩ : ∃ ys, setI xs q t = ys := ⟨_, rfl⟩
            obtain ⟨r, hr⟩ : ∃ r, setB xs q t = r := ⟨_, rfl⟩
            obtain ⟨L, hL⟩ : ∃ L, minTo xs kk = L := ⟨_, rfl⟩
            obtain ⟨L', hL'⟩ : ∃ L', minTo ys kk = L' := ⟨_, rfl⟩
            obtain ⟨Z, hZ⟩ : ∃ Z, nth xs q = Z := ⟨_, rfl⟩
            obtain ⟨M, hM⟩ : ∃ M, max Z t = M := ⟨_, rfl⟩
            have hp : putM xs q t = ys := by have := (set_ok hok).2; rw [Int.toNat_natCast] at this; rw [← this, hy]
            have hl1 : least xs = L := by rw [least_at xs (n := kk) (by have := HD2.out.len; omega), hL]
            have hly : ys.length = k := by rw [← hp, putM_length]; exact HD2.out.len
            have hl2 : least ys = L' := by rw [least_at ys (n := kk) (by omega), hL']
            have hrb : r = decide (L < L') := by rw [← hr, ← hl1, ← hl2]; unfold setB; rw [hy]
            have HS5 := Lib.hid (mset_le w g b c rb rc k xs ys q t 0 r wd HD2.out hr (set_ok hok).1 hy)
            have HC : Hid (∀ i, i < k → wd.cell? ⟨rb, i, none⟩ = some (.int .i64 (nth xs i))) := Lib.hid (fun i hi => HD2.out.cellAt i hi)
            have HE := Lib.hid (And.intro hL (And.intro hL' (And.intro hZ (And.intro hM (And.intro hp (And.intro hl2 (And.intro hrb hly)))))))
            clear hok hy hr hp hl1 hly hl2 hrb hL hL' hZ hM ht
            have c0 : wd.cell? ⟨rb, 0, none⟩ = some (.int .i64 (nth xs 0)) := HC.out 0 (by omega)
            have hkpos : (0 : Int) < (k : Int) := by omega
            go_wp2_with fail
            go_loop [13, 14] (fun m i => ∃ p : Nat, p ≤ kk ∧ i = .int .i64 (p + 1 : Nat) ∧ m = .int .i64 (minTo xs p)) (fun _ i => k - (intOf i).toNat)
            case atStart => exact ⟨0, by omega, rfl, rfl⟩
            case round =>
              obtain ⟨p, hp, rfl, rfl⟩ := hrel
              by_cases hpk : p < kk
              · have hcell := HC.out (p + 1) (by omega)
                have hpk2 : ((p + 1 : Nat) : Int) < (k : Int) := by omega
                go_wp2_with fail
                exact ⟨⟨p + 1, by omega, by go_num, rfl⟩, by simp [intOf]; omega⟩
              · obtain rfl : kk = p := by omega
                have hpk2 : ¬ ((kk + 1 : Nat) : Int) < (k : Int) := by omega
                rw [HE.out.1]
                clear c0
                go_wp2_with fail
                refine (HS5.out).mono ?_; rintro e w5 ⟨rfl, h5, b5⟩
                have h6 := HD2.out.set (s := q) (t := t) h5 b5 rfl HE.out.2.2.2.2.1
                rw [HE.out.2.2.1, HE.out.2.2.2.1] at h6
                have cq : w5.cell? ⟨rb, q, none⟩ = some (.int .i64 Z) := by rw [h6.1, HC.out q hq, HE.out.2.2.1]
                have mq := h6.2.1
                have H6 := Lib.hid h6.2.2
                have HM := Lib.hid HE.out.2.2.2.1
                have hqk : (q : Int) < (k : Int) := by omega
                clear h6 h5 b5 HS5 HC HD2
                go_upto_region 23 with fail
                rw [HM.out]
                have HC6 : Hid (∀ i, i < k → (w5.setCell ⟨rb, q, none⟩ (.int .i64 M)).cell? ⟨rb, i, none⟩ = some (.int .i64 (nth ys i))) := Lib.hid (fun i hi => H6.out.cellAt i hi)
                have HF := Lib.hid (And.intro HE.out.2.2.2.2.2.1 HE.out.2.2.2.2.2.2.2)
                have HB := Lib.hid HE.out.2.2.2.2.2.2.1
                have HL2 := Lib.hid HE.out.2.1
                clear cq mq HE HM
                generalize w5.setCell ⟨rb, q, none⟩ (.int .i64 M) = w6 at H6 HC6 ⊢
                have c0 : w6.cell? ⟨rb, 0, none⟩ = some (.int .i64 (nth ys 0)) := HC6.out 0 (by omega)
                go_wp2_with fail
                go_loop [17, 18] (fun m i => ∃ p : Nat, p ≤ kk ∧ i = .int .i64 (p + 1 : Nat) ∧ m = .int .i64 (minTo ys p)) (fun _ i => k - (intOf i).toNat)
                case atStart => exact ⟨0, by omega, rfl, rfl⟩
                case round =>
                  obtain ⟨p, hp, rfl, rfl⟩ := hrel
                  by_cases hpk : p < kk
                  · have hcell := HC6.out (p + 1) (by omega)
                    have hpk2 : ((p + 1 : Nat) : Int) < (k : Int) := by omega
                    go_wp2_with fail
                    exact ⟨⟨p + 1, by omega, by go_num, rfl⟩, by simp [intOf]; omega⟩
                  · obtain rfl : kk = p := by omega
                    have hpk2 : ¬ ((kk + 1 : Nat) : Int) < (k : Int) := by omega
                    rw [HL2.out]
                    clear c0 HC6
                    by_cases hLL : L < L'
                    · have hB : r = true := by rw [HB.out]; exact decide_eq_true hLL
                      subst hB
                      go_wp2_with (go_at_call 8; refine (gnum_any _ _).mono ?_; rintro e w' ⟨rfl, rfl⟩)
                      refine (mleast_val w g b c ys L' w6 H6.out.mkk HF.out.1).mono ?_; rintro e w' ⟨rfl, rfl⟩
                      go_wp2_with fail
                      refine (mall_val w g b c k ys w6 H6.out.mkk HF.out.2).mono ?_; rintro e w8 ⟨A8, c8, rfl, o8, b8⟩
                      have H8 := Lib.hid (And.intro o8 (H6.out.below b8))
                      clear o8 b8 H6
                      go_wp2_with fail
                      refine (sameInts_true A8 (some ⟨rb, 0, none⟩) k c8 rc ys _ H8.out.1.ints (by have := H8.out.2.own.ints; rwa [HF.out.2] at this) (by unfold maxLen; omega)).mono ?_; rintro e w9 ⟨rfl, q9, rfl⟩
                      go_wp2_with fail
                      go_roundw
                      case rel => exact ⟨j + 1, by omega, by go_num, Lib.hid ⟨_, H8.out.2.below (below_drewN (Below.refl _ _) q9)⟩⟩
                      case measure => simp [intOf]; omega
                    · have hB : r = false := by rw [HB.out]; exact decide_eq_false hLL
                      subst hB
                      go_wp2_with (go_at_call 8; refine (gnum_any _ _).mono ?_; rintro e w' ⟨rfl, rfl⟩)
                      refine (mleast_val w g b c ys L' w6 H6.out.mkk HF.out.1).mono ?_; rintro e w' ⟨rfl, rfl⟩
                      go_wp2_with fail
                      refine (mall_val w g b c k ys w6 H6.out.mkk HF.out.2).mono ?_; rintro e w8 ⟨A8, c8, rfl, o8, b8⟩
                      have H8 := Lib.hid (And.intro o8 (H6.out.below b8))
                      clear o8 b8 H6
                      go_wp2_with fail
                      refine (sameInts_true A8 (some ⟨rb, 0, none⟩) k c8 rc ys _ H8.out.1.ints (by have := H8.out.2.own.ints; rwa [HF.out.2] at this) (by unfold maxLen; omega)).mono ?_; rintro e w9 ⟨rfl, q9, rfl⟩
                      go_wp2_with fail
                      go_roundw
                      case rel => exact ⟨j + 1, by omega, by go_num, Lib.hid ⟨_, H8.out.2.below (below_drewN (Below.refl _ _) q9)⟩⟩
                      case measure => simp [intOf]; omega
          · have hlt3 : ¬ (j : Int) < 60 := by omega
            have HK := Lib.hid hS.mkk.keep
            clear HS hS
            go_wp2_with fail
            go_ret
            exact ⟨rfl, HK.out⟩
        · have hlt2 : ¬ (j : Int) < (n : Int) := by omega
          have HK := Lib.hid hS.mkk.keep
          clear HS hS
          go_wp2_with fail
          go_ret
          exact ⟨rfl, HK.out⟩

end Go.Proofs.Ytgibmcljlaoahaa
