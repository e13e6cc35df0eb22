/-
  Walk: MarksForms: sources and times that are none.
-/
import Derived.Test.YtgibmcljlaoahaaMkAwake
import Derived.Test.YtgibmcljlaoahaaFMask
import Derived.IntWalk
import Derived.Deep.DeepCutAuto
import Derived.Deep.CutBlock
import Derived.OpenShut
namespace Go.Proofs.Ytgibmcljlaoahaa
open Go.RowKit

theorem okM_not {s t : Int} (h : s < 0 ∨ 2 ≤ s ∨ t ≤ -4398046511104 ∨ 4398046511104 < t) : ¬ okM [(7 : Int), -4398046511104].length s t := by
  intro ⟨h1, h2, h3, h4⟩
  have : ([(7 : Int), -4398046511104].length : Int) = 2 := rfl
  omega

set_option maxRecDepth 100000 in
set_option maxHeartbeats 4000000 in
theorem marksforms_any (a0 x : Int) (w : World) (_ : (Lit.int .i64 a0).wf = true) (_ : (Lit.int .i64 x).wf = true) :
    Calls Try.prog 5 #[.int .i64 a0, .int .i64 x] w fun e w' => e = .returned (.bool true) ∧ Below w.heap.size w w' := by
  obtain ⟨k, hk, hk0, hk1⟩ : ∃ k : Int, bits .and .i64 x 1023 = k ∧ 0 ≤ k ∧ k ≤ 1023 := ⟨_, mask1023 x, by omega, by omega⟩
  obtain ⟨d, hd⟩ : ∃ d : Int, 1 + k = d := ⟨_, rfl⟩
  have hd1 : 1 ≤ d := by omega
  have hd2 : d ≤ 1024 := by omega
  have hw0 : wrap64 (1 + k) = d := by rw [IntWalk.wrap64_in _ (by omega)]; exact hd
  have hw1 : wrap64 (1 - d) = 1 - d := IntWalk.wrap64_in _ (by omega)
  have hw2 : wrap64 (8 + d) = 8 + d := IntWalk.wrap64_in _ (by omega)
  have HA := Lib.hid (mawake_any w)
  go_enter Try.func5, Try.ntmps5
  go_wp2_with fail
  refine (HA.out).mono ?_; rintro e w1 ⟨rfl, b1⟩
  have B1 := Lib.hid b1
  clear b1 HA
  go_wp2_with fail
  refine (mnew_no (1 - d) _ (.inl (by omega))).mono ?_; rintro e w2 ⟨rfl, rfl⟩
  go_wp2_with fail
  refine (mnew_no (8 + d) _ (.inr (by omega))).mono ?_; rintro e w2 ⟨rfl, rfl⟩
  go_wp2_with fail
  have hn : Calls Try.prog 6 #[.int .i64 2] w1 fun e w' => NewM 51 2 e w1 w' := mnew_ok 2 w1 (by decide)
  refine hn.mono ?_; rintro e w3 ⟨g, b, c, rfl, h1, h2, h3, h4⟩
  have H3 : Hid (MkK 51 w g b c [-4398046511104, -4398046511104] w3) := Lib.hid ⟨h1, B1.out.trans (h4.mono B1.out.size), Nat.le_trans B1.out.size h2, Nat.le_trans B1.out.size h3⟩
  clear h1 h2 h3 h4 hn B1
  go_wp2_with (go_at_call 8; refine (gnum_any _ _).mono ?_; rintro e w' ⟨rfl, rfl⟩)
  refine (mset_val w g b c [-4398046511104, -4398046511104] [7, -4398046511104] 0 7 0 false _ H3.out (by decide) (by decide) (by decide)).mono ?_; rintro e w4 ⟨rfl, h4⟩
  have H4 := Lib.hid h4
  clear h4 H3
  go_upto_block 0 with fail
  obtain ⟨q, hq, eq⟩ : ∃ q : Nat, q < 5 ∧ (IntKind.u64.wrap a0).tmod 5 = q := by
    have h : 0 ≤ IntKind.u64.wrap a0 := by simp [IntKind.wrap, IntKind.bits, IntKind.signed]; omega
    have e : (IntKind.u64.wrap a0).tmod 5 = IntKind.u64.wrap a0 % 5 := Int.tmod_eq_emod_of_nonneg h
    exact ⟨(IntKind.u64.wrap a0 % 5).toNat, by omega, by omega⟩
  rw [eq]
  clear eq
  have hv0 : wrap64 (1 + d) = 1 + d := IntWalk.wrap64_in _ (by omega)
  have hv1 : wrap64 (-d) = -d := IntWalk.wrap64_in _ (by omega)
  have hv2 : wrap64 (4398046511104 + d) = 4398046511104 + d := IntWalk.wrap64_in _ (by omega)
  have hv3 : wrap64 (-4398046511104 - d) = -4398046511104 - d := IntWalk.wrap64_in _ (by omega)
  go_cut [12, 13] (fun s t wx => ∃ u v : Int, s = .int .i64 u ∧ t = .int .i64 v ∧ Hid (¬ okM [(7 : Int), -4398046511104].length u v) ∧ Hid (MkK 51 w g b c [7, -4398046511104] wx))
  case first =>
    have hq5 : q = 0 ∨ q = 1 ∨ q = 2 ∨ q = 3 ∨ q = 4 := by omega
    clear hq
    rcases hq5 with rfl | rfl | rfl | rfl | rfl
    · go_wp2_with fail
      go_meet
      case rel => exact ⟨_, _, rfl, rfl, Lib.hid (okM_not (s := 1 + d) (t := 9) (by omega)), H4⟩
    · go_wp2_with fail
      go_meet
      case rel => exact ⟨_, _, rfl, rfl, Lib.hid (okM_not (s := -d) (t := 9) (by omega)), H4⟩
    · go_wp2_with fail
      go_meet
      case rel => exact ⟨_, _, rfl, rfl, Lib.hid (okM_not (s := 1) (t := 4398046511104 + d) (by omega)), H4⟩
    · go_wp2_with fail
      go_meet
      case rel => exact ⟨_, _, rfl, rfl, Lib.hid (okM_not (s := 1) (t := -4398046511104) (by omega)), H4⟩
    · go_wp2_with fail
      go_meet
      case rel => exact ⟨_, _, rfl, rfl, Lib.hid (okM_not (s := 1) (t := -4398046511104 - d) (by omega)), H4⟩
  case rest =>
    clear H4
    obtain ⟨u, v, rfl, rfl, hno, H4⟩ := hcut
    go_wp2_with fail
    refine (mset_val w g b c [7, -4398046511104] [7, -4398046511104] u v 1300 false _ H4.out (set_no hno.out).2.2 (set_no hno.out).1 (set_no hno.out).2.1).mono ?_; rintro e w5 ⟨rfl, h5⟩
    have H5 := Lib.hid h5
    clear h5 H4
    go_wp2_with fail
    refine (mset_val w g b c [7, -4398046511104] [7, 4398046511104] 1 4398046511104 0 true _ H5.out (by decide) (by decide) (by decide)).mono ?_; rintro e w7 ⟨rfl, h7⟩
    have H7 := Lib.hid h7
    clear h7 H5
    go_wp2_with (go_at_call 8; refine (gnum_any _ _).mono ?_; rintro e w' ⟨rfl, rfl⟩)
    refine (mleast_val w g b c [7, 4398046511104] 7 _ H7.out (by decide)).mono ?_; rintro e w' ⟨rfl, rfl⟩
    go_wp2_with fail
    refine (mall_val w g b c 2 [7, 4398046511104] _ H7.out rfl).mono ?_; rintro e w8 ⟨A8, c8, rfl, o8, b8⟩
    have H8 := Lib.hid (And.intro o8 (H7.out.mono b8))
    clear o8 b8 H7
    go_wp2_with fail
    refine (sameInts_true A8 (some ⟨w8.heap.size, 0, none⟩) 2 c8 2 [7, 4398046511104] _ (H8.out.1.below ((Below.refl _ _).alloc (Nat.le_refl _) _)).ints (ints2 w8 7 4398046511104) (by decide)).mono ?_; rintro e w9 ⟨rfl, q, rfl⟩
    go_wp2_with fail
    go_ret
    exact ⟨rfl, below_drewN (H8.out.2.keep.alloc H8.out.2.keep.size _) _⟩

end Go.Proofs.Ytgibmcljlaoahaa
