/-
  Walk: RegistryForms: sizes and ids that are none.
-/
import Derived.Test.YtamgllaoeociaaaRgAwake
import Derived.Test.YtamgllaoeociaaaRgFmR
import Derived.Test.YtamgllaoeociaaaFMask
import Derived.IntWalk
namespace Go.Proofs.Ytamgllaoeociaaa
open Go.RowKit

set_option maxRecDepth 100000 in
set_option maxHeartbeats 2000000 in
theorem registryforms_any (x : Int) (w : World) (_ : (Lit.int .i64 x).wf = true) :
    Calls Try.prog 5 #[.int .i64 x] w fun e w' => e = .returned (.bool true) ∧ Below w.heap.size w w' := by
  obtain ⟨k, hk, hk0, hk1⟩ : ∃ k : Int, bits .and .i64 x 1023 = k ∧ 0 ≤ k ∧ k ≤ 1023 := ⟨_, mask1023 x, by omega, by omega⟩
  obtain ⟨d, hd⟩ : ∃ d : Int, 1 + k = d := ⟨_, rfl⟩
  have hd1 : 1 ≤ d := by omega
  have hd2 : d ≤ 1024 := by omega
  have hw0 : wrap64 (1 + k) = d := by rw [IntWalk.wrap64_in _ (by omega)]; exact hd
  have hw1 : wrap64 (1 - d) = 1 - d := IntWalk.wrap64_in _ (by omega)
  have hw2 : wrap64 (64 + d) = 64 + d := IntWalk.wrap64_in _ (by omega)
  have hw3 : wrap64 (1048575 + d) = 1048575 + d := IntWalk.wrap64_in _ (by omega)
  have hw4 : wrap64 (-d) = -d := IntWalk.wrap64_in _ (by omega)
  have HA := Lib.hid (gawake_any w)
  go_enter Try.func5, Try.ntmps5
  go_wp2_with fail
  refine (HA.out).mono ?_; rintro e w1 ⟨rfl, b1⟩
  have H1 : Hid (KeepS w [] w1) := Lib.hid ⟨b1, fun _ h => by cases h⟩
  clear b1 HA
  go_wp2_with fail
  refine (gnew_no (1 - d) _ (.inl (by omega))).mono ?_; rintro e w2 ⟨rfl, rfl⟩
  go_wp2_with fail
  refine (gnew_no (64 + d) _ (.inr (by omega))).mono ?_; rintro e w2 ⟨rfl, rfl⟩
  go_wp2_with fail
  refine (gnew_ok 64 _ (by decide)).mono ?_; rintro e w3 ⟨g, gs, rfl, h1, h2, h3⟩
  have H3 := Lib.hid (And.intro h1 (KeepS.mk (H1.out.keep.trans (h3.mono H1.out.size)) (fun k hk => Nat.le_trans H1.out.size (h2 k hk))))
  clear h1 h2 h3 H1
  go_wp2_with (go_at_call 8; refine (gnum_any _ _).mono ?_; rintro e w' ⟨rfl, rfl⟩)
  refine (gadd_val gs g 64 [] (-d) 1200 [] _ w H3.out (by decide) (reg_form (by omega)).1 (reg_form (by omega)).2).mono ?_; rintro e w4 ⟨rfl, gs4, h4⟩
  have H4 := Lib.hid h4
  clear h4 H3
  go_wp2_with fail
  refine (gadd_val gs4 g 64 [] (1048575 + d) 1200 [] _ w H4.out (by decide) (reg_form (by omega)).1 (reg_form (by omega)).2).mono ?_; rintro e w5 ⟨rfl, gs5, h5⟩
  have H5 := Lib.hid h5
  clear h5 H4
  go_wp2_with fail
  refine (gadd_val gs5 g 64 [] 1048575 0 [1048575] _ w H5.out (by decide) (by decide) (by decide)).mono ?_; rintro e w6 ⟨rfl, gs6, h6⟩
  have H6 := Lib.hid h6
  clear h6 H5
  go_upto_region 10 with fail
  refine gf10_any (gs := gs6) (g := g) (d := d) ⟨rfl, rfl, rfl, rfl, rfl, rfl, rfl, rfl, H6.out.1, hd1, hd2⟩ (by kernel_rfl) ?_
  intro A1 c1 A2 c2 w8 hb8 _ _
  have H8 := Lib.hid (H6.out.2.below hb8)
  clear hb8 H6
  simp only [putAll, Act.put, List.setIfInBounds_toArray, List.set_cons_succ, List.set_cons_zero]
  go_wp2_with fail
  go_ret
  exact ⟨rfl, H8.out.keep⟩

end Go.Proofs.Ytamgllaoeociaaa
