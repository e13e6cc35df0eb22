/-
  Walk: the registries' first look.
-/
import Derived.Test.YtamgllaoeociaaaRgAdd
import Derived.Test.YtamgllaoeociaaaRgAwR
namespace Go.Proofs.Ytamgllaoeociaaa
open Go.RowKit

/-- Only the blocks gs, all made since w0, were written. -/
structure KeepS (w0 : World) (gs : List Nat) (w : World) : Prop where
  keep : Below w0.heap.size w0 w
  far : ∀ k ∈ gs, w0.heap.size ≤ k
theorem KeepS.size {w0 w : World} {gs : List Nat} (h : KeepS w0 gs w) : w0.heap.size ≤ w.heap.size := h.keep.size
theorem KeepS.but {w0 w w' : World} {gs gs' : List Nat} (h : KeepS w0 gs w) (hb : ButS gs w w') (hn : ∀ k ∈ gs', k ∈ gs ∨ w.heap.size ≤ k) : KeepS w0 gs' w' :=
  ⟨hb.below h.keep h.size h.far, fun k hk => by
    rcases hn k hk with h1 | h1
    · exact h.far k h1
    · exact Nat.le_trans h.size h1⟩
theorem KeepS.below {w0 w w' : World} {gs : List Nat} (h : KeepS w0 gs w) (hb : Below w.heap.size w w') : KeepS w0 gs w' := ⟨h.keep.trans (hb.mono h.size), h.far⟩
theorem gadd_val (gs : List Nat) (g : Nat) (m : Int) (ids : List Int) (x r : Int) (ids' : List Int) (w w0 : World) (h : Reg w gs g m ids ∧ KeepS w0 gs w) (hm : m ≤ 64) (hr : regN m ids x = r) (hi : regI m ids x = ids') :
    Calls Try.prog 10 #[.pointer (some ⟨g, 0, none⟩), .int .i64 x] w fun e w' => e = .returned (.int .i64 r) ∧ ∃ gs', Reg w' gs' g m ids' ∧ KeepS w0 gs' w' := by
  subst hr hi
  refine (gadd_any gs g m ids x w h.1 hm).mono ?_
  rintro e w' ⟨rfl, gs', h1, h2, h3⟩
  exact ⟨rfl, gs', h1, h.2.but h2 h3⟩

set_option maxRecDepth 100000 in
set_option maxHeartbeats 2000000 in
theorem gawake_any (w : World) :
    Calls Try.prog 9 #[] w fun e w' => e = .returned (.bool true) ∧ Below w.heap.size w w' := by
  have HN := Lib.hid (gnew_ok 2 w (by decide))
  go_enter Try.func9, Try.ntmps9
  go_wp2_with fail
  refine (HN.out).mono ?_; rintro e w1 ⟨g, gs, rfl, h1, h2, h3⟩
  have H1 := Lib.hid (And.intro h1 (KeepS.mk h3 h2))
  clear h1 h2 h3 HN
  go_wp2_with fail
  refine (gnew_no 0 _ (by decide)).mono ?_; rintro e w2 ⟨rfl, rfl⟩
  go_wp2_with (go_at_call 8; refine (gnum_any _ _).mono ?_; rintro e w' ⟨rfl, rfl⟩)
  refine (gadd_val gs g 2 [] 5 0 [5] _ w H1.out (by decide) (by decide) (by decide)).mono ?_; rintro e w3 ⟨rfl, gs3, h3⟩
  have H3 := Lib.hid h3
  clear h3 H1
  go_wp2_with fail
  refine (gadd_val gs3 g 2 [5] 3 0 [5, 3] _ w H3.out (by decide) (by decide) (by decide)).mono ?_; rintro e w4 ⟨rfl, gs4, h4⟩
  have H4 := Lib.hid h4
  clear h4 H3
  go_wp2_with fail
  refine (gadd_val gs4 g 2 [5, 3] 5 0 [5, 3] _ w H4.out (by decide) (by decide) (by decide)).mono ?_; rintro e w5 ⟨rfl, gs5, h5⟩
  have H5 := Lib.hid h5
  clear h5 H4
  go_wp2_with fail
  refine (gadd_val gs5 g 2 [5, 3] 4 1201 [5, 3] _ w H5.out (by decide) (by decide) (by decide)).mono ?_; rintro e w6 ⟨rfl, gs6, h6⟩
  have H6 := Lib.hid h6
  clear h6 H5
  go_wp2_with fail
  refine (gadd_val gs6 g 2 [5, 3] (-1) 1200 [5, 3] _ w H6.out (by decide) (by decide) (by decide)).mono ?_; rintro e w7 ⟨rfl, gs7, h7⟩
  have H7 := Lib.hid h7
  clear h7 H6
  go_upto_region 6 with fail
  refine ga6_any (gs := gs7) (g := g) ⟨rfl, rfl, rfl, rfl, rfl, rfl, rfl, rfl, H7.out.1⟩ (by kernel_rfl) ?_
  intro A1 c1 A2 c2 w8 hb8 _ _
  have H8 := Lib.hid (H7.out.2.below hb8)
  clear hb8 H7
  simp only [putAll, Act.put, List.setIfInBounds_toArray, List.set_cons_succ, List.set_cons_zero]
  go_wp2_with fail
  go_ret
  exact ⟨rfl, H8.out.keep⟩

end Go.Proofs.Ytamgllaoeociaaa
