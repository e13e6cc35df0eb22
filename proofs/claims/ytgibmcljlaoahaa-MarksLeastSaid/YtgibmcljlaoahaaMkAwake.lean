/-
  Walk: the marks' first look.
-/
import Derived.Test.YtgibmcljlaoahaaMkSet
import Derived.Test.YtgibmcljlaoahaaMkNew
namespace Go.Proofs.Ytgibmcljlaoahaa
open Go.RowKit

/-- Marks that were made since w0 hold xs; nothing else was written. -/
structure MkK (T : TypeId) (w0 : World) (g b c : Nat) (xs : List Int) (w : World) : Prop where
  row : Mk T w g b c xs
  keep : Below w0.heap.size w0 w
  fg : w0.heap.size ≤ g
  fb : w0.heap.size ≤ b
theorem MkK.mono {T : TypeId} {w0 : World} {g b c : Nat} {xs : List Int} {w w' : World} (h : MkK T w0 g b c xs w) (hb : Below w.heap.size w w') : MkK T w0 g b c xs w' := ⟨h.row.below hb, h.keep.trans (hb.mono h.keep.size), h.fg, h.fb⟩
theorem MkK.butS {T : TypeId} {w0 : World} {g b c : Nat} {xs ys : List Int} {w w' : World} (h : MkK T w0 g b c xs w) (hm : Mk T w' g b c ys) (hb : ButS [b] w w') : MkK T w0 g b c ys w' :=
  ⟨hm, hb.below h.keep h.keep.size (fun k hk => by rw [List.mem_singleton.1 hk]; exact h.fb), h.fg, h.fb⟩
theorem mset_val (w0 : World) (g b c : Nat) (xs ys : List Int) (s t N : Int) (B : Bool) (w : World) (h : MkK 51 w0 g b c xs w) (hB : setB xs s t = B) (hN : setN xs s t = N) (hI : setI xs s t = ys) :
    Calls Try.prog 11 #[.pointer (some ⟨g, 0, none⟩), .int .i64 s, .int .i64 t] w fun e w' => e = .returned (.tuple #[.bool B, .int .i64 N]) ∧ MkK 51 w0 g b c ys w' := by
  subst hB hN hI
  refine (mset_any g b c xs s t w h.row).mono ?_
  rintro e w' ⟨rfl, h1, h2⟩
  exact ⟨rfl, h.butS h1 h2⟩
theorem mleast_val (w0 : World) (g b c : Nat) (xs : List Int) (L : Int) (w : World) (h : MkK 51 w0 g b c xs w) (hL : least xs = L) :
    Calls Try.prog 10 #[.pointer (some ⟨g, 0, none⟩)] w fun e w' => e = .returned (.int .i64 L) ∧ w = w' := by
  subst hL
  exact mleast_any g b c xs w h.row
theorem mall_val (w0 : World) (g b c n : Nat) (xs : List Int) (w : World) (h : MkK 51 w0 g b c xs w) (hl : xs.length = n) :
    Calls Try.prog 13 #[.pointer (some ⟨g, 0, none⟩)] w fun e w' => ∃ A c', e = .returned (.slice A n c') ∧ OwnI w' w.heap.size (.slice A n c') xs ∧ Below w.heap.size w w' := by
  subst hl
  exact mall_any g b c xs w h.row
theorem ints2 (w : World) (x y : Int) : Ints (w.alloc (.cells #[.int .i64 x, .int .i64 y] 3)) (some ⟨w.heap.size, 0, none⟩) 2 [x, y] :=
  ⟨rfl, fun _ => ⟨w.heap.size, 0, rfl, fun k hk => by
    rw [(Has.made w 3 #[.int .i64 x, .int .i64 y]).cell (0 + k)]
    obtain rfl | rfl : k = 0 ∨ k = 1 := by omega
    · rfl
    · rfl⟩⟩

set_option maxRecDepth 100000 in
set_option maxHeartbeats 2000000 in
theorem mawake_any (w : World) :
    Calls Try.prog 9 #[] w fun e w' => e = .returned (.bool true) ∧ Below w.heap.size w w' := by
  have hn : Calls Try.prog 6 #[.int .i64 2] w fun e w' => NewM 51 2 e w w' := mnew_ok 2 w (by decide)
  have HN := Lib.hid hn
  clear hn
  go_enter Try.func9, Try.ntmps9
  go_wp2_with fail
  refine (HN.out).mono ?_; rintro e w1 ⟨g, b, c, rfl, h1, h2, h3, h4⟩
  have H1 : Hid (MkK 51 w g b c [-4398046511104, -4398046511104] w1) := Lib.hid ⟨h1, h4, h2, h3⟩
  clear h1 h2 h3 h4 HN
  go_wp2_with fail
  refine (mnew_no 9 _ (by decide)).mono ?_; rintro e w2 ⟨rfl, rfl⟩
  go_wp2_with (go_at_call 8; refine (gnum_any _ _).mono ?_; rintro e w' ⟨rfl, rfl⟩)
  refine (mset_val w g b c [-4398046511104, -4398046511104] [5, -4398046511104] 0 5 0 false _ H1.out (by decide) (by decide) (by decide)).mono ?_; rintro e w3 ⟨rfl, h3⟩
  have H3 := Lib.hid h3
  clear h3 H1
  go_wp2_with fail
  refine (mleast_val w g b c [5, -4398046511104] (-4398046511104) _ H3.out (by decide)).mono ?_; rintro e w' ⟨rfl, rfl⟩
  go_wp2_with fail
  refine (mset_val w g b c [5, -4398046511104] [5, 3] 1 3 0 true _ H3.out (by decide) (by decide) (by decide)).mono ?_; rintro e w4 ⟨rfl, h4⟩
  have H4 := Lib.hid h4
  clear h4 H3
  go_wp2_with fail
  refine (mset_val w g b c [5, 3] [5, 3] 1 2 0 false _ H4.out (by decide) (by decide) (by decide)).mono ?_; rintro e w5 ⟨rfl, h5⟩
  have H5 := Lib.hid h5
  clear h5 H4
  go_wp2_with fail
  refine (mset_val w g b c [5, 3] [5, 3] 2 2 1300 false _ H5.out (by decide) (by decide) (by decide)).mono ?_; rintro e w6 ⟨rfl, h6⟩
  have H6 := Lib.hid h6
  clear h6 H5
  go_wp2_with fail
  refine (mset_val w g b c [5, 3] [5, 3] 0 (-4398046511104) 1300 false _ H6.out (by decide) (by decide) (by decide)).mono ?_; rintro e w7 ⟨rfl, h7⟩
  have H7 := Lib.hid h7
  clear h7 H6
  go_wp2_with (go_at_call 8; refine (gnum_any _ _).mono ?_; rintro e w' ⟨rfl, rfl⟩)
  refine (mleast_val w g b c [5, 3] 3 _ H7.out (by decide)).mono ?_; rintro e w' ⟨rfl, rfl⟩
  go_wp2_with fail
  refine (mall_val w g b c 2 [5, 3] _ H7.out rfl).mono ?_; rintro e w8 ⟨A8, c8, rfl, o8, b8⟩
  have H8 := Lib.hid (And.intro o8 (H7.out.mono b8))
  clear o8 b8 H7
  go_wp2_with fail
  refine (sameInts_true A8 (some ⟨w8.heap.size, 0, none⟩) 2 c8 2 [5, 3] _ (H8.out.1.below ((Below.refl _ _).alloc (Nat.le_refl _) _)).ints (ints2 w8 5 3) (by decide)).mono ?_; rintro e w9 ⟨rfl, q, rfl⟩
  go_wp2_with fail
  go_ret
  exact ⟨rfl, below_drewN (H8.out.2.keep.alloc H8.out.2.keep.size _) _⟩

end Go.Proofs.Ytgibmcljlaoahaa
