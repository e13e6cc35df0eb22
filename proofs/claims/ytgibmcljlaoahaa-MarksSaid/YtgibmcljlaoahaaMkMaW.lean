/-
  Walk: Marks: any sources, any times, both marks beside one another.
-/
import Derived.Test.YtgibmcljlaoahaaMkAwake
import Derived.Test.YtgibmcljlaoahaaMkMaR
import Derived.Test.YtgibmcljlaoahaaOpenP
namespace Go.Proofs.Ytgibmcljlaoahaa
open Go.RowKit

/-- Both marks hold xs, each in two blocks of its own that were made since w0. -/
structure MkD (w0 : World) (g b c y rb rc : Nat) (xs : List Int) (w : World) : Prop where
  pg : Mk 51 w g b c xs
  rf : Mk 43 w y rb rc xs
  keep : Below w0.heap.size w0 w
  fg : w0.heap.size ≤ g
  fb : w0.heap.size ≤ b
  fy : w0.heap.size ≤ y
  fr : w0.heap.size ≤ rb
  d1 : g ≠ rb
  d2 : b ≠ rb
  d3 : y ≠ b
section
variable {w0 w w' : World} {g b c y rb rc : Nat} {xs : List Int}
theorem MkD.under (h : MkD w0 g b c y rb rc xs w) {B : Nat} (hb : Below B w w') (h1 : g < B) (h2 : b < B) (h3 : y < B) (h4 : rb < B) (hB : w0.heap.size ≤ B) : MkD w0 g b c y rb rc xs w' :=
  ⟨h.pg.under hb h1 h2, h.rf.under hb h3 h4, h.keep.trans (hb.mono hB), h.fg, h.fb, h.fy, h.fr, h.d1, h.d2, h.d3⟩
theorem MkD.below (h : MkD w0 g b c y rb rc xs w) (hb : Below w.heap.size w w') : MkD w0 g b c y rb rc xs w' := h.under hb h.pg.gLt h.pg.bLt h.rf.gLt h.rf.bLt h.keep.size
theorem MkD.under4 (h : MkD w0 g b c y rb rc xs w) : g < w.heap.size ∧ b < w.heap.size ∧ y < w.heap.size ∧ rb < w.heap.size := ⟨h.pg.gLt, h.pg.bLt, h.rf.gLt, h.rf.bLt⟩
/-- Behind both calls of Set. -/
theorem MkD.set {xs' : List Int} {w3 w4 : World} (h : MkD w0 g b c y rb rc xs w) (h3 : MI [b] (MkI 51 g b c xs xs') w true false w3) (h4 : MI [rb] (MkI 43 y rb rc xs xs') w3 true false w4) : MkD w0 g b c y rb rc xs' w4 := by
  have hs : w.heap.size ≤ w3.heap.size := h3.gr.size
  have k3 : Below w0.heap.size w0 w3 := h3.gr.below h.keep h.keep.size (fun k hk => by rw [List.mem_singleton.1 hk]; exact h.fb)
  refine ⟨h3.st.post.butS h4.gr (by simpa using h.d1) (by simpa using h.d2), h4.st.post, h4.gr.below k3 k3.size (fun k hk => by rw [List.mem_singleton.1 hk]; exact h.fr), h.fg, h.fb, h.fy, h.fr, h.d1, h.d2, h.d3⟩
end

set_option maxRecDepth 100000 in
set_option maxHeartbeats 2000000 in
theorem marks_no (m : Int) (A : Option Addr) (n c : Nat) (w : World) (hm : m < 1 ∨ 8 < m) :
    Calls Try.prog 3 #[.int .i64 m, .slice A n c] w fun e w' => e = .returned (.bool true) ∧ Below w.heap.size w w' := by
  have HA := Lib.hid (mawake_any w)
  go_enter Try.func3, Try.ntmps3
  go_wp2_with fail
  refine (mnew_no m _ hm).mono ?_; rintro e w1 ⟨rfl, rfl⟩
  go_wp2_with fail
  refine (rnewm_no m _ hm).mono ?_; rintro e w2 ⟨rfl, rfl⟩
  go_wp2_with (go_at_call 8; refine (gnum_any _ _).mono ?_; rintro e w' ⟨rfl, rfl⟩)
  refine (HA.out).mono ?_; rintro e w3 ⟨rfl, b3⟩
  go_wp2_with fail
  go_ret
  exact ⟨rfl, b3⟩

set_option maxRecDepth 100000 in
set_option maxHeartbeats 4000000 in
theorem marks_ok (m : Nat) (A : Option Addr) (n cc : Nat) (ss : List (Int × Int)) (w : World) (hm : 1 ≤ m ∧ m ≤ 8) (hx : Prs w A n ss) (hn : n ≤ maxLen) :
    Calls Try.prog 3 #[.int .i64 m, .slice A n cc] w fun e w' => e = .returned (.bool true) ∧ Below w.heap.size w w' := by
  have HX := Lib.hid hx
  have hn63 : n ≤ 9223372036854775807 := by unfold maxLen at hn; omega
  clear hx hn
  go_enter Try.func3, Try.ntmps3
  go_wp2_with fail
  refine (mnew_ok m _ hm).mono ?_; rintro e w1 ⟨g, b, c, rfl, h1, h2, h3, h4⟩
  have H1 := Lib.hid (And.intro h1 (And.intro h2 (And.intro h3 h4)))
  clear h1 h2 h3 h4
  go_wp2_with fail
  refine (rnewm_ok m _ hm).mono ?_; rintro e w2 ⟨y, rb, rc, rfl, h1, h2, h3, h4⟩
  have HS : Hid (∃ xs, MkD w g b c y rb rc xs w2) := Lib.hid (by
    have hg := H1.out.1.gLt
    have hb := H1.out.1.bLt
    have hs := H1.out.2.2.2.size
    exact ⟨_, H1.out.1.below h4, h1, H1.out.2.2.2.trans (h4.mono hs), H1.out.2.1, H1.out.2.2.1, by omega, by omega, by omega, by omega, by omega⟩)
  clear h1 h2 h3 h4 H1
  go_wp2_with (go_at_call 8; refine (gnum_any _ _).mono ?_; rintro e w' ⟨rfl, rfl⟩)
  go_loopw [9] (fun i wr => ∃ j : Nat, j ≤ n ∧ i = .int .i64 j ∧ Hid (∃ xs, MkD w g b c y rb rc xs wr)) (fun i _ => n - (intOf i).toNat)
  case atStart => exact ⟨0, Nat.zero_le _, rfl, HS⟩
  case round =>
    clear HS
    obtain ⟨j, hj, rfl, HS⟩ := hrel
    by_cases hlt : j < n
    · have hlt2 : (j : Int) < (n : Int) := by omega
      by_cases h60 : j < 60
      · have hlt3 : (j : Int) < 60 := by omega
        obtain ⟨bs, f, rfl, hc⟩ := HX.out.at_ (by omega)
        obtain ⟨x, hxx⟩ : ∃ x, (nthP ss j).1 = x := ⟨_, rfl⟩
        obtain ⟨t, htt⟩ : ∃ t, (nthP ss j).2 = t := ⟨_, rfl⟩
        obtain ⟨c0, c1⟩ := hc j hlt
        rw [hxx] at c0
        rw [htt] at c1
        obtain ⟨xs, hS⟩ := HS.out
        obtain ⟨xs', hxs⟩ : ∃ ys, setI xs x t = ys := ⟨_, rfl⟩
        obtain ⟨r, hr⟩ : ∃ r, setB xs x t = r := ⟨_, rfl⟩
        obtain ⟨N, hN⟩ : ∃ N, setN xs x t = N := ⟨_, rfl⟩
        obtain ⟨L, hL⟩ : ∃ L, least xs = L := ⟨_, rfl⟩
        obtain ⟨L', hL'⟩ : ∃ L', least xs' = L' := ⟨_, rfl⟩
        obtain ⟨l, hl⟩ : ∃ l, xs'.length = l := ⟨_, rfl⟩
        have hbw : bs < w.heap.size := block_lt_of_cell c0
        have hnb : bs ≠ b := by have := hS.fb; omega
        have hnr : bs ≠ rb := by have := hS.fr; omega
        have k0 : wr.cell? ⟨bs, f + j * 2, none⟩ = some (.int .i64 x) := (hS.keep.cell (block_lt_of_cell c0)).trans c0
        have k1 : wr.cell? ⟨bs, f + j * 2 + 1, none⟩ = some (.int .i64 t) := (hS.keep.cell (block_lt_of_cell c1)).trans c1
        have hrise : ¬ L' < L := by have := setI_rise (xs := xs) (s := x) (t := t); rw [hxs, hL, hL'] at this; omega
        have hrb : r = decide (L < L') := by rw [← hr, ← hL, ← hL']; unfold setB; rw [hxs]
        have hl8 : l ≤ maxLen := by have h1 := hS.pg.small; have h2 := setI_length (xs := xs) (s := x) (t := t); rw [hxs, hl] at h2; unfold maxLen; omega
        have HD := Lib.hid (And.intro hS (And.intro hxs (And.intro hr (And.intro hN (And.intro hL (And.intro hL' hl))))))
        have HC := Lib.hid (And.intro k0 k1)
        have HB := Lib.hid hrb
        clear HS hS c0 c1 hc hxx htt k0 k1 hxs hr hN hL hL' hl hrb
        go_wp2_with fail
        refine (mleast_any g b c xs wr HD.out.1.pg).mono ?_; rintro e w' ⟨rfl, rfl⟩
        rw [HD.out.2.2.2.2.1]
        go_upto_region 11 with fail
        refine mm11_any (g := g) (rb := b) (rc := c) (b := bs) (f := f) (n := n) (c := cc) (k := j) (B := b + 1) (x := x) (t := t) (N := N) (r := r) (xs := xs) (xs' := xs')
          ⟨rfl, rfl, rfl, rfl, by omega, HC.out.1, HC.out.2, hnb, hlt, HD.out.1.pg, HD.out.2.2.1, HD.out.2.2.2.1, HD.out.2.1⟩ (by kernel_rfl) ?_
        intro w3 h3
        have H3 := Lib.hid h3
        clear h3
        simp only [putAll, Act.put, List.setIfInBounds_toArray, List.set_cons_succ, List.set_cons_zero, List.drop_succ_cons, List.drop_zero]
        go_upto_region 12 with fail
        refine mm12_any (g := y) (rb := rb) (rc := rc) (b := bs) (f := f) (n := n) (c := cc) (k := j) (B := rb + 1) (x := x) (t := t) (N := N) (r := r) (xs := xs) (xs' := xs')
          ⟨rfl, rfl, rfl, rfl, by omega, cell_but1 HC.out.1 H3.out.gr hnb, cell_but1 HC.out.2 H3.out.gr hnb, hnr, hlt, HD.out.1.rf.butS H3.out.gr (by simpa using HD.out.1.d3) (by simpa using HD.out.1.d2.symm), HD.out.2.2.1, HD.out.2.2.2.1, HD.out.2.1⟩ (by kernel_rfl) ?_
        intro w4 h4
        have H4 := Lib.hid (HD.out.1.set H3.out h4)
        clear h4 H3
        simp only [putAll, Act.put, List.setIfInBounds_toArray, List.set_cons_succ, List.set_cons_zero, List.drop_succ_cons, List.drop_zero]
        go_wp2_with fail
        refine (mall_any g b c xs' w4 H4.out.pg).mono ?_; rintro e w5 ⟨A5, d5, rfl, o5, b5⟩
        rw [HD.out.2.2.2.2.2.2] at o5
        rw [HD.out.2.2.2.2.2.2]
        have h5 := H4.out.below b5
        have c5 : w5.cell? ⟨y, 0, none⟩ = some (.slice (some ⟨rb, 0, none⟩) l rc) := by have := h5.rf.cell0; rwa [HD.out.2.2.2.2.2.2] at this
        have i5 : Ints w5 (some ⟨rb, 0, none⟩) l xs' := by have := h5.rf.own.ints; rwa [HD.out.2.2.2.2.2.2] at this
        have q1 := mleast_any g b c xs' w5 h5.pg
        have q2 := rleast_any y rb rc xs' w5 h5.rf
        rw [HD.out.2.2.2.2.2.1] at q1 q2
        have H6 : Hid (∀ q, (Calls Try.prog 10 #[.pointer (some ⟨g, 0, none⟩)] (w5.drewN q) fun e w' => e = .returned (.int .i64 L') ∧ w5.drewN q = w') ∧ MkD w g b c y rb rc xs' (w5.drewN q)) := Lib.hid (fun q => by
          have h := h5.below (below_drewN (Below.refl _ _) q)
          have := mleast_any g b c xs' (w5.drewN q) h.pg
          rw [HD.out.2.2.2.2.2.1] at this
          exact ⟨this, h⟩)
        have H5 := Lib.hid (And.intro o5 (And.intro h5 (And.intro (And.intro q1 q2) i5)))
        clear o5 h5 q1 q2 i5 b5
        by_cases hLL : L < L'
        · have hB : r = true := by rw [HB.out]; exact decide_eq_true hLL
          subst hB
          go_wp2_with (go_at_call 8; refine (gnum_any _ _).mono ?_; rintro e w' ⟨rfl, rfl⟩)
          refine (H5.out.2.2.1.1).mono ?_; rintro e w' ⟨rfl, rfl⟩
          go_wp2_with fail
          refine (H5.out.2.2.1.2).mono ?_; rintro e w' ⟨rfl, rfl⟩
          go_wp2_with fail
          refine (sameInts_true A5 (some ⟨rb, 0, none⟩) l d5 rc xs' w5 H5.out.1.ints H5.out.2.2.2 hl8).mono ?_; rintro e w6 ⟨rfl, q, rfl⟩
          go_wp2_with fail
          refine (H6.out q).1.mono ?_; rintro e w' ⟨rfl, rfl⟩
          go_wp2_with fail
          refine (H6.out q).1.mono ?_; rintro e w' ⟨rfl, rfl⟩
          go_wp2_with fail
          refine (spoil_any A5 l d5 xs' w4.heap.size _ (H5.out.1.below (below_drewN (Below.refl _ _) q)) hl8).mono ?_; rintro e w9 ⟨rfl, b9⟩
          have H9 := Lib.hid (((H6.out q).2.under b9 H4.out.under4.1 H4.out.under4.2.1 H4.out.under4.2.2.1 H4.out.under4.2.2.2 H4.out.keep.size))
          clear b9 H6 H5 H4
          go_wp2_with fail
          go_roundw
          case rel => exact ⟨j + 1, by omega, by go_num, Lib.hid ⟨_, H9.out⟩⟩
          case measure => simp [intOf]; omega
        · have hB : r = false := by rw [HB.out]; exact decide_eq_false hLL
          subst hB
          go_wp2_with (go_at_call 8; refine (gnum_any _ _).mono ?_; rintro e w' ⟨rfl, rfl⟩)
          refine (H5.out.2.2.1.1).mono ?_; rintro e w' ⟨rfl, rfl⟩
          go_wp2_with fail
          refine (H5.out.2.2.1.2).mono ?_; rintro e w' ⟨rfl, rfl⟩
          go_wp2_with fail
          refine (sameInts_true A5 (some ⟨rb, 0, none⟩) l d5 rc xs' w5 H5.out.1.ints H5.out.2.2.2 hl8).mono ?_; rintro e w6 ⟨rfl, q, rfl⟩
          go_wp2_with fail
          refine (H6.out q).1.mono ?_; rintro e w' ⟨rfl, rfl⟩
          go_wp2_with fail
          refine (H6.out q).1.mono ?_; rintro e w' ⟨rfl, rfl⟩
          go_wp2_with fail
          refine (spoil_any A5 l d5 xs' w4.heap.size _ (H5.out.1.below (below_drewN (Below.refl _ _) q)) hl8).mono ?_; rintro e w9 ⟨rfl, b9⟩
          have H9 := Lib.hid (((H6.out q).2.under b9 H4.out.under4.1 H4.out.under4.2.1 H4.out.under4.2.2.1 H4.out.under4.2.2.2 H4.out.keep.size))
          clear b9 H6 H5 H4
          go_wp2_with fail
          go_roundw
          case rel => exact ⟨j + 1, by omega, by go_num, Lib.hid ⟨_, H9.out⟩⟩
          case measure => simp [intOf]; omega
      · have hlt3 : ¬ (j : Int) < 60 := by omega
        obtain ⟨xs, hS⟩ := HS.out
        have HA := Lib.hid (mawake_any wr)
        have HK := Lib.hid hS.keep
        clear HS hS
        go_wp2_with fail
        refine (HA.out).mono ?_; rintro e w3 ⟨rfl, b3⟩
        go_wp2_with fail
        go_ret
        exact ⟨rfl, HK.out.trans (b3.mono HK.out.size)⟩
    · have hlt2 : ¬ (j : Int) < (n : Int) := by omega
      obtain ⟨xs, hS⟩ := HS.out
      have HA := Lib.hid (mawake_any wr)
      have HK := Lib.hid hS.keep
      clear HS hS
      go_wp2_with fail
      refine (HA.out).mono ?_; rintro e w3 ⟨rfl, b3⟩
      go_wp2_with fail
      go_ret
      exact ⟨rfl, HK.out.trans (b3.mono HK.out.size)⟩

theorem marks_any (m : Int) (A : Option Addr) (n c : Nat) (ss : List (Int × Int)) (w : World) (_ : (Lit.int .i64 m).wf = true) (hx : Prs w A n ss) (hn : n ≤ maxLen) :
    Calls Try.prog 3 #[.int .i64 m, .slice A n c] w fun e w' => e = .returned (.bool true) ∧ Below w.heap.size w w' := by
  by_cases h : m < 1 ∨ 8 < m
  · exact marks_no m A n c w h
  · obtain ⟨k, rfl⟩ : ∃ k : Nat, m = k := ⟨m.toNat, by omega⟩
    exact marks_ok k A n c ss w (by omega) hx hn

end Go.Proofs.Ytgibmcljlaoahaa
