/-
  Walk: Slacks: any times, both slacks beside one another.
-/
import Derived.Test.YtoobkdhijfleeaaSkSlR
import Derived.IntWalk
namespace Go.Proofs.Ytoobkdhijfleeaa
open Go.RowKit

/-- Both slacks, each in a block of its own that was made since w0; they tell the same. -/
structure SkS (w0 : World) (g y : Nat) (L T K : Int) (p : Bool) (M : Int) (w : World) : Prop where
  slk : SlK w0 g L T K w
  ref : Has w y 37 (srC L p M K)
  fy : w0.heap.size ≤ y
  ne : g ≠ y
  tie : Tie L T K p M
/-- Behind the program's See. -/
structure SkS1 (w0 : World) (g y : Nat) (L T K K2 : Int) (p : Bool) (M : Int) (w : World) : Prop where
  slk : SlK w0 g L T K2 w
  ref : Has w y 37 (srC L p M K)
  fy : w0.heap.size ≤ y
  ne : g ≠ y
section
variable {w0 w w' : World} {g y : Nat} {L T K M T2 K2 M2 : Int} {p p2 q : Bool}
theorem SkS.see (h : SkS w0 g y L T K p M w) (hw : Wrote 43 g (slC L T2 K2) w w') : SkS1 w0 g y L T2 K K2 p M w' :=
  ⟨h.slk.wrote hw, h.ref.butS hw.but (by simpa using h.ne.symm), h.fy, h.ne⟩
theorem SkS1.done (h : SkS1 w0 g y L T2 K K2 p M w) (hI : MI [y] (SkI g y (slC L T2 K2) (srC L p M K) (srC L p2 M2 K2)) w true q w') (ht : Tie L T2 K2 p2 M2) : SkS w0 g y L T2 K2 p2 M2 w' :=
  ⟨⟨hI.st.1, hI.gr.below h.slk.keep h.slk.keep.size (fun k hk => by rw [List.mem_singleton.1 hk]; exact h.fy), h.slk.far⟩, hI.st.post, h.fy, h.ne, ht⟩
end

set_option maxRecDepth 100000 in
set_option maxHeartbeats 2000000 in
theorem slacks_no (L : Int) (A : Option Addr) (n c : Nat) (m : Int) (w : World) (hL : L < 0 ∨ 1073741824 < L) :
    Calls Try.prog 3 #[.int .i64 L, .slice A n c, .int .i64 m] w fun e w' => e = .returned (.bool true) ∧ Below w.heap.size w w' := by
  have HA := Lib.hid (slawake_any w)
  go_enter Try.func3, Try.ntmps3
  go_wp2_with fail
  refine (slnew_no L _ hL).mono ?_; rintro e w1 ⟨rfl, rfl⟩
  go_wp2_with fail
  refine (srnew_no L _ hL).mono ?_; rintro e w2 ⟨rfl, rfl⟩
  go_wp2_with fail
  refine (line_any m L _).mono ?_; rintro e w2 ⟨rfl, rfl⟩
  go_wp2_with fail
  refine (rline_any m L _).mono ?_; rintro e w2 ⟨rfl, rfl⟩
  go_wp2_with (go_at_call 10; refine (gnum_any _ _).mono ?_; rintro e w' ⟨rfl, rfl⟩)
  refine (HA.out).mono ?_; rintro e w3 ⟨rfl, b3⟩
  go_wp2_with fail
  go_ret
  exact ⟨rfl, b3⟩

set_option maxRecDepth 100000 in
set_option maxHeartbeats 4000000 in
theorem slacks_ok (L : Int) (A : Option Addr) (n c : Nat) (xs : List Int) (m : Int) (w : World) (hL : 0 ≤ L ∧ L ≤ 1073741824) (hx : Ints w A n xs) (hn : n ≤ maxLen) :
    Calls Try.prog 3 #[.int .i64 L, .slice A n c, .int .i64 m] w fun e w' => e = .returned (.bool true) ∧ Below w.heap.size w w' := by
  have HX := Lib.hid hx
  have hn63 : n ≤ 9223372036854775807 := by unfold maxLen at hn; omega
  clear hx hn
  go_enter Try.func3, Try.ntmps3
  go_wp2_with fail
  refine (slnew_ok L _ hL).mono ?_; rintro e w1 ⟨g, rfl, h1⟩
  have H1 := Lib.hid h1
  clear h1
  go_wp2_with fail
  refine (srnew_ok L _ hL).mono ?_; rintro e w2 ⟨y, rfl, h2⟩
  have HS : Hid (∃ T K p M, SkS w g y L T K p M w2) := Lib.hid ⟨_, _, _, _, (SlK.made H1.out (Below.refl _ _)).mono h2.keep, h2.st, Nat.le_trans H1.out.keep.size h2.new, by have := H1.out.st.lt; have := h2.new; omega, Tie.start hL⟩
  clear h2 H1
  obtain ⟨N, hN⟩ : ∃ N, lineN m L = N := ⟨_, rfl⟩
  have HLine := Lib.hid (line_val m L N w2 hN)
  have HLine2 := Lib.hid (rline_any m L w2)
  rw [hN] at HLine2
  clear hN
  go_wp2_with fail
  refine (HLine.out).mono ?_; rintro e w' ⟨rfl, rfl⟩
  go_wp2_with fail
  refine (HLine2.out).mono ?_; rintro e w' ⟨rfl, rfl⟩
  clear HLine HLine2
  go_wp2_with (go_at_call 10; refine (gnum_any _ _).mono ?_; rintro e w' ⟨rfl, rfl⟩)
  go_loopw [11] (fun i wr => ∃ j : Nat, j ≤ n ∧ i = .int .i64 j ∧ Hid (∃ T K p M, SkS w g y L T K p M wr)) (fun i _ => n - (intOf i).toNat)
  case atStart => exact ⟨0, Nat.zero_le _, rfl, HS⟩
  case round =>
    clear HS
    obtain ⟨j, hj, rfl, HS⟩ := hrel
    obtain ⟨T, K, p, M, hS⟩ := HS.out
    by_cases hlt : j < n
    · have hlt2 : (j : Int) < (n : Int) := by omega
      by_cases h60 : j < 60
      · have hlt3 : (j : Int) < 60 := by omega
        obtain ⟨b, f, rfl, hc⟩ := HX.out.at_ (k := 0) (by omega)
        obtain ⟨z, hzz⟩ : ∃ z, nth xs j = z := ⟨_, rfl⟩
        have hcz := hc j hlt
        rw [hzz] at hcz
        clear hc hzz
        have hcz2 : wr.cell? ⟨b, f + j, none⟩ = some (.int .i64 z) := (hS.slk.keep.cell (block_lt_of_cell hcz)).trans hcz
        have hbw : b < w.heap.size := block_lt_of_cell hcz
        obtain ⟨r, hr⟩ : ∃ r, seeN z = r := ⟨_, rfl⟩
        obtain ⟨T2, hT2⟩ : ∃ u, seeT T z = u := ⟨_, rfl⟩
        obtain ⟨K2, hK2⟩ : ∃ u, seeK L T K z = u := ⟨_, rfl⟩
        have ht := hS.tie.step z
        rw [hT2, hK2] at ht
        have hsee := see_any g L T K z wr hS.slk.st ⟨hS.tie.t0, hS.tie.t1⟩
        rw [hr, hT2, hK2] at hsee
        have HD := Lib.hid (And.intro hS (And.intro hr (And.intro ht.1 ht.2)))
        have HE := Lib.hid hsee
        have HC := Lib.hid hcz
        clear HS hS hcz hr hT2 hK2 ht hsee
        go_wp2_with fail
        refine (HE.out).mono ?_; rintro e w3 ⟨rfl, h3⟩
        have H3 := Lib.hid (HD.out.1.see h3)
        have hcz3 : w3.cell? ⟨b, f + j, none⟩ = some (.int .i64 z) := (H3.out.slk.keep.cell (block_lt_of_cell HC.out)).trans HC.out
        clear h3 HE hcz2
        go_upto_region 13 with fail
        refine sk13_any (g := g) (y := y) (b := b) (f := f) (n := n) (c := c) (k := j) (B := w3.heap.size) (z := z) (L := L) (T := T2) (M := M) (K := K) (K2 := K2) (M2 := seeM p M z) (N := r) (p := p) (p2 := seeB p z)
          ⟨rfl, rfl, rfl, rfl, rfl, rfl, H3.out.ref.lt, hcz3, by have := H3.out.fy; simp; omega, hlt, H3.out.ne, H3.out.slk.st, H3.out.ref, ⟨HD.out.1.tie.m0, HD.out.1.tie.m1⟩, HD.out.2.1, rfl, rfl, HD.out.2.2.2⟩ (by kernel_rfl) ?_
        intro w5 hI
        have H5 := Lib.hid (H3.out.done hI HD.out.2.2.1)
        clear hI H3 hcz3 HD
        simp only [putAll, Act.put, List.setIfInBounds_toArray, List.set_cons_succ, List.set_cons_zero, List.drop_succ_cons, List.drop_zero]
        go_wp2_with fail
        go_roundw
        case rel => exact ⟨j + 1, by omega, by go_num, Lib.hid ⟨_, _, _, _, H5.out⟩⟩
        case measure => simp [intOf]; omega
      · have hlt3 : ¬ (j : Int) < 60 := by omega
        have HA := Lib.hid (slawake_any wr)
        have HK := Lib.hid hS.slk.keep
        clear HS hS
        go_wp2_with fail
        refine (HA.out).mono ?_; rintro e w3 ⟨rfl, b3⟩
        go_wp2_with fail
        go_ret
        exact ⟨rfl, HK.out.trans (b3.mono HK.out.size)⟩
    · have hlt2 : ¬ (j : Int) < (n : Int) := by omega
      have HA := Lib.hid (slawake_any wr)
      have HK := Lib.hid hS.slk.keep
      clear HS hS
      go_wp2_with fail
      refine (HA.out).mono ?_; rintro e w3 ⟨rfl, b3⟩
      go_wp2_with fail
      go_ret
      exact ⟨rfl, HK.out.trans (b3.mono HK.out.size)⟩

theorem slacks_any (L : Int) (A : Option Addr) (n c : Nat) (xs : List Int) (m : Int) (w : World) (_ : (Lit.int .i64 L).wf = true) (hx : Ints w A n xs) (hn : n ≤ maxLen) (_ : ∀ x ∈ xs, (Lit.int .i64 x).wf = true) (_ : (Lit.int .i64 m).wf = true) :
    Calls Try.prog 3 #[.int .i64 L, .slice A n c, .int .i64 m] w fun e w' => e = .returned (.bool true) ∧ Below w.heap.size w w' := by
  by_cases h : L < 0 ∨ 1073741824 < L
  · exact slacks_no L A n c m w h
  · exact slacks_ok L A n c xs m w (by omega) hx hn

end Go.Proofs.Ytoobkdhijfleeaa
