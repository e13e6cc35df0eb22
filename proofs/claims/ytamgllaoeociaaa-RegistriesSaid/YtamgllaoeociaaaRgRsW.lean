/-
  Walk: Registries: any ids, both registries beside one another.
-/
import Derived.Test.YtamgllaoeociaaaRgAwake
import Derived.Test.YtamgllaoeociaaaRgRsR
namespace Go.Proofs.Ytamgllaoeociaaa
open Go.RowKit

set_option maxRecDepth 100000 in
set_option maxHeartbeats 2000000 in
theorem registries_no (m : Int) (A : Option Addr) (n c : Nat) (w : World) (hm : m < 1 ∨ 64 < m) :
    Calls Try.prog 3 #[.int .i64 m, .slice A n c] w fun e w' => e = .returned (.bool true) ∧ Below w.heap.size w w' := by
  have HA := Lib.hid (gawake_any w)
  go_enter Try.func3, Try.ntmps3
  go_wp2_with fail
  refine (gnew_no m _ hm).mono ?_; rintro e w1 ⟨rfl, rfl⟩
  go_wp2_with fail
  refine (rnew_no m _ hm).mono ?_; rintro e w2 ⟨rfl, rfl⟩
  go_wp2_with (go_at_call 8; refine (gnum_any _ _).mono ?_; rintro e w' ⟨rfl, rfl⟩)
  refine (HA.out).mono ?_; rintro e w3 ⟨rfl, b3⟩
  go_wp2_with fail
  go_ret
  exact ⟨rfl, b3⟩

set_option maxRecDepth 100000 in
set_option maxHeartbeats 4000000 in
theorem registries_ok (m : Int) (A : Option Addr) (n c : Nat) (xs : List Int) (w : World) (hm : 1 ≤ m ∧ m ≤ 64) (hx : Ints w A n xs) (hn : n ≤ maxLen) (hz : ∀ x ∈ xs, (Lit.int .i64 x).wf = true) :
    Calls Try.prog 3 #[.int .i64 m, .slice A n c] w fun e w' => e = .returned (.bool true) ∧ Below w.heap.size w w' := by
  have HX := Lib.hid (And.intro hx hz)
  have hn63 : n ≤ 9223372036854775807 := by unfold maxLen at hn; omega
  clear hx hz hn
  go_enter Try.func3, Try.ntmps3
  go_wp2_with fail
  refine (gnew_ok m _ hm).mono ?_; rintro e w1 ⟨g, rs, rfl, h1, h2, h3⟩
  have H1 := Lib.hid (And.intro h1 (And.intro h2 h3))
  clear h1 h2 h3
  go_wp2_with fail
  refine (rnew_ok m _ hm).mono ?_; rintro e w2 ⟨y, hs, rfl, h1, h2, h3⟩
  have HS : Hid (∃ rs hs ids, DuoS w g y m rs hs ids w2) := Lib.hid ⟨rs, hs, [], H1.out.1.below h3, h1, H1.out.2.2.trans (h3.mono H1.out.2.2.size), H1.out.2.1, fun k hk => Nat.le_trans H1.out.2.2.size (h2 k hk), fun k hk hh => (by have := H1.out.1.lt k hk; have := h2 k hh; omega), by simp⟩
  clear h1 h2 h3 H1
  go_wp2_with (go_at_call 8; refine (gnum_any _ _).mono ?_; rintro e w' ⟨rfl, rfl⟩)
  go_loopw [9] (fun i wr => ∃ j : Nat, j ≤ n ∧ i = .int .i64 j ∧ Hid (∃ rs hs ids, DuoS w g y m rs hs ids wr)) (fun i _ => n - (intOf i).toNat)
  case atStart => exact ⟨0, Nat.zero_le _, rfl, HS⟩
  case round =>
    clear HS
    obtain ⟨j, hj, rfl, HS⟩ := hrel
    by_cases hlt : j < n
    · have hlt2 : (j : Int) < (n : Int) := by omega
      by_cases h100 : j < 100
      · have hlt3 : (j : Int) < 100 := by omega
        obtain ⟨b, f, rfl, hc⟩ := HX.out.1.at_ (k := 0) (by omega)
        obtain ⟨z, hzz⟩ : ∃ z, nth xs j = z := ⟨_, rfl⟩
        have hcz := hc j hlt
        rw [hzz] at hcz
        have hzw : (Lit.int .i64 z).wf = true := HX.out.2 z (by rw [← hzz]; have := HX.out.1.1; simp [nth, this, hlt])
        clear hc hzz
        obtain ⟨rs, hs, ids, hS⟩ := HS.out
        have hcz2 : wr.cell? ⟨b, f + j, none⟩ = some (.int .i64 z) := (hS.keep.cell (block_lt_of_cell hcz)).trans hcz
        have hbw : b < w.heap.size := block_lt_of_cell hcz
        obtain ⟨ids', hids⟩ : ∃ i, regI m ids z = i := ⟨_, rfl⟩
        obtain ⟨r, hr⟩ : ∃ r, regN m ids z = r := ⟨_, rfl⟩
        obtain ⟨L, hL⟩ : ∃ L, ids'.length = L := ⟨_, rfl⟩
        have hroom := regI_room (m := m) (x := z) (M := 64) (by omega) hS.room
        rw [hids] at hroom
        have HD := Lib.hid (And.intro hS (And.intro hroom (And.intro hr (And.intro hids hL))))
        have HC := Lib.hid hcz
        clear HS hS hcz hr hids hL
        go_wp2_with fail
        refine (gadd_any rs g m ids z wr HD.out.1.rg hm.2).mono ?_; intro e w3 ha
        rw [HD.out.2.2.1, HD.out.2.2.2.1] at ha
        obtain ⟨rfl, rs3, h3⟩ := HD.out.1.add ha HD.out.2.1
        have H3 := Lib.hid h3
        clear ha h3
        have hcz3 : w3.cell? ⟨b, f + j, none⟩ = some (.int .i64 z) := (H3.out.keep.cell (block_lt_of_cell HC.out)).trans HC.out
        go_upto_region 11 with fail
        refine gr11_any (rs := rs3) (hs := hs) (g := g) (y := y) (b := b) (f := f) (n := n) (c := c) (k := j) (B := w3.heap.size) (m := m) (z := z) (r := r) (u := wrap64 (z + 1)) (ids := ids) (ids' := ids') (d1 := decide (z ∈ ids')) (d2 := decide (wrap64 (z + 1) ∈ ids'))
          ⟨rfl, rfl, rfl, rfl, rfl, rfl, rfl, H3.out.rf.lt, hcz3, fun hb => by have := H3.out.farH b hb; omega, hlt, H3.out.rg, H3.out.rf, H3.out.dj, hzw, wrap64_wf _, rfl, HD.out.2.2.1, HD.out.2.2.2.1, H3.out.room, by have := H3.out.room'; omega, rfl, rfl⟩ (by kernel_rfl) ?_
        intro w5 hI
        obtain ⟨hs5, h5⟩ := H3.out.done hI
        have H5 := Lib.hid h5
        clear hI h5 H3 hcz3
        simp only [putAll, Act.put, List.setIfInBounds_toArray, List.set_cons_succ, List.set_cons_zero, List.drop_succ_cons, List.drop_zero]
        go_wp2_with fail
        refine (gids_any rs3 g m ids' w5 H5.out.rg (by omega)).mono ?_; rintro e w6 ⟨A6, c6, rfl, o6, b6⟩
        rw [HD.out.2.2.2.2] at o6
        have h6 := H5.out.below b6
        obtain ⟨A7, c7, h7⟩ := h6.rf
        have e7 : w6.cell? ⟨y, 1, none⟩ = some (.slice A7 L c7) := by have := h7.st.cell 1; rw [HD.out.2.2.2.2] at this; exact this
        have i7 : Ints w6 A7 L ids' := by have := h7.own.ints; rwa [HD.out.2.2.2.2] at this
        have H6 := Lib.hid (And.intro h6 (And.intro o6 (And.intro i7 b6)))
        have hL64 : L ≤ maxLen := by have := HD.out.2.1; rw [HD.out.2.2.2.2] at this; unfold maxLen; omega
        rw [HD.out.2.2.2.2]
        clear h6 h7 i7 o6 b6
        go_wp2_with fail
        refine (sameInts_true A6 A7 L c6 c7 ids' w6 H6.out.2.1.ints H6.out.2.2.1 hL64).mono ?_; rintro e w8 ⟨rfl, q, rfl⟩
        go_wp2_with fail
        refine (spoil_any A6 L c6 ids' w5.heap.size _ (H6.out.2.1.below (below_drewN (Below.refl _ _) q)) hL64).mono ?_; rintro e w9 ⟨rfl, b9⟩
        have H9 := Lib.hid ((H6.out.1.below (below_drewN (Below.refl _ _) q)).under b9 H5.out.size H5.out.rg.lt H5.out.rf.lt)
        clear b9 H6 H5 e7
        go_wp2_with fail
        go_roundw
        case rel => exact ⟨j + 1, by omega, by go_num, Lib.hid ⟨_, _, _, H9.out⟩⟩
        case measure => simp [intOf]; omega
      · have hlt3 : ¬ (j : Int) < 100 := by omega
        obtain ⟨rs, hs, ids, hS⟩ := HS.out
        have HA := Lib.hid (gawake_any wr)
        have HK := Lib.hid hS.keep
        clear HS hS
        go_wp2_with fail
        refine (HA.out).mono ?_; rintro e w3 ⟨rfl, b3⟩
        go_wp2_with fail
        go_ret
        exact ⟨rfl, HK.out.trans (b3.mono HK.out.size)⟩
    · have hlt2 : ¬ (j : Int) < (n : Int) := by omega
      obtain ⟨rs, hs, ids, hS⟩ := HS.out
      have HA := Lib.hid (gawake_any wr)
      have HK := Lib.hid hS.keep
      clear HS hS
      go_wp2_with fail
      refine (HA.out).mono ?_; rintro e w3 ⟨rfl, b3⟩
      go_wp2_with fail
      go_ret
      exact ⟨rfl, HK.out.trans (b3.mono HK.out.size)⟩

theorem registries_any (m : Int) (A : Option Addr) (n c : Nat) (xs : List Int) (w : World) (_ : (Lit.int .i64 m).wf = true) (hx : Ints w A n xs) (hn : n ≤ maxLen) (hz : ∀ x ∈ xs, (Lit.int .i64 x).wf = true) :
    Calls Try.prog 3 #[.int .i64 m, .slice A n c] w fun e w' => e = .returned (.bool true) ∧ Below w.heap.size w w' := by
  by_cases h : m < 1 ∨ 64 < m
  · exact registries_no m A n c w h
  · exact registries_ok m A n c xs w (by omega) hx hn hz

end Go.Proofs.Ytamgllaoeociaaa
