/-
  Walk: AdmitSafe: what is taken lies in no window that is out.
-/
import Derived.Test.YtecdeplcoggjkaaAdAwake
import Derived.Test.YtecdeplcoggjkaaWMask
namespace Go.Proofs.Ytecdeplcoggjkaa
open Go.RowKit

theorem quT_may (sz : Int) (h : 1 ≤ sz ∧ sz ≤ 1073741824) : quB (quT sz) = true := by
  unfold quB quT mayQ
  simp only
  rw [wi_mk h]
  rfl
theorem cfB_one (sz la : Int) (h : 1 ≤ sz ∧ sz ≤ 1073741824) (h2 : 0 ≤ la ∧ la ≤ 1023) : cfB [quT sz] la 3 2 1 = true := by
  unfold cfB fitQ
  rw [allQ_one, quT_may sz h]
  unfold limB
  rw [wi_mk (show 0 ≤ la ∧ la ≤ 1073741824 by omega)]
  rfl
theorem safe_ver (sz la m t : Int) (h : 1 ≤ sz ∧ sz ≤ 1073741824) (h2 : 0 ≤ la ∧ la ≤ 1023) (h3 : -100000 ≤ m ∧ m ≤ 100000) (h4 : -100000 ≤ t ∧ t ≤ 100000) :
    verV [quT sz] la 3 2 1 m 0 0 false 0 0 0 t 0 = ((if t < m - la then 1 else 0), 0) := by
  have hi : isB [quT sz] la 3 2 1 m 0 0 = true := by
    unfold isB
    rw [cfB_one sz la h h2, wi_mk (show -4398046511104 ≤ m ∧ m ≤ 4398046511104 by omega)]
    decide
  have hs : smB 0 0 0 t 0 1 = true := by
    unfold smB
    rw [restB_yes (by omega)]
    decide
  unfold verV tellV
  rw [if_pos hi, hs]
  simp
theorem quT_put (sz v : Int) : (quC (quT sz) none 0 0).setIfInBounds 2 (.int .i64 v) = quC (quT v) none 0 0 := rfl
theorem CoS.size {w : World} {g b : Nat} {sz la ro se so : Int} {wr : World} (h : CoS w g b sz la ro se so wr) (v : Int) : CoS w g b v la ro se so (wr.setCell ⟨g, 2, none⟩ (.int .i64 v)) :=
  ⟨h.box.putFar (fun e => h.far.2.2 (by rw [e])) _, by rw [← quT_put sz v]; exact h.qu.put 2 _, h.keep.setCell h.far.1 _, h.far⟩

set_option maxRecDepth 100000 in
set_option maxHeartbeats 2000000 in
theorem asafe_any (a0 a1 a2 a3 : Int) (w : World) (_ : (Lit.int .i64 a0).wf = true) (_ : (Lit.int .i64 a1).wf = true) (_ : (Lit.int .i64 a2).wf = true) (_ : (Lit.int .i64 a3).wf = true) :
    Calls Try.prog 5 #[.int .i64 a0, .int .i64 a1, .int .i64 a2, .int .i64 a3] w fun e w' => e = .returned (.bool true) ∧ Below w.heap.size w w' := by
  obtain ⟨X, x1, x2, x3⟩ : ∃ X : Int, bits .and .i64 a0 1023 = X ∧ 0 ≤ X ∧ X ≤ 1023 := ⟨_, mask1023 a0, by omega, by omega⟩
  obtain ⟨Z, z1, z2, z3⟩ : ∃ Z : Int, bits .and .i64 a3 255 = Z ∧ 0 ≤ Z ∧ Z ≤ 255 := ⟨_, mask_of a3 8 255 (by decide) (by decide), by omega, by omega⟩
  obtain ⟨M, m1, m2, m3⟩ : ∃ T : Int, a1.tmod 100000 = T ∧ -100000 ≤ T ∧ T ≤ 100000 := ⟨_, rfl, by have := Int.lt_tmod_of_pos a1 (show (0 : Int) < 100000 by decide); omega, by have := Int.tmod_lt_of_pos a1 (show (0 : Int) < 100000 by decide); omega⟩
  obtain ⟨T, t1, t2, t3⟩ : ∃ T : Int, a2.tmod 100000 = T ∧ -100000 ≤ T ∧ T ≤ 100000 := ⟨_, rfl, by have := Int.lt_tmod_of_pos a2 (show (0 : Int) < 100000 by decide); omega, by have := Int.tmod_lt_of_pos a2 (show (0 : Int) < 100000 by decide); omega⟩
  have hv := safe_ver (1 + Z) X M T (by omega) (by omega) (by omega) (by omega)
  go_enter Try.func5, Try.ntmps5
  go_wp2_with fail
  refine (aawake_any _).mono ?_
  rintro e w1 ⟨rfl, b1⟩
  have HB : Hid (Below w.heap.size w w1) := b1
  clear b1
  go_wp2_with fail
  refine (count_any X 3 w1).mono ?_
  rintro e w2 ⟨g, rfl, g1, g2, g3⟩
  have HS := Lib.hid (CoS.made (la := X) (ro := 3) g1 g2 g3)
  clear g1 g2 g3
  go_upto_region 4 with fail
  generalize w2.alloc (.cells #[.slice (some ⟨g, 0, none⟩) 1 1, .int .i64 X, .int .i64 3, .int .i64 2, .int .i64 1] 24) = w3 at HS ⊢
  generalize w2.heap.size = b at HS ⊢
  have hcc := cells_cf HS.out.box
  have hqc : ∀ i, w3.cell? ⟨g, i, none⟩ = (#[.int .i64 0, .int .i64 0, .int .i64 10, .int .i64 0, .slice none 0 0, .int .i64 0] : Array Value)[i]? := fun i => HS.out.qu.cell i
  have hqm : ∀ i, w3.frozen? ⟨g, i, none⟩ = false := fun i => HS.out.qu.mark i
  go_upto_region 5 with fail
  replace HS := Lib.hid (HS.out.size (1 + Z))
  generalize w3.setCell ⟨g, 2, none⟩ (.int .i64 (1 + Z)) = w4 at HS ⊢
  clear hcc hqc hqm
  have hcc := cells_cf HS.out.box
  by_cases hlt : T < M - X
  · rw [if_pos hlt] at hv
    have V1 := Lib.hid (fun g w => ver_lit g 1 (1 + Z) X 3 2 1 M 0 0 false 0 0 0 T 0 1 0 hv w)
    clear hv
    go_wp2_with fail
    refine (V1.out g _ HS.out.qu).mono ?_
    rintro e w5 ⟨rfl, b5⟩
    replace HS := Lib.hid (HS.out.below b5)
    clear b5 hcc V1
    have hcc := cells_cf HS.out.box
    have hqc : ∀ i, w5.cell? ⟨g, i, none⟩ = (#[.int .i64 0, .int .i64 0, .int .i64 (1 + Z), .int .i64 0, .slice none 0 0, .int .i64 0] : Array Value)[i]? := fun i => HS.out.qu.cell i
    go_wp2_with (go_at_call 10; refine (wnum_any _ _).mono ?_; rintro e w' ⟨rfl, rfl⟩)
    go_loop [14] (fun i => ∃ E : Int, i = .int .i64 E ∧ T + 1 ≤ E ∧ E ≤ T + Z + 2) (fun i => (T + Z + 2 - intOf i).toNat)
    case atStart => exact ⟨T + 1, rfl, by omega, by omega⟩
    case round =>
      obtain ⟨E, rfl, e1, e2⟩ := hrel
      by_cases he : E ≤ T + (1 + Z)
      · go_wp2_with fail
        go_round
        case rel => exact ⟨E + 1, by go_num, by omega, by omega⟩
        case measure => simp [intOf]; omega
      · go_wp2_with fail
        go_ret
        exact ⟨ret_bool (decide_eq_true (by omega)), HB.out.trans (HS.out.keep.mono HB.out.size)⟩
  · rw [if_neg hlt] at hv
    have V1 := Lib.hid (fun g w => ver_lit g 1 (1 + Z) X 3 2 1 M 0 0 false 0 0 0 T 0 0 0 hv w)
    clear hv
    go_wp2_with fail
    refine (V1.out g _ HS.out.qu).mono ?_
    rintro e w5 ⟨rfl, b5⟩
    replace HS := Lib.hid (HS.out.below b5)
    clear b5 hcc V1
    have hcc := cells_cf HS.out.box
    have hqc : ∀ i, w5.cell? ⟨g, i, none⟩ = (#[.int .i64 0, .int .i64 0, .int .i64 (1 + Z), .int .i64 0, .slice none 0 0, .int .i64 0] : Array Value)[i]? := fun i => HS.out.qu.cell i
    go_wp2_with (go_at_call 10; refine (wnum_any _ _).mono ?_; rintro e w' ⟨rfl, rfl⟩)
    go_loop [14] (fun i => ∃ E : Int, i = .int .i64 E ∧ T + 1 ≤ E ∧ E ≤ T + Z + 2) (fun i => (T + Z + 2 - intOf i).toNat)
    case atStart => exact ⟨T + 1, rfl, by omega, by omega⟩
    case round =>
      obtain ⟨E, rfl, e1, e2⟩ := hrel
      by_cases he : E ≤ T + (1 + Z)
      · go_wp2_with fail
        go_round
        case rel => exact ⟨E + 1, by go_num, by omega, by omega⟩
        case measure => simp [intOf]; omega
      · go_wp2_with fail
        go_ret
        exact ⟨ret_bool (by rw [decide_eq_false (by omega)]; rfl), HB.out.trans (HS.out.keep.mono HB.out.size)⟩

end Go.Proofs.Ytecdeplcoggjkaa
