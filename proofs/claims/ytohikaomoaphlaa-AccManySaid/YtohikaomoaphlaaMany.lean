/-
  Walk: AccMany: one item doubled, as often as may be, and once more.
-/
import Derived.Test.YtohikaomoaphlaaLaw
import Derived.Deep.DeepCutAuto
import Derived.OpenShut
namespace Go.Proofs.Ytohikaomoaphlaa
open Go.RowKit

/-- c items, each at time 1 with number 1 and value v. -/
def likeAc (c v : Int) : Ac := ⟨c, c * v, v, v, ⟨0, 1, 1, v⟩, ⟨0, 1, 1, v⟩, [c]⟩
theorem like_one {v : Int} : oneAc ⟨0, 1, 1, v⟩ [] = likeAc 1 v := by simp [oneAc, likeAc, bkt]
theorem like_join (c v : Int) (h : 1 ≤ c) : joinAc [] [likeAc c v, likeAc c v] = likeAc (2 * c) v := by
  have h1 : ¬ c = 0 := by omega
  have e : c * v + c * v = 2 * c * v := by rw [show 2 * c = c + c by omega, Int.add_mul]
  have e2 : c + c = 2 * c := by omega
  simp [joinAc, joinStep, likeAc, addAc, pick, h1, nth, e, e2]
theorem like_fit (c v : Int) (h : 1 ≤ c ∧ c ≤ 8192) (hv : -1000 ≤ v ∧ v ≤ 1000) : fitB (likeAc c v) 1 = true := by
  have h1 : ¬ c = 0 := by omega
  have hi : itemB ⟨0, 1, 1, v⟩ = true := itemB_iff.2 (by simp only; omega)
  have e1 : wi c 0 8192 = true := wi_mk (by omega)
  have e2 : histB (likeAc c v) 1 = true := decide_eq_true ⟨rfl, fun i hi => by
    obtain rfl : i = 0 := by simp [likeAc] at hi; exact hi
    simp only [likeAc, nth_cons_zero]; omega, by simp [likeAc, isum]⟩
  have e3 : endsB (likeAc c v) = true := decide_eq_true ⟨hi, hi, rfl, by simp [likeAc, beforeB]⟩
  have e4 : valsB (likeAc c v) = true := decide_eq_true (by simp only [likeAc]; omega)
  have e5 : wi (likeAc c v).n 0 8192 = true := e1
  have h2 : ¬ (likeAc c v).n = 0 := h1
  unfold fitB
  rw [e5, e2, e3, e4, if_neg h2]
  rfl
theorem like_tog (c v : Int) (h : 1 ≤ c ∧ c ≤ 8192) (hv : -1000 ≤ v ∧ v ≤ 1000) : togB 1 (-1) [likeAc c v, likeAc c v] = true := by
  have f := like_fit c v h hv
  have hn : ¬ (likeAc c v).n = 0 := by simp only [likeAc]; omega
  simp [togB, f, hn]
theorem like_may (c v : Int) (h : 1 ≤ c ∧ c ≤ 8192) (hv : -1000 ≤ v ∧ v ≤ 1000) : accB (likeAc c v) [] = true := by
  have e : boundsB [] = true := by decide
  have f := like_fit c v h hv
  unfold accB
  rw [e]
  exact f
theorem like_total (c v : Int) : totalA [likeAc c v, likeAc c v] = 2 * c := by simp [totalA, isum, likeAc]; omega
theorem low16 (a : Int) : ∃ k : Nat, k ≤ 15 ∧ wrap64 ((IntKind.u64.wrap a).tmod 16) = k := by
  have h : 0 ≤ IntKind.u64.wrap a := by simp [IntKind.wrap, IntKind.bits, IntKind.signed]; omega
  have e : (IntKind.u64.wrap a).tmod 16 = IntKind.u64.wrap a % 16 := Int.tmod_eq_emod_of_nonneg h
  rw [e]
  refine ⟨(IntKind.u64.wrap a % 16).toNat, by omega, ?_⟩
  rw [IntWalk.wrap64_in _ ⟨by omega, by omega⟩]
  omega
theorem rem1000 (a : Int) : -1000 ≤ a.tmod 1000 ∧ a.tmod 1000 ≤ 1000 := by
  have h1 := Int.tmod_lt_of_pos a (show (0 : Int) < 1000 by decide)
  have h2 := Int.lt_tmod_of_pos a (show (0 : Int) < 1000 by decide)
  omega

set_option maxHeartbeats 4000000 in
theorem many_any (a0 a1 : Int) (w0 : (Lit.int .i64 a0).wf = true) (w1 : (Lit.int .i64 a1).wf = true) (w : World) :
    Calls Try.prog 8 #[.int .i64 a0, .int .i64 a1] w fun e w' => e = .returned (.bool true) ∧ Below w.heap.size w w' := by
  have b0 := bounds_i64 w0
  have b1 := bounds_i64 w1
  go_enter Try.func8, Try.ntmps8
  go_wp2_with fail
  refine (awake_any _).mono ?_
  rintro e w1 ⟨rfl, hB0⟩
  go_upto_region 5 with fail
  obtain ⟨k, hk, ek⟩ := low16 a0
  have hv := rem1000 a1
  rw [ek]
  clear ek
  generalize a1.tmod 1000 = v at hv ⊢
  generalize wrap64 ((IntKind.u64.wrap a0).tmod 16) = junk
  obtain ⟨v1, v2⟩ := hv
  go_wp2_with fail
  refine (mkItem_any _ _ _ _ _).mono ?_
  rintro e w2 ⟨rfl, hb2⟩
  have hB2 := hB0.trans (hb2.mono hB0.size)
  clear hb2
  go_wp2_with fail
  have hC := one_ok ⟨0, 1, 1, v⟩ none 0 0 [] w2 Ints.nil (itemB_iff.2 (by simp only; omega)) (by decide)
  rw [like_one] at hC
  refine hC.mono ?_
  clear hC
  rintro e w3 ⟨y, hy, rfl, hh, hb3⟩
  have hB3 := hB2.trans (hb3.mono hB2.size)
  clear hb3 hB2 hy
  go_upto_region 6 with (refine store_new rfl _ _ rfl rfl rfl rfl ?_; intro wn hbn hvn)
  have hB4 := hB3.trans (hbn.mono hB3.size)
  have hgs : w.heap.size ≤ w3.heap.size := hB3.size
  have hh4 := has_below hh hbn
  clear hbn hB3 hB0 hh
  generalize w3.heap.size = g at hvn hgs ⊢
  have VA : V wn g y (likeAc 1 v) := ⟨hvn, hh4⟩
  clear hvn hh4
  have HV := Lib.hid VA; clear VA
  have HB := Lib.hid hB4; clear hB4
  go_wp2_with (go_at_call 17; refine (num_any _ _).mono ?_; rintro e w' ⟨rfl, rfl⟩)
  go_loopw [9, 10] (fun m i wr => ∃ (j : Nat) (c : Int), j ≤ k ∧ i = .int .i64 j ∧ m = .int .i64 c ∧ 1 ≤ c ∧ c ≤ 8192 ∧ Hid (∃ y, V wr g y (likeAc c v)) ∧ Hid (Below w.heap.size w wr)) (fun _ i _ => k - (intOf i).toNat)
  case atStart => exact ⟨0, 1, Nat.zero_le _, rfl, rfl, by omega, by omega, ⟨y, HV.out⟩, HB⟩
  case round =>
    obtain ⟨j, c, hj, rfl, rfl, c1, c2, HV2, HW⟩ := hrel
    by_cases hlt : j < k
    · obtain ⟨y2, hv2⟩ := HV2.out
      go_wp2_with (first | (refine load_has rfl _ rfl _ rfl hv2.cells ?_) | (refine lit2 rfl _ _ rfl rfl rfl ?_; intro wl hbl hvl))
      have hv3 := hv2.below hbl
      have hW3 := HW.out.trans (hbl.mono HW.out.size)
      have hL := accs_two hvl rfl hv3.ints hv3.ints ⟨Nat.le_refl _, by simp [likeAc, maxLen]⟩ ⟨Nat.le_refl _, by simp [likeAc, maxLen]⟩
      have hgl : g < wr.heap.size := hv2.cells.lt
      clear hbl hvl hv2 HV2
      by_cases hbig : 2 * c ≤ 8192
      · have hC := join_ok none 0 0 [] _ 2 2 [likeAc c v, likeAc c v] wl Ints.nil hL (by omega) (by decide) (like_tog c v ⟨c1, c2⟩ ⟨v1, v2⟩) (by rw [like_total]; exact hbig)
        rw [like_join c v c1] at hC
        refine hC.mono ?_
        clear hC hL
        rintro e w5 ⟨y5, hy5, rfl, hh5, hb5⟩
        have hW5 := hW3.trans (hb5.mono hW3.size)
        have hv5 := hv3.below hb5
        clear hb5 hv3 hW3
        go_upto_region 13 with (refine store_new rfl _ _ rfl rfl rfl rfl ?_; intro wn hbn hvn)
        have hW6 := hW5.trans (hbn.mono hW5.size)
        have hh6 := has_below hh5 hbn
        have hv6 := hv5.below hbn
        have hgn : g < w5.heap.size := hv5.cells.lt
        clear hbn hW5 hh5 hv5 hy5
        generalize w5.heap.size = g5 at hvn hgn ⊢
        have VB : V wn g5 y5 (likeAc (2 * c) v) := ⟨hvn, hh6⟩
        clear hvn hh6
        have hc0 : wn.cell? ⟨g5, 0, none⟩ = some (.int .i64 (2 * c)) := VB.cells.cell 0
        have hc1 : wn.cell? ⟨g5, 1, none⟩ = some (.int .i64 (2 * c * v)) := VB.cells.cell 1
        have m1 : -8192000 ≤ 2 * c * v ∧ 2 * c * v ≤ 8192000 := by
          have p1 := Int.mul_le_mul_of_nonneg_left v2 (show 0 ≤ 2 * c by omega)
          have p2 := Int.mul_le_mul_of_nonneg_left v1 (show 0 ≤ 2 * c by omega)
          omega
        obtain ⟨m2, m3⟩ := m1
        have hw6 : w.heap.size ≤ g5 := by omega
        have hm := like_may (2 * c) v ⟨by omega, hbig⟩ ⟨v1, v2⟩
        have HV6 := Lib.hid hv6; clear hv6
        have HVB := Lib.hid VB; clear VB
        have HW6 := Lib.hid hW6; clear hW6
        go_wp2_with (first | (go_at_call 17; refine (num_any _ _).mono ?_; rintro e w' ⟨rfl, rfl⟩) | (refine load_hasG rfl _ rfl _ rfl HVB.out.cells ?_))
        refine (may_any (likeAc (2 * c) v) _ 1 1 none 0 0 [] _ HVB.out.ints Ints.nil (by unfold maxLen; omega) (by unfold maxLen; omega)).mono ?_
        rintro e w7 ⟨rfl, hb7⟩
        have HV7 : Hid (V w7 g y2 (likeAc c v)) := HV6.out.below hb7
        have HB7 : Hid (V w7 g5 y5 (likeAc (2 * c) v)) := HVB.out.below hb7
        have HW7 : Hid (Below w.heap.size w w7) := HW6.out.trans (hb7.mono HW6.out.size)
        clear hb7 HW6 HVB HV6
        go_wp2_with (first | (refine load_has rfl _ rfl _ rfl HB7.out.cells ?_) | (refine store_has rfl _ _ rfl g rfl rfl HV7.out.cells rfl ?_))
        have HV8 : Hid (∃ y, V (w7.setRow g (accC (likeAc (2 * c) v) (some ⟨y5, 0, none⟩) (likeAc (2 * c) v).h.length (likeAc (2 * c) v).h.length)) g y (likeAc (2 * c) v)) :=
          ⟨y5, HV7.out.cells.row _, HB7.out.hist.rowFar (by have a1 := HV7.out.cells; have a2 := HB7.out.hist; intro e; rw [e] at a2; exact has_types a1 a2 (by decide)) _⟩
        have HW8 := Lib.hid (below_row HW7.out hgs (accC (likeAc (2 * c) v) (some ⟨y5, 0, none⟩) (likeAc (2 * c) v).h.length (likeAc (2 * c) v).h.length))
        go_roundw
        case rel => exact ⟨j + 1, 2 * c, by omega, by go_num, rfl, by omega, by omega, HV8, HW8⟩
        case measure => simp [intOf]; omega
      · have hC := join_total none 0 0 [] _ 2 2 [likeAc c v, likeAc c v] wl Ints.nil hL (by omega) (by decide) (like_tog c v ⟨c1, c2⟩ ⟨v1, v2⟩) (by rw [like_total]; omega)
        refine hC.mono ?_
        clear hC hL
        rintro e w5 ⟨rfl, hb5⟩
        have hW5 := hW3.trans (hb5.mono hW3.size)
        clear hb5 hv3 hW3
        go_upto_region 13 with (refine store_new rfl _ _ rfl rfl rfl rfl ?_; intro wn hbn hvn)
        have hW6 := hW5.trans (hbn.mono hW5.size)
        have hc0 : wn.cell? ⟨w5.heap.size, 0, none⟩ = some (.int .i64 0) := hvn.cell 0
        have HW6 := Lib.hid hW6; clear hW6 hvn hbn hW5
        go_wp2_with (first | (go_at_call 17; refine (num_any _ _).mono ?_; rintro e w' ⟨rfl, rfl⟩))
        go_ret
        exact ⟨rfl, HW6.out⟩
    · go_wp2
      go_ret
      exact ⟨rfl, HW.out⟩

end Go.Proofs.Ytohikaomoaphlaa
