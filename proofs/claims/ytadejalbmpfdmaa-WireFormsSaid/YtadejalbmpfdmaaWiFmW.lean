/-
  Walk: WireForms: each part of an operation that may not be (written by gen/wifm.py).
-/
import Derived.Test.YtadejalbmpfdmaaWiUnW
import Derived.Test.YtadejalbmpfdmaaFMask
import Derived.Deep.DeepCutAuto
import Derived.Deep.CutBlock
import Derived.OpenShut
namespace Go.Proofs.Ytadejalbmpfdmaa
open Go.RowKit

/-- What stands behind the switch: an operation that may not be. -/
def OfS (w : World) (g : Nat) (wx : World) : Prop :=
  ∃ kd so se ti va : Int, Has wx g 23 #[.int .i64 kd, .int .i64 so, .int .i64 se, .int .i64 ti, .int .i64 va] ∧ ¬ MayO kd so se ti va ∧ Below w.heap.size w wx
structure OfB (w : World) (g : Nat) (wx : World) : Prop where
  o : Has wx g 23 #[.int .i64 0, .int .i64 7, .int .i64 1048575, .int .i64 1099511627776, .int .i64 (-1099511627776)]
  m : Has wx (g + 1) 23 #[.int .i64 1, .int .i64 0, .int .i64 0, .int .i64 4398046511104, .int .i64 0]
  keep : Below w.heap.size w wx
  le : w.heap.size ≤ g
section
variable {w wx : World} {g : Nat} (S : OfB w g wx)
include S
theorem of_put (kd so se ti va : Int) (i : Nat) (v : Value) (e : (#[.int .i64 0, .int .i64 7, .int .i64 1048575, .int .i64 1099511627776, .int .i64 (-1099511627776)] : Array Value).setIfInBounds i v = #[.int .i64 kd, .int .i64 so, .int .i64 se, .int .i64 ti, .int .i64 va]) (hf : ¬ MayO kd so se ti va) : OfS w g (wx.setCell ⟨g, i, none⟩ v) :=
  ⟨kd, so, se, ti, va, e ▸ S.o.put i v, hf, S.keep.setCell S.le v⟩
theorem of_row (kd so se ti va : Int) (hf : ¬ MayO kd so se ti va) : OfS w g (wx.setRow g #[.int .i64 kd, .int .i64 so, .int .i64 se, .int .i64 ti, .int .i64 va]) :=
  ⟨kd, so, se, ti, va, S.o.row _, hf, below_row S.keep S.le _⟩
theorem of_mark (kd so se ti va : Int) (i : Nat) (v : Value) (e : (#[.int .i64 1, .int .i64 0, .int .i64 0, .int .i64 4398046511104, .int .i64 0] : Array Value).setIfInBounds i v = #[.int .i64 kd, .int .i64 so, .int .i64 se, .int .i64 ti, .int .i64 va]) (hf : ¬ MayO kd so se ti va) : OfS w g ((wx.setRow g #[.int .i64 1, .int .i64 0, .int .i64 0, .int .i64 4398046511104, .int .i64 0]).setCell ⟨g, i, none⟩ v) :=
  ⟨kd, so, se, ti, va, e ▸ (S.o.row _).put i v, hf, (below_row S.keep S.le _).setCell S.le v⟩
end
theorem may_f0 : mayB 0 7 1048575 1099511627776 (-1099511627776) = true := mayB_yes (by unfold MayO; omega)
theorem may_f1 : mayB 1 0 0 4398046511104 0 = true := mayB_yes (by unfold MayO; omega)
theorem may_f2 : mayB 2 0 0 0 0 = true := mayB_yes (by unfold MayO; omega)

set_option maxRecDepth 100000 in
set_option maxHeartbeats 4000000 in
theorem wforms_any (a0 a1 : Int) (w : World) (w0 : (Lit.int .i64 a0).wf = true) (_ : (Lit.int .i64 a1).wf = true) :
    Calls Try.prog 5 #[.int .i64 a0, .int .i64 a1] w fun e w' => e = .returned (.bool true) ∧ Below w.heap.size w w' := by
  have b0 := bounds_i64 w0
  obtain ⟨d, hd5, hd3, hd4⟩ : ∃ d : Int, bits .and .i64 a1 1023 = d ∧ 0 ≤ d ∧ d ≤ 1023 := ⟨_, mask1023 a1, by omega, by omega⟩
  have HA := Lib.hid (fun w : World => awake_any w)
  have M0 := Lib.hid (fun w : World => may_any 0 7 1048575 1099511627776 (-1099511627776) true may_f0 w)
  have M1 := Lib.hid (fun w : World => may_any 1 0 0 4398046511104 0 true may_f1 w)
  have M2 := Lib.hid (fun w : World => may_any 2 0 0 0 0 true may_f2 w)
  go_enter Try.func5, Try.ntmps5
  go_wp2_with fail
  refine (HA.out _).mono ?_
  rintro e w2 ⟨rfl, hb2⟩
  go_wp2_with fail
  have hS : ∀ (o1 o2 : Array Value), o1 = #[.int .i64 0, .int .i64 7, .int .i64 1048575, .int .i64 1099511627776, .int .i64 (-1099511627776)] → o2 = #[.int .i64 1, .int .i64 0, .int .i64 0, .int .i64 4398046511104, .int .i64 0] → OfB w w2.heap.size ((w2.alloc (.cells o1 23)).alloc (.cells o2 23)) := fun o1 o2 e1 e2 => by
    subst e1
    subst e2
    refine ⟨(Has.made w2 _ _).alloc _, ?_, (hb2.alloc hb2.size _).alloc (by have := hb2.size; simp; omega) _, hb2.size⟩
    have := Has.made (w2.alloc (.cells #[.int .i64 0, .int .i64 7, .int .i64 1048575, .int .i64 1099511627776, .int .i64 (-1099511627776)] 23)) 23 #[.int .i64 1, .int .i64 0, .int .i64 0, .int .i64 4398046511104, .int .i64 0]
    simpa using this
  have S0 := Lib.hid (hS _ _ rfl rfl); clear hS hb2
  refine (M0.out _).mono ?_
  rintro e w3 ⟨rfl, hb3⟩
  have S1 : OfB w w2.heap.size w3 := ⟨S0.out.o.below hb3 S0.out.o.lt, S0.out.m.below hb3 S0.out.m.lt, S0.out.keep.trans (hb3.mono S0.out.keep.size), S0.out.le⟩
  clear hb3 S0
  generalize w2.heap.size = g at S1 ⊢
  go_wp2_with (refine load_op rfl _ rfl _ rfl S1.m ?_)
  refine (M1.out _).mono ?_
  rintro e w4 ⟨rfl, hb4⟩
  have S2 : OfB w g w4 := ⟨S1.o.below hb4 S1.o.lt, S1.m.below hb4 S1.m.lt, S1.keep.trans (hb4.mono S1.keep.size), S1.le⟩
  clear hb4 S1
  go_wp2_with fail
  refine (M2.out _).mono ?_
  rintro e w5 ⟨rfl, hb5⟩
  have S : OfB w g w5 := ⟨S2.o.below hb5 S2.o.lt, S2.m.below hb5 S2.m.lt, S2.keep.trans (hb5.mono S2.keep.size), S2.le⟩
  clear hb5 S2 HA M0 M1 M2
  go_upto_block 0 with fail
  obtain ⟨k, hk, ek⟩ : ∃ k : Nat, k < 16 ∧ (IntKind.u64.wrap a0).tmod 16 = k := by
    have h : 0 ≤ IntKind.u64.wrap a0 := by simp [IntKind.wrap, IntKind.bits, IntKind.signed]; omega
    have e : (IntKind.u64.wrap a0).tmod 16 = IntKind.u64.wrap a0 % 16 := Int.tmod_eq_emod_of_nonneg h
    exact ⟨(IntKind.u64.wrap a0 % 16).toNat, by omega, by omega⟩
  rw [ek]
  clear ek
  go_cut [] (fun wx => Hid (OfS w g wx))
  case first =>
    have cQ : ∀ i, w5.cell? ⟨g, i, none⟩ = (#[.int .i64 0, .int .i64 7, .int .i64 1048575, .int .i64 1099511627776, .int .i64 (-1099511627776)] : Array Value)[i]? := fun i => S.o.cell i
    have mQ : ∀ i, w5.frozen? ⟨g, i, none⟩ = false := fun i => S.o.mark i
    have cR : ∀ i, (w5.setRow g #[.int .i64 1, .int .i64 0, .int .i64 0, .int .i64 4398046511104, .int .i64 0]).cell? ⟨g, i, none⟩ = (#[.int .i64 1, .int .i64 0, .int .i64 0, .int .i64 4398046511104, .int .i64 0] : Array Value)[i]? := fun i => (S.o.row _).cell i
    have mR : ∀ i, (w5.setRow g #[.int .i64 1, .int .i64 0, .int .i64 0, .int .i64 4398046511104, .int .i64 0]).frozen? ⟨g, i, none⟩ = false := fun i => (S.o.row #[.int .i64 1, .int .i64 0, .int .i64 0, .int .i64 4398046511104, .int .i64 0]).mark i
    have hk16 : k = 0 ∨ k = 1 ∨ k = 2 ∨ k = 3 ∨ k = 4 ∨ k = 5 ∨ k = 6 ∨ k = 7 ∨ k = 8 ∨ k = 9 ∨ k = 10 ∨ k = 11 ∨ k = 12 ∨ k = 13 ∨ k = 14 ∨ k = 15 := by omega
    clear hk
    have HS := Lib.hid S; clear S
    rcases hk16 with rfl | rfl | rfl | rfl | rfl | rfl | rfl | rfl | rfl | rfl | rfl | rfl | rfl | rfl | rfl | rfl
    · go_wp2_with fail
      go_meet
      case rel => exact of_put HS.out (3) 7 1048575 1099511627776 (-1099511627776) 0 _ rfl (by unfold MayO; omega)
    · go_wp2_with fail
      go_meet
      case rel => exact of_put HS.out (3 + (1 + d)) 7 1048575 1099511627776 (-1099511627776) 0 _ rfl (by unfold MayO; omega)
    · go_wp2_with fail
      go_meet
      case rel => exact of_put HS.out (-(1 + d)) 7 1048575 1099511627776 (-1099511627776) 0 _ rfl (by unfold MayO; omega)
    · go_wp2_with fail
      go_meet
      case rel => exact of_put HS.out 0 (7 + (1 + d)) 1048575 1099511627776 (-1099511627776) 1 _ rfl (by unfold MayO; omega)
    · go_wp2_with fail
      go_meet
      case rel => exact of_put HS.out 0 (-(1 + d)) 1048575 1099511627776 (-1099511627776) 1 _ rfl (by unfold MayO; omega)
    · go_wp2_with fail
      go_meet
      case rel => exact of_put HS.out 0 7 (1048575 + (1 + d)) 1099511627776 (-1099511627776) 2 _ rfl (by unfold MayO; omega)
    · go_wp2_with fail
      go_meet
      case rel => exact of_put HS.out 0 7 (-(1 + d)) 1099511627776 (-1099511627776) 2 _ rfl (by unfold MayO; omega)
    · go_wp2_with fail
      go_meet
      case rel => exact of_put HS.out 0 7 1048575 (1099511627776 + (1 + d)) (-1099511627776) 3 _ rfl (by unfold MayO; omega)
    · go_wp2_with fail
      go_meet
      case rel => exact of_put HS.out 0 7 1048575 (-1099511627776 - (1 + d)) (-1099511627776) 3 _ rfl (by unfold MayO; omega)
    · go_wp2_with fail
      go_meet
      case rel => exact of_put HS.out 0 7 1048575 1099511627776 (1099511627776 + (1 + d)) 4 _ rfl (by unfold MayO; omega)
    · go_wp2_with (first
        | (refine load_op rfl _ rfl _ rfl HS.out.m ?_)
        | (refine store_op rfl _ _ rfl _ rfl rfl HS.out.o rfl ?_))
      go_meet
      case rel => exact of_mark HS.out 1 0 0 (4398046511104 + (1 + d)) 0 3 _ rfl (by unfold MayO; omega)
    · go_wp2_with (first
        | (refine load_op rfl _ rfl _ rfl HS.out.m ?_)
        | (refine store_op rfl _ _ rfl _ rfl rfl HS.out.o rfl ?_))
      go_meet
      case rel => exact of_mark HS.out 1 0 0 (-4398046511104) 0 3 _ rfl (by unfold MayO; omega)
    · go_wp2_with (first
        | (refine load_op rfl _ rfl _ rfl HS.out.m ?_)
        | (refine store_op rfl _ _ rfl _ rfl rfl HS.out.o rfl ?_))
      go_meet
      case rel => exact of_mark HS.out 1 0 (1 + d) 4398046511104 0 2 _ rfl (by unfold MayO; omega)
    · go_wp2_with (first
        | (refine load_op rfl _ rfl _ rfl HS.out.m ?_)
        | (refine store_op rfl _ _ rfl _ rfl rfl HS.out.o rfl ?_))
      go_meet
      case rel => exact of_mark HS.out 1 0 0 4398046511104 (1 + d) 4 _ rfl (by unfold MayO; omega)
    · go_wp2_with (refine store_op rfl _ _ rfl _ rfl rfl HS.out.o rfl ?_)
      go_meet
      case rel => exact of_row HS.out (2) (1 + d) (0) (0) (0) (by unfold MayO; omega)
    · go_wp2_with (refine store_op rfl _ _ rfl _ rfl rfl HS.out.o rfl ?_)
      go_meet
      case rel => exact of_row HS.out (2) (0) (0) (0) (1 + d) (by unfold MayO; omega)
  case rest =>
    clear S
    obtain ⟨kd, so, se, ti, va, hO, hno, hB0⟩ := hcut.out
    clear hcut
    have HO := Lib.hid hO; clear hO
    have HB := Lib.hid hB0; clear hB0
    have HP := Lib.hid (fun w : World => wput_any kd so se ti va _ _ (putO_no hno) w)
    have HM := Lib.hid (fun w : World => may_any kd so se ti va false (mayB_no hno) w)
    clear hno
    go_wp2_with (refine load_op rfl _ rfl _ rfl HO.out ?_)
    refine (HP.out _).mono ?_
    rintro e w6 ⟨rfl, hb6⟩
    have HO6 := Lib.hid (HO.out.below hb6 HO.out.lt)
    have HB6 := Lib.hid (HB.out.trans (hb6.mono HB.out.size))
    clear hb6 HO HB HP
    go_wp2_with (refine load_op rfl _ rfl _ rfl HO6.out ?_)
    refine (HM.out _).mono ?_
    rintro e w7 ⟨rfl, hb7⟩
    have HB7 := Lib.hid (HB6.out.trans (hb7.mono HB6.out.size))
    clear hb7 HO6 HB6 HM
    go_wp2_with (go_at_call 11; refine (num_any _ _).mono ?_; rintro e w' ⟨rfl, rfl⟩)
    go_ret
    exact ⟨rfl, HB7.out⟩

end Go.Proofs.Ytadejalbmpfdmaa
