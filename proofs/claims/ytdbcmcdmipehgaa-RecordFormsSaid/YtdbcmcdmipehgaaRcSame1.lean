/-
  Walks: the laws' helpers SameResults of two rows of one like result.
-/
import Derived.Test.YtdbcmcdmipehgaaRcSameR
namespace Go.Proofs.Ytdbcmcdmipehgaa
open Go.RowKit

set_option maxRecDepth 100000 in
set_option maxHeartbeats 1000000 in
theorem sameres_one (qu sr st en va : Int) (ov : Bool) (A B : Option Addr) (n c d b1 b2 : Nat) (hs : List Int) (w : World) (x1 : Has w b1 28 (resC qu sr st en va ov A n c)) (x2 : Has w b2 28 (resC qu sr st en va ov B n d)) (i1 : Ints w A n hs) (i2 : Ints w B n hs) (hn : n ≤ maxLen) :
    Calls Try.prog 25 #[.slice (some ⟨b1, 0, none⟩) 1 1, .slice (some ⟨b2, 0, none⟩) 1 1] w fun e w' => e = .returned (.bool true) ∧ Below w.heap.size w w' := by
  have X1 := Lib.hid x1
  have X2 := Lib.hid x2
  have I1 := Lib.hid i1
  have I2 := Lib.hid i2
  have HN := Lib.hid hn
  clear x1 x2 i1 i2 hn
  go_enter Try.func25, Try.ntmps25
  go_wp2_with fail
  go_loopw [5] (fun i wr => ∃ j : Nat, j ≤ 1 ∧ i = .int .i64 j ∧ Hid (Below w.heap.size w wr)) (fun i _ => 1 - (intOf i).toNat)
  case atStart => exact ⟨0, Nat.zero_le _, rfl, Lib.hid (Below.refl _ _)⟩
  case round =>
    obtain ⟨j, hj, rfl, HW⟩ := hrel
    obtain rfl | rfl : j = 0 ∨ j = 1 := by omega
    · go_upto_region 6 with fail
      refine rsr_any (qu := qu) (sr := sr) (st := st) (en := en) (va := va) (ov := ov) (A := A) (B := B) (n := n) (c := c) (d := d) (b1 := b1) (b2 := b2) (hs := hs) ⟨rfl, rfl, rfl, rfl, X1.out.below HW.out X1.out.lt, X2.out.below HW.out X2.out.lt, I1.out.below HW.out, I2.out.below HW.out, HN.out⟩ (by kernel_rfl) ?_
      intro w9 hB9
      have HB9 := Lib.hid (HW.out.trans (hB9.mono HW.out.size))
      clear hB9 X1 X2 I1 I2 HN HW
      simp only [putAll, Act.put, List.setIfInBounds_toArray, List.set_cons_succ, List.set_cons_zero]
      go_wp2_with fail
      go_roundw
      case rel => exact ⟨1, by omega, by go_num, HB9⟩
      case measure => simp [intOf]
    · go_wp2_with fail
      go_ret
      exact ⟨rfl, HW.out⟩

end Go.Proofs.Ytdbcmcdmipehgaa
