/-
  Walk: AdmitRows (written by gen/adrows.py).
-/
import Derived.Test.YtecdeplcoggjkaaAdAwake
namespace Go.Proofs.Ytecdeplcoggjkaa
open Go.RowKit

set_option maxRecDepth 100000 in
set_option maxHeartbeats 2000000 in
theorem arows_0000 (w : World) : Calls Try.prog 6 #[.bool false, .bool false, .bool false, .bool false] w fun e w' => e = .returned (.bool true) ∧ Below w.heap.size w w' := by
  have V1 := Lib.hid (fun g w => ver_lit g 1 10 5 3 2 1 10 0 1 true 0 0 9 50 0 0 0 (by decide) w)
  have V2 := Lib.hid (fun g w => ver_lit g 1 10 5 3 2 1 10 0 1 true 2 0 0 0 0 4 0 (by decide) w)
  go_enter Try.func6, Try.ntmps6
  go_wp2_with fail
  refine (aawake_any _).mono ?_
  rintro e w1 ⟨rfl, b1⟩
  have HB : Hid (Below w.heap.size w w1) := b1
  clear b1
  go_wp2_with fail
  refine (count_any 5 3 w1).mono ?_
  rintro e w2 ⟨g, rfl, g1, g2, g3⟩
  have HS := Lib.hid ((CoS.made (la := 5) (ro := 3) g1 g2 g3).below ((Below.refl _ _).alloc (Nat.le_refl _) (.cells #[.int .i64 0, .int .i64 0, .int .i64 9, .int .i64 50, .int .i64 0] 26)))
  clear g1 g2 g3
  go_wp2_with fail
  refine (V1.out g _ HS.out.qu).mono ?_
  rintro e w3 ⟨rfl, b3⟩
  replace HS := Lib.hid (HS.out.below b3)
  have hcc := cells_cf HS.out.box
  clear b3 V1
  go_wp2_with fail
  refine (V2.out g _ HS.out.qu).mono ?_
  rintro e w4 ⟨rfl, b4⟩
  replace HS := Lib.hid (HS.out.below b4)
  clear b4 V2 hcc
  go_wp2_with (go_at_call 10; refine (wnum_any _ _).mono ?_; rintro e w' ⟨rfl, rfl⟩)
  go_ret
  exact ⟨rfl, HB.out.trans (HS.out.keep.mono HB.out.size)⟩

set_option maxRecDepth 100000 in
set_option maxHeartbeats 2000000 in
theorem arows_0001 (w : World) : Calls Try.prog 6 #[.bool false, .bool false, .bool false, .bool true] w fun e w' => e = .returned (.bool true) ∧ Below w.heap.size w w' := by
  have V1 := Lib.hid (fun g w => ver_lit g 1 10 5 3 2 1 10 3 1 true 0 0 9 50 0 2 0 (by decide) w)
  have V2 := Lib.hid (fun g w => ver_lit g 1 10 5 3 2 1 10 3 1 true 2 0 0 0 0 4 0 (by decide) w)
  go_enter Try.func6, Try.ntmps6
  go_wp2_with fail
  refine (aawake_any _).mono ?_
  rintro e w1 ⟨rfl, b1⟩
  have HB : Hid (Below w.heap.size w w1) := b1
  clear b1
  go_wp2_with fail
  refine (count_any 5 3 w1).mono ?_
  rintro e w2 ⟨g, rfl, g1, g2, g3⟩
  have HS := Lib.hid ((CoS.made (la := 5) (ro := 3) g1 g2 g3).below ((Below.refl _ _).alloc (Nat.le_refl _) (.cells #[.int .i64 0, .int .i64 0, .int .i64 9, .int .i64 50, .int .i64 0] 26)))
  clear g1 g2 g3
  go_wp2_with fail
  refine (V1.out g _ HS.out.qu).mono ?_
  rintro e w3 ⟨rfl, b3⟩
  replace HS := Lib.hid (HS.out.below b3)
  have hcc := cells_cf HS.out.box
  clear b3 V1
  go_wp2_with fail
  refine (V2.out g _ HS.out.qu).mono ?_
  rintro e w4 ⟨rfl, b4⟩
  replace HS := Lib.hid (HS.out.below b4)
  clear b4 V2 hcc
  go_wp2_with (go_at_call 10; refine (wnum_any _ _).mono ?_; rintro e w' ⟨rfl, rfl⟩)
  go_ret
  exact ⟨rfl, HB.out.trans (HS.out.keep.mono HB.out.size)⟩

set_option maxRecDepth 100000 in
set_option maxHeartbeats 2000000 in
theorem arows_0010 (w : World) : Calls Try.prog 6 #[.bool false, .bool false, .bool true, .bool false] w fun e w' => e = .returned (.bool true) ∧ Below w.heap.size w w' := by
  have V1 := Lib.hid (fun g w => ver_lit g 1 10 5 3 2 1 10 0 2 false 0 0 9 50 0 3 0 (by decide) w)
  have V2 := Lib.hid (fun g w => ver_lit g 1 10 5 3 2 1 10 0 2 false 2 0 0 0 0 4 0 (by decide) w)
  go_enter Try.func6, Try.ntmps6
  go_wp2_with fail
  refine (aawake_any _).mono ?_
  rintro e w1 ⟨rfl, b1⟩
  have HB : Hid (Below w.heap.size w w1) := b1
  clear b1
  go_wp2_with fail
  refine (count_any 5 3 w1).mono ?_
  rintro e w2 ⟨g, rfl, g1, g2, g3⟩
  have HS := Lib.hid ((CoS.made (la := 5) (ro := 3) g1 g2 g3).below ((Below.refl _ _).alloc (Nat.le_refl _) (.cells #[.int .i64 0, .int .i64 0, .int .i64 9, .int .i64 50, .int .i64 0] 26)))
  clear g1 g2 g3
  go_wp2_with fail
  refine (V1.out g _ HS.out.qu).mono ?_
  rintro e w3 ⟨rfl, b3⟩
  replace HS := Lib.hid (HS.out.below b3)
  have hcc := cells_cf HS.out.box
  clear b3 V1
  go_wp2_with fail
  refine (V2.out g _ HS.out.qu).mono ?_
  rintro e w4 ⟨rfl, b4⟩
  replace HS := Lib.hid (HS.out.below b4)
  clear b4 V2 hcc
  go_wp2_with (go_at_call 10; refine (wnum_any _ _).mono ?_; rintro e w' ⟨rfl, rfl⟩)
  go_ret
  exact ⟨rfl, HB.out.trans (HS.out.keep.mono HB.out.size)⟩

set_option maxRecDepth 100000 in
set_option maxHeartbeats 2000000 in
theorem arows_0011 (w : World) : Calls Try.prog 6 #[.bool false, .bool false, .bool true, .bool true] w fun e w' => e = .returned (.bool true) ∧ Below w.heap.size w w' := by
  have V1 := Lib.hid (fun g w => ver_lit g 1 10 5 3 2 1 10 3 2 false 0 0 9 50 0 3 0 (by decide) w)
  have V2 := Lib.hid (fun g w => ver_lit g 1 10 5 3 2 1 10 3 2 false 2 0 0 0 0 4 0 (by decide) w)
  go_enter Try.func6, Try.ntmps6
  go_wp2_with fail
  refine (aawake_any _).mono ?_
  rintro e w1 ⟨rfl, b1⟩
  have HB : Hid (Below w.heap.size w w1) := b1
  clear b1
  go_wp2_with fail
  refine (count_any 5 3 w1).mono ?_
  rintro e w2 ⟨g, rfl, g1, g2, g3⟩
  have HS := Lib.hid ((CoS.made (la := 5) (ro := 3) g1 g2 g3).below ((Below.refl _ _).alloc (Nat.le_refl _) (.cells #[.int .i64 0, .int .i64 0, .int .i64 9, .int .i64 50, .int .i64 0] 26)))
  clear g1 g2 g3
  go_wp2_with fail
  refine (V1.out g _ HS.out.qu).mono ?_
  rintro e w3 ⟨rfl, b3⟩
  replace HS := Lib.hid (HS.out.below b3)
  have hcc := cells_cf HS.out.box
  clear b3 V1
  go_wp2_with fail
  refine (V2.out g _ HS.out.qu).mono ?_
  rintro e w4 ⟨rfl, b4⟩
  replace HS := Lib.hid (HS.out.below b4)
  clear b4 V2 hcc
  go_wp2_with (go_at_call 10; refine (wnum_any _ _).mono ?_; rintro e w' ⟨rfl, rfl⟩)
  go_ret
  exact ⟨rfl, HB.out.trans (HS.out.keep.mono HB.out.size)⟩

set_option maxRecDepth 100000 in
set_option maxHeartbeats 2000000 in
theorem arows_0100 (w : World) : Calls Try.prog 6 #[.bool false, .bool true, .bool false, .bool false] w fun e w' => e = .returned (.bool true) ∧ Below w.heap.size w w' := by
  have V1 := Lib.hid (fun g w => ver_lit g 1 10 5 3 2 1 10 0 1 true 0 0 9 4 0 1 0 (by decide) w)
  have V2 := Lib.hid (fun g w => ver_lit g 1 10 5 3 2 1 10 0 1 true 2 0 0 0 0 4 0 (by decide) w)
  go_enter Try.func6, Try.ntmps6
  go_wp2_with fail
  refine (aawake_any _).mono ?_
  rintro e w1 ⟨rfl, b1⟩
  have HB : Hid (Below w.heap.size w w1) := b1
  clear b1
  go_wp2_with fail
  refine (count_any 5 3 w1).mono ?_
  rintro e w2 ⟨g, rfl, g1, g2, g3⟩
  have HS := Lib.hid ((CoS.made (la := 5) (ro := 3) g1 g2 g3).below ((Below.refl _ _).alloc (Nat.le_refl _) (.cells #[.int .i64 0, .int .i64 0, .int .i64 9, .int .i64 4, .int .i64 0] 26)))
  clear g1 g2 g3
  go_wp2_with fail
  refine (V1.out g _ HS.out.qu).mono ?_
  rintro e w3 ⟨rfl, b3⟩
  replace HS := Lib.hid (HS.out.below b3)
  have hcc := cells_cf HS.out.box
  clear b3 V1
  go_wp2_with fail
  refine (V2.out g _ HS.out.qu).mono ?_
  rintro e w4 ⟨rfl, b4⟩
  replace HS := Lib.hid (HS.out.below b4)
  clear b4 V2 hcc
  go_wp2_with (go_at_call 10; refine (wnum_any _ _).mono ?_; rintro e w' ⟨rfl, rfl⟩)
  go_ret
  exact ⟨rfl, HB.out.trans (HS.out.keep.mono HB.out.size)⟩

set_option maxRecDepth 100000 in
set_option maxHeartbeats 2000000 in
theorem arows_0101 (w : World) : Calls Try.prog 6 #[.bool false, .bool true, .bool false, .bool true] w fun e w' => e = .returned (.bool true) ∧ Below w.heap.size w w' := by
  have V1 := Lib.hid (fun g w => ver_lit g 1 10 5 3 2 1 10 3 1 true 0 0 9 4 0 1 0 (by decide) w)
  have V2 := Lib.hid (fun g w => ver_lit g 1 10 5 3 2 1 10 3 1 true 2 0 0 0 0 4 0 (by decide) w)
  go_enter Try.func6, Try.ntmps6
  go_wp2_with fail
  refine (aawake_any _).mono ?_
  rintro e w1 ⟨rfl, b1⟩
  have HB : Hid (Below w.heap.size w w1) := b1
  clear b1
  go_wp2_with fail
  refine (count_any 5 3 w1).mono ?_
  rintro e w2 ⟨g, rfl, g1, g2, g3⟩
  have HS := Lib.hid ((CoS.made (la := 5) (ro := 3) g1 g2 g3).below ((Below.refl _ _).alloc (Nat.le_refl _) (.cells #[.int .i64 0, .int .i64 0, .int .i64 9, .int .i64 4, .int .i64 0] 26)))
  clear g1 g2 g3
  go_wp2_with fail
  refine (V1.out g _ HS.out.qu).mono ?_
  rintro e w3 ⟨rfl, b3⟩
  replace HS := Lib.hid (HS.out.below b3)
  have hcc := cells_cf HS.out.box
  clear b3 V1
  go_wp2_with fail
  refine (V2.out g _ HS.out.qu).mono ?_
  rintro e w4 ⟨rfl, b4⟩
  replace HS := Lib.hid (HS.out.below b4)
  clear b4 V2 hcc
  go_wp2_with (go_at_call 10; refine (wnum_any _ _).mono ?_; rintro e w' ⟨rfl, rfl⟩)
  go_ret
  exact ⟨rfl, HB.out.trans (HS.out.keep.mono HB.out.size)⟩

set_option maxRecDepth 100000 in
set_option maxHeartbeats 2000000 in
theorem arows_0110 (w : World) : Calls Try.prog 6 #[.bool false, .bool true, .bool true, .bool false] w fun e w' => e = .returned (.bool true) ∧ Below w.heap.size w w' := by
  have V1 := Lib.hid (fun g w => ver_lit g 1 10 5 3 2 1 10 0 2 false 0 0 9 4 0 1 0 (by decide) w)
  have V2 := Lib.hid (fun g w => ver_lit g 1 10 5 3 2 1 10 0 2 false 2 0 0 0 0 4 0 (by decide) w)
  go_enter Try.func6, Try.ntmps6
  go_wp2_with fail
  refine (aawake_any _).mono ?_
  rintro e w1 ⟨rfl, b1⟩
  have HB : Hid (Below w.heap.size w w1) := b1
  clear b1
  go_wp2_with fail
  refine (count_any 5 3 w1).mono ?_
  rintro e w2 ⟨g, rfl, g1, g2, g3⟩
  have HS := Lib.hid ((CoS.made (la := 5) (ro := 3) g1 g2 g3).below ((Below.refl _ _).alloc (Nat.le_refl _) (.cells #[.int .i64 0, .int .i64 0, .int .i64 9, .int .i64 4, .int .i64 0] 26)))
  clear g1 g2 g3
  go_wp2_with fail
  refine (V1.out g _ HS.out.qu).mono ?_
  rintro e w3 ⟨rfl, b3⟩
  replace HS := Lib.hid (HS.out.below b3)
  have hcc := cells_cf HS.out.box
  clear b3 V1
  go_wp2_with fail
  refine (V2.out g _ HS.out.qu).mono ?_
  rintro e w4 ⟨rfl, b4⟩
  replace HS := Lib.hid (HS.out.below b4)
  clear b4 V2 hcc
  go_wp2_with (go_at_call 10; refine (wnum_any _ _).mono ?_; rintro e w' ⟨rfl, rfl⟩)
  go_ret
  exact ⟨rfl, HB.out.trans (HS.out.keep.mono HB.out.size)⟩

set_option maxRecDepth 100000 in
set_option maxHeartbeats 2000000 in
theorem arows_0111 (w : World) : Calls Try.prog 6 #[.bool false, .bool true, .bool true, .bool true] w fun e w' => e = .returned (.bool true) ∧ Below w.heap.size w w' := by
  have V1 := Lib.hid (fun g w => ver_lit g 1 10 5 3 2 1 10 3 2 false 0 0 9 4 0 1 0 (by decide) w)
  have V2 := Lib.hid (fun g w => ver_lit g 1 10 5 3 2 1 10 3 2 false 2 0 0 0 0 4 0 (by decide) w)
  go_enter Try.func6, Try.ntmps6
  go_wp2_with fail
  refine (aawake_any _).mono ?_
  rintro e w1 ⟨rfl, b1⟩
  have HB : Hid (Below w.heap.size w w1) := b1
  clear b1
  go_wp2_with fail
  refine (count_any 5 3 w1).mono ?_
  rintro e w2 ⟨g, rfl, g1, g2, g3⟩
  have HS := Lib.hid ((CoS.made (la := 5) (ro := 3) g1 g2 g3).below ((Below.refl _ _).alloc (Nat.le_refl _) (.cells #[.int .i64 0, .int .i64 0, .int .i64 9, .int .i64 4, .int .i64 0] 26)))
  clear g1 g2 g3
  go_wp2_with fail
  refine (V1.out g _ HS.out.qu).mono ?_
  rintro e w3 ⟨rfl, b3⟩
  replace HS := Lib.hid (HS.out.below b3)
  have hcc := cells_cf HS.out.box
  clear b3 V1
  go_wp2_with fail
  refine (V2.out g _ HS.out.qu).mono ?_
  rintro e w4 ⟨rfl, b4⟩
  replace HS := Lib.hid (HS.out.below b4)
  clear b4 V2 hcc
  go_wp2_with (go_at_call 10; refine (wnum_any _ _).mono ?_; rintro e w' ⟨rfl, rfl⟩)
  go_ret
  exact ⟨rfl, HB.out.trans (HS.out.keep.mono HB.out.size)⟩

set_option maxRecDepth 100000 in
set_option maxHeartbeats 2000000 in
theorem arows_1000 (w : World) : Calls Try.prog 6 #[.bool true, .bool false, .bool false, .bool false] w fun e w' => e = .returned (.bool true) ∧ Below w.heap.size w w' := by
  have V1 := Lib.hid (fun g w => ver_lit g 1 10 5 3 2 1 10 0 1 true 0 1 9 50 0 4 0 (by decide) w)
  have V2 := Lib.hid (fun g w => ver_lit g 1 10 5 3 2 1 10 0 1 true 2 0 0 0 0 4 0 (by decide) w)
  go_enter Try.func6, Try.ntmps6
  go_wp2_with fail
  refine (aawake_any _).mono ?_
  rintro e w1 ⟨rfl, b1⟩
  have HB : Hid (Below w.heap.size w w1) := b1
  clear b1
  go_wp2_with fail
  refine (count_any 5 3 w1).mono ?_
  rintro e w2 ⟨g, rfl, g1, g2, g3⟩
  have HS := Lib.hid ((CoS.made (la := 5) (ro := 3) g1 g2 g3).below ((Below.refl _ _).alloc (Nat.le_refl _) (.cells #[.int .i64 0, .int .i64 1, .int .i64 9, .int .i64 50, .int .i64 0] 26)))
  clear g1 g2 g3
  go_wp2_with fail
  refine (V1.out g _ HS.out.qu).mono ?_
  rintro e w3 ⟨rfl, b3⟩
  replace HS := Lib.hid (HS.out.below b3)
  have hcc := cells_cf HS.out.box
  clear b3 V1
  go_wp2_with fail
  refine (V2.out g _ HS.out.qu).mono ?_
  rintro e w4 ⟨rfl, b4⟩
  replace HS := Lib.hid (HS.out.below b4)
  clear b4 V2 hcc
  go_wp2_with (go_at_call 10; refine (wnum_any _ _).mono ?_; rintro e w' ⟨rfl, rfl⟩)
  go_ret
  exact ⟨rfl, HB.out.trans (HS.out.keep.mono HB.out.size)⟩

set_option maxRecDepth 100000 in
set_option maxHeartbeats 2000000 in
theorem arows_1001 (w : World) : Calls Try.prog 6 #[.bool true, .bool false, .bool false, .bool true] w fun e w' => e = .returned (.bool true) ∧ Below w.heap.size w w' := by
  have V1 := Lib.hid (fun g w => ver_lit g 1 10 5 3 2 1 10 3 1 true 0 1 9 50 0 4 0 (by decide) w)
  have V2 := Lib.hid (fun g w => ver_lit g 1 10 5 3 2 1 10 3 1 true 2 0 0 0 0 4 0 (by decide) w)
  go_enter Try.func6, Try.ntmps6
  go_wp2_with fail
  refine (aawake_any _).mono ?_
  rintro e w1 ⟨rfl, b1⟩
  have HB : Hid (Below w.heap.size w w1) := b1
  clear b1
  go_wp2_with fail
  refine (count_any 5 3 w1).mono ?_
  rintro e w2 ⟨g, rfl, g1, g2, g3⟩
  have HS := Lib.hid ((CoS.made (la := 5) (ro := 3) g1 g2 g3).below ((Below.refl _ _).alloc (Nat.le_refl _) (.cells #[.int .i64 0, .int .i64 1, .int .i64 9, .int .i64 50, .int .i64 0] 26)))
  clear g1 g2 g3
  go_wp2_with fail
  refine (V1.out g _ HS.out.qu).mono ?_
  rintro e w3 ⟨rfl, b3⟩
  replace HS := Lib.hid (HS.out.below b3)
  have hcc := cells_cf HS.out.box
  clear b3 V1
  go_wp2_with fail
  refine (V2.out g _ HS.out.qu).mono ?_
  rintro e w4 ⟨rfl, b4⟩
  replace HS := Lib.hid (HS.out.below b4)
  clear b4 V2 hcc
  go_wp2_with (go_at_call 10; refine (wnum_any _ _).mono ?_; rintro e w' ⟨rfl, rfl⟩)
  go_ret
  exact ⟨rfl, HB.out.trans (HS.out.keep.mono HB.out.size)⟩

set_option maxRecDepth 100000 in
set_option maxHeartbeats 2000000 in
theorem arows_1010 (w : World) : Calls Try.prog 6 #[.bool true, .bool false, .bool true, .bool false] w fun e w' => e = .returned (.bool true) ∧ Below w.heap.size w w' := by
  have V1 := Lib.hid (fun g w => ver_lit g 1 10 5 3 2 1 10 0 2 false 0 1 9 50 0 4 0 (by decide) w)
  have V2 := Lib.hid (fun g w => ver_lit g 1 10 5 3 2 1 10 0 2 false 2 0 0 0 0 4 0 (by decide) w)
  go_enter Try.func6, Try.ntmps6
  go_wp2_with fail
  refine (aawake_any _).mono ?_
  rintro e w1 ⟨rfl, b1⟩
  have HB : Hid (Below w.heap.size w w1) := b1
  clear b1
  go_wp2_with fail
  refine (count_any 5 3 w1).mono ?_
  rintro e w2 ⟨g, rfl, g1, g2, g3⟩
  have HS := Lib.hid ((CoS.made (la := 5) (ro := 3) g1 g2 g3).below ((Below.refl _ _).alloc (Nat.le_refl _) (.cells #[.int .i64 0, .int .i64 1, .int .i64 9, .int .i64 50, .int .i64 0] 26)))
  clear g1 g2 g3
  go_wp2_with fail
  refine (V1.out g _ HS.out.qu).mono ?_
  rintro e w3 ⟨rfl, b3⟩
  replace HS := Lib.hid (HS.out.below b3)
  have hcc := cells_cf HS.out.box
  clear b3 V1
  go_wp2_with fail
  refine (V2.out g _ HS.out.qu).mono ?_
  rintro e w4 ⟨rfl, b4⟩
  replace HS := Lib.hid (HS.out.below b4)
  clear b4 V2 hcc
  go_wp2_with (go_at_call 10; refine (wnum_any _ _).mono ?_; rintro e w' ⟨rfl, rfl⟩)
  go_ret
  exact ⟨rfl, HB.out.trans (HS.out.keep.mono HB.out.size)⟩

set_option maxRecDepth 100000 in
set_option maxHeartbeats 2000000 in
theorem arows_1011 (w : World) : Calls Try.prog 6 #[.bool true, .bool false, .bool true, .bool true] w fun e w' => e = .returned (.bool true) ∧ Below w.heap.size w w' := by
  have V1 := Lib.hid (fun g w => ver_lit g 1 10 5 3 2 1 10 3 2 false 0 1 9 50 0 4 0 (by decide) w)
  have V2 := Lib.hid (fun g w => ver_lit g 1 10 5 3 2 1 10 3 2 false 2 0 0 0 0 4 0 (by decide) w)
  go_enter Try.func6, Try.ntmps6
  go_wp2_with fail
  refine (aawake_any _).mono ?_
  rintro e w1 ⟨rfl, b1⟩
  have HB : Hid (Below w.heap.size w w1) := b1
  clear b1
  go_wp2_with fail
  refine (count_any 5 3 w1).mono ?_
  rintro e w2 ⟨g, rfl, g1, g2, g3⟩
  have HS := Lib.hid ((CoS.made (la := 5) (ro := 3) g1 g2 g3).below ((Below.refl _ _).alloc (Nat.le_refl _) (.cells #[.int .i64 0, .int .i64 1, .int .i64 9, .int .i64 50, .int .i64 0] 26)))
  clear g1 g2 g3
  go_wp2_with fail
  refine (V1.out g _ HS.out.qu).mono ?_
  rintro e w3 ⟨rfl, b3⟩
  replace HS := Lib.hid (HS.out.below b3)
  have hcc := cells_cf HS.out.box
  clear b3 V1
  go_wp2_with fail
  refine (V2.out g _ HS.out.qu).mono ?_
  rintro e w4 ⟨rfl, b4⟩
  replace HS := Lib.hid (HS.out.below b4)
  clear b4 V2 hcc
  go_wp2_with (go_at_call 10; refine (wnum_any _ _).mono ?_; rintro e w' ⟨rfl, rfl⟩)
  go_ret
  exact ⟨rfl, HB.out.trans (HS.out.keep.mono HB.out.size)⟩

set_option maxRecDepth 100000 in
set_option maxHeartbeats 2000000 in
theorem arows_1100 (w : World) : Calls Try.prog 6 #[.bool true, .bool true, .bool false, .bool false] w fun e w' => e = .returned (.bool true) ∧ Below w.heap.size w w' := by
  have V1 := Lib.hid (fun g w => ver_lit g 1 10 5 3 2 1 10 0 1 true 0 1 9 4 0 4 0 (by decide) w)
  have V2 := Lib.hid (fun g w => ver_lit g 1 10 5 3 2 1 10 0 1 true 2 0 0 0 0 4 0 (by decide) w)
  go_enter Try.func6, Try.ntmps6
  go_wp2_with fail
  refine (aawake_any _).mono ?_
  rintro e w1 ⟨rfl, b1⟩
  have HB : Hid (Below w.heap.size w w1) := b1
  clear b1
  go_wp2_with fail
  refine (count_any 5 3 w1).mono ?_
  rintro e w2 ⟨g, rfl, g1, g2, g3⟩
  have HS := Lib.hid ((CoS.made (la := 5) (ro := 3) g1 g2 g3).below ((Below.refl _ _).alloc (Nat.le_refl _) (.cells #[.int .i64 0, .int .i64 1, .int .i64 9, .int .i64 4, .int .i64 0] 26)))
  clear g1 g2 g3
  go_wp2_with fail
  refine (V1.out g _ HS.out.qu).mono ?_
  rintro e w3 ⟨rfl, b3⟩
  replace HS := Lib.hid (HS.out.below b3)
  have hcc := cells_cf HS.out.box
  clear b3 V1
  go_wp2_with fail
  refine (V2.out g _ HS.out.qu).mono ?_
  rintro e w4 ⟨rfl, b4⟩
  replace HS := Lib.hid (HS.out.below b4)
  clear b4 V2 hcc
  go_wp2_with (go_at_call 10; refine (wnum_any _ _).mono ?_; rintro e w' ⟨rfl, rfl⟩)
  go_ret
  exact ⟨rfl, HB.out.trans (HS.out.keep.mono HB.out.size)⟩

set_option maxRecDepth 100000 in
set_option maxHeartbeats 2000000 in
theorem arows_1101 (w : World) : Calls Try.prog 6 #[.bool true, .bool true, .bool false, .bool true] w fun e w' => e = .returned (.bool true) ∧ Below w.heap.size w w' := by
  have V1 := Lib.hid (fun g w => ver_lit g 1 10 5 3 2 1 10 3 1 true 0 1 9 4 0 4 0 (by decide) w)
  have V2 := Lib.hid (fun g w => ver_lit g 1 10 5 3 2 1 10 3 1 true 2 0 0 0 0 4 0 (by decide) w)
  go_enter Try.func6, Try.ntmps6
  go_wp2_with fail
  refine (aawake_any _).mono ?_
  rintro e w1 ⟨rfl, b1⟩
  have HB : Hid (Below w.heap.size w w1) := b1
  clear b1
  go_wp2_with fail
  refine (count_any 5 3 w1).mono ?_
  rintro e w2 ⟨g, rfl, g1, g2, g3⟩
  have HS := Lib.hid ((CoS.made (la := 5) (ro := 3) g1 g2 g3).below ((Below.refl _ _).alloc (Nat.le_refl _) (.cells #[.int .i64 0, .int .i64 1, .int .i64 9, .int .i64 4, .int .i64 0] 26)))
  clear g1 g2 g3
  go_wp2_with fail
  refine (V1.out g _ HS.out.qu).mono ?_
  rintro e w3 ⟨rfl, b3⟩
  replace HS := Lib.hid (HS.out.below b3)
  have hcc := cells_cf HS.out.box
  clear b3 V1
  go_wp2_with fail
  refine (V2.out g _ HS.out.qu).mono ?_
  rintro e w4 ⟨rfl, b4⟩
  replace HS := Lib.hid (HS.out.below b4)
  clear b4 V2 hcc
  go_wp2_with (go_at_call 10; refine (wnum_any _ _).mono ?_; rintro e w' ⟨rfl, rfl⟩)
  go_ret
  exact ⟨rfl, HB.out.trans (HS.out.keep.mono HB.out.size)⟩

set_option maxRecDepth 100000 in
set_option maxHeartbeats 2000000 in
theorem arows_1110 (w : World) : Calls Try.prog 6 #[.bool true, .bool true, .bool true, .bool false] w fun e w' => e = .returned (.bool true) ∧ Below w.heap.size w w' := by
  have V1 := Lib.hid (fun g w => ver_lit g 1 10 5 3 2 1 10 0 2 false 0 1 9 4 0 4 0 (by decide) w)
  have V2 := Lib.hid (fun g w => ver_lit g 1 10 5 3 2 1 10 0 2 false 2 0 0 0 0 4 0 (by decide) w)
  go_enter Try.func6, Try.ntmps6
  go_wp2_with fail
  refine (aawake_any _).mono ?_
  rintro e w1 ⟨rfl, b1⟩
  have HB : Hid (Below w.heap.size w w1) := b1
  clear b1
  go_wp2_with fail
  refine (count_any 5 3 w1).mono ?_
  rintro e w2 ⟨g, rfl, g1, g2, g3⟩
  have HS := Lib.hid ((CoS.made (la := 5) (ro := 3) g1 g2 g3).below ((Below.refl _ _).alloc (Nat.le_refl _) (.cells #[.int .i64 0, .int .i64 1, .int .i64 9, .int .i64 4, .int .i64 0] 26)))
  clear g1 g2 g3
  go_wp2_with fail
  refine (V1.out g _ HS.out.qu).mono ?_
  rintro e w3 ⟨rfl, b3⟩
  replace HS := Lib.hid (HS.out.below b3)
  have hcc := cells_cf HS.out.box
  clear b3 V1
  go_wp2_with fail
  refine (V2.out g _ HS.out.qu).mono ?_
  rintro e w4 ⟨rfl, b4⟩
  replace HS := Lib.hid (HS.out.below b4)
  clear b4 V2 hcc
  go_wp2_with (go_at_call 10; refine (wnum_any _ _).mono ?_; rintro e w' ⟨rfl, rfl⟩)
  go_ret
  exact ⟨rfl, HB.out.trans (HS.out.keep.mono HB.out.size)⟩

set_option maxRecDepth 100000 in
set_option maxHeartbeats 2000000 in
theorem arows_1111 (w : World) : Calls Try.prog 6 #[.bool true, .bool true, .bool true, .bool true] w fun e w' => e = .returned (.bool true) ∧ Below w.heap.size w w' := by
  have V1 := Lib.hid (fun g w => ver_lit g 1 10 5 3 2 1 10 3 2 false 0 1 9 4 0 4 0 (by decide) w)
  have V2 := Lib.hid (fun g w => ver_lit g 1 10 5 3 2 1 10 3 2 false 2 0 0 0 0 4 0 (by decide) w)
  go_enter Try.func6, Try.ntmps6
  go_wp2_with fail
  refine (aawake_any _).mono ?_
  rintro e w1 ⟨rfl, b1⟩
  have HB : Hid (Below w.heap.size w w1) := b1
  clear b1
  go_wp2_with fail
  refine (count_any 5 3 w1).mono ?_
  rintro e w2 ⟨g, rfl, g1, g2, g3⟩
  have HS := Lib.hid ((CoS.made (la := 5) (ro := 3) g1 g2 g3).below ((Below.refl _ _).alloc (Nat.le_refl _) (.cells #[.int .i64 0, .int .i64 1, .int .i64 9, .int .i64 4, .int .i64 0] 26)))
  clear g1 g2 g3
  go_wp2_with fail
  refine (V1.out g _ HS.out.qu).mono ?_
  rintro e w3 ⟨rfl, b3⟩
  replace HS := Lib.hid (HS.out.below b3)
  have hcc := cells_cf HS.out.box
  clear b3 V1
  go_wp2_with fail
  refine (V2.out g _ HS.out.qu).mono ?_
  rintro e w4 ⟨rfl, b4⟩
  replace HS := Lib.hid (HS.out.below b4)
  clear b4 V2 hcc
  go_wp2_with (go_at_call 10; refine (wnum_any _ _).mono ?_; rintro e w' ⟨rfl, rfl⟩)
  go_ret
  exact ⟨rfl, HB.out.trans (HS.out.keep.mono HB.out.size)⟩

theorem admitrows_any (a b c d : Bool) (w : World) : Calls Try.prog 6 #[.bool a, .bool b, .bool c, .bool d] w fun e w' => e = .returned (.bool true) ∧ Below w.heap.size w w' := by
  cases a <;> cases b <;> cases c <;> cases d
  · exact arows_0000 w
  · exact arows_0001 w
  · exact arows_0010 w
  · exact arows_0011 w
  · exact arows_0100 w
  · exact arows_0101 w
  · exact arows_0110 w
  · exact arows_0111 w
  · exact arows_1000 w
  · exact arows_1001 w
  · exact arows_1010 w
  · exact arows_1011 w
  · exact arows_1100 w
  · exact arows_1101 w
  · exact arows_1110 w
  · exact arows_1111 w

end Go.Proofs.Ytecdeplcoggjkaa
