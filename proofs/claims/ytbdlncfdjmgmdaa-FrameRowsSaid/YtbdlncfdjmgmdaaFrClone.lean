/-
  strings.Clone: the library's shelf, laid over this program.
-/
import Derived.Test.YtbdlncfdjmgmdaaProg
import Derived.Shelf.Pu.Clone
namespace Go.Proofs.Ytbdlncfdjmgmdaa
open Go.Shelf Go.RowKit

/-- The shelf's numbers, in this program. -/
def cloneRen : Ren := ⟨fun _ => 21, fun n => match n with
  | 3 => 3 | 4 => 4 | 5 => 5 | 9 => 9 | 37 => 36 | 47 => 46 | _ => 0, fun _ => 0⟩

theorem cloneLays : LaysPu.n25 Try.prog cloneRen where
  mixed := by kernel_rfl
  f25 := by kernel_rfl
  t0 := by kernel_rfl
  a0 := Try.isAgg0
  z0 := Try.sizeOf0
  v0 := Try.zeroValue0
  i0 := by kernel_rfl
  t3 := by kernel_rfl
  a3 := Try.isAgg3
  z3 := Try.sizeOf3
  v3 := Try.zeroValue3
  i3 := by kernel_rfl
  t4 := by kernel_rfl
  a4 := Try.isAgg4
  z4 := Try.sizeOf4
  v4 := Try.zeroValue4
  i4 := by kernel_rfl
  t5 := by kernel_rfl
  a5 := Try.isAgg5
  z5 := Try.sizeOf5
  v5 := Try.zeroValue5
  i5 := by kernel_rfl
  t9 := by kernel_rfl
  a9 := Try.isAgg9
  z9 := Try.sizeOf9
  v9 := Try.zeroValue9
  i9 := by kernel_rfl
  t37 := by kernel_rfl
  a37 := Try.isAgg36
  z37 := Try.sizeOf36
  v37 := Try.zeroValue36
  i37 := by kernel_rfl
  t47 := by kernel_rfl
  a47 := Try.isAgg46
  z47 := Try.sizeOf46
  v47 := Try.zeroValue46
  i47 := by kernel_rfl

theorem sclone_any (s : ByteArray) (w : World) (hs : s.size ≤ 281474976710656) :
    Calls Try.prog 21 #[.string s] w fun e w' => e = .returned (.string s) ∧ Below w.heap.size w w' :=
  AnyPu.stringslite_Clone cloneLays s w hs

set_option maxHeartbeats 400000 in
theorem clone_any (s : ByteArray) (w : World) (hs : s.size ≤ 281474976710656) :
    Calls Try.prog 19 #[.string s] w fun e w' => e = .returned (.string s) ∧ Below w.heap.size w w' := by
  go_enter Try.func19, Try.ntmps19
  go_wp2_with (go_at_call 21; refine (sclone_any _ _ hs).mono ?_; rintro e w' ⟨rfl, hb⟩)
  go_ret
  exact ⟨rfl, hb⟩

end Go.Proofs.Ytbdlncfdjmgmdaa
