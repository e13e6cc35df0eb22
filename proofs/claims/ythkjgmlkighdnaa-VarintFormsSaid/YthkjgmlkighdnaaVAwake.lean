/-
  Walk: the varint laws' first look.
-/
import Derived.Test.YthkjgmlkighdnaaVGet
import Derived.Test.YthkjgmlkighdnaaVPut
import Derived.Test.YthkjgmlkighdnaaVBack
namespace Go.Proofs.Ythkjgmlkighdnaa
open Go.RowKit

theorem getT_a1 : getT [122, 149, 2] 1 = (-139, 3, 0) := by decide
theorem getT_a2 : getT [128] 0 = (0, 0, 701) := by decide
theorem getT_a3 : getT [128, 0] 0 = (0, 0, 700) := by decide
theorem encS_a1 : encS (-139) = ⟨#[149, 2]⟩ := by
  have e : encL (foldI (-139)).toNat = [149, 2] := by
    have h : (foldI (-139)).toNat = 277 := by decide
    rw [h, encL_more (by decide), encL_end (by decide)]
    rfl
  unfold encS; rw [e]
theorem encS_a2 : encS 0 = ⟨#[0]⟩ := by
  have e : encL (foldI 0).toNat = [0] := by
    have h : (foldI 0).toNat = 0 := by decide
    rw [h, encL_end (by decide)]
    rfl
  unfold encS; rw [e]

/-- Get of bytes that are written out. -/
theorem get_lit (d : Array UInt8) (a x y z : Int) (h : getT d.toList a = (x, y, z)) (hs : d.size ≤ 1000) (w : World) :
    Calls Try.prog 7 #[.string ⟨d⟩, .int .i64 a] w fun e w' => e = .returned (.tuple #[.int .i64 x, .int .i64 y, .int .i64 z]) ∧ w = w' := by
  have h2 := get_any ⟨d⟩ a w (show d.size ≤ maxLen by unfold maxLen; omega)
  rw [show (ByteArray.mk d).data.toList = d.toList from rfl, h] at h2
  exact h2
theorem put_lit (x : Int) (d : Array UInt8) (h : encS x = ⟨d⟩) (l : -9223372036854775808 ≤ x) (u : x ≤ 9223372036854775807) (w : World) :
    Calls Try.prog 9 #[.int .i64 x] w fun e w' => e = .returned (.string ⟨d⟩) ∧ Below w.heap.size w w' := by
  have h2 := put_any x l u w
  rwa [h] at h2

set_option maxRecDepth 100000 in
set_option maxHeartbeats 1000000 in
theorem awake_any (w : World) :
    Calls Try.prog 12 #[] w fun e w' => e = .returned (.bool true) ∧ Below w.heap.size w w' := by
  have G1 := Lib.hid (fun w : World => get_lit #[122, 149, 2] 1 _ _ _ getT_a1 (by decide) w)
  have G2 := Lib.hid (fun w : World => get_lit #[128] 0 _ _ _ getT_a2 (by decide) w)
  have G3 := Lib.hid (fun w : World => get_lit #[128, 0] 0 _ _ _ getT_a3 (by decide) w)
  have P1 := Lib.hid (fun w : World => put_lit (-139) _ encS_a1 (by decide) (by decide) w)
  have P2 := Lib.hid (fun w : World => put_lit 0 _ encS_a2 (by decide) (by decide) w)
  go_enter Try.func12, Try.ntmps12
  go_wp2_with fail
  refine (G1.out _).mono ?_; rintro e w' ⟨rfl, rfl⟩
  go_wp2_with fail
  refine (G2.out _).mono ?_; rintro e w' ⟨rfl, rfl⟩
  go_wp2_with fail
  refine (G3.out _).mono ?_; rintro e w' ⟨rfl, rfl⟩
  go_wp2_with fail
  refine (P1.out _).mono ?_; rintro e w1 ⟨rfl, b1⟩
  go_wp2_with fail
  refine (P2.out _).mono ?_; rintro e w2 ⟨rfl, b2⟩
  go_wp2_with (go_at_call 11; refine (num_any _ _).mono ?_; rintro e w' ⟨rfl, rfl⟩)
  go_ret
  exact ⟨rfl, b1.trans (b2.mono b1.size)⟩

end Go.Proofs.Ythkjgmlkighdnaa
