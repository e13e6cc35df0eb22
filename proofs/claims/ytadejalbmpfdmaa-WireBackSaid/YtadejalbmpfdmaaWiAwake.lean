/-
  Walk: the wire laws' first look.
-/
import Derived.Test.YtadejalbmpfdmaaWiRPut
import Derived.Test.YtadejalbmpfdmaaWiGet
namespace Go.Proofs.Ytadejalbmpfdmaa
open Go.RowKit

theorem encs_a1 : encs [0, 1, 3, -5, 70] = [0, 2, 6, 9, 140, 1] := by
  have e0 : encL (foldI 0).toNat = [0] := by rw [show (foldI 0).toNat = 0 by decide, encL_end (by decide)]; rfl
  have e1 : encL (foldI 1).toNat = [2] := by rw [show (foldI 1).toNat = 2 by decide, encL_end (by decide)]; rfl
  have e2 : encL (foldI 3).toNat = [6] := by rw [show (foldI 3).toNat = 6 by decide, encL_end (by decide)]; rfl
  have e3 : encL (foldI (-5)).toNat = [9] := by rw [show (foldI (-5)).toNat = 9 by decide, encL_end (by decide)]; rfl
  have e4 : encL (foldI 70).toNat = [140, 1] := by rw [show (foldI 70).toNat = 140 by decide, encL_more (by decide), encL_end (by decide)]; rfl
  simp only [encs, e0, e1, e2, e3, e4]
  rfl
theorem may_a1 : mayB 0 1 3 (-5) 70 = true := mayB_yes (by unfold MayO; omega)
theorem may_a2 : mayB 3 0 0 0 1 = false := mayB_no (by unfold MayO; omega)
theorem may_a3 : mayB 2 0 0 1 0 = false := mayB_no (by unfold MayO; omega)
theorem put_a1 : putO 0 1 3 (-5) 70 = (⟨#[0, 2, 6, 9, 140, 1]⟩, 0) := by
  rw [putO, if_pos may_a1]
  show ((⟨(encs [0, 1, 3, -5, 70]).toArray⟩ : ByteArray), (0 : Int)) = _
  rw [encs_a1]
theorem put_a2 : putO 3 0 0 0 1 = (⟨#[]⟩, 900) := by rw [putO, if_neg (by simp [may_a2])]
theorem get_a1 : getO [0, 2, 6, 9, 140, 1] = ((0, 1, 3, -5, 70), 0) := by decide +kernel
theorem get_a2 : getO [0, 2, 6, 9, 140, 1, 0] = ((0, 0, 0, 0, 0), 900) := by decide +kernel

/-- Get of bytes that are written out. -/
theorem get_lit (d : Array UInt8) (k1 k2 k3 k4 k5 z : Int) (h : getO d.toList = ((k1, k2, k3, k4, k5), z)) (hs : d.size ≤ 1000) (w : World) :
    Calls Try.prog 9 #[.string ⟨d⟩] w fun e w' => e = .returned (.tuple #[.agg #[.int .i64 k1, .int .i64 k2, .int .i64 k3, .int .i64 k4, .int .i64 k5], .int .i64 z]) ∧ Below w.heap.size w w' :=
  wget_any ⟨d⟩ (show d.size ≤ maxLen by unfold maxLen; omega) k1 k2 k3 k4 k5 z h w
theorem cat_a2 : (⟨#[0, 2, 6, 9, 140, 1]⟩ : ByteArray) ++ (⟨#[0]⟩ : ByteArray) = ⟨#[0, 2, 6, 9, 140, 1, 0]⟩ := cat_bytes [0, 2, 6, 9, 140, 1] [0]
theorem get_cat (w : World) : Calls Try.prog 9 #[.string ((⟨#[0, 2, 6, 9, 140, 1]⟩ : ByteArray) ++ (⟨#[0]⟩ : ByteArray))] w fun e w' => e = .returned (.tuple #[.agg #[.int .i64 0, .int .i64 0, .int .i64 0, .int .i64 0, .int .i64 0], .int .i64 900]) ∧ Below w.heap.size w w' := by
  rw [cat_a2]
  exact get_lit #[0, 2, 6, 9, 140, 1, 0] _ _ _ _ _ _ get_a2 (by decide) w

set_option maxRecDepth 100000 in
set_option maxHeartbeats 400000 in
theorem awake_any (w : World) :
    Calls Try.prog 14 #[] w fun e w' => e = .returned (.bool true) ∧ Below w.heap.size w w' := by
  have P1 := Lib.hid (fun w : World => wput_any 0 1 3 (-5) 70 _ _ put_a1 w)
  have P2 := Lib.hid (fun w : World => wput_any 3 0 0 0 1 _ _ put_a2 w)
  have G1 := Lib.hid (fun w : World => get_lit #[0, 2, 6, 9, 140, 1] _ _ _ _ _ _ get_a1 (by decide) w)
  have G2 := Lib.hid (fun w : World => get_cat w)
  have M1 := Lib.hid (fun w : World => may_any 0 1 3 (-5) 70 true may_a1 w)
  have M2 := Lib.hid (fun w : World => may_any 2 0 0 1 0 false may_a3 w)
  go_enter Try.func14, Try.ntmps14
  go_wp2_with fail
  refine (P1.out _).mono ?_; rintro e w1 ⟨rfl, b1⟩
  have h1 : Has w1 w.heap.size 23 _ := (Has.made w _ _).below b1 (by simp)
  have c1 : Below w.heap.size w w1 := ((Below.refl _ _).alloc (Nat.le_refl _) _).trans (b1.mono (by simp))
  clear b1
  go_wp2_with fail
  refine (G1.out _).mono ?_; rintro e w2 ⟨rfl, b2⟩
  have h2 := h1.below b2 h1.lt
  have c2 := c1.trans (b2.mono c1.size)
  clear h1 c1 b2
  go_wp2_with fail
  have h4 : Has (w2.alloc (.cells #[.int .i64 0, .int .i64 1, .int .i64 3, .int .i64 (-5), .int .i64 70] 23)) w2.heap.size 23 #[.int .i64 0, .int .i64 1, .int .i64 3, .int .i64 (-5), .int .i64 70] := Has.made _ _ _
  refine (G2.out _).mono ?_; rintro e w3 ⟨rfl, b3⟩
  have h5 := h4.below b3 (by simp)
  have h3 := (h2.alloc _).below b3 (by have := h2.lt; simp; omega)
  have c3 := (c2.alloc c2.size _).trans (b3.mono (by have := c2.size; simp; omega))
  clear h2 h4 c2 b3
  go_wp2_with fail
  refine (P2.out _).mono ?_; rintro e w4 ⟨rfl, b4⟩
  have h6 := (h5.alloc _).below b4 (by have := h5.lt; simp; omega)
  have h7 := (h3.alloc _).below b4 (by have := h3.lt; simp; omega)
  have c4 := (c3.alloc c3.size _).trans (b4.mono (by have := c3.size; simp; omega))
  clear h3 h5 c3 b4
  go_wp2_with (first
    | (go_at_call 11; refine (num_any _ _).mono ?_; rintro e w' ⟨rfl, rfl⟩)
    | (refine load_op rfl _ rfl _ rfl h6 ?_)
    | (refine load_op rfl _ rfl _ rfl h7 ?_))
  refine (M1.out _).mono ?_; rintro e w5 ⟨rfl, b5⟩
  have c5 := c4.trans (b5.mono c4.size)
  clear c4 b5 h6 h7
  go_wp2_with fail
  refine (M2.out _).mono ?_; rintro e w6 ⟨rfl, b6⟩
  have c6 := c5.trans (b6.mono c5.size)
  clear c5 b6
  go_wp2_with fail
  go_ret
  exact ⟨rfl, c6⟩

end Go.Proofs.Ytadejalbmpfdmaa
