/-
  Walk: FrameForms: bytes that begin no frame; bodies that are too long.
-/
import Derived.Test.YtbdlncfdjmgmdaaFrSumsW
import Derived.Test.YtbdlncfdjmgmdaaFrReg
namespace Go.Proofs.Ytbdlncfdjmgmdaa
open Go.RowKit

theorem put_f1 : putL [97, 98, 99] = [181, 3, 97, 98, 99, 130, 202] := by decide +kernel
/-- n noughts. -/
def zeroS (n : Nat) : ByteArray := ⟨(List.replicate n (0 : UInt8)).toArray⟩
theorem zeroS_size (n : Nat) : (zeroS n).size = n := by
  show (List.replicate n (0 : UInt8)).toArray.size = n
  simp
theorem made_zero (n : Nat) : (madeCells (Value.int .u8 0).cells (n * 1)).toList = bytL (List.replicate n 0) := by
  rw [Nat.mul_one]
  exact (toList_madeCells_one (.int .u8 0) n).trans (by simp [bytL])
theorem bad_all (k : Nat) (hk : k < 8) : ∃ s, badS[k]? = some s ∧ s.size ≤ 1000 ∧ getF s.data.toList 0 = (⟨([] : List UInt8).toArray⟩, 0, 800) := by
  match k, hk with
  | 0, _ => exact ⟨_, rfl, by decide, getF_x (n := 0) (k := 0) rfl (by decide) (by decide +kernel) _ (by decide) (.inr rfl)⟩
  | 1, _ => exact ⟨_, rfl, by decide, getF_x (n := 0) (k := 0) rfl (by decide) (by decide +kernel) _ (by decide) (.inr rfl)⟩
  | 2, _ => exact ⟨_, rfl, by decide, getF_x (n := 0) (k := 0) rfl (by decide) (by decide +kernel) _ (by decide) (.inr rfl)⟩
  | 3, _ => exact ⟨_, rfl, by decide, getF_x (n := 0) (k := 0) rfl (by decide) (by decide +kernel) _ (by decide) (.inr rfl)⟩
  | 4, _ => exact ⟨_, rfl, by decide, getF_x (n := 0) (k := 0) rfl (by decide) (by decide +kernel) _ (by decide) (.inr rfl)⟩
  | 5, _ => exact ⟨_, rfl, by decide, getF_x (n := 0) (k := 0) rfl (by decide) (by decide +kernel) _ (by decide) (.inr rfl)⟩
  | 6, _ => exact ⟨_, rfl, by decide, getF_x (n := 0) (k := 0) rfl (by decide) (by decide +kernel) _ (by decide) (.inr rfl)⟩
  | 7, _ => exact ⟨_, rfl, by decide, getF_x (n := 0) (k := 0) rfl (by decide) (by decide +kernel) _ (by decide) (.inr rfl)⟩
theorem get_f7 : getF [181, 3, 97, 98, 99, 130, 202] 7 = (⟨([] : List UInt8).toArray⟩, 0, 801) := getF_x (n := 7) (k := 0) rfl (by decide) (by decide +kernel) _ (by decide) (.inr rfl)
theorem get_far (a : Int) (h : a < 0 ∨ 7 < a) : getF [181, 3, 97, 98, 99, 130, 202] a = (⟨([] : List UInt8).toArray⟩, 0, 800) := getF_none (by simpa using h)

set_option maxRecDepth 100000 in
set_option maxHeartbeats 1000000 in
theorem forms8_any (a x : Int) (w : World) (_ : (Lit.int .i64 a).wf = true) (_ : (Lit.int .i64 x).wf = true) :
    Calls Try.prog 5 #[.int .i64 a, .int .i64 x] w fun e w' => e = .returned (.bool true) ∧ Below w.heap.size w w' := by
  have HA := Lib.hid (fun w : World => awake_any w)
  have P1 := Lib.hid (fun w : World => put_lit #[97, 98, 99] _ (by decide) put_f1 w)
  have P2 := Lib.hid (fun w : World => put_pair (zeroS 60) _ _ (putP_ok (by rw [zeroS_size]; omega)) w)
  have hx : bits .and .i64 x 63 = x % 64 := mask_of x 6 63 (by decide) (by decide)
  obtain ⟨m, hm⟩ : ∃ m : Nat, 61 + x % 64 = m := ⟨(61 + x % 64).toNat, by omega⟩
  have hm1 : 61 ≤ m := by omega
  have hm2 : m ≤ 124 := by omega
  have P3 := Lib.hid (fun w : World => put_pair (zeroS m) _ _ (putP_bad (.inr (by rw [zeroS_size]; omega))) w)
  have hS2 : (putS (zeroS 60)).size = 64 := by rw [putS_size, zeroS_size]
  generalize putS (zeroS 60) = S2 at P2 hS2
  obtain ⟨k, hk8, hk⟩ := place_any a 8 (by omega) (by omega)
  rw [show ((8 : Nat) : Int) = 8 from rfl] at hk
  obtain ⟨B, hB, hBs, hBg⟩ := bad_all k hk8
  have G1 := Lib.hid (fun w : World => get_tri B 0 _ _ _ hBg (by omega) w)
  have G2 := Lib.hid (fun w : World => get_lit #[181, 3, 97, 98, 99, 130, 202] (8 + x % 64) _ _ _ (get_far _ (.inr (by omega))) (by decide) w)
  have G3 := Lib.hid (fun w : World => get_lit #[181, 3, 97, 98, 99, 130, 202] (-1 - x % 64) _ _ _ (get_far _ (.inl (by omega))) (by decide) w)
  have G4 := Lib.hid (fun w : World => get_lit #[181, 3, 97, 98, 99, 130, 202] 7 _ _ _ get_f7 (by decide) w)
  have hx1 : wrap64 (8 + x % 64) = 8 + x % 64 := by unfold wrap64; omega
  have hx2 : wrap64 (-1 - x % 64) = -1 - x % 64 := by unfold wrap64; omega
  obtain ⟨i0, hi, hz, hs0, hy0⟩ := info_parts Try.vinfoByte
  have I := Lib.hid (And.intro hi (And.intro hz (And.intro hs0 hy0)))
  clear hi hz hs0 hy0 hBs hBg
  have M60 : Hid (∀ (w w' : World) (v : Value), w'.ownsRow w.heap.size 5 1 v 60 (madeCells (Value.int .u8 0).cells (60 * 1)).toList → OwnB w' w.heap.size v (List.replicate 60 0)) := Lib.hid (fun w w' v h => by rw [made_zero] at h; unfold OwnB; simpa using h)
  have Mm : Hid (∀ (w w' : World) (v : Value), w'.ownsRow w.heap.size 5 1 v m (madeCells (Value.int .u8 0).cells (m * 1)).toList → OwnB w' w.heap.size v (List.replicate m 0)) := Lib.hid (fun w w' v h => by rw [made_zero] at h; unfold OwnB; simpa using h)
  have N60 : Hid (List.replicate 60 (0 : UInt8) ≠ []) := Lib.hid (by simp)
  have Nm : Hid (List.replicate m (0 : UInt8) ≠ []) := Lib.hid (by simp; omega)
  go_enter Try.func5, Try.ntmps5
  go_wp2_with fail
  refine (HA.out _).mono ?_; rintro e w1 ⟨rfl, b1⟩
  go_wp2_with fail
  refine (P1.out _).mono ?_; rintro e w2 ⟨rfl, b2⟩
  have b12 := b1.trans (b2.mono b1.size)
  clear b1 b2 HA P1
  go_upto_region 5 with (first
    | (at_make; refine wpList_make_full _ rfl _ _ 36 rfl w2.heap.size 5 i0 _ 1 Try.underlying36 I.out.1 I.out.2.1 I.out.2.2.1 _ _ _ _ 60 rfl rfl (by decide) (by decide) (by rw [I.out.2.2.2]; omega) (by unfold maxLen; omega) (Nat.le_refl _) (fun w3 hown3 hg3 => ?_))
    | (refine conv_byte rfl _ rfl rfl (M60.out _ _ _ hown3) N60.out ?_)
    | (go_at_call 8; refine (P2.out _).mono ?_; rintro e w4 ⟨rfl, b4⟩))
  have b3 : Below w2.heap.size w2 w3 := ⟨hg3.os, hg3.tape, hg3.output, hg3.size, fun k hk => hg3.block k hk (by simp)⟩
  have b13 := b12.trans (b3.mono b12.size)
  have b14 := b13.trans (b4.mono b13.size)
  clear b3 b4 b12 b13 hg3 hown3 M60 P2
  go_upto_region 6 with (first
    | (at_make; refine wpList_make_full _ rfl _ _ 36 rfl w4.heap.size 5 i0 _ 1 Try.underlying36 I.out.1 I.out.2.1 I.out.2.2.1 _ _ _ _ m rfl rfl rfl rfl (by rw [I.out.2.2.2]; omega) (by unfold maxLen; omega) (Nat.le_refl _) (fun w5 hown5 hg5 => ?_))
    | (refine conv_byte rfl _ rfl rfl (Mm.out _ _ _ hown5) Nm.out ?_)
    | (go_at_call 8; refine (P3.out _).mono ?_; rintro e w6 ⟨rfl, b6⟩))
  have b5 : Below w4.heap.size w4 w5 := ⟨hg5.os, hg5.tape, hg5.output, hg5.size, fun k hk => hg5.block k hk (by simp)⟩
  have b15 := b14.trans (b5.mono b14.size)
  have b16 := b15.trans (b6.mono b15.size)
  clear b5 b6 b14 b15 hg5 hown5 Mm P3 I
  go_upto_region 8 with (go_at_call 12; refine (num_any _ _).mono ?_; rintro e w' ⟨rfl, rfl⟩)
  refine fr8_any ⟨rfl, rfl⟩ (by kernel_rfl) ?_
  intro g61 g69 g11 w7 b7 hrow
  have b17 := b16.trans (b7.mono b16.size)
  have hld := hrow k B hB
  have hk8' : (k : Int) < 8 := by omega
  clear hrow b7 b16 hB
  simp only [putAll, Act.put, List.setIfInBounds_toArray, List.set_cons_succ, List.set_cons_zero]
  go_wp2_with fail
  refine (G1.out _).mono ?_; rintro e w8 ⟨rfl, b8⟩
  go_wp2_with fail
  refine (G2.out _).mono ?_; rintro e w9 ⟨rfl, b9⟩
  go_wp2_with fail
  refine (G3.out _).mono ?_; rintro e w10 ⟨rfl, b10⟩
  go_wp2_with fail
  refine (G4.out _).mono ?_; rintro e w11 ⟨rfl, b11⟩
  have c8 := b17.trans (b8.mono b17.size)
  have c9 := c8.trans (b9.mono c8.size)
  have c10 := c9.trans (b10.mono c9.size)
  have c11 := c10.trans (b11.mono c10.size)
  clear b8 b9 b10 b11 c8 c9 c10 b17 G1 G2 G3 G4 hld
  go_wp2_with (go_at_call 12; refine (num_any _ _).mono ?_; rintro e w' ⟨rfl, rfl⟩)
  go_ret
  exact ⟨rfl, c11⟩

end Go.Proofs.Ytbdlncfdjmgmdaa
