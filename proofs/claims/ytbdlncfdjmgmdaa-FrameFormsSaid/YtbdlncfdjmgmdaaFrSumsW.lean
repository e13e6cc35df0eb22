/-
  Walk: FrameSums: a sum hangs on each byte.
-/
import Derived.Test.YtbdlncfdjmgmdaaFrAwake
import Derived.Test.YtbdlncfdjmgmdaaFrText
import Derived.Test.YtbdlncfdjmgmdaaFMask
import Derived.OpenShut
import Derived.Deep.CutBlock
import Derived.Deep.RegionWith
namespace Go.Proofs.Ytbdlncfdjmgmdaa
open Go.RowKit

set_option maxRecDepth 100000 in
set_option maxHeartbeats 1000000 in
theorem sums_nil (s : ByteArray) (a y : Int) (w : World) (h0 : s.size = 0) :
    Calls Try.prog 7 #[.string s, .int .i64 a, .int .i64 y] w fun e w' => e = .returned (.bool true) ∧ Below w.heap.size w w' := by
  have HA := Lib.hid (fun w : World => awake_any w)
  have hl : s.data.toList = [] := List.eq_nil_of_length_eq_zero (by simpa using h0)
  have HS := Lib.hid (fun w : World => sum_any s (by unfold maxLen; omega) w)
  rw [hl, sum_a2] at HS
  have hb : ((s.size : Int) == 0) = true := by rw [h0]; rfl
  clear h0 hl
  go_enter Try.func7, Try.ntmps7
  go_wp2_with (first
    | (go_at_call 13; refine (HS.out _).mono ?_; rintro e w' ⟨rfl, rfl⟩)
    | (go_at_call 15; refine (HA.out _).mono ?_; rintro e w4 ⟨rfl, b4⟩))
  go_ret
  exact ⟨rfl, b4⟩

/-- A place below a size, out of any number. -/
theorem place_any (a : Int) (n : Nat) (h0 : 0 < n) (hn : n ≤ 140737488355328) : ∃ k : Nat, k < n ∧ wrap64 ((IntKind.u64.wrap a).tmod (n : Int)) = k := by
  have h1 : 0 ≤ IntKind.u64.wrap a := by rw [IntKind.wrap_u64]; omega
  have h2 := Int.tmod_nonneg (n : Int) h1
  have h3 := Int.tmod_lt_of_pos (IntKind.u64.wrap a) (show (0 : Int) < n by omega)
  obtain ⟨k, hk⟩ := Int.eq_ofNat_of_zero_le h2
  rw [hk] at h3 ⊢
  exact ⟨k, by omega, by unfold wrap64; omega⟩
/-- A byte turned by a number that is not nought. -/
theorem turn_any (b : UInt8) (d : Nat) (h0 : 0 < d) (hd : d < 256) : ∃ c : UInt8, b ≠ c ∧ bits .xor .u8 (b.toNat : Int) (d : Int) = (c.toNat : Int) := by
  have hb := b.toNat_lt
  have hx : b.toNat ^^^ d < 256 := Nat.xor_lt_two_pow (n := 8) (by omega) (by omega)
  have e : (UInt8.ofNat (b.toNat ^^^ d)).toNat = b.toNat ^^^ d := by rw [UInt8.toNat_ofNat']; omega
  refine ⟨UInt8.ofNat (b.toNat ^^^ d), fun h => ?_, ?_⟩
  · have h2 : b.toNat = b.toNat ^^^ d := by rw [← e, ← h]
    have h3 : b.toNat ^^^ 0 = b.toNat ^^^ d := by rw [Nat.xor_zero]; exact h2
    have := xor_cancel' h3
    omega
  · rw [e]; exact u8_xor_nat _ _ hb hd

set_option maxRecDepth 100000 in
set_option maxHeartbeats 1000000 in
theorem sums_some (s : ByteArray) (a y : Int) (w : World) (hs : s.size ≤ 140737488351232) (h0 : 0 < s.size) :
    Calls Try.prog 7 #[.string s, .int .i64 a, .int .i64 y] w fun e w' => e = .returned (.bool true) ∧ Below w.heap.size w w' := by
  have HA := Lib.hid (fun w : World => awake_any w)
  have hb : ((s.size : Int) == 0) = false := by rw [beq_eq_false_iff_ne]; omega
  obtain ⟨k, hk, hka⟩ := place_any a s.size h0 (by omega)
  have hkl : k < s.data.toList.length := by simpa using hk
  have hy : bits .and .i64 y 127 = y % 128 := mask_of y 7 127 (by decide) (by decide)
  have hy8 : IntKind.u8.wrap (1 + y % 128) = 1 + y % 128 := by rw [IntKind.wrap_u8]; omega
  have hy9 : wrap64 (1 + y % 128) = 1 + y % 128 := by unfold wrap64; omega
  obtain ⟨c, hbc, hx⟩ := turn_any s.data.toList[k] (1 + y % 128).toNat (by omega) (by omega)
  rw [Int.toNat_of_nonneg (show 0 ≤ 1 + y % 128 by omega)] at hx
  have HS := Lib.hid (fun w : World => sum_any s (by unfold maxLen; omega) w)
  have hne := sumL_set hkl hbc
  have hlen : (s.data.toList.set k c).length = s.size := by simp
  have hsz2 : (ByteArray.mk (s.data.toList.set k c).toArray).size ≤ maxLen := by
    rw [← list_size']
    simp
    unfold maxLen
    omega
  have HT := Lib.hid (fun w : World => sum_any ⟨(s.data.toList.set k c).toArray⟩ hsz2 w)
  rw [show (ByteArray.mk (s.data.toList.set k c).toArray).data.toList = s.data.toList.set k c by simp] at HT
  have X1 := sumL_lt s.data.toList
  have Y1 := sumL_lt (s.data.toList.set k c)
  generalize sumL s.data.toList = X at HS hne X1
  generalize sumL (s.data.toList.set k c) = Y at HT hne Y1
  have hne' : ((X : Int) != (Y : Int)) = true := bne_cast hne
  clear hsz2 hbc hne
  have Hcell : Hid (∀ (w5 : World) (g : Nat), RowT w5 g s.data.toList → w5.cell? ⟨g, k, none⟩ = some (.int .u8 (s.data.toList[k]).toNat)) := Lib.hid (fun w5 g hR => hR.cell k hkl)
  have Hset : Hid (∀ (w5 : World) (g : Nat), RowT w5 g s.data.toList → RowT (w5.setCell ⟨g, k, none⟩ (.int .u8 c.toNat)) g (s.data.toList.set k c)) := Lib.hid (fun w5 g hR => hR.set hkl c)
  have hki : (k : Int) < (s.size : Int) := by omega
  go_enter Try.func7, Try.ntmps7
  go_upto_region 7 with (first
    | (go_at_call 15; refine (HA.out _).mono ?_; rintro e w4 ⟨rfl, b4⟩)
    | (refine conv_to rfl _ rfl rfl (fun g cp w5 hg hc hR b5 => ?_)))
  have hcell := Hcell.out w5 g hR
  have hfree := hR.free k hkl
  generalize s.data.toList[k] = b at hx hcell
  go_upto_region 8 with fail
  have b6 : Below w.heap.size w (w5.setCell ⟨g, k, none⟩ (.int .u8 c.toNat)) := (b4.trans (b5.mono b4.size)).setCell (Nat.le_trans b4.size hg) _
  have hR6 := Hset.out w5 g hR
  generalize w5.setCell ⟨g, k, none⟩ (.int .u8 c.toNat) = w6 at b6 hR6 ⊢
  have hcv : ∀ n, (convert 36 9 (.slice (some ⟨g, 0, none⟩) s.size cp)).run Try.prog (w6.drewN n) = .ok (.string ⟨(s.data.toList.set k c).toArray⟩) (w6.drewN n) := fun n => by
    have h := (hR6.drewN n).conv cp
    rwa [hlen] at h
  clear hR6 hR hcell hfree hx hy hy8 hy9 hka Hcell Hset hlen
  generalize (s.data.toList.set k c).toArray = T at HT hcv
  go_quiet (first
    | (go_at_call_of 13 (Value.string s); exact (HS.out _).mono fun e w2 h => ⟨h.1, _, h.2.symm⟩)
    | (go_at_call_of 13 (Value.string ⟨T⟩); exact (HT.out _).mono fun e w2 h => ⟨h.1, _, h.2.symm⟩))
  have b7 := below_drewN b6 nq
  generalize w6.drewN nq = w7 at b7 ⊢
  clear hcv
  have x1 : (X : Int) < 65536 := by omega
  have y1 : (Y : Int) < 65536 := by omega
  go_wp2_with (go_at_call 12; refine (num_any _ _).mono ?_; rintro e w' ⟨rfl, rfl⟩)
  go_ret
  exact ⟨rfl, b7⟩

theorem sums8_any (s : ByteArray) (a y : Int) (w : World) (hs : s.size ≤ 140737488351232) (_ : (Lit.int .i64 a).wf = true) (_ : (Lit.int .i64 y).wf = true) :
    Calls Try.prog 7 #[.string s, .int .i64 a, .int .i64 y] w fun e w' => e = .returned (.bool true) ∧ Below w.heap.size w w' := by
  by_cases h0 : s.size = 0
  · exact sums_nil s a y w h0
  · exact sums_some s a y w hs (by omega)

end Go.Proofs.Ytbdlncfdjmgmdaa
