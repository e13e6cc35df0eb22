/-
  Walks: frame.Put, the reference's PutFrame.
-/
import Derived.Test.YtoechlmahckchaaG11g
import Derived.Test.YtoechlmahckchaaFrRow
import Derived.Deep.CutBlock
namespace Go.Proofs.Ytoechlmahckchaa
open Go.RowKit

theorem putS_list (s : ByteArray) : (putS s).data.toList = putL s.data.toList := rfl
theorem size_list (s : ByteArray) : s.data.toList.length = s.size := by simp
theorem putS_size (s : ByteArray) : (putS s).size = s.size + 4 := by
  have h : (putS s).size = (putL s.data.toList).length := by rw [← size_list, putS_list]
  rw [h, putL_len, size_list]

set_option maxHeartbeats 400000 in
theorem put_bad (s : ByteArray) (w : World) (h : s.size < 1 ∨ 60 < s.size) :
    Calls Try.prog 35 #[.string s] w fun e w' => e = .returned (.tuple #[.string ⟨#[]⟩, .int .i64 800]) ∧ w = w' := by
  have h' : (s.size : Int) < 1 ∨ 60 < (s.size : Int) := by omega
  go_enter Try.func35, Try.ntmps35
  go_wp2_with (go_at_call 26; refine (fwithin_no _ _ _ _ h').mono ?_; rintro e w' ⟨rfl, rfl⟩)
  go_ret2
  exact ⟨rfl, rfl⟩

theorem byte_wrap (n : Nat) : (IntKind.u8.wrap (n : Int)) = (UInt8.ofNat n).toNat := by
  rw [IntKind.wrap_u8]; simp

theorem own_cap {w : World} {base g n c : Nat} {l : List UInt8} (h : OwnB w base (.slice (some ⟨g, 0, none⟩) n c) l) : l.length ≤ c := by
  obtain ⟨A, c', e, h1, _⟩ := h.form
  injection e with _ _ e3
  omega
theorem own_cells {w : World} {base g n c : Nat} {b : UInt8} {l : List UInt8} (h : OwnB w base (.slice (some ⟨g, 0, none⟩) n c) (b :: l)) (hn : n = (b :: l).length) :
    ∀ j (hj : j < l.length), w.cell? ((⟨g, 1, none⟩ : Addr).add j) = some (.int .u8 l[j].toNat) := by
  intro j hj
  subst hn
  rw [Addr.add_mid, World.ownsRow.cellAt h (1 + j) (by simp; omega)]
  simp [bytL, hj, Nat.add_comm 1 j]

set_option maxRecDepth 100000 in
set_option maxHeartbeats 1000000 in
theorem put_ok (s : ByteArray) (w : World) (h1 : 1 ≤ s.size) (h60 : s.size ≤ 60) :
    Calls Try.prog 35 #[.string s] w fun e w' => e = .returned (.tuple #[.string (putS s), .int .i64 0]) ∧ Below w.heap.size w w' := by
  have HW := Lib.hid (fun w : World => fwithin_yes (s.size : Int) 1 60 w (by omega) (by omega))
  have hX := sumL_lt (lenL s.data.toList)
  have hsz : (ByteArray.mk (lenL s.data.toList).toArray).size ≤ maxLen := by
    rw [← size_list]; simp [lenL]; unfold maxLen; omega
  have HS := Lib.hid (fun w : World => sum_any ⟨(lenL s.data.toList).toArray⟩ hsz w)
  have hl0 : (ByteArray.mk (lenL s.data.toList).toArray).data.toList = lenL s.data.toList := by simp
  rw [hl0] at HS
  have hL : Hid ([181, UInt8.ofNat s.size] ++ s.data.toList = (181 : UInt8) :: lenL s.data.toList) := Lib.hid (by simp [lenL])
  have HP : Hid (putS s = ⟨(putL s.data.toList).toArray⟩) := Lib.hid rfl
  have HT0 : Hid ((181 : UInt8) :: lenL s.data.toList ++ [UInt8.ofNat (sumL (lenL s.data.toList) / 256), UInt8.ofNat (sumL (lenL s.data.toList) % 256)] = putL s.data.toList) := Lib.hid rfl
  generalize hXe : sumL (lenL s.data.toList) = X at hX HS HT0
  clear hXe hsz hl0
  have hb0 : Hid ((181 : Int) = (181 : UInt8).toNat) := Lib.hid rfl
  have hbs : Hid ((s.size : Int) = (UInt8.ofNat s.size).toNat) := Lib.hid (by simp; omega)
  have hbh : Hid ((X : Int) / 256 = (UInt8.ofNat (X / 256)).toNat) := Lib.hid (by simp; omega)
  have hbl : Hid ((X : Int) % 256 = (UInt8.ofNat (X % 256)).toNat) := Lib.hid (by simp)
  have w8 : IntKind.u8.wrap (s.size : Int) = s.size := by rw [IntKind.wrap_u8]; omega
  have x8 : IntKind.u8.wrap ((X : Int) / 256) = (X : Int) / 256 := by rw [IntKind.wrap_u8]; omega
  have x0 : IntKind.u8.wrap (X : Int) = (X : Int) % 256 := by rw [IntKind.wrap_u8]
  obtain ⟨i0, hi, hz, hs0, hy0⟩ := info_parts Try.vinfoByte
  have I := Lib.hid (And.intro hi (And.intro hz (And.intro hs0 hy0)))
  clear hi hz hs0 hy0
  go_enter Try.func35, Try.ntmps35
  go_upto_region 4 with (first
    | (go_at_call 26; refine (HW.out _).mono ?_; rintro e w' ⟨rfl, rfl⟩)
    | (at_make; refine wpList_make_own _ rfl _ _ 70 rfl w.heap.size 5 i0 _ 1 Try.underlying70 I.out.1 I.out.2.1 I.out.2.2.1 _ _ _ (s.size + 4) rfl rfl (by omega) (by rw [I.out.2.2.2]; omega) (by unfold maxLen; omega) (Nat.le_refl _) (fun w1 hown hgrow => ?_)))
  have hb1 : Below w.heap.size w w1 := ⟨hgrow.os, hgrow.tape, hgrow.output, hgrow.size, fun k hk => hgrow.block k hk (by simp)⟩
  have hown1 : OwnB w1 w.heap.size (.slice (some ⟨w.heap.size, 0, none⟩) 0 (s.size + 4)) [] := hown
  have HO := Lib.hid (fun o => hown1.below (Below.refl w1.heap.size w1 |>.alloc (Nat.le_refl _) o))
  have hz1 := hb1.size
  clear hgrow I hown hown1
  go_upto_region 5 with (refine app_two rfl _ _ rfl 181 (UInt8.ofNat s.size) rfl (HO.out _) rfl (by simp [go_sem]) (by simp [go_sem]) hb0.out hbs.out (by simp) (by simp; omega) (fun g c w2 ho2 hb2 => ?_))
  have hb2' : Below w.heap.size w w2 := (hb1.alloc hz1 _).trans hb2
  clear HO hb1 hb2 hz1
  have ho2' : OwnB w2 w.heap.size (.slice (some ⟨g, 0, none⟩) 2 c) [181, UInt8.ofNat s.size] := ho2
  clear ho2
  go_upto_region 6 with (refine app_str rfl _ _ rfl rfl ho2' rfl (by simp) (by simp; omega) hb2'.size (fun g3 c3 w3 ho3 hb3 => ?_))
  have hb3' : Below w.heap.size w w3 := hb2'.trans hb3
  clear hb2' hb3 ho2'
  have ho3' : OwnB w3 w.heap.size (.slice (some ⟨g3, 0, none⟩) (2 + s.size) c3) (181 :: lenL s.data.toList) := by rw [← hL.out]; exact ho3
  have hll : (lenL s.data.toList).length = 1 + s.size := by simp [lenL]; omega
  have hT : Hid ((181 : UInt8) :: (lenL s.data.toList ++ [UInt8.ofNat (X / 256), UInt8.ofNat (X % 256)]) = putL s.data.toList) := HT0
  have hc3 : 2 + s.size ≤ c3 := by have := own_cap ho3'; simp [lenL] at this; omega
  have hc3' : ¬ c3 = 1 := by omega
  have hc4 : (2 : Int) + (s.size : Int) ≤ (c3 : Int) := by omega
  clear ho3 hL
  generalize lenL s.data.toList = T at *
  have HC := Lib.hid (own_cells ho3' (by simp; omega))
  have HO := Lib.hid (fun o => ho3'.below (Below.refl w3.heap.size w3 |>.alloc (Nat.le_refl _) o))
  have hz3 := hb3'.size
  clear ho3'
  go_upto_region 7 with (first
    | (refine conv_at rfl _ rfl rfl (by omega) HC.out ?_)
    | (go_at_call 44; refine (HS.out _).mono ?_; rintro e w' ⟨rfl, rfl⟩))
  go_wp2_with (first
    | (refine app_two rfl _ _ rfl (UInt8.ofNat (X / 256)) (UInt8.ofNat (X % 256)) rfl (HO.out _) rfl (by simp [go_sem]) (by simp [go_sem]) hbh.out hbl.out (by simp; omega) (by simp; omega) (fun g4 c4 w4 ho4 hb4 => ?_))
    | (refine conv_byte rfl _ rfl rfl ho4 (by simp) ?_))
  go_ret2
  exact ⟨by rw [HP.out, ← hT.out]; rfl, (hb3'.alloc hz3 _).trans hb4⟩

theorem fcat_bytes (a b : List UInt8) : (⟨a.toArray⟩ : ByteArray) ++ (⟨b.toArray⟩ : ByteArray) = ⟨(a ++ b).toArray⟩ := by
  rw [ByteArray.mk_append_mk]
theorem cat_three (a b c : UInt8) (l : List UInt8) : (⟨#[a]⟩ : ByteArray) ++ ⟨l.toArray⟩ ++ (⟨#[b, c]⟩ : ByteArray) = ⟨(a :: (l ++ [b, c])).toArray⟩ := by
  show (⟨[a].toArray⟩ : ByteArray) ++ ⟨l.toArray⟩ ++ (⟨[b, c].toArray⟩ : ByteArray) = _
  rw [fcat_bytes, fcat_bytes]
  rfl
theorem small_list {l : List UInt8} (h : l.length ≤ 2) : l.length ≤ maxLen := by unfold maxLen; omega
theorem own_row {w : World} {base : Nat} {ys : List UInt8} (hb : base ≤ w.heap.size) (hl : ys.length ≤ maxLen) : OwnB (w.alloc (.cells (bytL ys).toArray 5)) base (.slice (some ⟨w.heap.size, 0, none⟩) ys.length ys.length) ys :=
  World.ownsRow_lit w (bytL ys).toArray ys.length hb hl (by simp [bytL])

set_option maxHeartbeats 400000 in
theorem rput_bad (s : ByteArray) (w : World) (h : s.size < 1 ∨ 60 < s.size) :
    Calls Try.prog 25 #[.string s] w fun e w' => e = .returned (.tuple #[.string ⟨#[]⟩, .int .i64 800]) ∧ w = w' := by
  by_cases h1 : s.size < 1
  · have q : decide ((s.size : Int) < 1) = true := by simp; omega
    go_enter Try.func25, Try.ntmps25
    go_wp2_with (fail)
    go_ret2
    exact ⟨rfl, rfl⟩
  · have q : decide ((s.size : Int) < 1) = false := by simp; omega
    have q2 : (60 : Int) < (s.size : Int) := by omega
    go_enter Try.func25, Try.ntmps25
    go_wp2_with (fail)
    go_ret2
    exact ⟨rfl, rfl⟩

set_option maxRecDepth 100000 in
set_option maxHeartbeats 1000000 in
theorem rput_ok (s : ByteArray) (w : World) (h1 : 1 ≤ s.size) (h60 : s.size ≤ 60) :
    Calls Try.prog 25 #[.string s] w fun e w' => e = .returned (.tuple #[.string (putS s), .int .i64 0]) ∧ Below w.heap.size w w' := by
  have hX := sumL_lt (lenL s.data.toList)
  have hs0 : s = ⟨s.data.toList.toArray⟩ := by simp
  have hcat : (⟨#[UInt8.ofNat s.size]⟩ : ByteArray) ++ s = ⟨(lenL s.data.toList).toArray⟩ := by
    conv => lhs; rhs; rw [hs0]
    rw [show (⟨#[UInt8.ofNat s.size]⟩ : ByteArray) = ⟨[UInt8.ofNat s.size].toArray⟩ from rfl, fcat_bytes]
    simp [lenL]
  have hsz : (ByteArray.mk (lenL s.data.toList).toArray).size ≤ maxLen := by
    rw [← size_list]; simp [lenL]; unfold maxLen; omega
  have HS := Lib.hid (fun w : World => rsum_any ⟨(lenL s.data.toList).toArray⟩ hsz w)
  have hl0 : (ByteArray.mk (lenL s.data.toList).toArray).data.toList = lenL s.data.toList := by simp
  rw [hl0] at HS
  have hll : (ByteArray.mk (lenL s.data.toList).toArray).size = 1 + s.size := by rw [← size_list]; simp [lenL]; omega
  have HP : Hid (putS s = (⟨#[181]⟩ : ByteArray) ++ ⟨(lenL s.data.toList).toArray⟩ ++ (⟨#[UInt8.ofNat (sumL (lenL s.data.toList) / 256), UInt8.ofNat (sumL (lenL s.data.toList) % 256)]⟩ : ByteArray)) := Lib.hid (by
    rw [cat_three]; rfl)
  generalize hXe : sumL (lenL s.data.toList) = X at hX HS HP
  clear hXe hsz hl0 hs0
  generalize (ByteArray.mk (lenL s.data.toList).toArray) = T at *
  have q : decide ((s.size : Int) < 1) = false := by simp; omega
  have q2 : decide ((60 : Int) < (s.size : Int)) = false := by simp; omega
  have q2' : decide (60 < s.size) = false := by simp; omega
  have hbh : (X : Int) / 256 = (UInt8.ofNat (X / 256)).toNat := by simp; omega
  have hbl : (X : Int) % 256 = (UInt8.ofNat (X % 256)).toNat := by simp
  have hbs : (s.size : Int) = (UInt8.ofNat s.size).toNat := by simp; omega
  have O1 : Hid (∀ (w : World) (n : Nat), n = w.heap.size → OwnB (w.alloc (.cells #[.int .u8 s.size] 5)) 0 (.slice (some ⟨n, 0, none⟩) 1 1) [UInt8.ofNat s.size]) := Lib.hid (fun w n e => by subst e; rw [hbs]; exact own_row (Nat.zero_le _) (small_list (by simp)))
  have O2 : Hid (∀ (w : World) (n : Nat), n = w.heap.size → OwnB (w.alloc (.cells #[.int .u8 181] 5)) 0 (.slice (some ⟨n, 0, none⟩) 1 1) [181]) := Lib.hid (fun w n e => by subst e; exact own_row (ys := [181]) (Nat.zero_le _) (by decide))
  have O3 : Hid (∀ (w : World) (n : Nat), n = w.heap.size → OwnB (w.alloc (.cells #[.int .u8 ((X : Int) / 256), .int .u8 ((X : Int) % 256)] 5)) 0 (.slice (some ⟨n, 0, none⟩) 2 2) [UInt8.ofNat (X / 256), UInt8.ofNat (X % 256)]) := Lib.hid (fun w n e => by subst e; rw [hbh, hbl]; exact own_row (Nat.zero_le _) (small_list (by simp)))
  clear hbh hbl hbs
  have w8 : IntKind.u8.wrap (s.size : Int) = s.size := by rw [IntKind.wrap_u8]; omega
  have x8 : IntKind.u8.wrap ((X : Int) / 256) = (X : Int) / 256 := by rw [IntKind.wrap_u8]; omega
  have x0 : IntKind.u8.wrap (X : Int) = (X : Int) % 256 := by rw [IntKind.wrap_u8]
  go_enter Try.func25, Try.ntmps25
  go_wp2_with (first
    | (go_at_call 37; refine (HS.out _).mono ?_; rintro e w' ⟨rfl, rfl⟩)
    | (refine conv_byte rfl _ rfl rfl (O1.out _ _ (by simp)) (by simp) ?_)
    | (refine conv_byte rfl _ rfl rfl (O2.out _ _ (by simp)) (by simp) ?_)
    | (refine conv_byte rfl _ rfl rfl (O3.out _ _ (by simp)) (by simp) ?_))
  go_ret2
  exact ⟨by rw [HP.out]; rfl, (((Below.refl _ w).alloc (Nat.le_refl _) _).alloc (by simp) _).alloc (by simp; omega) _⟩

end Go.Proofs.Ytoechlmahckchaa
