/-
  Walks: varint.Put, the reference's PutNum.
-/
import Derived.Test.YtoechlmahckchaaG11h
import Derived.Test.YtoechlmahckchaaG11f
import Derived.Test.YtoechlmahckchaaG11b
namespace Go.Proofs.Ytoechlmahckchaa
open Go.RowKit

theorem below_al {B : Nat} {a w : World} (h : Below B a w) (hB : B ≤ w.heap.size) (o : Obj) : Below B a (w.alloc o) := h.alloc hB o

set_option maxRecDepth 100000 in
set_option maxHeartbeats 1000000 in
theorem put_any (x : Int) (l : -9223372036854775808 ≤ x) (u : x ≤ 9223372036854775807) (w : World) :
    Calls Try.prog 51 #[.int .i64 x] w fun e w' => e = .returned (.string (encS x)) ∧ Below w.heap.size w w' := by
  obtain ⟨h0, h1⟩ := foldI_bd l u
  have HF := Lib.hid (fun w : World => fold_any x l u w)
  obtain ⟨f, hf⟩ := Int.eq_ofNat_of_zero_le h0
  rw [hf] at HF h1
  have HS : Hid (encS x = ⟨(encL f).toArray⟩) := Lib.hid (by unfold encS; rw [hf]; rfl)
  have HL := Lib.hid (encL_len (u := f) (by omega))
  have h1' : f < 18446744073709551616 := by omega
  clear hf h0 h1
  obtain ⟨i0, hi, hz, hs0, hy0⟩ := info_parts Try.vinfoByte
  have I := Lib.hid (And.intro hi (And.intro hz (And.intro hs0 hy0)))
  clear hi hz hs0 hy0
  go_enter Try.func51, Try.ntmps51
  go_wp2_with (first
    | (go_at_call 60; refine (HF.out _).mono ?_; rintro e w' ⟨rfl, rfl⟩)
    | (at_make; refine wpList_make_own _ rfl _ _ 70 rfl w.heap.size 5 i0 _ 1 Try.underlying70 I.out.1 I.out.2.1 I.out.2.2.1 _ _ _ 10 rfl rfl rfl (by have := I.out.2.2.2; omega) (by decide) (Nat.le_refl _) (fun w1 hown hgrow => ?_)))
  have hb1 : Below w.heap.size w w1 := ⟨hgrow.os, hgrow.tape, hgrow.output, hgrow.size, fun k hk => hgrow.block k hk (by simp)⟩
  clear hgrow I HF
  go_loopw [3, 4] (fun x y wr => ∃ (u : Nat) (l : List UInt8) (A : Option Addr) (c : Nat), x = .int .u64 u ∧ y = .slice A l.length c ∧ u < 18446744073709551616 ∧ OwnB wr w.heap.size (.slice A l.length c) l ∧ Below w.heap.size w wr ∧ Hid (encL f = l ++ encL u)) (fun x _ _ => (intOf x).toNat)
  case atStart => exact ⟨f, [], _, _, rfl, rfl, h1', hown, hb1, Lib.hid rfl⟩
  case round =>
    clear hown hb1
    obtain ⟨u, l, A, c, rfl, rfl, hu, hown, hb, HE⟩ := hrel
    have hll : l.length ≤ 10 := by have := HL.out; rw [HE.out, List.length_append] at this; omega
    have HO := Lib.hid (fun o => hown.below (Below.refl wr.heap.size wr |>.alloc (Nat.le_refl _) o))
    have hsz := hb.size
    by_cases hlt : u < 128
    · have HN : Hid (encL f = l ++ [UInt8.ofNat u]) := Lib.hid (by rw [HE.out, encL_end hlt])
      have hby : Hid ((u : Int) = (UInt8.ofNat u).toNat) := Lib.hid (by simp; omega)
      clear HE hown
      go_wp2_with (first
        | (refine app_byte rfl _ _ rfl (UInt8.ofNat u) rfl (HO.out _) rfl (by simp [go_sem]) hby.out (by omega) (by simp; omega) (fun A' c' w' ho hb' => ?_))
        | (refine conv_byte rfl _ rfl rfl ho (by simp) ?_))
      go_ret
      exact ⟨by rw [HS.out, HN.out]; rfl, (hb.alloc hsz _).trans hb'⟩
    · have HN : Hid (encL f = (l ++ [UInt8.ofNat (u % 128 + 128)]) ++ encL (u / 128)) := Lib.hid (by rw [HE.out, encL_more hlt]; simp)
      have hby : Hid ((u : Int) % 128 + 128 = (UInt8.ofNat (u % 128 + 128)).toNat) := Lib.hid (by simp; omega)
      clear HE hown
      go_wp2_with (refine app_byte rfl _ _ rfl (UInt8.ofNat (u % 128 + 128)) rfl (HO.out _) rfl (by simp [go_sem]) hby.out (by omega) (by simp; omega) (fun A' c' w' ho hb' => ?_))
      exact ⟨⟨u / 128, _, A', c', by go_num, by simp, by omega, by simpa using ho, (hb.alloc hsz _).trans hb', HN⟩, by simp [intOf]; omega⟩

theorem rfold_eq {x : Int} (l : -9223372036854775808 ≤ x) (u : x ≤ 9223372036854775807) : (if x < 0 then bits .xor .u64 IntKind.u64.max (IntKind.u64.wrap (IntKind.u64.wrap x * 2)) else IntKind.u64.wrap (IntKind.u64.wrap x * 2)) = foldI x := by
  by_cases h : x < 0
  · rw [if_pos h, foldI_neg h, not_u64 _ (by rw [IntKind.wrap_u64]; omega) (by rw [IntKind.wrap_u64]; omega), IntKind.wrap_u64, IntKind.wrap_u64]; omega
  · rw [if_neg h, foldI_pos h, IntKind.wrap_u64, IntKind.wrap_u64]; omega

set_option maxRecDepth 100000 in
set_option maxHeartbeats 1000000 in
theorem rput_any (x : Int) (l : -9223372036854775808 ≤ x) (u : x ≤ 9223372036854775807) (w : World) :
    Calls Try.prog 46 #[.int .i64 x] w fun e w' => e = .returned (.string (encS x)) ∧ Below w.heap.size w w' := by
  obtain ⟨h0, h1⟩ := foldI_bd l u
  have hr := rfold_eq l u
  obtain ⟨f, hf⟩ := Int.eq_ofNat_of_zero_le h0
  rw [hf] at h1 hr
  have HS : Hid (encS x = ⟨(encL f).toArray⟩) := Lib.hid (by unfold encS; rw [hf]; rfl)
  have HL := Lib.hid (encL_len (u := f) (by omega))
  have h1' : f < 18446744073709551616 := by omega
  clear hf h0 h1 l u
  by_cases hx : x < 0
  · rw [if_pos hx] at hr
    go_enter Try.func46, Try.ntmps46
    go_wp2_with fail
    clear hr
    go_loopw [3, 4] (fun x y wr => ∃ (u : Nat) (l : List UInt8) (A : Option Addr) (c : Nat), x = .int .u64 u ∧ y = .slice A l.length c ∧ u < 18446744073709551616 ∧ OwnB wr w.heap.size (.slice A l.length c) l ∧ Below w.heap.size w wr ∧ Hid (encL f = l ++ encL u)) (fun x _ _ => (intOf x).toNat)
    case atStart => exact ⟨f, [], none, 0, rfl, rfl, h1', OwnB.nil _ _, Below.refl _ _, Lib.hid rfl⟩
    case round =>
      obtain ⟨u, l, A, c, rfl, rfl, hu, hown, hb, HE⟩ := hrel
      have hll : l.length ≤ 10 := by have := HL.out; rw [HE.out, List.length_append] at this; omega
      have HO := Lib.hid (fun o => hown.below (Below.refl wr.heap.size wr |>.alloc (Nat.le_refl _) o))
      have hsz := hb.size
      by_cases hlt : u < 128
      · have HN : Hid (encL f = l ++ [UInt8.ofNat u]) := Lib.hid (by rw [HE.out, encL_end hlt])
        have hby : Hid ((u : Int) = (UInt8.ofNat u).toNat) := Lib.hid (by simp; omega)
        clear HE hown
        go_wp2_with (first
          | (refine app_byte rfl _ _ rfl (UInt8.ofNat u) rfl (HO.out _) rfl (by simp [go_sem]) hby.out (by omega) (by simp; omega) (fun A' c' w' ho hb' => ?_))
          | (refine conv_byte rfl _ rfl rfl ho (by simp) ?_))
        go_ret
        exact ⟨by rw [HS.out, HN.out]; rfl, (hb.alloc hsz _).trans hb'⟩
      · have HN : Hid (encL f = (l ++ [UInt8.ofNat (u % 128 + 128)]) ++ encL (u / 128)) := Lib.hid (by rw [HE.out, encL_more hlt]; simp)
        have hby : Hid ((u : Int) % 128 + 128 = (UInt8.ofNat (u % 128 + 128)).toNat) := Lib.hid (by simp; omega)
        have hP := and127_u64 (u : Int) (by omega) (by omega)
        have hQ := or128_u64 ((u : Int) % 128) (by omega) (by omega)
        have hlt' : (127 : Int) < u := by omega
        clear HE hown
        go_wp2_with (refine app_byte rfl _ _ rfl (UInt8.ofNat (u % 128 + 128)) rfl (HO.out _) rfl (by simp [go_sem]) hby.out (by omega) (by simp; omega) (fun A' c' w' ho hb' => ?_))
        exact ⟨⟨u / 128, _, A', c', by go_num, by simp, by omega, by simpa using ho, (hb.alloc hsz _).trans hb', HN⟩, by simp [intOf]; omega⟩
  · rw [if_neg hx] at hr
    go_enter Try.func46, Try.ntmps46
    go_wp2_with fail
    clear hr
    go_loopw [3, 4] (fun x y wr => ∃ (u : Nat) (l : List UInt8) (A : Option Addr) (c : Nat), x = .int .u64 u ∧ y = .slice A l.length c ∧ u < 18446744073709551616 ∧ OwnB wr w.heap.size (.slice A l.length c) l ∧ Below w.heap.size w wr ∧ Hid (encL f = l ++ encL u)) (fun x _ _ => (intOf x).toNat)
    case atStart => exact ⟨f, [], none, 0, rfl, rfl, h1', OwnB.nil _ _, Below.refl _ _, Lib.hid rfl⟩
    case round =>
      obtain ⟨u, l, A, c, rfl, rfl, hu, hown, hb, HE⟩ := hrel
      have hll : l.length ≤ 10 := by have := HL.out; rw [HE.out, List.length_append] at this; omega
      have HO := Lib.hid (fun o => hown.below (Below.refl wr.heap.size wr |>.alloc (Nat.le_refl _) o))
      have hsz := hb.size
      by_cases hlt : u < 128
      · have HN : Hid (encL f = l ++ [UInt8.ofNat u]) := Lib.hid (by rw [HE.out, encL_end hlt])
        have hby : Hid ((u : Int) = (UInt8.ofNat u).toNat) := Lib.hid (by simp; omega)
        clear HE hown
        go_wp2_with (first
          | (refine app_byte rfl _ _ rfl (UInt8.ofNat u) rfl (HO.out _) rfl (by simp [go_sem]) hby.out (by omega) (by simp; omega) (fun A' c' w' ho hb' => ?_))
          | (refine conv_byte rfl _ rfl rfl ho (by simp) ?_))
        go_ret
        exact ⟨by rw [HS.out, HN.out]; rfl, (hb.alloc hsz _).trans hb'⟩
      · have HN : Hid (encL f = (l ++ [UInt8.ofNat (u % 128 + 128)]) ++ encL (u / 128)) := Lib.hid (by rw [HE.out, encL_more hlt]; simp)
        have hby : Hid ((u : Int) % 128 + 128 = (UInt8.ofNat (u % 128 + 128)).toNat) := Lib.hid (by simp; omega)
        have hP := and127_u64 (u : Int) (by omega) (by omega)
        have hQ := or128_u64 ((u : Int) % 128) (by omega) (by omega)
        have hlt' : (127 : Int) < u := by omega
        clear HE hown
        go_wp2_with (refine app_byte rfl _ _ rfl (UInt8.ofNat (u % 128 + 128)) rfl (HO.out _) rfl (by simp [go_sem]) hby.out (by omega) (by simp; omega) (fun A' c' w' ho hb' => ?_))
        exact ⟨⟨u / 128, _, A', c', by go_num, by simp, by omega, by simpa using ho, (hb.alloc hsz _).trans hb', HN⟩, by simp [intOf]; omega⟩

end Go.Proofs.Ytoechlmahckchaa
