/-
  Walk: the laws' awake.
  'x & (2^p - 1)' is the rest by 2^p. No program here.
  Walk: TreeForms: bounds and items that are none, items that are there.
-/
import Derived.Test.YtdoflmphkalicaaS21
import Derived.Test.YtdoflmphkalicaaS15
import Derived.Laws.BitsLemmas
import Derived.WalkKit
import Derived.IntWalk
import Derived.Deep.DeepCutAuto
import Derived.Deep.CutBlock
import Derived.OpenShut
namespace Go.Proofs.Ytdoflmphkalicaa
open Go.RowKit

def aw1 : List It := [⟨0, 5, 1, 2⟩, ⟨0, 3, 2, 4⟩, ⟨0, 5, 3, 8⟩]
def aw2 : List It := [⟨0, 9, 4, 1⟩, ⟨0, 5, 3, 1⟩]
def aw3 : List It := [⟨1, 9, 4, 1⟩]
def aw4 : List It := [⟨0, 3, 2, 4⟩, ⟨0, 5, 1, 2⟩, ⟨0, 5, 3, 8⟩]
def aw5 : List It := [⟨0, 5, 1, 2⟩, ⟨0, 5, 3, 8⟩]
theorem aw_new1 : NewS [] aw1 := ⟨by decide, by decide⟩
theorem aw_row : insAll [] aw1 = aw4 := rfl
theorem aw_new2 : ¬ NewS aw4 aw2 := fun h => by have := h.1 ⟨0, 5, 3, 1⟩ (by simp [aw2]); revert this; decide
theorem aw_stay : stay 5 aw4 = aw5 := rfl
theorem aw_in1 : (foldA [] (inS 3 5 aw4)).n = 1 ∧ (foldA [] (inS 3 5 aw4)).s = 4 := by decide
theorem aw_in2 : (foldA [] (inS 5 6 aw4)).n = 2 ∧ (foldA [] (inS 5 6 aw4)).s = 10 := by decide
theorem butS_new {w w' : World} {gs : List Nat} {g : Nat} {t : TypeId} {cs : Array Value} (hb : ButS gs w w') (h : Has w g t cs) (hg : g ∉ gs) : Has w' g t cs := (hb.other g h.lt hg).trans h

set_option maxRecDepth 100000 in
set_option maxHeartbeats 4000000 in
theorem aw19_any (w : World) : Calls Try.prog 13 #[] w fun e w' => e = .returned (.bool true) ∧ Below w.heap.size w w' := by
  go_enter Try.func13, Try.ntmps13
  go_wp2_with fail
  refine (tnew_ok none 0 0 [] w Ints.nil (fun _ => rfl) rfl).mono ?_
  rintro e w1 ⟨g, rfl, hq, hb⟩
  have L1 := Lib.hid (LT.new (Below.refl _ w) hq hb)
  clear hq hb
  generalize (fun k => w.heap.size ≤ k ∧ k < w1.heap.size) = O1 at L1
  go_wp2_with fail
  refine (tnew_no _ 2 2 [2, 1] _ (ints_of_has (Has.made _ _ _) rfl) (by unfold maxLen; omega) rfl).mono ?_
  rintro e w2 ⟨rfl, hb⟩
  have L2 := Lib.hid ((L1.out.below ((Below.refl _ _).alloc (Nat.le_refl _) _)).below hb)
  clear hb L1
  go_wp2_with (go_at_call 12; refine (num0_any _ _).mono ?_; rintro e w' ⟨rfl, rfl⟩)
  refine (item19_any _ _ _ _ _).mono ?_
  rintro e w3 ⟨rfl, hb⟩
  have L3 := Lib.hid (L2.out.below hb)
  clear hb L2
  go_wp2_with fail
  refine (item19_any _ _ _ _ _).mono ?_
  rintro e w4 ⟨rfl, hb⟩
  have L4 := Lib.hid (L3.out.below hb)
  clear hb L3
  go_wp2_with fail
  refine (item19_any _ _ _ _ _).mono ?_
  rintro e w5 ⟨rfl, hb⟩
  have L5 := Lib.hid (L4.out.below hb)
  clear hb L4
  go_wp2_with fail
  have L6 := Lib.hid (L5.out.below ((Below.refl _ _).alloc (Nat.le_refl _) (.cells #[.int .i64 0, .int .i64 5, .int .i64 1, .int .i64 2, .int .i64 0, .int .i64 3, .int .i64 2, .int .i64 4, .int .i64 0, .int .i64 5, .int .i64 3, .int .i64 8] 47)))
  have hh := Has.made w5 47 #[.int .i64 0, .int .i64 5, .int .i64 1, .int .i64 2, .int .i64 0, .int .i64 3, .int .i64 2, .int .i64 4, .int .i64 0, .int .i64 5, .int .i64 3, .int .i64 8]
  refine (L6.out.insert (n := 3) (c := 3) (xs := aw1) (items_has (xs := aw1) hh rfl) (fun ad e => by injection e with e; rw [← e]; exact L6.out.apart hh) rfl aw_new1).mono ?_
  rintro e w7 ⟨rfl, l, _⟩
  rw [aw_row] at l
  have L7 := Lib.hid l
  clear l L6 hh L5
  generalize GrowT _ _ _ = O7 at L7
  go_wp2_with fail
  refine (item19_any _ _ _ _ _).mono ?_
  rintro e w8 ⟨rfl, hb⟩
  have L8 := Lib.hid (L7.out.below hb)
  clear hb L7
  go_wp2_with fail
  refine (item19_any _ _ _ _ _).mono ?_
  rintro e w9 ⟨rfl, hb⟩
  have L9 := Lib.hid (L8.out.below hb)
  clear hb L8
  go_wp2_with fail
  have L10 := Lib.hid (L9.out.below ((Below.refl _ _).alloc (Nat.le_refl _) (.cells #[.int .i64 0, .int .i64 9, .int .i64 4, .int .i64 1, .int .i64 0, .int .i64 5, .int .i64 3, .int .i64 1] 47)))
  have hh := Has.made w9 47 #[.int .i64 0, .int .i64 9, .int .i64 4, .int .i64 1, .int .i64 0, .int .i64 5, .int .i64 3, .int .i64 1]
  refine (L10.out.insert_twice (n := 2) (c := 2) (xs := aw2) (items_has (xs := aw2) hh rfl) rfl aw_new2).mono ?_
  rintro e w11 ⟨rfl, l, _⟩
  have L11 := Lib.hid l
  clear l L10 hh L9
  go_wp2_with fail
  refine (item19_any _ _ _ _ _).mono ?_
  rintro e w12 ⟨rfl, hb⟩
  have L12 := Lib.hid (L11.out.below hb)
  clear hb L11
  go_wp2_with fail
  have L13 := Lib.hid (L12.out.below ((Below.refl _ _).alloc (Nat.le_refl _) (.cells #[.int .i64 1, .int .i64 9, .int .i64 4, .int .i64 1] 47)))
  have hh := Has.made w12 47 #[.int .i64 1, .int .i64 9, .int .i64 4, .int .i64 1]
  refine (L13.out.insert_form (n := 1) (c := 1) (xs := aw3) (items_has (xs := aw3) hh rfl) (by omega) rfl).mono ?_
  rintro e w14 ⟨rfl, l, _⟩
  have L14 := Lib.hid l
  clear l L13 hh L12
  go_wp2_with fail
  refine (L14.out.q.range 3 5).mono ?_
  rintro e w15 ⟨H1, _, rfl, hh1, hb⟩
  have L15 := Lib.hid (L14.out.below hb)
  clear hb L14 hh1
  have E1 := Lib.hid aw_in1
  generalize foldA [] (inS 3 5 aw4) = V1 at E1
  go_wp2_with fail
  refine (L15.out.q.range 5 6).mono ?_
  rintro e w16 ⟨H2, _, rfl, hh2, hb⟩
  have L16 := Lib.hid (L15.out.below hb)
  clear hb L15 hh2
  have E2 := Lib.hid aw_in2
  generalize foldA [] (inS 5 6 aw4) = V2 at E2
  go_upto_region 9 with (first | (refine store_has rfl _ _ rfl w16.heap.size (ac := V1) (A := some ⟨H1, 0, none⟩) (k := V1.h.length) (c := V1.h.length) rfl rfl ((Has.made _ _ _).alloc _) rfl ?_) | (refine store_has rfl _ _ rfl (w16.heap.size + 1) (ac := V2) (A := some ⟨H2, 0, none⟩) (k := V2.h.length) (c := V2.h.length) rfl rfl ((made2 _ _ _ _).rowFar (by omega) _) rfl ?_))
  have X1 : ∀ (o o' : Array Value) (c1 c2 : Array Value), Has ((((w16.alloc (.cells o 49)).alloc (.cells o' 49)).setRow w16.heap.size c1).setRow (w16.heap.size + 1) c2) w16.heap.size 49 c1 ∧ Has ((((w16.alloc (.cells o 49)).alloc (.cells o' 49)).setRow w16.heap.size c1).setRow (w16.heap.size + 1) c2) (w16.heap.size + 1) 49 c2 ∧ Below w16.heap.size w16 ((((w16.alloc (.cells o 49)).alloc (.cells o' 49)).setRow w16.heap.size c1).setRow (w16.heap.size + 1) c2) := fun o o' c1 c2 =>
    ⟨(((Has.made _ _ _).alloc _).row _).rowFar (by omega) _, ((made2 _ _ _ _).rowFar (by omega) _).row _, below_row (below_row (below_alloc ((Below.refl _ _).alloc (Nat.le_refl _) _) (Nat.le_refl _) _) (Nat.le_refl _) _) (by omega) _⟩
  obtain ⟨x1, x2, x3⟩ := X1 #[.int .i64 0, .int .i64 0, .int .i64 0, .int .i64 0, .int .i64 0, .int .i64 0, .int .i64 0, .int .i64 0, .int .i64 0, .int .i64 0, .int .i64 0, .int .i64 0, .slice none 0 0] #[.int .i64 0, .int .i64 0, .int .i64 0, .int .i64 0, .int .i64 0, .int .i64 0, .int .i64 0, .int .i64 0, .int .i64 0, .int .i64 0, .int .i64 0, .int .i64 0, .slice none 0 0] (accC V1 (some ⟨H1, 0, none⟩) V1.h.length V1.h.length) (accC V2 (some ⟨H2, 0, none⟩) V2.h.length V2.h.length)
  clear X1
  generalize World.setRow _ (w16.heap.size + 1) _ = w17 at x1 x2 x3 ⊢
  have L17 := Lib.hid (L16.out.below x3)
  have HG := Lib.hid (show g < w16.heap.size from L16.out.g_in.2.2)
  have K1 := Lib.hid x1
  have K2 := Lib.hid x2
  clear x1 x2 x3 L16
  go_wp2_with fail
  refine (L17.out.evict 5).mono ?_
  rintro e w18 ⟨rfl, l, hb⟩
  rw [aw_stay] at l ⊢
  have L18 := Lib.hid l
  have hg := HG.out
  have hc0 : w18.cell? ⟨w16.heap.size, 0, none⟩ = some (.int .i64 1) := by rw [(butS_new hb K1.out (by simp; omega)).cell, accC_0, E1.out.1]
  have hc1 : w18.cell? ⟨w16.heap.size, 1, none⟩ = some (.int .i64 4) := by rw [(butS_new hb K1.out (by simp; omega)).cell, accC_1, E1.out.2]
  have hc2 : w18.cell? ⟨w16.heap.size + 1, 0, none⟩ = some (.int .i64 2) := by rw [(butS_new hb K2.out (by simp; omega)).cell, accC_0, E2.out.1]
  have hc3 : w18.cell? ⟨w16.heap.size + 1, 1, none⟩ = some (.int .i64 10) := by rw [(butS_new hb K2.out (by simp; omega)).cell, accC_1, E2.out.2]
  have e9 : ((aw4.length : Nat) : Int) - ((aw5.length : Nat) : Int) = 1 := by decide
  rw [e9]
  clear l hb L17 K1 K2 HG hg e9 E1 E2
  generalize GrowT _ _ _ = O18 at L18
  go_wp2_with (go_at_call 12; refine (num0_any _ _).mono ?_; rintro e w' ⟨rfl, rfl⟩)
  refine L18.out.q.items.mono ?_
  rintro e w19 ⟨A9, c9, rfl, ho, hb⟩
  have L19 := Lib.hid (L18.out.below hb)
  have HI := Lib.hid ho.items
  clear ho hb L18 hc0 hc1 hc2 hc3
  go_wp2_with fail
  refine (item19_any _ _ _ _ _).mono ?_
  rintro e w20 ⟨rfl, hb⟩
  have L20 := Lib.hid (L19.out.below hb)
  have HI2 := Lib.hid (HI.out.below hb)
  clear hb L19 HI
  go_wp2_with fail
  refine (item19_any _ _ _ _ _).mono ?_
  rintro e w21 ⟨rfl, hb⟩
  have L21 := Lib.hid (L20.out.below hb)
  have HI3 := Lib.hid (HI2.out.below hb)
  clear hb L20 HI2
  go_wp2_with fail
  have hal := (Below.refl w21.heap.size w21).alloc (Nat.le_refl _) (.cells #[.int .i64 0, .int .i64 5, .int .i64 1, .int .i64 2, .int .i64 0, .int .i64 5, .int .i64 3, .int .i64 8] 47)
  have hh := Has.made w21 47 #[.int .i64 0, .int .i64 5, .int .i64 1, .int .i64 2, .int .i64 0, .int .i64 5, .int .i64 3, .int .i64 8]
  refine (sameitems_any _ _ 2 _ _ aw5 _ (HI3.out.below hal) (items_has (xs := aw5) hh rfl) (by omega)).mono ?_
  rintro e w22 ⟨rfl, hb⟩
  have L22 := Lib.hid (L21.out.below (hal.trans (hb.mono hal.size)))
  clear hal hh hb L21 HI3
  go_wp2_with fail
  go_ret
  exact ⟨rfl, L22.out.keep⟩

end Go.Proofs.Ytdoflmphkalicaa

namespace Go.Proofs.Ytdoflmphkalicaa

theorem mask_of (n : Int) (p : Nat) (q : Int) (hp : p ≤ 62) (h : (BitVec.ofInt 64 q).toNat = 2 ^ p - 1) : bits .and .i64 n q = n % ((2 ^ p : Nat) : Int) := by
  have e : (BitVec.ofInt 64 n &&& BitVec.ofInt 64 q).toNat = (n % ((2 ^ 64 : Nat) : Int)).toNat % 2 ^ p := by
    rw [BitVec.toNat_and, BitVec.toNat_ofInt, h, Nat.and_two_pow_sub_one_eq_mod]
  show IntKind.i64.wrap ((BitVec.ofInt 64 n &&& BitVec.ofInt 64 q).toNat : Nat) = _
  rw [e, IntKind.wrap_i64]
  have hd : (2 ^ p : Nat) ∣ 2 ^ 64 := Nat.pow_dvd_pow 2 (by omega)
  have hlt : (n % ((2 ^ 64 : Nat) : Int)).toNat % 2 ^ p < 2 ^ 62 + 1 := by
    have h1 := Nat.mod_lt (n % ((2 ^ 64 : Nat) : Int)).toNat (Nat.pow_pos (n := p) (show 0 < 2 by decide))
    have h2 : 2 ^ p ≤ 2 ^ 62 := Nat.pow_le_pow_right (by decide) hp
    omega
  have hn : 0 ≤ n % ((2 ^ 64 : Nat) : Int) := Int.emod_nonneg _ (by decide)
  have h3 : (((n % ((2 ^ 64 : Nat) : Int)).toNat % 2 ^ p : Nat) : Int) = n % ((2 ^ p : Nat) : Int) := by
    rw [Int.natCast_emod, Int.toNat_of_nonneg hn]
    exact Int.emod_emod_of_dvd n (Int.natCast_dvd_natCast.2 hd)
  rw [← h3]
  omega
theorem mask20 (n : Int) : bits .and .i64 n 1048575 = n % 1048576 := mask_of n 20 1048575 (by decide) (by decide)
theorem mask12 (n : Int) : bits .and .i64 n 4095 = n % 4096 := mask_of n 12 4095 (by decide) (by decide)
theorem mask40 (n : Int) : bits .and .i64 n 1099511627775 = n % 1099511627776 := mask_of n 40 1099511627775 (by decide) (by decide)
theorem mask3 (n : Int) : bits .and .i64 n 3 = n % 4 := mask_of n 2 3 (by decide) (by decide)
theorem mask7 (n : Int) : bits .and .i64 n 7 = n % 8 := mask_of n 3 7 (by decide) (by decide)
theorem mask255 (n : Int) : bits .and .i64 n 255 = n % 256 := mask_of n 8 255 (by decide) (by decide)
theorem mask1023 (n : Int) : bits .and .i64 n 1023 = n % 1024 := mask_of n 10 1023 (by decide) (by decide)

end Go.Proofs.Ytdoflmphkalicaa

namespace Go.Proofs.Ytdoflmphkalicaa
open Go.RowKit

def fx : List It := [⟨0, 5, 1, 2⟩]
theorem tbd_long {bs : List Int} (h : 8 < bs.length) : boundsB bs = false := boundsB_false fun h2 => by omega
theorem fit_bad {R xs : List It} {x : It} (hx : x ∈ xs) (h : itemB x = false) : fitT R xs = false := Bool.eq_false_iff.2 fun e => by
  unfold fitT at e
  rw [Bool.and_eq_true] at e
  have := List.all_eq_true.1 e.2 x hx
  rw [h] at this
  cases this
theorem itemB_no {x : It} (h : ¬ (itemB x = true)) : itemB x = false := by simpa using h
set_option maxRecDepth 100000 in
theorem tmake_long (d : Int) (h1 : 1 ≤ d) (h2 : d ≤ 1024) (w : World) : ∃ N, 8 < N ∧ N ≤ 2000 ∧ (Instr.makeSlice 22 (.int .i64 (8 + d)) (.int .i64 (8 + d))).run Try.prog w = .ok (.slice (some ⟨w.heap.size, 0, none⟩) N N) (w.alloc (.cells (zeros N) 3)) := by
  obtain ⟨i0, hi, hz, hs0, hy0⟩ := info_parts Try.infoInt
  have h := make_ints (P := Try.prog) 22 3 i0 Try.underlying22 hi hz hs0 hy0 (7 + d).toNat (by omega) w
  rw [show (((7 + d).toNat : Nat) : Int) + 1 = 8 + d by omega] at h
  exact ⟨_, by omega, by omega, h⟩
/-- What stands behind the switch: two items, and what is asked of their Insert. -/
def TfS (w : World) (O : Nat → Prop) (g y : Nat) (want : Value) (wx : World) : Prop :=
  ∃ (a b : It) (z : Int), want = .int .i64 z ∧ Has wx y 47 #[.int .i64 a.s, .int .i64 a.t, .int .i64 a.q, .int .i64 a.v, .int .i64 b.s, .int .i64 b.t, .int .i64 b.q, .int .i64 b.v] ∧ LT w O g [] fx wx ∧ ((z = 1900 ∧ fitT fx [a, b] = false) ∨ (z = 1901 ∧ fitT fx [a, b] = true ∧ ¬ NewS fx [a, b]))
section
variable {w0 w : World} {O : Nat → Prop} {g y : Nat} {bs : List Int} {R : List It}
theorem LT.setCell (h : LT w0 O g bs R w) (hy : ¬ O y) (hw : w0.heap.size ≤ y) (i : Nat) (v : Value) : LT w0 O g bs R (w.setCell ⟨y, i, none⟩ v) :=
  h.butS (setCell_butS1 w y i v) hy hw
end

/-- In the midst of the switch. -/
def TfH (w : World) (O : Nat → Prop) (g y : Nat) (cs : Array Value) (wx : World) : Prop := Has wx y 47 cs ∧ LT w O g [] fx wx ∧ ¬ O y ∧ w.heap.size ≤ y
theorem TfH.set {w wx : World} {O : Nat → Prop} {g y : Nat} {cs : Array Value} (h : TfH w O g y cs wx) (i : Nat) (v : Value) : TfH w O g y (cs.setIfInBounds i v) (wx.setCell ⟨y, i, none⟩ v) := ⟨h.1.put i v, h.2.1.setCell h.2.2.1 h.2.2.2 i v, h.2.2.1, h.2.2.2⟩
theorem TfH.fin {w wx : World} {O : Nat → Prop} {g y : Nat} (a b : It) (z : Int) (h : TfH w O g y #[.int .i64 a.s, .int .i64 a.t, .int .i64 a.q, .int .i64 a.v, .int .i64 b.s, .int .i64 b.t, .int .i64 b.q, .int .i64 b.v] wx) (hz : (z = 1900 ∧ fitT fx [a, b] = false) ∨ (z = 1901 ∧ fitT fx [a, b] = true ∧ ¬ NewS fx [a, b])) : TfS w O g y (.int .i64 z) wx := ⟨a, b, z, rfl, h.1, h.2.1, hz⟩
theorem ff_0 : fitT fx [⟨0, 6, 2, 2⟩, ⟨1, 7, 3, 2⟩] = false := rfl
theorem ff_1 : fitT fx [⟨1, 6, 2, 2⟩, ⟨1, 7, 3, 2⟩] = false := rfl
theorem ff_2 {d : Int} (h : 1 ≤ d) : fitT fx [⟨0, 6, 2, 2⟩, ⟨0, -1099511627776 - d, 3, 2⟩] = false := fit_bad (x := ⟨0, -1099511627776 - d, 3, 2⟩) (by simp) (itemB_no fun e => by have := itemB_iff.1 e; simp only at this; omega)
theorem ff_3 {d : Int} (h : 1 ≤ d) : fitT fx [⟨0, 6, 2, 2⟩, ⟨0, 7, 1 - d, 2⟩] = false := fit_bad (x := ⟨0, 7, 1 - d, 2⟩) (by simp) (itemB_no fun e => by have := itemB_iff.1 e; simp only at this; omega)
theorem ff_4 : fitT fx [⟨0, 6, 2, 2⟩, ⟨0, 5, 1, 2⟩] = true ∧ ¬ NewS fx [⟨0, 6, 2, 2⟩, ⟨0, 5, 1, 2⟩] := ⟨rfl, fun h => by have := h.1 ⟨0, 5, 1, 2⟩ (by simp); revert this; decide⟩
theorem ff_5 : fitT fx [⟨0, 6, 2, 2⟩, ⟨0, 6, 2, 2⟩] = true ∧ ¬ NewS fx [⟨0, 6, 2, 2⟩, ⟨0, 6, 2, 2⟩] := ⟨rfl, fun h => by have := h.2; revert this; decide⟩
theorem ff_6 {d : Int} (h : 1 ≤ d) : fitT fx [⟨0, 6, 2, 1099511627776 + d⟩, ⟨0, 7, 3, 2⟩] = false := fit_bad (x := ⟨0, 6, 2, 1099511627776 + d⟩) (by simp) (itemB_no fun e => by have := itemB_iff.1 e; simp only at this; omega)

set_option maxRecDepth 100000 in
set_option maxHeartbeats 8000000 in
theorem treeforms_any (a0 x : Int) (w : World) (_ : (Lit.int .i64 a0).wf = true) (_ : (Lit.int .i64 x).wf = true) :
    Calls Try.prog 5 #[.int .i64 a0, .int .i64 x] w fun e w' => e = .returned (.bool true) ∧ Below w.heap.size w w' := by
  obtain ⟨k, hk, hk0, hk1⟩ : ∃ k : Int, bits .and .i64 x 1023 = k ∧ 0 ≤ k ∧ k ≤ 1023 := ⟨_, mask_of x 10 1023 (by decide) (by decide), by omega, by omega⟩
  obtain ⟨d, hd⟩ : ∃ d : Int, 1 + k = d := ⟨_, rfl⟩
  have hd1 : 1 ≤ d := by omega
  have hd2 : d ≤ 1024 := by omega
  have hw0 : wrap64 (1 + k) = d := by rw [IntWalk.wrap64_in _ (by omega)]; exact hd
  have hw2 : wrap64 (8 + d) = 8 + d := IntWalk.wrap64_in _ (by omega)
  go_enter Try.func5, Try.ntmps5
  go_wp2_with fail
  refine (aw19_any w).mono ?_
  rintro e w2 ⟨rfl, b1⟩
  have B2 := Lib.hid b1
  clear b1
  obtain ⟨N, hN1, hN2, hmk⟩ := tmake_long d hd1 hd2 w2
  go_wp2_with fail
  refine (tnew_no _ N N (List.replicate N 0) _ (ints_of_has (by rw [← zeros_ints]; exact Has.made _ _ _) (by simp)) (by unfold maxLen; omega) (tbd_long (by simpa using hN1))).mono ?_
  rintro e w3 ⟨rfl, hb⟩
  have B3 := Lib.hid ((B2.out.alloc B2.out.size (.cells (zeros N) 3)).trans (hb.mono (by have := B2.out.size; simp; omega)))
  clear hb B2 hmk
  go_wp2_with fail
  refine (tnew_ok none 0 0 [] w3 Ints.nil (fun _ => rfl) rfl).mono ?_
  rintro e w4 ⟨g, rfl, hq, hb⟩
  have L1 := Lib.hid (LT.new B3.out hq hb)
  clear hq hb B3
  generalize (fun k => w3.heap.size ≤ k ∧ k < w4.heap.size) = O1 at L1
  go_wp2_with (go_at_call 12; refine (num0_any _ _).mono ?_; rintro e w' ⟨rfl, rfl⟩)
  refine (item19_any _ _ _ _ _).mono ?_
  rintro e w5 ⟨rfl, hb⟩
  have L2 := Lib.hid (L1.out.below hb)
  clear hb L1
  go_wp2_with fail
  have L3 := Lib.hid (L2.out.below ((Below.refl _ _).alloc (Nat.le_refl _) (.cells #[.int .i64 0, .int .i64 5, .int .i64 1, .int .i64 2] 47)))
  have hh := Has.made w5 47 #[.int .i64 0, .int .i64 5, .int .i64 1, .int .i64 2]
  refine (L3.out.insert (n := 1) (c := 1) (xs := fx) (items_has (xs := fx) hh rfl) (fun ad e => by injection e with e; rw [← e]; exact L3.out.apart hh) rfl ⟨by decide, by decide⟩).mono ?_
  rintro e w6 ⟨rfl, l, _⟩
  have L4 := Lib.hid (show LT w _ g [] fx w6 from l)
  clear l L3 hh L2
  generalize GrowT _ _ _ = O at L4
  go_wp2_with fail
  refine (item19_any _ _ _ _ _).mono ?_
  rintro e w7 ⟨rfl, hb⟩
  have L5 := Lib.hid (L4.out.below hb)
  clear hb L4
  go_wp2_with fail
  refine (item19_any _ _ _ _ _).mono ?_
  rintro e w8 ⟨rfl, hb⟩
  have L6 := Lib.hid (L5.out.below hb)
  have HX := Lib.hid (show Has (w8.alloc (.cells #[.int .i64 0, .int .i64 6, .int .i64 2, .int .i64 2, .int .i64 0, .int .i64 7, .int .i64 3, .int .i64 2] 47)) w8.heap.size 47 #[.int .i64 0, .int .i64 6, .int .i64 2, .int .i64 2, .int .i64 0, .int .i64 7, .int .i64 3, .int .i64 2] ∧ ¬ O w8.heap.size ∧ w.heap.size ≤ w8.heap.size ∧ LT w O g [] fx (w8.alloc (.cells #[.int .i64 0, .int .i64 6, .int .i64 2, .int .i64 2, .int .i64 0, .int .i64 7, .int .i64 3, .int .i64 2] 47)) from
    ⟨Has.made _ _ _, (fun e => by have := L6.out.hi _ e; omega), L6.out.keep.size, L6.out.below ((Below.refl _ _).alloc (Nat.le_refl _) _)⟩)
  clear hb L5 L6
  go_upto_block 0 with fail
  generalize w8.alloc _ = wa at HX ⊢
  generalize w8.heap.size = y at HX ⊢
  obtain ⟨q, hq, eq⟩ : ∃ q : Nat, q < 7 ∧ (IntKind.u64.wrap a0).tmod 7 = q := by
    have h : 0 ≤ IntKind.u64.wrap a0 := by simp [IntKind.wrap, IntKind.bits, IntKind.signed]; omega
    have e : (IntKind.u64.wrap a0).tmod 7 = IntKind.u64.wrap a0 % 7 := Int.tmod_eq_emod_of_nonneg h
    exact ⟨(IntKind.u64.wrap a0 % 7).toNat, by omega, by omega⟩
  rw [eq]
  clear eq
  have hv0 : wrap64 (-1099511627776 - d) = -1099511627776 - d := IntWalk.wrap64_in _ (by omega)
  have hv1 : wrap64 (1 - d) = 1 - d := IntWalk.wrap64_in _ (by omega)
  have hv2 : wrap64 (1099511627776 + d) = 1099511627776 + d := IntWalk.wrap64_in _ (by omega)
  go_cut [12] (fun v12 wx => Hid (TfS w O g y v12 wx))
  case first =>
    have hyc : ∀ i, wa.cell? ⟨y, i, none⟩ = (#[.int .i64 0, .int .i64 6, .int .i64 2, .int .i64 2, .int .i64 0, .int .i64 7, .int .i64 3, .int .i64 2] : Array Value)[i]? := fun i => HX.out.1.cell i
    have hy0 : wa.cell? ⟨y, 0, none⟩ = some (.int .i64 0) := hyc 0
    have hy1 : wa.cell? ⟨y, 1, none⟩ = some (.int .i64 6) := hyc 1
    have hy2 : wa.cell? ⟨y, 2, none⟩ = some (.int .i64 2) := hyc 2
    have hy3 : wa.cell? ⟨y, 3, none⟩ = some (.int .i64 2) := hyc 3
    have hy4 : wa.cell? ⟨y, 4, none⟩ = some (.int .i64 0) := hyc 4
    have hy5 : wa.cell? ⟨y, 5, none⟩ = some (.int .i64 7) := hyc 5
    have hy6 : wa.cell? ⟨y, 6, none⟩ = some (.int .i64 3) := hyc 6
    have hy7 : wa.cell? ⟨y, 7, none⟩ = some (.int .i64 2) := hyc 7
    have hym : ∀ i, wa.frozen? ⟨y, i, none⟩ = false := fun i => HX.out.1.mark i
    have HH : Hid (TfH w O g y #[.int .i64 0, .int .i64 6, .int .i64 2, .int .i64 2, .int .i64 0, .int .i64 7, .int .i64 3, .int .i64 2] wa) := ⟨HX.out.1, HX.out.2.2.2, HX.out.2.1, HX.out.2.2.1⟩
    clear hyc
    have hq6 : q = 0 ∨ q = 1 ∨ q = 2 ∨ q = 3 ∨ q = 4 ∨ q = 5 ∨ q = 6 := by omega
    clear hq HX
    rcases hq6 with rfl | rfl | rfl | rfl | rfl | rfl | rfl
    · have h0 := Lib.hid (TfH.fin ⟨0, 6, 2, 2⟩ ⟨1, 7, 3, 2⟩ 1900 ((HH.out).set 4 (.int .i64 1)) (.inl ⟨rfl, ff_0⟩))
      clear HH
      go_wp2_with fail
      go_meet
      case rel => exact h0
    · have h0 := Lib.hid (TfH.fin ⟨1, 6, 2, 2⟩ ⟨1, 7, 3, 2⟩ 1900 (((HH.out).set 0 (.int .i64 1)).set 4 (.int .i64 1)) (.inl ⟨rfl, ff_1⟩))
      clear HH
      go_wp2_with fail
      go_meet
      case rel => exact h0
    · have h0 := Lib.hid (TfH.fin ⟨0, 6, 2, 2⟩ ⟨0, -1099511627776 - d, 3, 2⟩ 1900 ((HH.out).set 5 (.int .i64 (-1099511627776 - d))) (.inl ⟨rfl, ff_2 hd1⟩))
      clear HH
      go_wp2_with fail
      go_meet
      case rel => exact h0
    · have h0 := Lib.hid (TfH.fin ⟨0, 6, 2, 2⟩ ⟨0, 7, 1 - d, 2⟩ 1900 ((HH.out).set 6 (.int .i64 (1 - d))) (.inl ⟨rfl, ff_3 hd1⟩))
      clear HH
      go_wp2_with fail
      go_meet
      case rel => exact h0
    · have h0 := Lib.hid (TfH.fin ⟨0, 6, 2, 2⟩ ⟨0, 5, 1, 2⟩ 1901 (((HH.out).set 5 (.int .i64 5)).set 6 (.int .i64 1)) (.inr ⟨rfl, ff_4⟩))
      clear HH
      go_wp2_with fail
      go_meet
      case rel => exact h0
    · have h0 := Lib.hid (TfH.fin ⟨0, 6, 2, 2⟩ ⟨0, 6, 2, 2⟩ 1901 (((((HH.out).set 4 (.int .i64 0)).set 5 (.int .i64 6)).set 6 (.int .i64 2)).set 7 (.int .i64 2)) (.inr ⟨rfl, ff_5⟩))
      clear HH
      go_wp2_with fail
      go_meet
      case rel => exact h0
    · have h0 := Lib.hid (TfH.fin ⟨0, 6, 2, 1099511627776 + d⟩ ⟨0, 7, 3, 2⟩ 1900 ((HH.out).set 3 (.int .i64 (1099511627776 + d))) (.inl ⟨rfl, ff_6 hd1⟩))
      clear HH
      go_wp2_with fail
      go_meet
      case rel => exact h0
  case rest =>
    clear HX
    obtain ⟨a, b, z, rfl, h1, h2, h3⟩ := hcut.out
    have HY := Lib.hid h1
    have LL := Lib.hid h2
    have HZ := Lib.hid h3
    clear h1 h2 h3 hcut
    have HIT := Lib.hid (show Items wc (some ⟨y, 0, none⟩) 2 [a, b] from items_has (xs := [a, b]) HY.out rfl)
    have HIN : Hid (∃ z2, z2 = z ∧ Calls Try.prog 17 #[.pointer (some ⟨g, 0, none⟩), .slice (some ⟨y, 0, none⟩) 2 2] wc fun e w' => e = .returned (.int .i64 z2) ∧ LT w O g [] fx w' ∧ Below wc.heap.size wc w') := by
      rcases HZ.out with ⟨rfl, h⟩ | ⟨rfl, h, h2⟩
      · exact ⟨_, rfl, LL.out.insert_form HIT.out (by omega) h⟩
      · exact ⟨_, rfl, LL.out.insert_twice HIT.out h h2⟩
    clear HIT HY HZ LL
    obtain ⟨z2, rfl, hin⟩ := HIN.out
    have HIN2 := Lib.hid hin
    clear hin HIN
    go_wp2_with (refine HIN2.out.mono ?_; clear HIN2; rintro e wb ⟨rfl, l, _⟩; have L7 := Lib.hid l; clear l)
    refine (L7.out.insert (n := 0) (c := 0) (C := none) (xs := []) ⟨rfl, fun h => absurd h (by omega)⟩ (fun ad e => by cases e) rfl ⟨(fun _ hx => by cases hx), List.Pairwise.nil⟩).mono ?_
    rintro e wd ⟨rfl, l, _⟩
    have L8 := Lib.hid (show LT w _ g [] fx wd from l)
    clear l L7
    generalize GrowT _ _ _ = O8 at L8
    go_wp2_with (go_at_call 12; refine (num0_any _ _).mono ?_; rintro e w' ⟨rfl, rfl⟩)
    refine L8.out.q.items.mono ?_
    rintro e we ⟨A9, c9, rfl, ho, hb⟩
    have L9 := Lib.hid (L8.out.below hb)
    have HI := Lib.hid ho.items
    clear ho hb L8
    go_wp2_with fail
    refine (item19_any _ _ _ _ _).mono ?_
    rintro e wf ⟨rfl, hb⟩
    have L10 := Lib.hid (L9.out.below hb)
    have HI2 := Lib.hid (HI.out.below hb)
    clear hb L9 HI
    go_wp2_with fail
    have hal := (Below.refl wf.heap.size wf).alloc (Nat.le_refl _) (.cells #[.int .i64 0, .int .i64 5, .int .i64 1, .int .i64 2] 47)
    have hh := Has.made wf 47 #[.int .i64 0, .int .i64 5, .int .i64 1, .int .i64 2]
    refine (sameitems_any _ _ 1 _ _ fx _ (HI2.out.below hal) (items_has (xs := fx) hh rfl) (by omega)).mono ?_
    rintro e wh ⟨rfl, hb⟩
    have L11 := Lib.hid (L10.out.below (hal.trans (hb.mono hal.size)))
    clear hal hh hb L10 HI2
    go_wp2_with fail
    go_ret
    exact ⟨rfl, L11.out.keep⟩

end Go.Proofs.Ytdoflmphkalicaa
