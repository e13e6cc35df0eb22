/-
  Walk: the scan laws' first look.
-/
import Derived.Test.YtoechlmahckchaaG11l
import Derived.Test.YtoechlmahckchaaG11m
import Derived.Test.YtoechlmahckchaaScRg1
import Derived.Test.YtoechlmahckchaaFrPut
namespace Go.Proofs.Ytoechlmahckchaa
open Go.RowKit

theorem below_wrote {B : Nat} {w0 w w' : World} {row : Option Nat} (h : Below B w0 w) (hg : w.grownBy w' row) (hB : B ≤ w.heap.size) (hr : ∀ k, row = some k → B ≤ k) : Below B w0 w' :=
  h.trans ⟨hg.os, hg.tape, hg.output, hg.size, fun k hk => hg.block k (by omega) (fun e => by have := hr k e.symm; omega)⟩

theorem o1_may : MayP o1P := show MayO 1 1 0 7 0 by unfold MayO; omega
theorem o1_encs : encs [1, 1, 7] = [2, 2, 14] := by
  have e1 : encL (foldI 1).toNat = [2] := by rw [show (foldI 1).toNat = 2 by decide, encL_end (by decide)]; rfl
  have e2 : encL (foldI 7).toNat = [14] := by rw [show (foldI 7).toNat = 14 by decide, encL_end (by decide)]; rfl
  simp only [encs, e1, e2]
  rfl
theorem o1_nums : encs (numsO o1P.k o1P.so o1P.se o1P.ti o1P.va) = [2, 2, 14] := by
  rw [← o1_encs]; rfl
theorem o1_put : putL [2, 2, 14] = [181, 3, 2, 2, 14, 246, 208] := by decide +kernel
theorem o1_frame : frameO o1P = [181, 3, 2, 2, 14, 246, 208] := by rw [frameO_yes o1_may, o1_nums, o1_put]
theorem run_a1 : runL false [113, 113, 181, 3, 2] 0 = ([], [181, 3, 2], 2) := by kernel_rfl
theorem run_a2 : runL false [181, 3, 2, 2, 14, 246, 208, 122] 2 = ([badP 2, o1P], [], 1) := by kernel_rfl
theorem run_a3 : allL [] 1 = [badP 1] := by kernel_rfl
theorem load_a1 : ¬ LoadOk ⟨#[122]⟩ 0 := fun h => absurd h.2 (by decide +kernel)
theorem load_a2 : LoadOk (txt [181, 3, 2, 2]) (3 : Nat) := ⟨by decide, by decide +kernel⟩

/-- The memory behind the calls. -/
structure AwS (w0 : World) (x g y : Nat) (A1 A2 : Option Addr) (w : World) : Prop where
  keep : Below w0.heap.size w0 w
  size : w0.heap.size ≤ w.heap.size
  ob : Has w g 49 (opC o1P)
  oc : Ops w A1 2 [badP 2, o1P]
  od : Ops w A2 1 [badP 1]
  ys : Has w y 58 (scC [181, 3, 2, 2] 3)
theorem AwS.below {w0 : World} {x g y : Nat} {A1 A2 : Option Addr} {w w' : World} (h : AwS w0 x g y A1 A2 w) (hb : Below w.heap.size w w') : AwS w0 x g y A1 A2 w' :=
  ⟨h.keep.trans (hb.mono h.size), Nat.le_trans h.size hb.size, h.ob.below hb h.ob.lt, h.oc.below hb, h.od.below hb, h.ys.below hb h.ys.lt⟩

set_option maxRecDepth 100000 in
set_option maxHeartbeats 2000000 in
theorem sawake_any (w : World) :
    Calls Try.prog 21 #[] w fun e w' => e = .returned (.bool true) ∧ Below w.heap.size w w' := by
  have hp : putO 1 1 0 7 0 = (⟨([2, 2, 14] : List UInt8).toArray⟩, 0) := by
    rw [putO, if_pos (mayB_yes (show MayO 1 1 0 7 0 from o1_may))]
    rw [show encs (numsO 1 1 0 7 0) = [2, 2, 14] from o1_nums]
  have hS : putS ⟨([2, 2, 14] : List UInt8).toArray⟩ = txt (frameO o1P) := by
    show txt (putL [2, 2, 14]) = _
    rw [o1_put, o1_frame]
  obtain ⟨F, hF⟩ : ∃ F : ByteArray, txt (frameO o1P) = F := ⟨_, rfl⟩
  have hF7 : F.size = 7 := by rw [← hF, txt_size, o1_frame]; rfl
  have e1 : ((⟨#[113, 113]⟩ : ByteArray) ++ F.extract 0 3).data.toList = [113, 113, 181, 3, 2] := by rw [← hF, o1_frame]; rfl
  have e2 : F.extract 0 3 = txt [181, 3, 2] := by rw [← hF, o1_frame]; rfl
  have e3 : (F.extract 3 7 ++ (⟨#[122]⟩ : ByteArray)).data.toList = [2, 14, 246, 208, 122] := by rw [← hF, o1_frame]; rfl
  have e4 : F.extract 0 4 = txt [181, 3, 2, 2] := by rw [← hF, o1_frame]; rfl
  have HF := Lib.hid (fun w : World => framed_any o1P w)
  have HP := Lib.hid (fun w : World => wput_any 1 1 0 7 0 _ _ hp w)
  have HT := Lib.hid (fun w : World => put_ok ⟨([2, 2, 14] : List UInt8).toArray⟩ w (by decide) (by decide))
  rw [hF] at HF
  rw [hS, hF] at HT
  have HW1 := Lib.hid (fun (g : Nat) (w : World) h => swrite_any g [] 0 ((⟨#[113, 113]⟩ : ByteArray) ++ F.extract 0 3) w h (by rw [ByteArray.size_append, ByteArray.size_extract]; show 0 + (2 + (min 3 F.size - 0)) ≤ _; omega) (by decide) [] [181, 3, 2] 2 (by rw [e1]; exact run_a1))
  have HA1 : Hid (∀ (g : Nat) (w : World), Has w g 58 (scC [181, 3, 2] 2) → Calls Try.prog 16 #[.pointer (some ⟨g, 0, none⟩)] w fun e w' => e = .returned (.string (F.extract 0 3)) ∧ Below w.heap.size w w') := Lib.hid (fun g w h => by rw [e2]; exact waits_any g _ _ w h (by decide))
  have HB1 := Lib.hid (fun (g : Nat) (w : World) h => badn_any g [181, 3, 2] 2 w h)
  have HW2 := Lib.hid (fun (g : Nat) (w : World) h => swrite_any g [181, 3, 2] 2 (F.extract 3 7 ++ (⟨#[122]⟩ : ByteArray)) w h (by rw [ByteArray.size_append, ByteArray.size_extract]; show 3 + ((min 7 F.size - 3) + 1) ≤ _; omega) (by decide) [badP 2, o1P] [] 1 (by rw [List.cons_append, List.cons_append, List.cons_append, List.nil_append, e3]; exact run_a2))
  have HC := Lib.hid (fun (g : Nat) (w : World) h => sclose_any g [] 1 w h (by decide) (by decide) _ run_a3)
  have HL1 := Lib.hid (fun w : World => sload_bad ⟨#[122]⟩ 0 w (by decide) load_a1)
  have HL2 : Hid (∀ w : World, Calls Try.prog 10 #[.string (F.extract 0 4), .int .i64 3] w fun e w' => ∃ g, e = .returned (.tuple #[.pointer (some ⟨g, 0, none⟩), .int .i64 0]) ∧ Has w' g 58 (scC [181, 3, 2, 2] 3) ∧ w.heap.size ≤ g ∧ Below w.heap.size w w') := Lib.hid (fun w => by rw [e4]; exact sload_ok (txt [181, 3, 2, 2]) 3 w (by decide) load_a2)
  have HA2 : Hid (∀ (g : Nat) (w : World), Has w g 58 (scC [181, 3, 2, 2] 3) → Calls Try.prog 16 #[.pointer (some ⟨g, 0, none⟩)] w fun e w' => e = .returned (.string (F.extract 0 4)) ∧ Below w.heap.size w w') := Lib.hid (fun g w h => by rw [e4]; exact waits_any g _ _ w h (by decide))
  have HB2 := Lib.hid (fun (g : Nat) (w : World) h => badn_any g [181, 3, 2, 2] 3 w h)
  have HN := Lib.hid (new_any w)
  clear hp hS hF e1 e2 e3 e4
  go_enter Try.func21, Try.ntmps21
  go_wp2_with fail
  refine (HN.out).mono ?_; rintro e w1 ⟨rfl, x1, k1⟩
  have ho : Has (w1.alloc (.cells (opC o1P) 49)) w1.heap.size 49 (opC o1P) := Has.made w1 _ _
  have k2 : Below w.heap.size w (w1.alloc (.cells (opC o1P) 49)) := k1.alloc k1.size _
  have x2 := x1.alloc (.cells (opC o1P) 49)
  have s2 : w.heap.size ≤ (w1.alloc (.cells (opC o1P) 49)).heap.size := k2.size
  clear x1
  go_wp2_with (refine load_op rfl _ rfl _ rfl ho ?_)
  refine (HF.out _).mono ?_; rintro e w2 ⟨rfl, b2⟩
  have k3 := k2.trans (b2.mono s2)
  have x3 := x2.below b2 x2.lt
  have ho3 := ho.below b2 ho.lt
  have s3 : w.heap.size ≤ w2.heap.size := Nat.le_trans s2 b2.size
  clear k2 x2 ho s2 b2
  go_wp2_with (refine load_op rfl _ rfl _ rfl ho3 ?_)
  refine (HP.out _).mono ?_; rintro e w3 ⟨rfl, b2⟩
  have k4 := k3.trans (b2.mono s3)
  have x4 := x3.below b2 x3.lt
  have ho4 := ho3.below b2 ho3.lt
  have s4 : w.heap.size ≤ w3.heap.size := Nat.le_trans s3 b2.size
  clear k3 x3 ho3 s3 b2
  go_wp2_with fail
  refine (HT.out _).mono ?_; rintro e w4 ⟨rfl, b2⟩
  have k5 := k4.trans (b2.mono s4)
  have x5 := x4.below b2 x4.lt
  have ho5 := ho4.below b2 ho4.lt
  have s5 : w.heap.size ≤ w4.heap.size := Nat.le_trans s4 b2.size
  clear k4 x4 ho4 s4 b2
  go_wp2_with fail
  refine (HW1.out _ _ x5).mono ?_; rintro e w5 ⟨A1, c1, rfl, p1, x6, g6⟩
  have hne : (some w.heap.size : Option Nat) ≠ some w1.heap.size := fun e => by injection e with e; rw [← e] at ho5; exact has_types x5 ho5 (by decide)
  have ho6 := ho5.grow g6 hne
  have k6 := below_wrote k5 g6 s5 (fun k hk => by injection hk with hk; omega)
  have s6 : w.heap.size ≤ w5.heap.size := Nat.le_trans s5 g6.size
  clear k5 x5 ho5 s5 g6 p1
  go_wp2_with fail
  refine (HA1.out _ _ x6).mono ?_; rintro e w6 ⟨rfl, b2⟩
  have k7 := k6.trans (b2.mono s6)
  have x7 := x6.below b2 x6.lt
  have ho7 := ho6.below b2 ho6.lt
  have s7 : w.heap.size ≤ w6.heap.size := Nat.le_trans s6 b2.size
  clear k6 x6 ho6 s6 b2
  go_wp2_with fail
  refine (HB1.out _ _ x7).mono ?_; rintro e w7 ⟨rfl, rfl⟩
  go_wp2_with fail
  refine (HW2.out _ _ x7).mono ?_; rintro e w8 ⟨A2, c2, rfl, p2, x8, g8⟩
  have ho8 := ho7.grow g8 hne
  have k8 := below_wrote k7 g8 s7 (fun k hk => by injection hk with hk; omega)
  have s8 : w.heap.size ≤ w8.heap.size := Nat.le_trans s7 g8.size
  clear k7 x7 ho7 s7 g8
  go_wp2_with fail
  refine (HC.out _ _ x8).mono ?_; rintro e w9 ⟨A3, c3, rfl, p3, x9, g9⟩
  have ho9 := ho8.grow g9 hne
  have p4 := p2.grow g9 (.inr (p2.apart x8 (by decide)))
  have k9 := below_wrote k8 g9 s8 (fun k hk => by injection hk with hk; omega)
  have s9 : w.heap.size ≤ w9.heap.size := Nat.le_trans s8 g9.size
  have q4 := p4.ops
  have q3 := p3.ops
  have HH := Lib.hid (And.intro ho9 (And.intro q4 (And.intro q3 (And.intro k9 s9))))
  clear k8 x8 ho8 s8 g9 p2 p3 p4 q3 q4 ho9 k9 s9 x9 hne HN HF HP HT HW1 HA1 HB1 HW2 HC
  go_wp2_with fail
  refine (HL1.out _).mono ?_; rintro e w10 ⟨rfl, b2⟩
  have HH2 := Lib.hid (And.intro (HH.out.1.below b2 HH.out.1.lt) (And.intro (HH.out.2.1.below b2) (And.intro (HH.out.2.2.1.below b2) (And.intro (HH.out.2.2.2.1.trans (b2.mono HH.out.2.2.2.2)) (Nat.le_trans HH.out.2.2.2.2 b2.size)))))
  clear HH b2
  go_wp2_with fail
  refine (HL2.out _).mono ?_; rintro e w11 ⟨y, rfl, y1, _, b2⟩
  have HS : Hid (AwS w w.heap.size w1.heap.size y A2 A3 w11) := Lib.hid ⟨HH2.out.2.2.2.1.trans (b2.mono HH2.out.2.2.2.2), Nat.le_trans HH2.out.2.2.2.2 b2.size, HH2.out.1.below b2 HH2.out.1.lt, HH2.out.2.1.below b2, HH2.out.2.2.1.below b2, y1⟩
  clear HH2 b2 y1
  go_upto_region 14 with fail
  refine aw14_any (F := F) (A0 := A1) (A1 := A2) (A2 := A3) (c0 := c1) (c1 := c2) (c2 := c3) (g := w1.heap.size) (y := y) ⟨rfl, rfl, rfl, rfl, rfl, rfl, rfl, rfl, rfl, rfl, rfl, rfl, rfl, rfl, hF7, HS.out.ob, HS.out.oc, HS.out.od, HS.out.ys, fun w h => HA2.out y w h⟩ (by kernel_rfl) ?_
  intro g5 g6 w20 b20 _ _
  have HB := Lib.hid (HS.out.below b20).keep
  clear HS b20
  simp only [putAll, Act.put, List.setIfInBounds_toArray, List.set_cons_succ, List.set_cons_zero]
  go_wp2_with fail
  go_ret
  exact ⟨rfl, HB.out⟩

end Go.Proofs.Ytoechlmahckchaa
