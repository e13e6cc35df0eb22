/-
  Walk: QueueForms: bounds and aggregates that are none.
-/
import Derived.Test.YtjmaeiilkbfnaaaStAwake
import Derived.Test.YtjmaeiilkbfnaaaFMask
import Derived.IntWalk
import Derived.Deep.DeepCutAuto
import Derived.Deep.CutBlock
import Derived.OpenShut
namespace Go.Proofs.Ytjmaeiilkbfnaaa
open Go.RowKit

def fa1 : Ac := ⟨1, 5, 5, 5, ⟨0, 1, 1, 5⟩, ⟨0, 1, 1, 5⟩, [1]⟩
def fa2 : Ac := ⟨1, 7, 7, 7, ⟨0, 2, 2, 7⟩, ⟨0, 2, 2, 7⟩, [1]⟩
theorem fa1_eq : oneAc ⟨0, 1, 1, 5⟩ [] = fa1 := rfl
theorem fa2_eq : oneAc ⟨0, 2, 2, 7⟩ [] = fa2 := rfl
theorem rowj_fit {bs : List Int} {xs : List Ac} {a : Ac} (h : RowJ bs xs) (ha : a ∈ xs) : fitB a (bs.length + 1) = true := by
  obtain ⟨σ, _, t⟩ := tog_iff.1 h.tog
  exact (t a ha).1
theorem fm_0 {d : Int} (hd : 1 ≤ d) : ¬ RowJ [] [fa1, { fa2 with s := 7 + d }] := fun h => by
  have h1 := rowj_fit h (a := { fa2 with s := 7 + d }) (by simp)
  simp only [fitB, Bool.and_eq_true] at h1
  obtain ⟨_, _, h3⟩ := h1
  rw [if_neg (by decide)] at h3
  simp only [Bool.and_eq_true] at h3
  have hv := of_decide_eq_true h3.2
  have h4 : 7 + d ≤ 1 * 7 := hv.2.2.2.2.2.2.2.2
  omega
theorem fm_1 : ¬ RowJ [] [fa1, { fa2 with h := [] }] := by decide
theorem fm_2 : ¬ RowJ [] [fa1, oneAc ⟨1, 2, 2, 7⟩ []] := by decide
theorem fm_3 : ¬ RowJ [] [fa1, oneAc ⟨0, 2, 2, 7⟩ [3]] := by decide
theorem fm_4 {d : Int} (hd : 1 ≤ d) : ¬ RowJ [] [fa1, { fa2 with n := 8192 + d }] := fun h => by
  have h1 := (fit_of (m := 1) (rowj_fit h (a := { fa2 with n := 8192 + d }) (by simp))).n1
  have h2 : 8192 + d ≤ 8192 := h1
  omega
theorem fm_5 : ¬ RowJ [] [fa1, ⟨8192, 57344, 7, 7, ⟨0, 2, 2, 7⟩, ⟨0, 3, 3, 7⟩, [8192]⟩] := by decide
theorem fm_6 : RowJ [] [fa1] ∧ (joinAc [] [fa1]).n = 1 ∧ (joinAc [] [fa1]).s = 5 := by decide
theorem bd_far {z : Int} (h : 1099511627776 < z) : boundsB [z] = false := boundsB_false fun h2 => by
  have := h2.2.1 0 (by simp)
  have e : nth [z] 0 = z := rfl
  rw [e] at this
  have := wi_true this
  omega
theorem bd_long {bs : List Int} (h : 8 < bs.length) : boundsB bs = false := boundsB_false fun h2 => by omega
/-- What stands behind the switch: an aggregate in its variable that the queue does not take. -/
def FmS (w : World) (O : Nat → Prop) (g y : Nat) (wx : World) : Prop :=
  ∃ a A k c, Has wx y 29 (accC a A k c) ∧ Ints wx A k a.h ∧ k ≤ c ∧ c ≤ maxLen ∧ ¬ RowJ [] [fa1, a] ∧ LQ w O g [] [fa1] wx
section
variable {w0 w : World} {O : Nat → Prop} {g y : Nat} {bs : List Int} {xs : List Ac}
theorem LQ.setCell (h : LQ w0 O g bs xs w) (hy : ¬ O y) (hw : w0.heap.size ≤ y) (i : Nat) (v : Value) : LQ w0 O g bs xs (w.setCell ⟨y, i, none⟩ v) :=
  ⟨h.q.same fun k hk => heap_setCell_other _ _ _ _ (fun e => hy (by simp only at e; exact e ▸ hk)), h.lo, fun k hk => by simpa [World.setCell] using h.hi k hk, h.keep.setCell hw _⟩
theorem LQ.setRow (h : LQ w0 O g bs xs w) (hy : ¬ O y) (hw : w0.heap.size ≤ y) (cs : Array Value) : LQ w0 O g bs xs (w.setRow y cs) :=
  ⟨h.q.same fun k hk => setRow_other _ _ _ _ (fun e => hy (e ▸ hk)), h.lo, fun k hk => by simpa using h.hi k hk, below_row h.keep hw _⟩
end
theorem ints_far {w : World} {b n : Nat} {xs : List Int} (h : Ints w (some ⟨b, 0, none⟩) n xs) {y : Nat} (hy : y ≠ b) (i : Nat) (v : Value) : Ints (w.setCell ⟨y, i, none⟩ v) (some ⟨b, 0, none⟩) n xs :=
  ⟨h.1, fun hn => by
    obtain ⟨b', o, e, hc⟩ := h.2 hn
    injection e with e
    injection e with e1 e2
    subst e1 e2
    refine ⟨b, 0, rfl, fun k hk => ?_⟩
    rw [World.cell?_setCell_other _ _ _ _ (by intro e; injection e with e; exact hy e)]
    exact hc k hk⟩
set_option maxRecDepth 100000 in
theorem make_long (d : Int) (h1 : 1 ≤ d) (h2 : d ≤ 1024) (w : World) : ∃ N, 8 < N ∧ N ≤ 2000 ∧ (Instr.makeSlice 25 (.int .i64 (8 + d)) (.int .i64 (8 + d))).run Try.prog w = .ok (.slice (some ⟨w.heap.size, 0, none⟩) N N) (w.alloc (.cells (zeros N) 3)) := by
  obtain ⟨i0, hi, hz, hs0, hy0⟩ := info_parts Try.infoInt
  have h := make_ints (P := Try.prog) 25 3 i0 Try.underlying25 hi hz hs0 hy0 (7 + d).toNat (by omega) w
  rw [show (((7 + d).toNat : Nat) : Int) + 1 = 8 + d by omega] at h
  exact ⟨_, by omega, by omega, h⟩

set_option maxRecDepth 100000 in
set_option maxHeartbeats 8000000 in
theorem queueforms_any (a0 x : Int) (w : World) (_ : (Lit.int .i64 a0).wf = true) (_ : (Lit.int .i64 x).wf = true) :
    Calls Try.prog 6 #[.int .i64 a0, .int .i64 x] w fun e w' => e = .returned (.bool true) ∧ Below w.heap.size w w' := by
  obtain ⟨k, hk, hk0, hk1⟩ : ∃ k : Int, bits .and .i64 x 1023 = k ∧ 0 ≤ k ∧ k ≤ 1023 := ⟨_, mask1023 x, by omega, by omega⟩
  obtain ⟨d, hd⟩ : ∃ d : Int, 1 + k = d := ⟨_, rfl⟩
  have hd1 : 1 ≤ d := by omega
  have hd2 : d ≤ 1024 := by omega
  have hw0 : wrap64 (1 + k) = d := by rw [IntWalk.wrap64_in _ (by omega)]; exact hd
  have hw1 : wrap64 (1099511627776 + d) = 1099511627776 + d := IntWalk.wrap64_in _ (by omega)
  have hw2 : wrap64 (8 + d) = 8 + d := IntWalk.wrap64_in _ (by omega)
  have HO1 := Lib.hid (fun w' => one17_any ⟨0, 1, 1, 5⟩ none 0 0 [] w' Ints.nil rfl rfl)
  have HO2 := Lib.hid (fun w' => one17_any ⟨0, 2, 2, 7⟩ none 0 0 [] w' Ints.nil rfl rfl)
  rw [fa1_eq] at HO1
  rw [fa2_eq] at HO2
  go_enter Try.func6, Try.ntmps6
  go_wp2_with fail
  refine (aw17_any w).mono ?_
  rintro e w1 ⟨rfl, b1⟩
  have B1 := Lib.hid b1
  clear b1
  go_wp2_with fail
  refine (qnew_no _ 1 1 [1099511627776 + d] _ (ints_of_has (Has.made _ _ _) rfl) (by unfold maxLen; omega) (bd_far (by omega))).mono ?_
  rintro e w2 ⟨rfl, hb⟩
  have B2 := Lib.hid ((B1.out.alloc B1.out.size (.cells #[.int .i64 (1099511627776 + d)] 3)).trans (hb.mono (by have := B1.out.size; simp; omega)))
  clear hb B1
  obtain ⟨N, hN1, hN2, hmk⟩ := make_long d hd1 hd2 w2
  go_wp2_with fail
  refine (qnew_no _ N N (List.replicate N 0) _ (ints_of_has (by rw [← zeros_ints]; exact Has.made _ _ _) (by simp)) (by unfold maxLen; omega) (bd_long (by simpa using hN1))).mono ?_
  rintro e w3 ⟨rfl, hb⟩
  have B3 := Lib.hid ((B2.out.alloc B2.out.size (.cells (zeros N) 3)).trans (hb.mono (by have := B2.out.size; simp; omega)))
  clear hb B2 hmk
  go_wp2_with fail
  refine (qnew_ok none 0 0 [] w3 Ints.nil (fun _ => rfl) rfl).mono ?_
  intro e w4 hnew
  obtain ⟨g, rfl, hq, hb⟩ := pq_new hnew
  have L1 := Lib.hid (lq_new B3.out hq hb)
  clear hnew hq hb B3
  generalize (fun k => w3.heap.size ≤ k ∧ k < w4.heap.size) = O1 at L1
  go_wp2_with (go_at_call 14; refine (num_any _ _).mono ?_; rintro e w' ⟨rfl, rfl⟩)
  refine (item17_any _ _ _ _ _).mono ?_
  rintro e w5 ⟨rfl, hb⟩
  have L2 := Lib.hid (L1.out.below hb)
  clear hb L1
  go_wp2_with fail
  refine (HO1.out _).mono ?_
  rintro e w6 ⟨Ha, _, rfl, hh, hb⟩
  have L3 := Lib.hid (L2.out.below hb)
  have HH := Lib.hid (ints_of_has hh rfl)
  clear hh hb L2
  go_wp2_with fail
  refine (L3.out.push (a := fa1) (by simp) HH.out (Nat.le_refl _) (by decide) fm_6.1).mono ?_
  rintro e w7 ⟨rfl, l, _⟩
  have L4 := Lib.hid (show LQ w _ g [] [fa1] w7 from l)
  clear l L3 HH
  generalize GrowO _ _ _ = O at L4
  go_wp2_with fail
  refine (item17_any _ _ _ _ _).mono ?_
  rintro e w8 ⟨rfl, hb⟩
  have L5 := Lib.hid (L4.out.below hb)
  clear hb L4
  go_wp2_with fail
  refine (HO2.out _).mono ?_
  rintro e w9 ⟨Hb, _, rfl, hh, hb⟩
  have L6 := Lib.hid (L5.out.below hb)
  have HX := Lib.hid (show Has (w9.alloc (.cells (accC fa2 (some ⟨Hb, 0, none⟩) fa2.h.length fa2.h.length) 29)) w9.heap.size 29 (accC fa2 (some ⟨Hb, 0, none⟩) 1 1) ∧ Ints (w9.alloc (.cells (accC fa2 (some ⟨Hb, 0, none⟩) fa2.h.length fa2.h.length) 29)) (some ⟨Hb, 0, none⟩) 1 [1] ∧ w9.heap.size ≠ Hb ∧ ¬ O w9.heap.size ∧ w.heap.size ≤ w9.heap.size ∧ LQ w O g [] [fa1] (w9.alloc (.cells (accC fa2 (some ⟨Hb, 0, none⟩) fa2.h.length fa2.h.length) 29)) from
    ⟨Has.made _ _ _, (ints_of_has hh rfl).below ((Below.refl _ _).alloc (Nat.le_refl _) _), (by have := hh.lt; omega), (fun e => by have := L6.out.hi _ e; omega), L6.out.size, L6.out.below ((Below.refl _ _).alloc (Nat.le_refl _) _)⟩)
  clear hh hb L5 L6
  go_upto_block 0 with (refine store_made rfl _ _ rfl rfl rfl rfl ?_)
  generalize w9.alloc _ = wa at HX ⊢
  generalize w9.heap.size = y at HX ⊢
  obtain ⟨q, hq, eq⟩ : ∃ q : Nat, q < 6 ∧ (IntKind.u64.wrap a0).tmod 6 = q := by
    have h : 0 ≤ IntKind.u64.wrap a0 := by simp [IntKind.wrap, IntKind.bits, IntKind.signed]; omega
    have e : (IntKind.u64.wrap a0).tmod 6 = IntKind.u64.wrap a0 % 6 := Int.tmod_eq_emod_of_nonneg h
    exact ⟨(IntKind.u64.wrap a0 % 6).toNat, by omega, by omega⟩
  rw [eq]
  clear eq
  have hv0 : wrap64 (7 + d) = 7 + d := IntWalk.wrap64_in _ (by omega)
  have hv1 : wrap64 (8192 + d) = 8192 + d := IntWalk.wrap64_in _ (by omega)
  clear HO1 HO2
  go_cut [] (fun wx => Hid (FmS w O g y wx))
  case first =>
    have hyc : ∀ i, wa.cell? ⟨y, i, none⟩ = (accC fa2 (some ⟨Hb, 0, none⟩) 1 1)[i]? := fun i => HX.out.1.cell i
    have hc0 : wa.cell? ⟨y, 0, none⟩ = some (.int .i64 1) := hyc 0
    have hc1 : wa.cell? ⟨y, 1, none⟩ = some (.int .i64 7) := hyc 1
    have hc12 : wa.cell? ⟨y, 12, none⟩ = some (.slice (some ⟨Hb, 0, none⟩) 1 1) := hyc 12
    have hym : ∀ i, wa.frozen? ⟨y, i, none⟩ = false := fun i => HX.out.1.mark i
    clear hyc
    have HP : Hid (∀ i v a A k c, (accC fa2 (some ⟨Hb, 0, none⟩) 1 1).setIfInBounds i v = accC a A k c → Ints (wa.setCell ⟨y, i, none⟩ v) A k a.h → k ≤ c → c ≤ maxLen → ¬ RowJ [] [fa1, a] → FmS w O g y (wa.setCell ⟨y, i, none⟩ v)) := fun i v a A k c h1 h2 h3 h4 h5 => ⟨a, A, k, c, h1 ▸ HX.out.1.put i v, h2, h3, h4, h5, HX.out.2.2.2.2.2.setCell HX.out.2.2.2.1 HX.out.2.2.2.2.1 i v⟩
    have HF : Hid (∀ i v, Ints (wa.setCell ⟨y, i, none⟩ v) (some ⟨Hb, 0, none⟩) 1 [1]) := fun i v => ints_far HX.out.2.1 HX.out.2.2.1 i v
    have HR : Hid (∀ wb a H k, Below wa.heap.size wa wb → Has wb H 3 (ints a.h) → a.h.length = k → k ≤ maxLen → ¬ RowJ [] [fa1, a] → FmS w O g y (wb.setRow y (accC a (some ⟨H, 0, none⟩) k k))) := fun wb a H k hb h1 h2 h3 h5 => by
      subst h2
      have h6 := HX.out.1.below hb HX.out.1.lt
      have h7 : H ≠ y := fun e => has_types (e ▸ h1) h6 (by decide)
      exact ⟨a, _, _, _, h6.row _, ints_of_has (h1.rowFar h7 _) rfl, Nat.le_refl _, h3, h5, (HX.out.2.2.2.2.2.below hb).setRow HX.out.2.2.2.1 HX.out.2.2.2.2.1 _⟩
    have HBX : Hid (∀ wb, Below wa.heap.size wa wb → Has wb y 29 (accC fa2 (some ⟨Hb, 0, none⟩) 1 1)) := fun wb hb => HX.out.1.below hb HX.out.1.lt
    have hq6 : q = 0 ∨ q = 1 ∨ q = 2 ∨ q = 3 ∨ q = 4 ∨ q = 5 := by omega
    clear hq HX
    rcases hq6 with rfl | rfl | rfl | rfl | rfl | rfl
    · have h0 := Lib.hid (HP.out 1 (.int .i64 (7 + d)) { fa2 with s := 7 + d } (some ⟨Hb, 0, none⟩) 1 1 rfl (HF.out _ _) (by omega) (by decide) (fm_0 hd1))
      clear HP HF HR HBX
      go_wp2_with fail
      go_meet
      case rel => exact h0
    · have h0 := Lib.hid (HP.out 12 (.slice none 0 0) { fa2 with h := [] } none 0 0 rfl Ints.nil (by omega) (by decide) fm_1)
      clear HP HF HR HBX
      go_wp2_with fail
      go_meet
      case rel => exact h0
    · clear HP HF
      go_wp2_with fail
      refine (item17_any _ _ _ _ _).mono ?_
      rintro e wb ⟨rfl, hb⟩
      have HB := Lib.hid hb
      clear hb
      go_wp2_with fail
      refine (one17_any ⟨1, 2, 2, 7⟩ none 0 0 [] _ Ints.nil rfl rfl).mono ?_
      rintro e wc ⟨H, _, rfl, hh, hb⟩
      have hb2 := HB.out.trans (hb.mono HB.out.size)
      have h0 := Lib.hid (HR.out wc _ H _ hb2 hh rfl (by decide) fm_2)
      have h1 := Lib.hid (HBX.out wc hb2)
      clear hh hb hb2 HR HBX HB
      go_wp2_with (refine store_has rfl _ _ rfl y rfl rfl h1.out rfl ?_)
      go_meet
      case rel => exact h0
    · clear HP HF
      go_wp2_with fail
      refine (item17_any _ _ _ _ _).mono ?_
      rintro e wb ⟨rfl, hb⟩
      have HB := Lib.hid hb
      clear hb
      go_wp2_with fail
      refine (one17_any ⟨0, 2, 2, 7⟩ _ 1 1 [3] _ (ints_of_has (Has.made _ _ _) rfl) rfl (by decide)).mono ?_
      rintro e wc ⟨H, _, rfl, hh, hb⟩
      have hb1 := HB.out.alloc HB.out.size (.cells #[.int .i64 3] 3)
      have hb2 := hb1.trans (hb.mono hb1.size)
      have h0 := Lib.hid (HR.out wc _ H _ hb2 hh rfl (by decide) fm_3)
      have h1 := Lib.hid (HBX.out wc hb2)
      clear hh hb hb1 hb2 HR HBX HB
      go_wp2_with (refine store_has rfl _ _ rfl y rfl rfl h1.out rfl ?_)
      go_meet
      case rel => exact h0
    · have h0 := Lib.hid (HP.out 0 (.int .i64 (8192 + d)) { fa2 with n := 8192 + d } (some ⟨Hb, 0, none⟩) 1 1 rfl (HF.out _ _) (by omega) (by decide) (fm_4 hd1))
      clear HP HF HR HBX
      go_wp2_with fail
      go_meet
      case rel => exact h0
    · clear HP HF
      go_wp2_with fail
      refine (item17_any _ _ _ _ _).mono ?_
      rintro e wb ⟨rfl, hb⟩
      have HB := Lib.hid hb
      clear hb
      go_wp2_with fail
      refine (item17_any _ _ _ _ _).mono ?_
      rintro e wc ⟨rfl, hb⟩
      have HB2 := Lib.hid (HB.out.trans (hb.mono HB.out.size))
      clear hb HB
      have hb2 := HB2.out.alloc HB2.out.size (.cells #[.int .i64 8192] 3)
      have h0 := Lib.hid (HR.out _ ⟨8192, 57344, 7, 7, ⟨0, 2, 2, 7⟩, ⟨0, 3, 3, 7⟩, [8192]⟩ wc.heap.size 1 hb2 (Has.made _ _ _) rfl (by decide) fm_5)
      have h1 := Lib.hid (HBX.out _ hb2)
      clear hb2 HR HBX HB2
      go_wp2_with (refine store_has rfl _ _ rfl y (ac := ⟨8192, 57344, 7, 7, ⟨0, 2, 2, 7⟩, ⟨0, 3, 3, 7⟩, [8192]⟩) (A := some ⟨wc.heap.size, 0, none⟩) (k := 1) (c := 1) rfl rfl h1.out rfl ?_)
      go_meet
      case rel => exact h0
  case rest =>
    clear HX
    obtain ⟨a, A, kk, c, h1, h2, h3, h4, h5, h6⟩ := hcut.out
    have H1 := Lib.hid h1
    have H6 := Lib.hid h6
    have H2 := Lib.hid h2
    have H5 := Lib.hid h5
    clear h1 h2 h5 h6 hcut
    go_wp2_with (refine load_has rfl _ rfl y rfl H1.out ?_)
    refine (H6.out.q.push_no (a := a) fm_6.1 (by simp) H2.out h3 h4 H5.out).mono ?_
    rintro e wb ⟨rfl, hb⟩
    have H7 := Lib.hid (H6.out.below hb)
    clear hb H6 H2 H1 H5
    go_wp2_with fail
    refine (H7.out.q.total fm_6.1 (by simp)).mono ?_
    rintro e wc ⟨H, _, rfl, _, hb⟩
    have hb2 := below_alloc hb (Nat.le_refl _) (.cells (accC (joinAc [] [fa1]) (some ⟨H, 0, none⟩) (joinAc [] [fa1]).h.length (joinAc [] [fa1]).h.length) 29)
    have H8 := Lib.hid (H7.out.below hb2)
    have B := Has.made wc 29 (accC (joinAc [] [fa1]) (some ⟨H, 0, none⟩) (joinAc [] [fa1]).h.length (joinAc [] [fa1]).h.length)
    have c0 := B.cell 0
    have c1 := B.cell 1
    rw [accC_0, fm_6.2.1] at c0
    rw [accC_1, fm_6.2.2] at c1
    clear hb hb2 B H7
    go_upto_region 25 with (refine store_made rfl _ _ rfl rfl rfl rfl ?_)
    generalize wc.alloc _ = wd at H8 c0 c1 ⊢
    go_wp2_with (go_at_call 14; refine (num_any _ _).mono ?_; rintro e w' ⟨rfl, rfl⟩)
    refine (H8.out.q.len (by simp)).mono ?_
    rintro e we ⟨rfl, k2, rfl⟩
    have c0' : (wd.drewN k2).cell? ⟨wc.heap.size, 0, none⟩ = some (.int .i64 1) := c0
    have c1' : (wd.drewN k2).cell? ⟨wc.heap.size, 1, none⟩ = some (.int .i64 5) := c1
    have HF := Lib.hid (below_drewN H8.out.keep k2)
    clear H8 c0 c1
    go_wp2_with fail
    go_ret
    exact ⟨rfl, HF.out⟩

end Go.Proofs.Ytjmaeiilkbfnaaa
