/-
  Walks: admit.queriesFit, admit.May.
-/
import Derived.Test.YtecdeplcoggjkaaAdMem
import Derived.Test.YtecdeplcoggjkaaWMay
import Derived.Deep.Cut
namespace Go.Proofs.Ytecdeplcoggjkaa
open Go.RowKit

set_option maxRecDepth 100000 in
set_option maxHeartbeats 1000000 in
theorem qfit_any (A : Option Addr) (n c : Nat) (qs : List Qu) (w : World) (hr : Qus w A n qs) (hn : n ≤ maxLen) :
    Calls Try.prog 23 #[.slice A n c] w fun e w' => e = .returned (.bool (fitQ qs)) ∧ Below w.heap.size w w' := by
  have HL := Lib.hid hr.1
  unfold maxLen at hn
  cases h1 : wi (n : Int) 1 8
  · have HV : Hid (fitQ qs = false) := by unfold fitQ; rw [HL.out, h1]; rfl
    clear hr
    go_enter Try.func23, Try.ntmps23
    go_wp2_with (go_at_call 16; refine (within_any _ _ _ _).mono ?_; rintro e w' ⟨rfl, rfl⟩)
    go_ret
    exact ⟨ret_bool HV.out.symm, Below.refl _ _⟩
  · have HV : Hid (fitQ qs = allQ qs) := by unfold fitQ; rw [HL.out, h1]; rfl
    have HR := Lib.hid hr; clear hr
    have HW0 : Hid (Below w.heap.size w w) := Below.refl _ _
    go_enter Try.func23, Try.ntmps23
    go_wp2_with (go_at_call 16; refine (within_any _ _ _ _).mono ?_; rintro e w' ⟨rfl, rfl⟩)
    clear h1
    go_loopw [11] (fun i wr => ∃ j : Nat, j ≤ n ∧ i = .int .i64 j ∧ Hid (∀ i, i < j → quB (nthQ qs i) = true) ∧ Hid (Below w.heap.size w wr)) (fun i _ => n - (intOf i).toNat)
    case atStart => exact ⟨0, Nat.zero_le _, rfl, fun i hi => by omega, HW0⟩
    case round =>
      clear HW0
      obtain ⟨j, hj, rfl, HS, HW⟩ := hrel
      by_cases hlt : j < n
      · obtain ⟨b, fo, rfl, hi⟩ := (HR.out.below HW.out).2 (by omega)
        obtain ⟨B, m, d, hx⟩ := hi j hlt
        have HX := Lib.hid hx; clear hx hi
        have HSZ : Hid (w.heap.size ≤ wr.heap.size) := HW.out.size
        go_upto_region 6 with (first | (refine load_qu rfl _ rfl b (fo + j * 6) rfl HX.out ?_) | (refine store_quN rfl _ _ rfl rfl rfl rfl ?_; intro w1 hb1 hs1 hh1; have HX1 := Lib.hid hh1; have HB1 := Lib.hid hb1; clear hs1 hb1 hh1))
        have HW1 : Hid (Below w.heap.size w w1) := HW.out.trans (HB1.out.mono HSZ.out)
        have hI1 : Ints w1 B m (nthQ qs j).bs := HX.out.2.1.below HB1.out
        have hm1 := HX.out.2.2
        go_wp2_with (refine load_quV rfl _ rfl wr.heap.size rfl HX1.out ?_)
        refine (may4_any (nthQ qs j).kind (nthQ qs j).agg (nthQ qs j).size (nthQ qs j).slide (nthQ qs j).rank B m d (nthQ qs j).bs w1 hI1 hm1).mono ?_
        rintro e w2 ⟨rfl, b2⟩
        have HW2 : Hid (Below w.heap.size w w2) := HW1.out.trans (b2.mono HW1.out.size)
        clear hI1 hm1 b2
        cases hq : mayQ (nthQ qs j).kind (nthQ qs j).agg (nthQ qs j).size (nthQ qs j).slide (nthQ qs j).bs (nthQ qs j).rank
        · go_wp2_with fail
          go_ret
          exact ⟨ret_bool (by rw [HV.out, allQ_no (by rw [HL.out]; exact hlt) hq]), HW2.out⟩
        · have HS2 : Hid (∀ i, i < j + 1 → quB (nthQ qs i) = true) := fun i hi => by rcases Nat.lt_succ_iff_lt_or_eq.1 hi with h | rfl <;> first | exact HS.out i h | exact hq
          clear HW1 HX1 HB1 HX HS HSZ hq
          go_wp2_with fail
          go_roundw
          case rel => exact ⟨j + 1, by omega, by go_num, HS2, HW2⟩
          case measure => simp [intOf]; omega
      · have hjn : j = n := by omega
        subst hjn
        go_wp2_with fail
        go_ret
        exact ⟨ret_bool (by rw [HV.out, allQ_yes (fun i hi => HS.out i (by rw [HL.out] at hi; exact hi))]), HW.out⟩

set_option maxRecDepth 100000 in
set_option maxHeartbeats 1000000 in
theorem amay_any (A : Option Addr) (n c : Nat) (qs : List Qu) (la ro se so : Int) (w : World) (hr : Qus w A n qs) (hn : n ≤ maxLen) :
    Calls Try.prog 11 #[.agg #[.slice A n c, .int .i64 la, .int .i64 ro, .int .i64 se, .int .i64 so]] w fun e w' => e = .returned (.bool (cfB qs la ro se so)) ∧ Below w.heap.size w w' := by
  have hbox : ∀ o, Below w.heap.size w (w.alloc o) := fun o => (Below.refl _ _).alloc (Nat.le_refl _) o
  have HBOX := Lib.hid hbox; clear hbox
  have HR := Lib.hid hr; clear hr
  cases h1 : limB la ro se so
  · have HV : Hid (cfB qs la ro se so = false) := by unfold cfB; rw [h1]; rfl
    unfold limB at h1
    cases k1 : wi la 0 1073741824
    · go_enter Try.func11, Try.ntmps11
      go_wp2_with (go_at_call 16; refine (within_any _ _ _ _).mono ?_; rintro e w' ⟨rfl, rfl⟩)
      go_ret
      exact ⟨ret_bool HV.out.symm, HBOX.out _⟩
    · cases k2 : wi ro 1 4096
      · go_enter Try.func11, Try.ntmps11
        go_wp2_with (go_at_call 16; refine (within_any _ _ _ _).mono ?_; rintro e w' ⟨rfl, rfl⟩)
        go_ret
        exact ⟨ret_bool HV.out.symm, HBOX.out _⟩
      · cases k3 : wi se 1 64
        · go_enter Try.func11, Try.ntmps11
          go_wp2_with (go_at_call 16; refine (within_any _ _ _ _).mono ?_; rintro e w' ⟨rfl, rfl⟩)
          go_ret
          exact ⟨ret_bool HV.out.symm, HBOX.out _⟩
        · have k4 : wi so 1 8 = false := by rw [k1, k2, k3] at h1; simpa using h1
          clear h1
          go_enter Try.func11, Try.ntmps11
          go_wp2_with (go_at_call 16; refine (within_any _ _ _ _).mono ?_; rintro e w' ⟨rfl, rfl⟩)
          go_ret
          exact ⟨ret_bool HV.out.symm, HBOX.out _⟩
  · have HV : Hid (cfB qs la ro se so = fitQ qs) := by unfold cfB; rw [h1]; rfl
    unfold limB at h1
    simp only [Bool.and_eq_true] at h1
    obtain ⟨k1, k2, k3, k4⟩ := h1
    go_enter Try.func11, Try.ntmps11
    go_wp2_with (go_at_call 16; refine (within_any _ _ _ _).mono ?_; rintro e w' ⟨rfl, rfl⟩)
    refine (qfit_any A n c qs _ (HR.out.below (HBOX.out _)) hn).mono ?_
    rintro e w1 ⟨rfl, b1⟩
    have HB1 : Hid (Below w.heap.size w w1) := (HBOX.out _).trans (b1.mono (by simp))
    clear b1
    go_wp2_with fail
    go_ret
    exact ⟨ret_bool HV.out.symm, HB1.out⟩

end Go.Proofs.Ytecdeplcoggjkaa
