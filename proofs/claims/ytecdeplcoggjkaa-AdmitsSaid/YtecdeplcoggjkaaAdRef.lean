/-
  Walks: the reference's ConfigMay, Verdict.
-/
import Derived.Test.YtecdeplcoggjkaaAdRule
import Derived.Test.YtecdeplcoggjkaaWQMay
import Derived.Test.YtecdeplcoggjkaaRetRow
import Derived.Deep.Cut
namespace Go.Proofs.Ytecdeplcoggjkaa
open Go.RowKit

theorem cfB_lens {qs : List Qu} {la ro se so : Int} (h : allQ qs = true) (h1 : 1 ≤ qs.length) (h2 : qs.length ≤ 8) : cfB qs la ro se so = limB la ro se so := by
  unfold cfB fitQ
  rw [h, wi_mk (by omega), Bool.and_self, Bool.and_true]
theorem cfB_long {qs : List Qu} {la ro se so : Int} (h : qs.length < 1 ∨ 8 < qs.length) : cfB qs la ro se so = false := by
  unfold cfB fitQ
  rw [wi_false (by omega), Bool.false_and, Bool.and_false]

/-- ConfigMay in its loop: the config in its box, and all that was there. -/
structure CmS (w : World) (cs : Array Value) (wr : World) : Prop where
  box : Has wr w.heap.size 24 cs
  keep : Below w.heap.size w wr
theorem CmS.below {w : World} {cs : Array Value} {wr w2 : World} (h : CmS w cs wr) (hb : Below wr.heap.size wr w2) : CmS w cs w2 := ⟨h.box.below hb h.box.lt, h.keep.trans (hb.mono h.keep.size)⟩

set_option maxRecDepth 100000 in
set_option maxHeartbeats 4000000 in
theorem cmay_any (A : Option Addr) (n c : Nat) (qs : List Qu) (la ro se so : Int) (w : World) (hr : Qus w A n qs) (hn : n ≤ 2199023255552) :
    Calls Try.prog 12 #[.agg #[.slice A n c, .int .i64 la, .int .i64 ro, .int .i64 se, .int .i64 so]] w fun e w' => e = .returned (.bool (cfB qs la ro se so)) ∧ Below w.heap.size w w' := by
  have HL := Lib.hid hr.1
  have HR := Lib.hid hr; clear hr
  have HS0 : Hid (CmS w (cfC A n c la ro se so) (w.alloc (.cells #[.slice A n c, .int .i64 la, .int .i64 ro, .int .i64 se, .int .i64 so] 24))) := ⟨Has.made _ _ _, (Below.refl _ _).alloc (Nat.le_refl _) _⟩
  go_enter Try.func12, Try.ntmps12
  go_wp2_with fail
  generalize w.alloc (.cells #[.slice A n c, .int .i64 la, .int .i64 ro, .int .i64 se, .int .i64 so] 24) = w1 at HS0 ⊢
  go_loopw [3] (fun i wr => ∃ j : Nat, j ≤ n ∧ i = .int .i64 j ∧ Hid (∀ i, i < j → quB (nthQ qs i) = true) ∧ Hid (CmS w (cfC A n c la ro se so) wr)) (fun i _ => n - (intOf i).toNat)
  case atStart => exact ⟨0, Nat.zero_le _, rfl, fun i hi => by omega, HS0⟩
  case round =>
    clear HS0
    obtain ⟨j, hj, rfl, HQ, HS⟩ := hrel
    have hcc := cells_cf HS.out.box
    by_cases hlt : j < n
    · obtain ⟨b, fo, rfl, hi⟩ := (HR.out.below HS.out.keep).2 (by omega)
      obtain ⟨B, m, d, hx⟩ := hi j hlt
      have HX := Lib.hid hx; clear hx hi
      go_wp2_with (refine load_qu rfl _ rfl b (fo + j * 6) rfl HX.out ?_)
      refine (queryMay_any (nthQ qs j).kind (nthQ qs j).agg (nthQ qs j).size (nthQ qs j).slide (nthQ qs j).rank B m d (nthQ qs j).bs wr HX.out.2.1 HX.out.2.2).mono ?_
      rintro e w2 ⟨rfl, b2⟩
      have HS2 := Lib.hid (HS.out.below b2)
      clear b2 hcc
      cases hq : mayQ (nthQ qs j).kind (nthQ qs j).agg (nthQ qs j).size (nthQ qs j).slide (nthQ qs j).bs (nthQ qs j).rank
      · go_wp2_with fail
        go_ret
        exact ⟨ret_bool (by unfold cfB fitQ; rw [allQ_no (by rw [HL.out]; exact hlt) hq, Bool.and_false, Bool.and_false]), HS2.out.keep⟩
      · have HQ2 : Hid (∀ i, i < j + 1 → quB (nthQ qs i) = true) := fun i hi => by rcases Nat.lt_succ_iff_lt_or_eq.1 hi with h | rfl <;> first | exact HQ.out i h | exact hq
        clear HX HS HQ hq
        go_wp2_with fail
        go_roundw
        case rel => exact ⟨j + 1, by omega, by go_num, HQ2, HS2⟩
        case measure => simp [intOf]; omega
    · have hjn : j = n := by omega
      subst hjn
      have HA : Hid (allQ qs = true) := allQ_yes (fun i hi => HQ.out i (by rw [HL.out] at hi; exact hi))
      by_cases h1 : 1 ≤ j
      · by_cases h2 : j ≤ 8
        · have HV : Hid (cfB qs la ro se so = limB la ro se so) := cfB_lens HA.out (by rw [HL.out]; exact h1) (by rw [HL.out]; exact h2)
          by_cases q1 : 0 ≤ la
          · by_cases q2 : la ≤ 1073741824
            · by_cases q3 : 1 ≤ ro
              · by_cases q4 : ro ≤ 4096
                · by_cases q5 : 1 ≤ se
                  · by_cases q6 : se ≤ 64
                    · by_cases q7 : 1 ≤ so
                      · have HV2 : Hid (cfB qs la ro se so = decide (so ≤ 8)) := by
                          rw [HV.out]; unfold limB; rw [wi_mk ⟨q1, q2⟩, wi_mk ⟨q3, q4⟩, wi_mk ⟨q5, q6⟩]; show wi so 1 8 = _; unfold wi; exact decide_eq_decide.2 (by omega)
                        go_wp2_with fail
                        go_ret
                        exact ⟨ret_bool HV2.out.symm, HS.out.keep⟩
                      · have HV2 : Hid (cfB qs la ro se so = false) := HV.out.trans (limB_no (by omega))
                        go_wp2_with fail
                        go_ret
                        exact ⟨ret_bool HV2.out.symm, HS.out.keep⟩
                    · have HV2 : Hid (cfB qs la ro se so = false) := HV.out.trans (limB_no (by omega))
                      go_wp2_with fail
                      go_ret
                      exact ⟨ret_bool HV2.out.symm, HS.out.keep⟩
                  · have HV2 : Hid (cfB qs la ro se so = false) := HV.out.trans (limB_no (by omega))
                    go_wp2_with fail
                    go_ret
                    exact ⟨ret_bool HV2.out.symm, HS.out.keep⟩
                · have HV2 : Hid (cfB qs la ro se so = false) := HV.out.trans (limB_no (by omega))
                  go_wp2_with fail
                  go_ret
                  exact ⟨ret_bool HV2.out.symm, HS.out.keep⟩
              · have HV2 : Hid (cfB qs la ro se so = false) := HV.out.trans (limB_no (by omega))
                go_wp2_with fail
                go_ret
                exact ⟨ret_bool HV2.out.symm, HS.out.keep⟩
            · have HV2 : Hid (cfB qs la ro se so = false) := HV.out.trans (limB_no (by omega))
              go_wp2_with fail
              go_ret
              exact ⟨ret_bool HV2.out.symm, HS.out.keep⟩
          · have HV2 : Hid (cfB qs la ro se so = false) := HV.out.trans (limB_no (by omega))
            go_wp2_with fail
            go_ret
            exact ⟨ret_bool HV2.out.symm, HS.out.keep⟩
        · have HV : Hid (cfB qs la ro se so = false) := cfB_long (by rw [HL.out]; omega)
          go_wp2_with fail
          go_ret
          exact ⟨ret_bool HV.out.symm, HS.out.keep⟩
      · have HV : Hid (cfB qs la ro se so = false) := cfB_long (by rw [HL.out]; omega)
        go_wp2_with fail
        go_ret
        exact ⟨ret_bool HV.out.symm, HS.out.keep⟩

/-- Both boxes of a call of the reference's Verdict. -/
structure RvS (w : World) (A : Option Addr) (n c : Nat) (la ro se so kd os oe ti va : Int) (wr : World) : Prop where
  cf : Has wr w.heap.size 24 (cfC A n c la ro se so)
  op : Has wr (w.heap.size + 1) 26 (opC kd os oe ti va)
  keep : Below w.heap.size w wr
theorem RvS.below {w : World} {A : Option Addr} {n c : Nat} {la ro se so kd os oe ti va : Int} {wr w2 : World} (h : RvS w A n c la ro se so kd os oe ti va wr) (hb : Below wr.heap.size wr w2) : RvS w A n c la ro se so kd os oe ti va w2 :=
  ⟨h.cf.below hb h.cf.lt, h.op.below hb h.op.lt, h.keep.trans (hb.mono h.keep.size)⟩
theorem RvS.made {w : World} {A : Option Addr} {n c : Nat} {la ro se so kd os oe ti va : Int} : RvS w A n c la ro se so kd os oe ti va ((w.alloc (.cells #[.slice A n c, .int .i64 la, .int .i64 ro, .int .i64 se, .int .i64 so] 24)).alloc (.cells #[.int .i64 kd, .int .i64 os, .int .i64 oe, .int .i64 ti, .int .i64 va] 26)) := by
  refine ⟨(Has.made w _ _).alloc _, ?_, ((Below.refl _ _).alloc (Nat.le_refl _) _).alloc (by simp) _⟩
  have h := Has.made (w.alloc (.cells #[.slice A n c, .int .i64 la, .int .i64 ro, .int .i64 se, .int .i64 so] 24)) 26 #[.int .i64 kd, .int .i64 os, .int .i64 oe, .int .i64 ti, .int .i64 va]
  have e : (w.alloc (.cells #[.slice A n c, .int .i64 la, .int .i64 ro, .int .i64 se, .int .i64 so] 24)).heap.size = w.heap.size + 1 := by simp
  rw [e] at h
  exact h

end Go.Proofs.Ytecdeplcoggjkaa
