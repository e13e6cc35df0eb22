/-
  Walk: the reference's Verdict (written by gen/adrver.py).
-/
import Derived.Test.YtecdeplcoggjkaaAdRef
namespace Go.Proofs.Ytecdeplcoggjkaa
open Go.RowKit

theorem pair_eq {a b c d : Int} (h : a = b) (g : c = d) : Ending.returned (.tuple #[.int .i64 a, .int .i64 c]) = .returned (.tuple #[.int .i64 b, .int .i64 d]) := by rw [h, g]

set_option maxRecDepth 100000 in
set_option maxHeartbeats 2000000 in
theorem rver_bad (A : Option Addr) (n c : Nat) (qs : List Qu) (la ro se so le he kn : Int) (has : Bool) (kd os oe ti va : Int) (w : World) (hr : Qus w A n qs) (hn : n ≤ 2199023255552) (h : isB qs la ro se so le he kn = false) :
    Calls Try.prog 9 #[.agg #[.slice A n c, .int .i64 la, .int .i64 ro, .int .i64 se, .int .i64 so], .int .i64 le, .int .i64 he, .int .i64 kn, .bool has, .agg #[.int .i64 kd, .int .i64 os, .int .i64 oe, .int .i64 ti, .int .i64 va]] w fun e w' => e = .returned (.tuple #[.int .i64 0, .int .i64 1400]) ∧ Below w.heap.size w w' := by
  have HR := Lib.hid hr; clear hr
  unfold isB at h
  go_enter Try.func9, Try.ntmps9
  go_upto_region 1 with fail
  generalize hw0 : ((w.alloc (.cells #[.slice A n c, .int .i64 la, .int .i64 ro, .int .i64 se, .int .i64 so] 24)).alloc (.cells #[.int .i64 kd, .int .i64 os, .int .i64 oe, .int .i64 ti, .int .i64 va] 26)) = w1
  have HS : Hid (RvS w A n c la ro se so kd os oe ti va w1) := by rw [← hw0]; exact RvS.made
  clear hw0
  have hcc := cells_cf HS.out.cf
  go_wp2_with fail
  refine (cmay_any A n c qs la ro se so w1 (HR.out.below HS.out.keep) hn).mono ?_
  rintro e w2 ⟨rfl, b2⟩
  have HS2 := Lib.hid (HS.out.below b2)
  clear b2 HS hcc
  cases k1 : cfB qs la ro se so
  · go_wp2_with fail
    go_ret2
    exact ⟨rfl, HS2.out.keep⟩
  · by_cases k2 : -4398046511104 ≤ le
    · by_cases k2b : le ≤ 4398046511104
      · by_cases k3 : 0 ≤ he
        · have k4 : kn < 0 := by rw [k1, wi_mk ⟨k2, k2b⟩, decide_eq_true k3] at h; simpa using h
          clear h
          go_wp2_with fail
          go_ret2
          exact ⟨rfl, HS2.out.keep⟩
        · clear h
          go_wp2_with fail
          go_ret2
          exact ⟨rfl, HS2.out.keep⟩
      · clear h
        go_wp2_with fail
        go_ret2
        exact ⟨rfl, HS2.out.keep⟩
    · clear h
      go_wp2_with fail
      go_ret2
      exact ⟨rfl, HS2.out.keep⟩

set_option maxRecDepth 100000 in
set_option maxHeartbeats 4000000 in
theorem rver_ok (A : Option Addr) (n c : Nat) (qs : List Qu) (la ro se so le he kn : Int) (has : Bool) (kd os oe ti va : Int) (w : World) (hr : Qus w A n qs) (hn : n ≤ 2199023255552) (h : isB qs la ro se so le he kn = true) :
    Calls Try.prog 9 #[.agg #[.slice A n c, .int .i64 la, .int .i64 ro, .int .i64 se, .int .i64 so], .int .i64 le, .int .i64 he, .int .i64 kn, .bool has, .agg #[.int .i64 kd, .int .i64 os, .int .i64 oe, .int .i64 ti, .int .i64 va]] w fun e w' => e = .returned (.tuple #[.int .i64 (tellV la ro se so le he kn has kd os oe ti va), .int .i64 0]) ∧ Below w.heap.size w w' := by
  have HR := Lib.hid hr; clear hr
  obtain ⟨k1, ⟨l1, l1b⟩, k3, k4⟩ := isB_true h
  obtain ⟨⟨l2, l2b⟩, _⟩ := limB_true (cfB_true k1)
  clear h
  go_enter Try.func9, Try.ntmps9
  go_upto_region 1 with fail
  generalize hw0 : ((w.alloc (.cells #[.slice A n c, .int .i64 la, .int .i64 ro, .int .i64 se, .int .i64 so] 24)).alloc (.cells #[.int .i64 kd, .int .i64 os, .int .i64 oe, .int .i64 ti, .int .i64 va] 26)) = w1
  have HS : Hid (RvS w A n c la ro se so kd os oe ti va w1) := by rw [← hw0]; exact RvS.made
  clear hw0
  have hcc := cells_cf HS.out.cf
  go_wp2_with fail
  refine (cmay_any A n c qs la ro se so w1 (HR.out.below HS.out.keep) hn).mono ?_
  rintro e w2 ⟨rfl, b2⟩
  have HS2 := Lib.hid (HS.out.below b2)
  clear b2 HS hcc
  rw [k1]
  have hcc := cells_cf HS2.out.cf
  have hco := cells_op HS2.out.op
  clear k1
  by_cases h0 : kd = 0
  · subst h0
    go_wp2_with fail
    refine (opmay0_any os oe ti va w2).mono ?_
    rintro e w3 ⟨rfl, b3⟩
    have HS3 := Lib.hid (HS2.out.below b3)
    clear b3 HS2 hcc hco
    have hcc := cells_cf HS3.out.cf
    have hco := cells_op HS3.out.op
    cases hq : restB os oe ti va
    · have HV : Hid (tellV la ro se so le he kn has 0 os oe ti va = 4) := by unfold tellV; rw [if_pos (by unfold smB; rw [hq, Bool.false_and, Bool.and_false])]; exact rfl
      go_wp2_with fail
      go_ret2
      exact ⟨pair_eq HV.out.symm rfl, HS3.out.keep⟩
    · have hti := (restB_true hq).2.2.1
      by_cases h1 : os < so
      · have HM : Hid (smB 0 os oe ti va so = true) := by unfold smB; rw [hq, decide_eq_true h1]; exact rfl
        have HN : Hid (¬ smB 0 os oe ti va so = false) := by rw [HM.out]; exact fun h => by cases h
        clear hq
        obtain ⟨t1, t2⟩ := hti
        by_cases h2 : ti < le - la
        · have HV : Hid (tellV la ro se so le he kn has 0 os oe ti va = 1) := by unfold tellV; rw [if_neg HN.out, if_pos h2]; exact rfl
          go_wp2_with fail
          go_ret2
          exact ⟨pair_eq HV.out.symm rfl, HS3.out.keep⟩
        · by_cases h3 : has = false ∧ se ≤ kn
          · obtain ⟨rfl, h3b⟩ := h3
            have HV : Hid (tellV la ro se so le he kn false 0 os oe ti va = 3) := by unfold tellV; rw [if_neg HN.out, if_neg h2, if_pos ⟨rfl, h3b⟩]; exact rfl
            go_wp2_with fail
            go_ret2
            exact ⟨pair_eq HV.out.symm rfl, HS3.out.keep⟩
          · by_cases h4 : ro ≤ he
            · have HV : Hid (tellV la ro se so le he kn has 0 os oe ti va = 2) := by unfold tellV; rw [if_neg HN.out, if_neg h2, if_neg h3, if_pos h4]; exact rfl
              cases has
              · have h5 : ¬ se ≤ kn := fun h => h3 ⟨rfl, h⟩
                clear h3
                go_wp2_with fail
                go_ret2
                exact ⟨pair_eq HV.out.symm rfl, HS3.out.keep⟩
              · clear h3
                go_wp2_with fail
                go_ret2
                exact ⟨pair_eq HV.out.symm rfl, HS3.out.keep⟩
            · have HV : Hid (tellV la ro se so le he kn has 0 os oe ti va = 0) := by unfold tellV; rw [if_neg HN.out, if_neg h2, if_neg h3, if_neg h4]; exact rfl
              cases has
              · have h5 : ¬ se ≤ kn := fun h => h3 ⟨rfl, h⟩
                clear h3
                go_wp2_with fail
                go_ret2
                exact ⟨pair_eq HV.out.symm rfl, HS3.out.keep⟩
              · clear h3
                go_wp2_with fail
                go_ret2
                exact ⟨pair_eq HV.out.symm rfl, HS3.out.keep⟩
      · have HV : Hid (tellV la ro se so le he kn has 0 os oe ti va = 4) := by unfold tellV; rw [if_pos (by unfold smB; rw [decide_eq_false h1, Bool.and_false, Bool.and_false])]; exact rfl
        clear hq hti
        go_wp2_with fail
        go_ret2
        exact ⟨pair_eq HV.out.symm rfl, HS3.out.keep⟩
  · have HV : Hid (tellV la ro se so le he kn has kd os oe ti va = 4) := by unfold tellV; rw [if_pos (by unfold smB; rw [decide_eq_false h0, Bool.false_and])]; exact rfl
    have h1 : (kd == 0) = false := by simp [h0]
    have h2 : (kd != 0) = true := by simp [h0]
    clear h0
    go_wp2_with fail
    go_ret2
    exact ⟨pair_eq HV.out.symm rfl, HS2.out.keep⟩

end Go.Proofs.Ytecdeplcoggjkaa
