/-
  Walks: the reference's QueryMay, Windows.
-/
import Derived.Test.YtplhohifaaljpaaWOf
import Derived.Test.YtplhohifaaljpaaWFRef
import Derived.Test.YtplhohifaaljpaaRef
namespace Go.Proofs.Ytplhohifaaljpaa
open Go.RowKit

/-- May a query's aggregate be? -/
def aggB (ag : Int) (bs : List Int) (rk : Int) : Bool := wi ag 0 7 && (bndB ag bs && rankB ag rk)
theorem mayQ_agg (kd ag sz sl rk : Int) (bs : List Int) : mayQ kd ag sz sl bs rk = (aggB ag bs rk && (wi sz 1 1073741824 && (wi kd 0 2 && slideB kd sz sl))) := by
  unfold mayQ aggB
  cases wi kd 0 2 <;> cases wi ag 0 7 <;> cases wi sz 1 1073741824 <;> cases slideB kd sz sl <;> cases bndB ag bs <;> cases rankB ag rk <;> rfl

set_option maxRecDepth 100000 in
set_option maxHeartbeats 2000000 in
theorem aggMay_any (kd ag sz sl rk : Int) (B : Option Addr) (m d : Nat) (bs : List Int) (w : World) (hb : Ints w B m bs) (hm : m ≤ maxLen) :
    Calls Try.prog 87 #[.agg #[.int .i64 kd, .int .i64 ag, .int .i64 sz, .int .i64 sl, .slice B m d, .int .i64 rk]] w
      fun e w' => e = .returned (.bool (aggB ag bs rk)) ∧ Below w.heap.size w w' := by
  have HL := Lib.hid hb.1
  have hbox : ∀ o k, Below w.heap.size w ((w.alloc o).drewN k) := fun o k => below_drewN ((Below.refl _ _).alloc (Nat.le_refl _) o) k
  have HBOX := Lib.hid hbox; clear hbox
  have hm2 := hm
  unfold maxLen at hm
  by_cases a0 : 0 ≤ ag
  · by_cases a7 : ag ≤ 7
    · have HA : Hid (aggB ag bs rk = (bndB ag bs && rankB ag rk)) := by unfold aggB; rw [wi_mk ⟨a0, a7⟩]; rfl
      cases hbb : boundsB bs
      · have HF : Hid ((bndB ag bs && rankB ag rk) = false) := by
          unfold bndB
          rw [hbb]
          by_cases h6 : ag = 6 ∨ ag = 7
          · rw [if_pos h6, Bool.and_false]; exact rfl
          · rw [if_neg h6, decide_eq_false]; exact rfl
            intro h0
            have : bs = [] := List.eq_nil_of_length_eq_zero h0
            subst this
            exact absurd hbb (by decide)
        go_enter Try.func87, Try.ntmps87
        by_cases e6 : ag = 6
        · subst e6
          go_wp2_with fail
          refine (rbounds_any B m d bs _ (hb.below (HBOX.out _ 0)) hm2).mono ?_
          rintro e w' ⟨rfl, k, rfl⟩
          rw [hbb]
          go_wp2_with fail
          go_ret
          exact ⟨ret_bool (by rw [HA.out, HF.out]), HBOX.out _ _⟩
        · have e6' : (ag == 6) = false := by simp [e6]
          clear e6
          by_cases e7 : ag = 7
          · subst e7
            go_wp2_with fail
            refine (rbounds_any B m d bs _ (hb.below (HBOX.out _ 0)) hm2).mono ?_
            rintro e w' ⟨rfl, k, rfl⟩
            rw [hbb]
            go_wp2_with fail
            go_ret
            exact ⟨ret_bool (by rw [HA.out, HF.out]), HBOX.out _ _⟩
          · have e7' : (ag == 7) = false := by simp [e7]
            clear e7
            go_wp2_with fail
            refine (rbounds_any B m d bs _ (hb.below (HBOX.out _ 0)) hm2).mono ?_
            rintro e w' ⟨rfl, k, rfl⟩
            rw [hbb]
            go_wp2_with fail
            go_ret
            exact ⟨ret_bool (by rw [HA.out, HF.out]), HBOX.out _ _⟩
      · have HBB := Lib.hid hbb
        by_cases e6 : ag = 6
        · subst e6
          by_cases h0 : 0 < m
          · have HF : Hid ((bndB 6 bs && rankB 6 rk) = decide (rk = 0)) := by
              unfold bndB rankB
              rw [if_pos (Or.inl rfl), hbb, HL.out, decide_eq_true h0, if_neg (by decide)]; exact rfl
            go_enter Try.func87, Try.ntmps87
            go_wp2_with fail
            refine (rbounds_any B m d bs _ (hb.below (HBOX.out _ 0)) hm2).mono ?_
            rintro e w' ⟨rfl, k, rfl⟩
            rw [hbb]
            by_cases hr : rk = 0
            · subst hr
              go_wp2_with fail
              go_ret
              exact ⟨ret_bool (by rw [HA.out, HF.out]; rfl), HBOX.out _ _⟩
            · have hr' : (rk == 0) = false := by simp [hr]
              have HR : Hid (decide (rk = 0) = false) := decide_eq_false hr
              clear hr
              go_wp2_with fail
              go_ret
              exact ⟨ret_bool (by rw [HA.out, HF.out, HR.out]), HBOX.out _ _⟩
          · have hm0 : m = 0 := by omega
            subst hm0
            have HF : Hid ((bndB 6 bs && rankB 6 rk) = false) := by
              unfold bndB
              rw [if_pos (Or.inl rfl), HL.out]; exact rfl
            go_enter Try.func87, Try.ntmps87
            go_wp2_with fail
            refine (rbounds_any B 0 d bs _ (hb.below (HBOX.out _ 0)) hm2).mono ?_
            rintro e w' ⟨rfl, k, rfl⟩
            rw [hbb]
            go_wp2_with fail
            go_ret
            exact ⟨ret_bool (by rw [HA.out, HF.out]), HBOX.out _ _⟩
        · have e6' : (ag == 6) = false := by simp [e6]
          by_cases e7 : ag = 7
          · subst e7
            by_cases h0 : 0 < m
            · have HF : Hid ((bndB 7 bs && rankB 7 rk) = wi rk 0 1000) := by
                unfold bndB rankB
                rw [if_pos (Or.inr rfl), hbb, HL.out, decide_eq_true h0, if_pos rfl]; exact rfl
              go_enter Try.func87, Try.ntmps87
              go_wp2_with fail
              refine (rbounds_any B m d bs _ (hb.below (HBOX.out _ 0)) hm2).mono ?_
              rintro e w' ⟨rfl, k, rfl⟩
              rw [hbb]
              by_cases hr : rk = 0
              · subst hr
                go_wp2_with fail
                go_ret
                exact ⟨ret_bool (by rw [HA.out, HF.out]; rfl), HBOX.out _ _⟩
              · have hr' : (rk == 0) = false := by simp [hr]
                by_cases hr1 : 0 < rk
                · have HR : Hid (wi rk 0 1000 = decide (rk ≤ 1000)) := by unfold wi; exact decide_eq_decide.2 (by omega)
                  clear hr
                  go_wp2_with fail
                  go_ret
                  exact ⟨ret_bool (by rw [HA.out, HF.out, HR.out]), HBOX.out _ _⟩
                · have HR : Hid (wi rk 0 1000 = false) := wi_false (by omega)
                  clear hr
                  go_wp2_with fail
                  go_ret
                  exact ⟨ret_bool (by rw [HA.out, HF.out, HR.out]), HBOX.out _ _⟩
            · have hm0 : m = 0 := by omega
              subst hm0
              have HF : Hid ((bndB 7 bs && rankB 7 rk) = false) := by
                unfold bndB
                rw [if_pos (Or.inr rfl), HL.out]; exact rfl
              go_enter Try.func87, Try.ntmps87
              go_wp2_with fail
              refine (rbounds_any B 0 d bs _ (hb.below (HBOX.out _ 0)) hm2).mono ?_
              rintro e w' ⟨rfl, k, rfl⟩
              rw [hbb]
              go_wp2_with fail
              go_ret
              exact ⟨ret_bool (by rw [HA.out, HF.out]), HBOX.out _ _⟩
          · have e7' : (ag == 7) = false := by simp [e7]
            have HF : Hid ((bndB ag bs && rankB ag rk) = (decide (m = 0) && decide (rk = 0))) := by
              unfold bndB rankB
              rw [if_neg (by omega), HL.out, if_neg e7]; exact rfl
            clear e6 e7
            by_cases h0 : 0 < m
            · go_enter Try.func87, Try.ntmps87
              go_wp2_with fail
              refine (rbounds_any B m d bs _ (hb.below (HBOX.out _ 0)) hm2).mono ?_
              rintro e w' ⟨rfl, k, rfl⟩
              rw [hbb]
              go_wp2_with fail
              go_ret
              exact ⟨ret_bool (by rw [HA.out, HF.out, decide_eq_false (show ¬ m = 0 by omega)]; rfl), HBOX.out _ _⟩
            · have hm0 : m = 0 := by omega
              subst hm0
              go_enter Try.func87, Try.ntmps87
              go_wp2_with fail
              refine (rbounds_any B 0 d bs _ (hb.below (HBOX.out _ 0)) hm2).mono ?_
              rintro e w' ⟨rfl, k, rfl⟩
              rw [hbb]
              by_cases hr : rk = 0
              · subst hr
                go_wp2_with fail
                go_ret
                exact ⟨ret_bool (by rw [HA.out, HF.out]; rfl), HBOX.out _ _⟩
              · have hr' : (rk == 0) = false := by simp [hr]
                have HR : Hid (decide (rk = 0) = false) := decide_eq_false hr
                clear hr
                go_wp2_with fail
                go_ret
                exact ⟨ret_bool (by rw [HA.out, HF.out, HR.out, Bool.and_false]), HBOX.out _ _⟩
    · have HA : Hid (aggB ag bs rk = false) := by unfold aggB; rw [wi_false (by omega)]; rfl
      have e6' : (ag == 6) = false := by simp; omega
      have e7' : (ag == 7) = false := by simp; omega
      go_enter Try.func87, Try.ntmps87
      go_wp2_with fail
      go_ret
      exact ⟨ret_bool (by rw [HA.out]), HBOX.out _ 0⟩
  · have HA : Hid (aggB ag bs rk = false) := by unfold aggB; rw [wi_false (by omega)]; rfl
    have e6' : (ag == 6) = false := by simp; omega
    have e7' : (ag == 7) = false := by simp; omega
    go_enter Try.func87, Try.ntmps87
    go_wp2_with fail
    go_ret
    exact ⟨ret_bool (by rw [HA.out]), HBOX.out _ 0⟩

end Go.Proofs.Ytplhohifaaljpaa
