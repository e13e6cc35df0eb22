/-
  Walk: the reference's QueryMay. (Out of XWRef, XWRef2.)
-/
import Derived.Test.YtkbocjmdbfddhaaWMay
import Derived.Test.YtkbocjmdbfddhaaWGcR
import Derived.Test.YtkbocjmdbfddhaaRfB
namespace Go.Proofs.Ytkbocjmdbfddhaa
open Go.RowKit

/-- May a query's aggregate be? -/
def aggB (ag : Int) (bs : List Int) (rk : Int) : Bool := wi ag 0 7 && (bndB ag bs && rankB ag rk)
theorem mayQ_agg (kd ag sz sl rk : Int) (bs : List Int) : mayQ kd ag sz sl bs rk = (aggB ag bs rk && (wi sz 1 1073741824 && (wi kd 0 2 && slideB kd sz sl))) := by
  unfold mayQ aggB
  cases wi kd 0 2 <;> cases wi ag 0 7 <;> cases wi sz 1 1073741824 <;> cases slideB kd sz sl <;> cases bndB ag bs <;> cases rankB ag rk <;> rfl

set_option maxRecDepth 100000 in
set_option maxHeartbeats 2000000 in
theorem aggMay_any (kd ag sz sl rk : Int) (B : Option Addr) (m d : Nat) (bs : List Int) (w : World) (hb : Ints w B m bs) (hm : m ≤ maxLen) :
    Calls Try.prog 51 #[.agg #[.int .i64 kd, .int .i64 ag, .int .i64 sz, .int .i64 sl, .slice B m d, .int .i64 rk]] w
      fun e w' => e = .returned (.bool (aggB ag bs rk)) ∧ Below w.heap.size w w' := by
  have HL := Lib.hid hb.1
  have hbox : ∀ o k, Below w.heap.size w ((w.alloc o).drewN k) := fun o k => below_drewN ((Below.refl _ _).alloc (Nat.le_refl _) o) k
  have HBOX := Lib.hid hbox; clear hbox
  have hm2 := hm
  unfold maxLen at hm
  by_cases a0 : 0 ≤ ag
  · by_cases a7 : ag ≤ 7
    · have HA : Hid (aggB ag bs rk = (bndB ag bs && rankB ag rk)) := by unfold aggB; rw [wi_mk ⟨a0, a7⟩]; rfl
      cases hbb : boundsB bs
      · have HF : Hid ((bndB ag bs && rankB ag rk) = false) := by
          unfold bndB
          rw [hbb]
          by_cases h6 : ag = 6 ∨ ag = 7
          · rw [if_pos h6, Bool.and_false]; exact rfl
          · rw [if_neg h6, decide_eq_false]; exact rfl
            intro h0
            have : bs = [] := List.eq_nil_of_length_eq_zero h0
            subst this
            exact absurd hbb (by decide)
        go_enter Try.func51, Try.ntmps51
        by_cases e6 : ag = 6
        · subst e6
          go_wp2_with fail
          refine (rbounds_any B m d bs _ (hb.below (HBOX.out _ 0)) hm2).mono ?_
          rintro e w' ⟨rfl, k, rfl⟩
          rw [hbb]
          go_wp2_with fail
          go_ret
          exact ⟨ret_bool (by rw [HA.out, HF.out]), HBOX.out _ _⟩
        · have e6' : (ag == 6) = false := by simp [e6]
          clear e6
          by_cases e7 : ag = 7
          · subst e7
            go_wp2_with fail
            refine (rbounds_any B m d bs _ (hb.below (HBOX.out _ 0)) hm2).mono ?_
            rintro e w' ⟨rfl, k, rfl⟩
            rw [hbb]
            go_wp2_with fail
            go_ret
            exact ⟨ret_bool (by rw [HA.out, HF.out]), HBOX.out _ _⟩
          · have e7' : (ag == 7) = false := by simp [e7]
            clear e7
            go_wp2_with fail
            refine (rbounds_any B m d bs _ (hb.below (HBOX.out _ 0)) hm2).mono ?_
            rintro e w' ⟨rfl, k, rfl⟩
            rw [hbb]
            go_wp2_with fail
            go_ret
            exact ⟨ret_bool (by rw [HA.out, HF.out]), HBOX.out _ _⟩
      · have HBB := Lib.hid hbb
        by_cases e6 : ag = 6
        · subst e6
          by_cases h0 : 0 < m
          · have HF : Hid ((bndB 6 bs && rankB 6 rk) = decide (rk = 0)) := by
              unfold bndB rankB
              rw [if_pos (Or.inl rfl), hbb, HL.out, decide_eq_true h0, if_neg (by decide)]; exact rfl
            go_enter Try.func51, Try.ntmps51
            go_wp2_with fail
            refine (rbounds_any B m d bs _ (hb.below (HBOX.out _ 0)) hm2).mono ?_
            rintro e w' ⟨rfl, k, rfl⟩
            rw [hbb]
            by_cases hr : rk = 0
            · subst hr
              go_wp2_with fail
              go_ret
              exact ⟨ret_bool (by rw [HA.out, HF.out]; rfl), HBOX.out _ _⟩
            · have hr' : (rk == 0) = false := by simp [hr]
              have HR : Hid (decide (rk = 0) = false) := decide_eq_false hr
              clear hr
              go_wp2_with fail
              go_ret
              exact ⟨ret_bool (by rw [HA.out, HF.out, HR.out]), HBOX.out _ _⟩
          · have hm0 : m = 0 := by omega
            subst hm0
            have HF : Hid ((bndB 6 bs && rankB 6 rk) = false) := by
              unfold bndB
              rw [if_pos (Or.inl rfl), HL.out]; exact rfl
            go_enter Try.func51, Try.ntmps51
            go_wp2_with fail
            refine (rbounds_any B 0 d bs _ (hb.below (HBOX.out _ 0)) hm2).mono ?_
            rintro e w' ⟨rfl, k, rfl⟩
            rw [hbb]
            go_wp2_with fail
            go_ret
            exact ⟨ret_bool (by rw [HA.out, HF.out]), HBOX.out _ _⟩
        · have e6' : (ag == 6) = false := by simp [e6]
          by_cases e7 : ag = 7
          · subst e7
            by_cases h0 : 0 < m
            · have HF : Hid ((bndB 7 bs && rankB 7 rk) = wi rk 0 1000) := by
                unfold bndB rankB
                rw [if_pos (Or.inr rfl), hbb, HL.out, decide_eq_true h0, if_pos rfl]; exact rfl
              go_enter Try.func51, Try.ntmps51
              go_wp2_with fail
              refine (rbounds_any B m d bs _ (hb.below (HBOX.out _ 0)) hm2).mono ?_
              rintro e w' ⟨rfl, k, rfl⟩
              rw [hbb]
              by_cases hr : rk = 0
              · subst hr
                go_wp2_with fail
                go_ret
                exact ⟨ret_bool (by rw [HA.out, HF.out]; rfl), HBOX.out _ _⟩
              · have hr' : (rk == 0) = false := by simp [hr]
                by_cases hr1 : 0 < rk
                · have HR : Hid (wi rk 0 1000 = decide (rk ≤ 1000)) := by unfold wi; exact decide_eq_decide.2 (by omega)
                  clear hr
                  go_wp2_with fail
                  go_ret
                  exact ⟨ret_bool (by rw [HA.out, HF.out, HR.out]), HBOX.out _ _⟩
                · have HR : Hid (wi rk 0 1000 = false) := wi_false (by omega)
                  clear hr
                  go_wp2_with fail
                  go_ret
                  exact ⟨ret_bool (by rw [HA.out, HF.out, HR.out]), HBOX.out _ _⟩
            · have hm0 : m = 0 := by omega
              subst hm0
              have HF : Hid ((bndB 7 bs && rankB 7 rk) = false) := by
                unfold bndB
                rw [if_pos (Or.inr rfl), HL.out]; exact rfl
              go_enter Try.func51, Try.ntmps51
              go_wp2_with fail
              refine (rbounds_any B 0 d bs _ (hb.below (HBOX.out _ 0)) hm2).mono ?_
              rintro e w' ⟨rfl, k, rfl⟩
              rw [hbb]
              go_wp2_with fail
              go_ret
              exact ⟨ret_bool (by rw [HA.out, HF.out]), HBOX.out _ _⟩
          · have e7' : (ag == 7) = false := by simp [e7]
            have HF : Hid ((bndB ag bs && rankB ag rk) = (decide (m = 0) && decide (rk = 0))) := by
              unfold bndB rankB
              rw [if_neg (by omega), HL.out, if_neg e7]; exact rfl
            clear e6 e7
            by_cases h0 : 0 < m
            · go_enter Try.func51, Try.ntmps51
              go_wp2_with fail
              refine (rbounds_any B m d bs _ (hb.below (HBOX.out _ 0)) hm2).mono ?_
              rintro e w' ⟨rfl, k, rfl⟩
              rw [hbb]
              go_wp2_with fail
              go_ret
              exact ⟨ret_bool (by rw [HA.out, HF.out, decide_eq_false (show ¬ m = 0 by omega)]; rfl), HBOX.out _ _⟩
            · have hm0 : m = 0 := by omega
              subst hm0
              go_enter Try.func51, Try.ntmps51
              go_wp2_with fail
              refine (rbounds_any B 0 d bs _ (hb.below (HBOX.out _ 0)) hm2).mono ?_
              rintro e w' ⟨rfl, k, rfl⟩
              rw [hbb]
              by_cases hr : rk = 0
              · subst hr
                go_wp2_with fail
                go_ret
                exact ⟨ret_bool (by rw [HA.out, HF.out]; rfl), HBOX.out _ _⟩
              · have hr' : (rk == 0) = false := by simp [hr]
                have HR : Hid (decide (rk = 0) = false) := decide_eq_false hr
                clear hr
                go_wp2_with fail
                go_ret
                exact ⟨ret_bool (by rw [HA.out, HF.out, HR.out, Bool.and_false]), HBOX.out _ _⟩
    · have HA : Hid (aggB ag bs rk = false) := by unfold aggB; rw [wi_false (by omega)]; rfl
      have e6' : (ag == 6) = false := by simp; omega
      have e7' : (ag == 7) = false := by simp; omega
      go_enter Try.func51, Try.ntmps51
      go_wp2_with fail
      go_ret
      exact ⟨ret_bool (by rw [HA.out]), HBOX.out _ 0⟩
  · have HA : Hid (aggB ag bs rk = false) := by unfold aggB; rw [wi_false (by omega)]; rfl
    have e6' : (ag == 6) = false := by simp; omega
    have e7' : (ag == 7) = false := by simp; omega
    go_enter Try.func51, Try.ntmps51
    go_wp2_with fail
    go_ret
    exact ⟨ret_bool (by rw [HA.out]), HBOX.out _ 0⟩

set_option maxRecDepth 100000 in
set_option maxHeartbeats 2000000 in
theorem queryMay_any (kd ag sz sl rk : Int) (B : Option Addr) (m d : Nat) (bs : List Int) (w : World) (hb : Ints w B m bs) (hm : m ≤ maxLen) :
    Calls Try.prog 20 #[.agg #[.int .i64 kd, .int .i64 ag, .int .i64 sz, .int .i64 sl, .slice B m d, .int .i64 rk]] w
      fun e w' => e = .returned (.bool (mayQ kd ag sz sl bs rk)) ∧ Below w.heap.size w w' := by
  rw [mayQ_agg]
  have hbox : ∀ o, Below w.heap.size w (w.alloc o) := fun o => (Below.refl _ _).alloc (Nat.le_refl _) o
  have HBOX := Lib.hid hbox; clear hbox
  go_enter Try.func20, Try.ntmps20
  go_wp2_with fail
  refine (aggMay_any kd ag sz sl rk B m d bs _ (hb.below (HBOX.out _)) hm).mono ?_
  rintro e w1 ⟨rfl, b1⟩
  have hB1 : Below w.heap.size w w1 := (HBOX.out _).trans (b1.mono (by simp))
  have hc1 : ∀ b o, b < w.heap.size + 1 → w1.cell? ⟨b, o, none⟩ = _ := fun b o h => oldCells b1 (Nat.le_refl _) b o (by simpa using h)
  clear b1
  cases k1 : aggB ag bs rk
  · go_wp2_with fail
    go_ret
    exact ⟨ret_bool (by rw [k1]; rfl), hB1⟩
  · have HT : Hid ((aggB ag bs rk && (wi sz 1 1073741824 && (wi kd 0 2 && slideB kd sz sl))) = (wi sz 1 1073741824 && (wi kd 0 2 && slideB kd sz sl))) := by rw [k1]; exact rfl
    by_cases s1 : 1 ≤ sz
    · by_cases s2 : sz ≤ 1073741824
      · have H0 : Hid ((aggB ag bs rk && (wi sz 1 1073741824 && (wi kd 0 2 && slideB kd sz sl))) = (wi kd 0 2 && slideB kd sz sl)) := by rw [k1, wi_mk ⟨s1, s2⟩]; exact rfl
        have H1 : Hid ((wi sz 1 1073741824 && (wi kd 0 2 && slideB kd sz sl)) = (wi kd 0 2 && slideB kd sz sl)) := by rw [wi_mk ⟨s1, s2⟩]; exact rfl
        by_cases q0 : kd = 0
        · subst q0
          have HV : Hid ((wi 0 0 2 && slideB 0 sz sl) = (sl == 0)) := by
            unfold slideB; rw [if_neg (by decide), ← Bool.beq_eq_decide_eq]; exact rfl
          go_wp2_with fail
          go_ret
          exact ⟨ret_bool (by rw [H0.out, HV.out]), hB1⟩
        · have q0' : (kd == 0) = false := by simp [q0]
          by_cases q2 : kd = 2
          · subst q2
            have HV : Hid ((wi 2 0 2 && slideB 2 sz sl) = (sl == 0)) := by
              unfold slideB; rw [if_neg (by decide), ← Bool.beq_eq_decide_eq]; exact rfl
            go_wp2_with fail
            go_ret
            exact ⟨ret_bool (by rw [H0.out, HV.out]), hB1⟩
          · have q2' : (kd == 2) = false := by simp [q2]
            by_cases q1 : kd = 1
            · subst q1
              clear q0 q2
              by_cases l1 : 1 ≤ sl
              · by_cases l2 : sl ≤ sz
                · obtain ⟨P, hP⟩ : ∃ P, (sz + sl - 1) / sl = P := ⟨_, rfl⟩
                  obtain ⟨G, hG⟩ : ∃ G, gcdI sz sl = G := ⟨_, rfl⟩
                  have g1 := gcd_pos sz sl s1
                  rw [hG] at g1
                  obtain ⟨t1, t2, t3⟩ := divgcd_bd sz G s1 g1
                  obtain ⟨p1, p2, p3⟩ := divgcd_bd (sz + sl - 1) sl (by omega) l1
                  obtain ⟨R, hR⟩ : ∃ R, sz / G = R := ⟨_, rfl⟩
                  have hval : Hid ((wi 1 0 2 && slideB 1 sz sl) = (decide (P ≤ 64) && decide (R ≤ 256))) := by
                    unfold slideB; rw [if_pos rfl, hP, hG, hR, ← Bool.decide_and, wi_mk (by decide), Bool.true_and]; exact decide_eq_decide.2 (by omega)
                  rw [hR] at t1 t2 t3
                  rw [hP] at p1 p2 p3
                  have C2 := Lib.hid (rgcd_ok sz sl G s1 (by omega) l1 (by omega) hG)
                  clear hP hG hR
                  by_cases hp : P ≤ 64
                  · go_wp2_with fail
                    refine (C2.out _).mono ?_
                    rintro e w' ⟨rfl, k, rfl⟩
                    go_wp2_with fail
                    go_ret
                    exact ⟨ret_bool (by rw [H0.out, hval.out, decide_eq_true hp, Bool.true_and]), below_drewN hB1 k⟩
                  · go_wp2_with fail
                    refine (C2.out _).mono ?_
                    rintro e w' ⟨rfl, k, rfl⟩
                    go_wp2_with fail
                    go_ret
                    exact ⟨ret_bool (by first | (rw [H0.out, hval.out, decide_eq_false (Int.not_le.2 hp)]; rfl) | (rw [H1.out, hval.out, decide_eq_false (Int.not_le.2 hp)]; rfl)), below_drewN hB1 k⟩
                · have hval : Hid ((wi 1 0 2 && slideB 1 sz sl) = false) := by
                    unfold slideB; rw [if_pos rfl, decide_eq_false (fun h => l2 h.2.1)]; exact rfl
                  go_wp2_with fail
                  go_ret
                  exact ⟨ret_bool (by rw [H0.out, hval.out]), hB1⟩
              · have hval : Hid ((wi 1 0 2 && slideB 1 sz sl) = false) := by
                  unfold slideB; rw [if_pos rfl, decide_eq_false (fun h => l1 h.1)]; exact rfl
                go_wp2_with fail
                go_ret
                exact ⟨ret_bool (by rw [H0.out, hval.out]), hB1⟩
            · have q1' : (kd == 1) = false := by simp [q1]
              have hval : Hid ((wi kd 0 2 && slideB kd sz sl) = false) := by rw [wi_false (by omega)]; exact rfl
              clear q0 q1 q2
              go_wp2_with fail
              go_ret
              exact ⟨ret_bool (by rw [H0.out, hval.out]), hB1⟩
      · have hval : Hid ((wi sz 1 1073741824 && (wi kd 0 2 && slideB kd sz sl)) = false) := by rw [wi_false (by omega)]; exact rfl
        go_wp2_with fail
        go_ret
        exact ⟨ret_bool (by rw [HT.out, hval.out]), hB1⟩
    · have hval : Hid ((wi sz 1 1073741824 && (wi kd 0 2 && slideB kd sz sl)) = false) := by rw [wi_false (by omega)]; exact rfl
      go_wp2_with fail
      go_ret
      exact ⟨ret_bool (by rw [HT.out, hval.out]), hB1⟩

end Go.Proofs.Ytkbocjmdbfddhaa
