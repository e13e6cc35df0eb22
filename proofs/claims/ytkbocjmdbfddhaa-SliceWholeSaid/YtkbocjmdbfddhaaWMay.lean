/-
  Walks: window.May and what it calls.
-/
import Derived.Test.YtkbocjmdbfddhaaWFloor
import Derived.Test.YtkbocjmdbfddhaaWinP
import Derived.Test.YtkbocjmdbfddhaaBounds
namespace Go.Proofs.Ytkbocjmdbfddhaa
open Go.RowKit

theorem divgcd_bd (x g : Int) (hx : 1 ≤ x) (hg : 1 ≤ g) : x.tdiv g = x / g ∧ 0 ≤ x / g ∧ x / g ≤ x :=
  ⟨Int.tdiv_eq_ediv_of_nonneg (by omega), Int.ediv_nonneg (by omega) (by omega), Int.ediv_le_self _ (by omega)⟩

set_option maxHeartbeats 1000000 in
theorem slideFits_any (kd ag sz sl rk : Int) (B : Option Addr) (m d : Nat) (w : World) (h1 : 1 ≤ sz) (h2 : sz ≤ 1073741824) :
    Calls Try.prog 48 #[.agg #[.int .i64 kd, .int .i64 ag, .int .i64 sz, .int .i64 sl, .slice B m d, .int .i64 rk]] w
      fun e w' => e = .returned (.bool (slideB kd sz sl)) ∧ Below w.heap.size w w' := by
  have hbox : ∀ o k, Below w.heap.size w ((w.alloc o).drewN k) := fun o k => below_drewN ((Below.refl _ _).alloc (Nat.le_refl _) o) k
  have HBOX := Lib.hid hbox; clear hbox
  by_cases hk : kd = 1
  · subst hk
    by_cases hs : 1 ≤ sl ∧ sl ≤ sz
    · obtain ⟨s1, s2⟩ := hs
      have hwi : wi sl 1 sz = true := wi_mk ⟨s1, s2⟩
      obtain ⟨P, hP⟩ : ∃ P, (sz + sl - 1) / sl = P := ⟨_, rfl⟩
      obtain ⟨G, hG⟩ : ∃ G, gcdI sz sl = G := ⟨_, rfl⟩
      have g1 := gcd_pos sz sl h1
      rw [hG] at g1
      obtain ⟨t1, t2, t3⟩ := divgcd_bd sz G h1 g1
      obtain ⟨R, hR⟩ : ∃ R, sz / G = R := ⟨_, rfl⟩
      have hval : Hid (slideB 1 sz sl = (decide (P ≤ 64) && decide (R ≤ 256))) := by
        unfold slideB; rw [if_pos rfl, hP, hG, hR, ← Bool.decide_and]; exact decide_eq_decide.2 (by omega)
      rw [hR] at t1 t2 t3
      have C1 := Lib.hid (div_ok (sz + sl - 1) sl P (by omega) (by omega) s1 hP)
      have C2 := Lib.hid (gcd_ok sz sl G h1 (by omega) s1 (by omega) hG)
      clear hP hG hR
      by_cases hp : P ≤ 64
      · go_enter Try.func48, Try.ntmps48
        go_wp2_with (go_at_call 42; refine (within_any _ _ _ _).mono ?_; rintro e w' ⟨rfl, rfl⟩)
        refine (C1.out _).mono ?_
        rintro e w' ⟨rfl, rfl⟩
        go_wp2_with fail
        refine (C2.out _).mono ?_
        rintro e w' ⟨rfl, k, rfl⟩
        go_wp2_with fail
        go_ret
        exact ⟨ret_bool (by rw [hval.out, decide_eq_true hp, Bool.true_and]), HBOX.out _ _⟩
      · go_enter Try.func48, Try.ntmps48
        go_wp2_with (go_at_call 42; refine (within_any _ _ _ _).mono ?_; rintro e w' ⟨rfl, rfl⟩)
        refine (C1.out _).mono ?_
        rintro e w' ⟨rfl, rfl⟩
        go_wp2_with fail
        refine (C2.out _).mono ?_
        rintro e w' ⟨rfl, k, rfl⟩
        go_wp2_with fail
        go_ret
        exact ⟨ret_bool (by rw [hval.out, decide_eq_false (Int.not_le.2 hp)]; rfl), HBOX.out _ _⟩
    · have hwi : wi sl 1 sz = false := wi_false hs
      have hval : Hid (slideB 1 sz sl = false) := by unfold slideB; rw [if_pos rfl]; exact decide_eq_false (fun h => hs ⟨h.1, h.2.1⟩)
      go_enter Try.func48, Try.ntmps48
      go_wp2_with (go_at_call 42; refine (within_any _ _ _ _).mono ?_; rintro e w' ⟨rfl, rfl⟩)
      go_ret
      exact ⟨ret_bool (by rw [hval.out]), HBOX.out _ 0⟩
  · have hk2 : (kd != 1) = true := by simp [hk]
    have hval : Hid (slideB kd sz sl = decide (sl = 0)) := by unfold slideB; rw [if_neg hk]; exact rfl
    clear hk
    go_enter Try.func48, Try.ntmps48
    go_wp2_with fail
    go_ret
    exact ⟨ret_bool (by rw [hval.out]; exact (Bool.beq_eq_decide_eq _ _)), HBOX.out _ 0⟩

set_option maxHeartbeats 1000000 in
theorem boundsFit_any (kd ag sz sl rk : Int) (B : Option Addr) (m d : Nat) (bs : List Int) (w : World) (hb : Ints w B m bs) (hm : m ≤ maxLen) :
    Calls Try.prog 49 #[.agg #[.int .i64 kd, .int .i64 ag, .int .i64 sz, .int .i64 sl, .slice B m d, .int .i64 rk]] w
      fun e w' => e = .returned (.bool (bndB ag bs)) ∧ Below w.heap.size w w' := by
  have HL := Lib.hid hb.1
  have hbox : ∀ o k, Below w.heap.size w ((w.alloc o).drewN k) := fun o k => below_drewN ((Below.refl _ _).alloc (Nat.le_refl _) o) k
  have HBOX := Lib.hid hbox; clear hbox
  have hm2 := hm
  unfold maxLen at hm
  by_cases h6 : ag = 6 ∨ ag = 7
  · have hval : Hid (bndB ag bs = (decide (0 < bs.length) && boundsB bs)) := by unfold bndB; rw [if_pos h6]; exact rfl
    by_cases h0 : 0 < m
    · rcases h6 with rfl | rfl
      all_goals
        go_enter Try.func49, Try.ntmps49
        go_wp2_with fail
        refine (bounds_any B m d bs _ (hb.below (HBOX.out _ 0)) hm2).mono ?_
        rintro e w' ⟨rfl, k, rfl⟩
        go_wp2_with fail
        go_ret
        exact ⟨ret_bool (by rw [hval.out, HL.out]; simp [h0]), HBOX.out _ _⟩
    · have hm0 : m = 0 := by omega
      subst hm0
      rcases h6 with rfl | rfl
      all_goals
        go_enter Try.func49, Try.ntmps49
        go_wp2_with fail
        go_ret
        exact ⟨ret_bool (by rw [hval.out, HL.out]; rfl), HBOX.out _ 0⟩
  · have h6a : (ag != 6) = true := by simp; omega
    have h7a : (ag != 7) = true := by simp; omega
    have hval : Hid (bndB ag bs = decide (bs.length = 0)) := by unfold bndB; rw [if_neg h6]; exact rfl
    clear h6
    go_enter Try.func49, Try.ntmps49
    go_wp2_with fail
    go_ret
    exact ⟨ret_bool (by rw [hval.out, HL.out]; by_cases h0 : m = 0 <;> simp [h0]), HBOX.out _ 0⟩

set_option maxHeartbeats 1000000 in
theorem rankFits_any (kd ag sz sl rk : Int) (B : Option Addr) (m d : Nat) (w : World) :
    Calls Try.prog 50 #[.agg #[.int .i64 kd, .int .i64 ag, .int .i64 sz, .int .i64 sl, .slice B m d, .int .i64 rk]] w
      fun e w' => e = .returned (.bool (rankB ag rk)) ∧ Below w.heap.size w w' := by
  have hbox : ∀ o, Below w.heap.size w (w.alloc o) := fun o => (Below.refl _ _).alloc (Nat.le_refl _) o
  have HBOX := Lib.hid hbox; clear hbox
  by_cases h7 : ag = 7
  · subst h7
    go_enter Try.func50, Try.ntmps50
    go_wp2_with (go_at_call 42; refine (within_any _ _ _ _).mono ?_; rintro e w' ⟨rfl, rfl⟩)
    go_ret
    exact ⟨rfl, HBOX.out _⟩
  · have h7a : (ag != 7) = true := by simp [h7]
    have hval : Hid (rankB ag rk = decide (rk = 0)) := by unfold rankB; rw [if_neg h7]; exact rfl
    clear h7
    go_enter Try.func50, Try.ntmps50
    go_wp2_with fail
    go_ret
    exact ⟨ret_bool (by rw [hval.out]; exact (Bool.beq_eq_decide_eq _ _)), HBOX.out _⟩

set_option maxHeartbeats 1000000 in
theorem may4_any (kd ag sz sl rk : Int) (B : Option Addr) (m d : Nat) (bs : List Int) (w : World) (hb : Ints w B m bs) (hm : m ≤ maxLen) :
    Calls Try.prog 19 #[.agg #[.int .i64 kd, .int .i64 ag, .int .i64 sz, .int .i64 sl, .slice B m d, .int .i64 rk]] w
      fun e w' => e = .returned (.bool (mayQ kd ag sz sl bs rk)) ∧ Below w.heap.size w w' := by
  have hbox : ∀ o, Below w.heap.size w (w.alloc o) := fun o => (Below.refl _ _).alloc (Nat.le_refl _) o
  have HBOX := Lib.hid hbox; clear hbox
  cases k1 : wi kd 0 2
  · have hval : Hid (mayQ kd ag sz sl bs rk = false) := by unfold mayQ; rw [k1]; rfl
    go_enter Try.func19, Try.ntmps19
    go_wp2_with (go_at_call 42; refine (within_any _ _ _ _).mono ?_; rintro e w' ⟨rfl, rfl⟩)
    go_ret
    exact ⟨ret_bool (by rw [hval.out]), HBOX.out _⟩
  · cases k2 : wi ag 0 7
    · have hval : Hid (mayQ kd ag sz sl bs rk = false) := by unfold mayQ; rw [k1, k2]; rfl
      go_enter Try.func19, Try.ntmps19
      go_wp2_with (go_at_call 42; refine (within_any _ _ _ _).mono ?_; rintro e w' ⟨rfl, rfl⟩)
      go_ret
      exact ⟨ret_bool (by rw [hval.out]), HBOX.out _⟩
    · cases k3 : wi sz 1 1073741824
      · have hval : Hid (mayQ kd ag sz sl bs rk = false) := by unfold mayQ; rw [k1, k2, k3]; rfl
        go_enter Try.func19, Try.ntmps19
        go_wp2_with (go_at_call 42; refine (within_any _ _ _ _).mono ?_; rintro e w' ⟨rfl, rfl⟩)
        go_ret
        exact ⟨ret_bool (by rw [hval.out]), HBOX.out _⟩
      · obtain ⟨s1, s2⟩ := wi_true k3
        have hval : Hid (mayQ kd ag sz sl bs rk = (slideB kd sz sl && (bndB ag bs && rankB ag rk))) := by unfold mayQ; rw [k1, k2, k3]; rfl
        go_enter Try.func19, Try.ntmps19
        go_wp2_with (go_at_call 42; refine (within_any _ _ _ _).mono ?_; rintro e w' ⟨rfl, rfl⟩)
        refine (slideFits_any kd ag sz sl rk B m d _ s1 s2).mono ?_
        rintro e w1 ⟨rfl, b1⟩
        have hB1 : Below w.heap.size w w1 := (HBOX.out _).trans (b1.mono (by simp))
        have hs1 : w.heap.size + 1 ≤ w1.heap.size := by simpa using b1.size
        have hc1 : ∀ b o, b < w.heap.size + 1 → w1.cell? ⟨b, o, none⟩ = _ := fun b o h => oldCells b1 (Nat.le_refl _) b o (by simpa using h)
        clear b1
        cases k4 : slideB kd sz sl
        · go_wp2_with fail
          go_ret
          exact ⟨ret_bool (by rw [hval.out, k4]; rfl), hB1⟩
        · go_wp2_with fail
          refine (boundsFit_any kd ag sz sl rk B m d bs _ (hb.below hB1) hm).mono ?_
          rintro e w2 ⟨rfl, b2⟩
          have hB2 : Below w.heap.size w w2 := hB1.trans (b2.mono hB1.size)
          have hc2 : ∀ b o, b < w.heap.size + 1 → w2.cell? ⟨b, o, none⟩ = w1.cell? ⟨b, o, none⟩ := fun b o h => oldCells b2 hs1 b o (by omega)
          clear b2
          cases k5 : bndB ag bs
          · go_wp2_with fail
            go_ret
            exact ⟨ret_bool (by rw [hval.out, k4, k5]; rfl), hB2⟩
          · go_wp2_with fail
            refine (rankFits_any kd ag sz sl rk B m d _).mono ?_
            rintro e w3 ⟨rfl, b3⟩
            go_wp2_with fail
            go_ret
            exact ⟨ret_bool (by rw [hval.out, k4, k5]; rfl), hB2.trans (b3.mono hB2.size)⟩

end Go.Proofs.Ytkbocjmdbfddhaa
