import Derived.Test.YtbpaepkcchpmbaaGreatProg
import Derived.Test.YtbpaepkcchpmbaaGreatG16
import Derived.WalkKit
import Derived.WalkSpells
import Derived.WalkLawsBesides
import Derived.BigQuiet
import Derived.Deep.QuietTactic
import Derived.Lib.Hide
import Derived.Below
import Derived.Test.YtbpaepkcchpmbaaGreatG2
import Derived.Test.YtbpaepkcchpmbaaGreatG0
import Derived.OwnWalk
import Derived.Deep.MidRow
namespace Go.Proofs.YtbpaepkcchpmbaaGreat
open Go.RowKit
theorem ret_pair {a b c d : Int} (h : a = b) (g : c = d) : Ending.returned (.tuple #[.int .i64 a, .int .i64 c]) = .returned (.tuple #[.int .i64 b, .int .i64 d]) := by rw [h, g]
set_option maxHeartbeats 400000 in
theorem div_ok (a b q : Int) (h1 : -9223372036854775808 ≤ a) (h2 : a ≤ 9223372036854775807) (hb : 1 ≤ b) (hq : a / b = q) (w : World) :
    Calls Tryz.prog 216 #[.int .i64 a, .int .i64 b] w fun e w' => e = .returned (.tuple #[.int .i64 q, .int .i64 0]) ∧ w = w' := by
  subst hq
  obtain ⟨p1, p2⟩ := down_parts a b hb
  have q := div_bd a b h1 h2 hb
  have q2 := tdiv_bd a b h1 h2 hb
  by_cases hm : a.tmod b < 0
  · obtain ⟨e1, e2⟩ := p1 hm
    clear p1 p2 e2
    have q3 : -9223372036854775808 ≤ a.tdiv b - 1 := by omega
    have E1 := Lib.hid e1; clear e1
    go_enter Tryz.func216, Tryz.ntmps216
    go_wp2
    go_ret2
    exact ⟨ret_pair (by rw [E1.out]) rfl, rfl⟩
  · obtain ⟨e1, e2⟩ := p2 hm
    clear p1 p2 e2
    have E1 := Lib.hid e1; clear e1
    go_enter Tryz.func216, Tryz.ntmps216
    go_wp2
    go_ret2
    exact ⟨ret_pair (by rw [E1.out]) rfl, rfl⟩
set_option maxHeartbeats 1000000 in
theorem gcd_ok (a b g : Int) (ha : 1 ≤ a) (ham : a ≤ 9223372036854775807) (hb : 1 ≤ b) (hbm : b ≤ 9223372036854775807) (hg : gcdI a b = g) (w : World) :
    Calls Tryz.prog 217 #[.int .i64 a, .int .i64 b] w fun e w' => e = .returned (.tuple #[.int .i64 g, .int .i64 0]) ∧ ∃ k, w' = w.drewN k := by
  have HG := Lib.hid hg; clear hg
  go_enter Tryz.func217, Tryz.ntmps217
  go_wp2
  go_loopw [0, 1] (fun x y wr => ∃ (u v : Int) (k : Nat), x = .int .i64 u ∧ y = .int .i64 v ∧ 1 ≤ u ∧ u ≤ 9223372036854775807 ∧ 0 ≤ v ∧ v ≤ 9223372036854775807 ∧ Hid (gcdI u v = g) ∧ wr = w.drewN k) (fun _ y _ => (intOf y).toNat)
  case atStart => exact ⟨a, b, 0, rfl, rfl, ha, ham, by omega, hbm, HG, rfl⟩
  case round =>
    obtain ⟨u, v, k, rfl, rfl, u1, u2, v1, v2, HUV, rfl⟩ := hrel
    clear HG
    by_cases hv : 0 < v
    · have hm1 := Int.emod_nonneg u (show v ≠ 0 by omega)
      have hm2 := Int.emod_lt_of_pos u hv
      have HS : Hid (gcdI v (u % v) = g) := (gcd_step u v (by omega) v1).trans HUV.out
      have htm : u.tmod v = u % v := Int.tmod_eq_emod_of_nonneg (by omega)
      go_wp2_with fail
      go_quiet (fail)
      rw [World.drewN_drewN]
      go_wp2_with fail
      go_roundw
      case rel => exact ⟨v, u % v, _, rfl, rfl, by omega, v2, hm1, by omega, HS, rfl⟩
      case measure => simp [intOf]; omega
    · obtain rfl : v = 0 := by omega
      have hu := (gcd_zero u (by omega)).symm.trans HUV.out
      subst hu
      go_wp2
      go_ret2
      exact ⟨rfl, k, rfl⟩
end Go.Proofs.YtbpaepkcchpmbaaGreat
namespace Go.Proofs.YtbpaepkcchpmbaaGreat
open Go.RowKit
theorem divgcd_bd (x g : Int) (hx : 1 ≤ x) (hg : 1 ≤ g) : x.tdiv g = x / g ∧ 0 ≤ x / g ∧ x / g ≤ x :=
  ⟨Int.tdiv_eq_ediv_of_nonneg (by omega), Int.ediv_nonneg (by omega) (by omega), Int.ediv_le_self _ (by omega)⟩
set_option maxHeartbeats 1000000 in
theorem slideFits_any (kd ag sz sl rk : Int) (B : Option Addr) (m d : Nat) (w : World) (h1 : 1 ≤ sz) (h2 : sz ≤ 1073741824) :
    Calls Tryz.prog 180 #[.agg #[.int .i64 kd, .int .i64 ag, .int .i64 sz, .int .i64 sl, .slice B m d, .int .i64 rk]] w
      fun e w' => e = .returned (.bool (slideB kd sz sl)) ∧ Below w.heap.size w w' := by
  have hbox : ∀ o k, Below w.heap.size w ((w.alloc o).drewN k) := fun o k => below_drewN ((Below.refl _ _).alloc (Nat.le_refl _) o) k
  have HBOX := Lib.hid hbox; clear hbox
  by_cases hk : kd = 1
  · subst hk
    by_cases hs : 1 ≤ sl ∧ sl ≤ sz
    · obtain ⟨s1, s2⟩ := hs
      have hwi : wi sl 1 sz = true := wi_mk ⟨s1, s2⟩
      obtain ⟨P, hP⟩ : ∃ P, (sz + sl - 1) / sl = P := ⟨_, rfl⟩
      obtain ⟨G, hG⟩ : ∃ G, gcdI sz sl = G := ⟨_, rfl⟩
      have g1 := gcd_pos sz sl h1
      rw [hG] at g1
      obtain ⟨t1, t2, t3⟩ := divgcd_bd sz G h1 g1
      obtain ⟨R, hR⟩ : ∃ R, sz / G = R := ⟨_, rfl⟩
      have hval : Hid (slideB 1 sz sl = (decide (P ≤ 64) && decide (R ≤ 256))) := by
        unfold slideB; rw [if_pos rfl, hP, hG, hR, ← Bool.decide_and]; exact decide_eq_decide.2 (by omega)
      rw [hR] at t1 t2 t3
      have C1 := Lib.hid (div_ok (sz + sl - 1) sl P (by omega) (by omega) s1 hP)
      have C2 := Lib.hid (gcd_ok sz sl G h1 (by omega) s1 (by omega) hG)
      clear hP hG hR
      by_cases hp : P ≤ 64
      · go_enter Tryz.func180, Tryz.ntmps180
        go_wp2_with (go_at_call 75; refine (within_any _ _ _ _).mono ?_; rintro e w' ⟨rfl, rfl⟩)
        refine (C1.out _).mono ?_
        rintro e w' ⟨rfl, rfl⟩
        go_wp2_with fail
        refine (C2.out _).mono ?_
        rintro e w' ⟨rfl, k, rfl⟩
        go_wp2_with fail
        go_ret
        exact ⟨ret_bool (by rw [hval.out, decide_eq_true hp, Bool.true_and]), HBOX.out _ _⟩
      · go_enter Tryz.func180, Tryz.ntmps180
        go_wp2_with (go_at_call 75; refine (within_any _ _ _ _).mono ?_; rintro e w' ⟨rfl, rfl⟩)
        refine (C1.out _).mono ?_
        rintro e w' ⟨rfl, rfl⟩
        go_wp2_with fail
        refine (C2.out _).mono ?_
        rintro e w' ⟨rfl, k, rfl⟩
        go_wp2_with fail
        go_ret
        exact ⟨ret_bool (by rw [hval.out, decide_eq_false (Int.not_le.2 hp)]; rfl), HBOX.out _ _⟩
    · have hwi : wi sl 1 sz = false := wi_false hs
      have hval : Hid (slideB 1 sz sl = false) := by unfold slideB; rw [if_pos rfl]; exact decide_eq_false (fun h => hs ⟨h.1, h.2.1⟩)
      go_enter Tryz.func180, Tryz.ntmps180
      go_wp2_with (go_at_call 75; refine (within_any _ _ _ _).mono ?_; rintro e w' ⟨rfl, rfl⟩)
      go_ret
      exact ⟨ret_bool (by rw [hval.out]), HBOX.out _ 0⟩
  · have hk2 : (kd != 1) = true := by simp [hk]
    have hval : Hid (slideB kd sz sl = decide (sl = 0)) := by unfold slideB; rw [if_neg hk]; exact rfl
    clear hk
    go_enter Tryz.func180, Tryz.ntmps180
    go_wp2_with fail
    go_ret
    exact ⟨ret_bool (by rw [hval.out]; exact (Bool.beq_eq_decide_eq _ _)), HBOX.out _ 0⟩
set_option maxHeartbeats 1000000 in
theorem boundsFit_any (kd ag sz sl rk : Int) (B : Option Addr) (m d : Nat) (bs : List Int) (w : World) (hb : Ints w B m bs) (hm : m ≤ maxLen) :
    Calls Tryz.prog 181 #[.agg #[.int .i64 kd, .int .i64 ag, .int .i64 sz, .int .i64 sl, .slice B m d, .int .i64 rk]] w
      fun e w' => e = .returned (.bool (bndB ag bs)) ∧ Below w.heap.size w w' := by
  have HL := Lib.hid hb.1
  have hbox : ∀ o k, Below w.heap.size w ((w.alloc o).drewN k) := fun o k => below_drewN ((Below.refl _ _).alloc (Nat.le_refl _) o) k
  have HBOX := Lib.hid hbox; clear hbox
  have hm2 := hm
  unfold maxLen at hm
  by_cases h6 : ag = 6 ∨ ag = 7
  · have hval : Hid (bndB ag bs = (decide (0 < bs.length) && boundsB bs)) := by unfold bndB; rw [if_pos h6]; exact rfl
    by_cases h0 : 0 < m
    · rcases h6 with rfl | rfl
      all_goals
        go_enter Tryz.func181, Tryz.ntmps181
        go_wp2_with fail
        refine (bounds_any B m d bs _ (hb.below (HBOX.out _ 0)) hm2).mono ?_
        rintro e w' ⟨rfl, k, rfl⟩
        go_wp2_with fail
        go_ret
        exact ⟨ret_bool (by rw [hval.out, HL.out]; simp [h0]), HBOX.out _ _⟩
    · have hm0 : m = 0 := by omega
      subst hm0
      rcases h6 with rfl | rfl
      all_goals
        go_enter Tryz.func181, Tryz.ntmps181
        go_wp2_with fail
        go_ret
        exact ⟨ret_bool (by rw [hval.out, HL.out]; rfl), HBOX.out _ 0⟩
  · have h6a : (ag != 6) = true := by simp; omega
    have h7a : (ag != 7) = true := by simp; omega
    have hval : Hid (bndB ag bs = decide (bs.length = 0)) := by unfold bndB; rw [if_neg h6]; exact rfl
    clear h6
    go_enter Tryz.func181, Tryz.ntmps181
    go_wp2_with fail
    go_ret
    exact ⟨ret_bool (by rw [hval.out, HL.out]; by_cases h0 : m = 0 <;> simp [h0]), HBOX.out _ 0⟩
set_option maxHeartbeats 1000000 in
theorem rankFits_any (kd ag sz sl rk : Int) (B : Option Addr) (m d : Nat) (w : World) :
    Calls Tryz.prog 182 #[.agg #[.int .i64 kd, .int .i64 ag, .int .i64 sz, .int .i64 sl, .slice B m d, .int .i64 rk]] w
      fun e w' => e = .returned (.bool (rankB ag rk)) ∧ Below w.heap.size w w' := by
  have hbox : ∀ o, Below w.heap.size w (w.alloc o) := fun o => (Below.refl _ _).alloc (Nat.le_refl _) o
  have HBOX := Lib.hid hbox; clear hbox
  by_cases h7 : ag = 7
  · subst h7
    go_enter Tryz.func182, Tryz.ntmps182
    go_wp2_with (go_at_call 75; refine (within_any _ _ _ _).mono ?_; rintro e w' ⟨rfl, rfl⟩)
    go_ret
    exact ⟨rfl, HBOX.out _⟩
  · have h7a : (ag != 7) = true := by simp [h7]
    have hval : Hid (rankB ag rk = decide (rk = 0)) := by unfold rankB; rw [if_neg h7]; exact rfl
    clear h7
    go_enter Tryz.func182, Tryz.ntmps182
    go_wp2_with fail
    go_ret
    exact ⟨ret_bool (by rw [hval.out]; exact (Bool.beq_eq_decide_eq _ _)), HBOX.out _⟩
set_option maxHeartbeats 1000000 in
theorem may4_any (kd ag sz sl rk : Int) (B : Option Addr) (m d : Nat) (bs : List Int) (w : World) (hb : Ints w B m bs) (hm : m ≤ maxLen) :
    Calls Tryz.prog 132 #[.agg #[.int .i64 kd, .int .i64 ag, .int .i64 sz, .int .i64 sl, .slice B m d, .int .i64 rk]] w
      fun e w' => e = .returned (.bool (mayQ kd ag sz sl bs rk)) ∧ Below w.heap.size w w' := by
  have hbox : ∀ o, Below w.heap.size w (w.alloc o) := fun o => (Below.refl _ _).alloc (Nat.le_refl _) o
  have HBOX := Lib.hid hbox; clear hbox
  cases k1 : wi kd 0 2
  · have hval : Hid (mayQ kd ag sz sl bs rk = false) := by unfold mayQ; rw [k1]; rfl
    go_enter Tryz.func132, Tryz.ntmps132
    go_wp2_with (go_at_call 75; refine (within_any _ _ _ _).mono ?_; rintro e w' ⟨rfl, rfl⟩)
    go_ret
    exact ⟨ret_bool (by rw [hval.out]), HBOX.out _⟩
  · cases k2 : wi ag 0 7
    · have hval : Hid (mayQ kd ag sz sl bs rk = false) := by unfold mayQ; rw [k1, k2]; rfl
      go_enter Tryz.func132, Tryz.ntmps132
      go_wp2_with (go_at_call 75; refine (within_any _ _ _ _).mono ?_; rintro e w' ⟨rfl, rfl⟩)
      go_ret
      exact ⟨ret_bool (by rw [hval.out]), HBOX.out _⟩
    · cases k3 : wi sz 1 1073741824
      · have hval : Hid (mayQ kd ag sz sl bs rk = false) := by unfold mayQ; rw [k1, k2, k3]; rfl
        go_enter Tryz.func132, Tryz.ntmps132
        go_wp2_with (go_at_call 75; refine (within_any _ _ _ _).mono ?_; rintro e w' ⟨rfl, rfl⟩)
        go_ret
        exact ⟨ret_bool (by rw [hval.out]), HBOX.out _⟩
      · obtain ⟨s1, s2⟩ := wi_true k3
        have hval : Hid (mayQ kd ag sz sl bs rk = (slideB kd sz sl && (bndB ag bs && rankB ag rk))) := by unfold mayQ; rw [k1, k2, k3]; rfl
        go_enter Tryz.func132, Tryz.ntmps132
        go_wp2_with (go_at_call 75; refine (within_any _ _ _ _).mono ?_; rintro e w' ⟨rfl, rfl⟩)
        refine (slideFits_any kd ag sz sl rk B m d _ s1 s2).mono ?_
        rintro e w1 ⟨rfl, b1⟩
        have hB1 : Below w.heap.size w w1 := (HBOX.out _).trans (b1.mono (by simp))
        have hs1 : w.heap.size + 1 ≤ w1.heap.size := by simpa using b1.size
        have hc1 : ∀ b o, b < w.heap.size + 1 → w1.cell? ⟨b, o, none⟩ = _ := fun b o h => oldCells b1 (Nat.le_refl _) b o (by simpa using h)
        clear b1
        cases k4 : slideB kd sz sl
        · go_wp2_with fail
          go_ret
          exact ⟨ret_bool (by rw [hval.out, k4]; rfl), hB1⟩
        · go_wp2_with fail
          refine (boundsFit_any kd ag sz sl rk B m d bs _ (hb.below hB1) hm).mono ?_
          rintro e w2 ⟨rfl, b2⟩
          have hB2 : Below w.heap.size w w2 := hB1.trans (b2.mono hB1.size)
          have hc2 : ∀ b o, b < w.heap.size + 1 → w2.cell? ⟨b, o, none⟩ = w1.cell? ⟨b, o, none⟩ := fun b o h => oldCells b2 hs1 b o (by omega)
          clear b2
          cases k5 : bndB ag bs
          · go_wp2_with fail
            go_ret
            exact ⟨ret_bool (by rw [hval.out, k4, k5]; rfl), hB2⟩
          · go_wp2_with fail
            refine (rankFits_any kd ag sz sl rk B m d _).mono ?_
            rintro e w3 ⟨rfl, b3⟩
            go_wp2_with fail
            go_ret
            exact ⟨ret_bool (by rw [hval.out, k4, k5]; rfl), hB2.trans (b3.mono hB2.size)⟩
end Go.Proofs.YtbpaepkcchpmbaaGreat
namespace Go.Proofs.YtbpaepkcchpmbaaGreat
open Go.RowKit
def spC (s e : Int) : Array Value := #[.int .i64 s, .int .i64 e]
def spansL (ss : List (Int × Int)) : List Value := ss.flatMap fun p => [.int .i64 p.1, .int .i64 p.2]
def nthS (ss : List (Int × Int)) (k : Nat) : Int × Int := ss.getD k (0, 0)
theorem spansL_snoc (ss : List (Int × Int)) (p : Int × Int) : spansL (ss ++ [p]) = spansL ss ++ [.int .i64 p.1, .int .i64 p.2] := by simp [spansL]
theorem spansL_at (ss : List (Int × Int)) {k : Nat} (hk : k < ss.length) : (spansL ss)[k * 2]? = some (.int .i64 (nthS ss k).1) ∧ (spansL ss)[k * 2 + 1]? = some (.int .i64 (nthS ss k).2) := by
  induction ss generalizing k with
  | nil => simp at hk
  | cons p r ih =>
    have e : spansL (p :: r) = .int .i64 p.1 :: .int .i64 p.2 :: spansL r := rfl
    rw [e]
    cases k with
    | zero => exact ⟨rfl, rfl⟩
    | succ k =>
      have := ih (k := k) (by simpa using hk)
      rw [show (k + 1) * 2 = k * 2 + 1 + 1 by omega]
      exact this
def Spans (w : World) (A : Option Addr) (n : Nat) (ss : List (Int × Int)) : Prop :=
  ss.length = n ∧ (0 < n → ∃ b o : Nat, A = some ⟨b, o, none⟩ ∧ ∀ k, k < n → w.cell? ⟨b, o + k * 2, none⟩ = some (.int .i64 (nthS ss k).1) ∧ w.cell? ⟨b, o + k * 2 + 1, none⟩ = some (.int .i64 (nthS ss k).2))
section
variable {w w' : World} {n : Nat} {A : Option Addr} {ss : List (Int × Int)}
theorem Spans.at_ (h : Spans w A n ss) {k : Nat} (hk : k < n) : ∃ b o : Nat, A = some ⟨b, o, none⟩ ∧ ∀ k, k < n → w.cell? ⟨b, o + k * 2, none⟩ = some (.int .i64 (nthS ss k).1) ∧ w.cell? ⟨b, o + k * 2 + 1, none⟩ = some (.int .i64 (nthS ss k).2) := h.2 (by omega)
end
def OwnS (w : World) (base : Nat) (v : Value) (ss : List (Int × Int)) : Prop := w.ownsRow base 67 2 v ss.length (spansL ss)
theorem OwnS.form {w : World} {base : Nat} {v : Value} {ss : List (Int × Int)} (h : OwnS w base v ss) : ∃ A c, v = .slice A ss.length c ∧ ss.length ≤ c ∧ c ≤ maxLen ∧ (∀ ad, A = some ad → base ≤ ad.block) := by
  rcases h.2 with ⟨e, h0⟩ | ⟨g, cap, cur, e, hg, _, hc1, hc2, _⟩
  · exact ⟨none, 0, by rw [e, h0], by omega, Nat.zero_le _, fun ad h => by cases h⟩
  · exact ⟨some ⟨g, 0, none⟩, cap, e, hc1, hc2, fun ad h => by injection h with h; subst h; exact hg⟩
theorem OwnS.spans {w : World} {base : Nat} {A : Option Addr} {n c : Nat} {ss : List (Int × Int)} (h : OwnS w base (.slice A n c) ss) : Spans w A n ss := by
  rcases h.2 with ⟨e, h0⟩ | ⟨g, cap, cur, e, hg, hh, hn, hc, hs, ht⟩
  · injection e with e1 e2 e3
    subst e2
    exact ⟨h0, fun h => absurd h (by omega)⟩
  · injection e with e1 e2 e3
    subst e1; subst e2; subst e3
    refine ⟨rfl, fun hpos => ⟨g, 0, rfl, fun k hk => ?_⟩⟩
    obtain ⟨a1, a2⟩ := spansL_at ss hk
    rw [show 0 + k * 2 = k * 2 by omega, World.ownsRow.cellAt h (k * 2) (by omega), World.ownsRow.cellAt h (k * 2 + 1) (by omega)]
    exact ⟨a1, a2⟩
theorem OwnS.mono {w : World} {base base' : Nat} {v : Value} {ss : List (Int × Int)} (h : OwnS w base v ss) (hb : base' ≤ base) : OwnS w base' v ss := by
  refine ⟨h.1, ?_⟩
  rcases h.2 with h0 | ⟨g, cap, cur, e, hg, r⟩
  · exact .inl h0
  · exact .inr ⟨g, cap, cur, e, Nat.le_trans hb hg, r⟩
theorem OwnS.below {w w' : World} {base : Nat} {v : Value} {ss : List (Int × Int)} (h : OwnS w base v ss) (hb : Below w.heap.size w w') : OwnS w' base v ss :=
  World.ownsRow.kept h (row := none) ⟨hb.os, hb.tape, hb.output, hb.size, fun k hk _ => hb.block k hk⟩ (by
    cases e : v.ownBlock with
    | none => exact .inl rfl
    | some k => exact .inr (by simp))
theorem Tryz.infoSpan : (Tryz.prog.info? 67).map (fun i => (i.zero, i.size, i.bytes)) = some (some (.agg (spC 0 0)), 2, 16) := by kernel_rfl
theorem Tryz.sizeSpan : (Tryz.prog.info? 67).map (·.size) = some 2 := by kernel_rfl
theorem app_span {ops : Array Oper} {rest : List Oper} {op : Oper} {p : Act} {w : World} {Q : Exit → Act → World → Prop} (hgd : op.guard = none) (s x : Operand)
    (ho : op.op = .call { callee := .builtin .append, args := #[s, x], argTypes := #[178, 178] })
    {base g : Nat} {v : Value} {ss : List (Int × Int)} {y z : Int} (hs : p.eval s = v) (hown : OwnS w base v ss) (hx : p.eval x = .slice (some ⟨g, 0, none⟩) 1 1) (hg : Has w g 67 #[.int .i64 y, .int .i64 z])
    (hn : ss.length ≤ 8192) (hbase : base ≤ w.heap.size)
    (h : ∀ A c w', OwnS w' base (.slice A (ss.length + 1) c) (ss ++ [(y, z)]) → Below base w w' → wpList Tryz.prog ops Q rest (p.put op.dst (.slice A (ss.length + 1) c)) w') : wpList Tryz.prog ops Q (op :: rest) p w := by
  obtain ⟨i0, hi, hz, hs0, hy0⟩ := info_parts Tryz.infoSpan
  refine wpList_append_own w hgd s x 178 ho base 67 i0 _ 2 16 Tryz.underlying178 hi hz hs0 hy0 rfl (by omega) v ss.length (spansL ss) hs hown ⟨g, 0, none⟩ 1 1 [.int .i64 y, .int .i64 z] hx rfl
    (fun j u hu => ?_) (fun u hu => ?_) (by unfold maxLen; omega) (by omega) hbase (fun v' w' h1 h2 _ => ?_)
  · rw [Addr.add_mid, hg.cell, Nat.zero_add]
    simpa using hu
  · simp only [List.mem_cons, List.not_mem_nil, or_false] at hu
    rcases hu with rfl | rfl <;> rfl
  · have h3 : OwnS w' base v' (ss ++ [(y, z)]) := by unfold OwnS; rw [spansL_snoc, List.length_append]; exact h1
    obtain ⟨A, c', rfl, _⟩ := h3.form
    have e : (ss ++ [(y, z)]).length = ss.length + 1 := by simp
    rw [e] at h3 ⊢
    refine h A c' w' h3 ⟨h2.os, h2.tape, h2.output, h2.size, fun k hk => h2.block k (by omega) (fun e => ?_)⟩
    have := World.ownsRow.lt hown k e.symm
    omega
theorem make_span {ops : Array Oper} {rest : List Oper} {op : Oper} {p : Act} {w : World} {Q : Exit → Act → World → Prop} (hgd : op.guard = none) (l c : Operand) (ho : op.op = Op.makeSlice 178 l c)
    {C : Int} (n : Nat) (hl : p.eval l = .int .i64 0) (hc : p.eval c = .int .i64 C) (hC : C = (n : Int)) (hn : n ≤ 8192)
    (h : ∀ v w', OwnS w' w.heap.size v [] → Below w.heap.size w w' → wpList Tryz.prog ops Q rest (p.put op.dst v) w') : wpList Tryz.prog ops Q (op :: rest) p w := by
  obtain ⟨i0, hi, hz, hs0, hy0⟩ := info_parts Tryz.infoSpan
  exact wpList_make_own w hgd l c 178 ho w.heap.size 67 i0 _ 2 Tryz.underlying178 hi hz hs0 .i64 .i64 C n hl hc hC (by rw [hy0]; omega) (by unfold maxLen; omega) (Nat.le_refl _)
    fun w' h1 h2 => h _ w' h1 ⟨h2.os, h2.tape, h2.output, h2.size, fun k hk => h2.block k hk (by simp)⟩
end Go.Proofs.YtbpaepkcchpmbaaGreat
namespace Go.Proofs.YtbpaepkcchpmbaaGreat
open Go.RowKit
def NoSpans (w : World) (e : Ending) (w' : World) : Prop := e = .returned (.tuple #[.slice none 0 0, .int .i64 400]) ∧ Below w.heap.size w w'
def OutSpans (ss : List (Int × Int)) (w : World) (e : Ending) (w' : World) : Prop :=
  ∃ A c, e = .returned (.tuple #[.slice A ss.length c, .int .i64 0]) ∧ OwnS w' w.heap.size (.slice A ss.length c) ss ∧ Below w.heap.size w w'
def winQ (kd sz sl t : Int) : List (Int × Int) :=
  winL ((t - sz) / stepQ kd sz sl) (stepQ kd sz sl) sz (t / stepQ kd sz sl - (t - sz) / stepQ kd sz sl).toNat
set_option maxHeartbeats 400000 in
theorem stepOf_any (kd ag sz sl rk : Int) (B : Option Addr) (m d : Nat) (w : World) :
    Calls Tryz.prog 192 #[.agg #[.int .i64 kd, .int .i64 ag, .int .i64 sz, .int .i64 sl, .slice B m d, .int .i64 rk]] w
      fun e w' => e = .returned (.int .i64 (stepQ kd sz sl)) ∧ Below w.heap.size w w' := by
  have hbox : ∀ o, Below w.heap.size w (w.alloc o) := fun o => (Below.refl _ _).alloc (Nat.le_refl _) o
  have HBOX := Lib.hid hbox; clear hbox
  unfold stepQ
  by_cases hk : kd = 1
  · subst hk
    rw [if_pos rfl]
    go_enter Tryz.func192, Tryz.ntmps192
    go_wp2_with fail
    go_ret
    exact ⟨rfl, HBOX.out _⟩
  · rw [if_neg hk]
    have hk2 : (kd == 1) = false := by simp [hk]
    clear hk
    go_enter Tryz.func192, Tryz.ntmps192
    go_wp2_with fail
    go_ret
    exact ⟨rfl, HBOX.out _⟩
structure OfS (w : World) (a k m : Int) (n : Nat) (g : Nat) (cs : Array Value) (v : Value) (j : Nat) (wr : World) : Prop where
  own : OwnS wr (g + 1) v (winL a k m j)
  box : Has wr g 59 cs
  keep : Below w.heap.size w wr
  at_ : g = w.heap.size
  le : j ≤ n
set_option maxRecDepth 100000 in
set_option maxHeartbeats 2000000 in
theorem of_ok (kd ag sz sl rk t : Int) (B : Option Addr) (m d : Nat) (bs : List Int) (w : World) (hb : Ints w B m bs) (hm : m ≤ maxLen)
    (h1 : mayQ kd ag sz sl bs rk = true) (h2 : kd ≠ 2) (h3 : wi t (-1099511627776) 1099511627776 = true) :
    Calls Tryz.prog 211 #[.agg #[.int .i64 kd, .int .i64 ag, .int .i64 sz, .int .i64 sl, .slice B m d, .int .i64 rk], .int .i64 t] w (OutSpans (winQ kd sz sl t) w) := by
  have hbox : ∀ o, Below w.heap.size w (w.alloc o) := fun o => (Below.refl _ _).alloc (Nat.le_refl _) o
  have HBOX := Lib.hid hbox; clear hbox
  have HAS : Hid (∀ o : Array Value, Has (w.alloc (.cells o 59)) w.heap.size 59 o) := fun o => Has.made _ _ _
  obtain ⟨s1, s2, s3, s4, s5⟩ := stepQ_bd h1
  obtain ⟨t1, t2⟩ := wi_true h3
  have k2' : (kd == 2) = false := by simp [h2]
  clear h2
  obtain ⟨b1, b2, _, _⟩ := win_bd t (stepQ kd sz sl) sz s1 s2 s5
  have hW : winQ kd sz sl t = winL ((t - sz) / stepQ kd sz sl) (stepQ kd sz sl) sz (t / stepQ kd sz sl - (t - sz) / stepQ kd sz sl).toNat := rfl
  have HST := Lib.hid (stepOf_any kd ag sz sl rk B m d)
  have HG := Lib.hid (win_begin t (stepQ kd sz sl) sz s1)
  have D1 := div_ok (t - sz) (stepQ kd sz sl) _ (by omega) (by omega) s1 rfl
  have D2 := div_ok t (stepQ kd sz sl) _ (by omega) (by omega) s1 rfl
  have l1 := div_bd (t - sz) (stepQ kd sz sl) (by omega) (by omega) s1
  have l2 := div_bd t (stepQ kd sz sl) (by omega) (by omega) s1
  have l3 : -2199023255552 ≤ (t - sz) / stepQ kd sz sl := Int.le_ediv_of_mul_le (by omega) (by have := Int.mul_le_mul_of_nonneg_left s1 (show (0 : Int) ≤ 2199023255552 by decide); omega)
  have l4 : t / stepQ kd sz sl ≤ 2199023255552 := Int.ediv_le_of_le_mul (by omega) (by have := Int.mul_le_mul_of_nonneg_left s1 (show (0 : Int) ≤ 2199023255552 by decide); omega)
  generalize stepQ kd sz sl = k at *
  obtain ⟨n, hn⟩ : ∃ n : Nat, t / k - (t - sz) / k = (n : Int) := ⟨(t / k - (t - sz) / k).toNat, by omega⟩
  rw [hn, Int.toNat_natCast] at hW
  rw [hW]
  clear hW
  generalize (t - sz) / k = a at *
  generalize t / k = L at *
  clear l1 l2
  have HD1 := Lib.hid D1; clear D1
  have HD2 := Lib.hid D2; clear D2
  have HN := Lib.hid hn; clear hn
  go_enter Tryz.func211, Tryz.ntmps211
  go_wp2_with fail
  refine (may4_any kd ag sz sl rk B m d bs _ (hb.below (HBOX.out _)) hm).mono ?_
  rintro e w1 ⟨rfl, b3⟩
  have HB1 : Hid (Below w.heap.size w w1) := (HBOX.out _).trans (b3.mono (by simp))
  have HA1 : Hid (Has w1 w.heap.size 59 #[.int .i64 kd, .int .i64 ag, .int .i64 sz, .int .i64 sl, .slice B m d, .int .i64 rk]) := (HAS.out _).below b3 (by simp)
  have hc1 : ∀ i, w1.cell? ⟨w.heap.size, i, none⟩ = _ := fun i => HA1.out.cell i
  clear b3 HAS HBOX
  go_wp2_with (go_at_call 75; refine (within_any _ _ _ _).mono ?_; rintro e w' ⟨rfl, rfl⟩)
  refine (HST.out _).mono ?_
  rintro e w2 ⟨rfl, b3⟩
  have HB2 : Hid (Below w.heap.size w w2) := HB1.out.trans (b3.mono HB1.out.size)
  have HA2 := Lib.hid (HA1.out.below b3 HA1.out.lt)
  have hc2 : ∀ i, w2.cell? ⟨w.heap.size, i, none⟩ = _ := fun i => HA2.out.cell i
  clear b3 hc1 HB1 HA1
  go_wp2_with fail
  refine (HD1.out _).mono ?_
  rintro e w' ⟨rfl, rfl⟩
  go_wp2_with fail
  refine (HD2.out _).mono ?_
  rintro e w' ⟨rfl, rfl⟩
  go_wp2_with (refine make_span rfl _ _ rfl n rfl rfl HN.out (by have := HN.out; omega) ?_; intro v0 w3 hown hb3)
  have HS : Hid (OfS w a k sz n w.heap.size #[.int .i64 kd, .int .i64 ag, .int .i64 sz, .int .i64 sl, .slice B m d, .int .i64 rk] v0 0 w3) :=
    ⟨hown.mono HA2.out.lt, HA2.out.below hb3 HA2.out.lt, HB2.out.trans (hb3.mono HB2.out.size), rfl, Nat.zero_le _⟩
  clear hown hb3 hc2 HB2 HA2
  have hLn1 : L - a ≤ (n : Int) := by have := HN.out; omega
  have hLn2 : (n : Int) ≤ L - a := by have := HN.out; omega
  go_wp2_with fail
  go_loopw [51, 11] (fun i v wr => ∃ j : Nat, i = .int .i64 j ∧ Hid (OfS w a k sz n w.heap.size #[.int .i64 kd, .int .i64 ag, .int .i64 sz, .int .i64 sl, .slice B m d, .int .i64 rk] v j wr)) (fun i _ _ => n - (intOf i).toNat)
  case atStart => exact ⟨0, rfl, HS⟩
  case round =>
    clear HS
    obtain ⟨j, rfl, HS⟩ := hrel
    have hjn := HS.out.le
    by_cases hlt : j < n
    · obtain ⟨z, hz⟩ : ∃ z, (a + 1 + (j : Int)) * k = z := ⟨_, rfl⟩
      have hz1 : t - sz < z := by rw [← hz]; exact (HG.out (a + 1 + j)).1.1 (by omega)
      have hz2 : z ≤ t := by rw [← hz]; exact (HG.out (a + 1 + j)).2.1 (by omega)
      have hz3 : wrap64 ((a + 1 + (j : Int)) * k) = z := by rw [hz]; unfold wrap64; omega
      have HZ := Lib.hid hz; clear hz
      have hcell : ∀ o, (wr.alloc o).cell? ⟨w.heap.size, 2, none⟩ = some (.int .i64 sz) := fun o => (HS.out.box.alloc o).cell 2
      have hcell0 : wr.cell? ⟨w.heap.size, 2, none⟩ = some (.int .i64 sz) := HS.out.box.cell 2
      have hlt0 := HS.out.box.lt
      have hg8 : n ≤ 64 := by omega
      go_wp2_with (refine app_span rfl _ _ rfl rfl (HS.out.own.below ((Below.refl _ _).alloc (Nat.le_refl _) _)) rfl (Has.made _ _ _) (by rw [winL_len]; omega) (by simp; omega) ?_; intro A c wn hwn hbn)
      go_roundw
      case rel =>
        have e1 : (winL a k sz j).length + 1 = j + 1 := by rw [winL_len]
        have e2 : winL a k sz j ++ [(z, z + sz)] = winL a k sz (j + 1) := by rw [winL, HZ.out]
        rw [e2] at hwn
        have hbw : Below (w.heap.size + 1) wr wn := ((Below.refl _ _).alloc (by omega) _).trans hbn
        have hS2 : Hid (OfS w a k sz n w.heap.size #[.int .i64 kd, .int .i64 ag, .int .i64 sz, .int .i64 sl, .slice B m d, .int .i64 rk] (.slice A ((winL a k sz j).length + 1) c) (j + 1) wn) := ⟨hwn, HS.out.box.below hbw (by omega), HS.out.keep.trans (hbw.mono (by omega)), rfl, by omega⟩
        exact ⟨j + 1, by go_num, hS2⟩
      case measure => simp [intOf]; omega
    · have hj : j = n := by omega
      subst hj
      obtain ⟨A, c, rfl, _⟩ := HS.out.own.form
      go_wp2_with fail
      go_ret2
      exact ⟨A, c, rfl, HS.out.own.mono (by omega), HS.out.keep⟩
end Go.Proofs.YtbpaepkcchpmbaaGreat
