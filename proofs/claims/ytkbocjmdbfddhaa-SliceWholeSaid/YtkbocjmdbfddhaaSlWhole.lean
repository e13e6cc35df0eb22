/-
  Walk: SliceWhole: each window that holds a time is made of slices without gaps, one of which is the time's.
-/
import Derived.Test.YtkbocjmdbfddhaaSlWh12
import Derived.Test.YtkbocjmdbfddhaaWBoth
import Derived.Test.YtkbocjmdbfddhaaSlRows
import Derived.Deep.DeepCutAuto
namespace Go.Proofs.Ytkbocjmdbfddhaa
open Go.RowKit

/-- Which slice of a window is the time's. -/
theorem in_slice {u z t sz : Int} {n : Nat} (h : 1 ≤ u) (hd : u ∣ z) (h1 : z ≤ t) (h2 : t < z + sz) (hn : (n : Int) * u = sz) : ∃ j0 : Nat, j0 < n ∧ z + (j0 : Int) * u = t / u * u := by
  obtain ⟨q, rfl⟩ := hd
  obtain ⟨b1, b2⟩ := at_bd t u h
  have hq : q ≤ t / u := (Int.le_ediv_iff_mul_le (by omega)).2 (by rw [Int.mul_comm]; exact h1)
  refine ⟨(t / u - q).toNat, ?_, ?_⟩
  · have e : (((t / u - q).toNat : Nat) : Int) = t / u - q := by omega
    have : (t / u - q) * u < (n : Int) * u := by rw [Int.sub_mul, hn, Int.mul_comm q u]; omega
    have := Int.lt_of_mul_lt_mul_right this (by omega)
    omega
  · have e : (((t / u - q).toNat : Nat) : Int) = t / u - q := by omega
    rw [e, Int.sub_mul, Int.mul_comm q u]; omega
theorem nth_cutL (s u : Int) {n i : Nat} (h : i < n) : nthS (cutL s u n) i = (s + i * u, s + i * u + u) := nthS_of (cutL_at s u h)
/-- A row of slices, in memory: where the j-th one lies. -/
theorem part_at {w : World} {A : Option Addr} {n j : Nat} {s u z : Int} (h : Spans w A n (cutL s u n)) (hj : j < n) (hz : s + (j : Int) * u = z) :
    ∃ b o : Nat, A = some ⟨b, o, none⟩ ∧ w.cell? ⟨b, o + j * 2, none⟩ = some (.int .i64 z) ∧ w.cell? ⟨b, o + j * 2 + 1, none⟩ = some (.int .i64 (z + u)) := by
  obtain ⟨b, o, rfl, hc⟩ := h.at_ hj
  have := hc j hj
  rw [nth_cutL s u hj, hz] at this
  exact ⟨b, o, rfl, this.1, this.2⟩
/-- The query and the time's slice in their variables, the windows and the bounds that came in. -/
structure WhS (w : World) (q sp : Array Value) (B : Option Addr) (m : Nat) (bs : List Int) (ga : Nat) (D : Option Addr) (N : Nat) (ss : List (Int × Int)) (wr : World) : Prop where
  box : Has wr w.heap.size 24 q
  at_ : Has wr ga 38 sp
  ws : Spans wr D N ss
  bnd : Ints wr B m bs
  keep : Below w.heap.size w wr
theorem WhS.below {w : World} {q sp : Array Value} {B : Option Addr} {m : Nat} {bs : List Int} {ga : Nat} {D : Option Addr} {N : Nat} {ss : List (Int × Int)} {wr wy : World} (h : WhS w q sp B m bs ga D N ss wr) (hi : Ints w B m bs) (hb : Below wr.heap.size wr wy) : WhS w q sp B m bs ga D N ss wy :=
  ⟨h.box.below hb h.box.lt, h.at_.below hb h.at_.lt, h.ws.below hb, hi.below (h.keep.trans (hb.mono h.keep.size)), h.keep.trans (hb.mono h.keep.size)⟩

set_option maxRecDepth 100000 in
set_option maxHeartbeats 4000000 in
theorem swhole_any (kd ag sz sl rk : Int) (B : Option Addr) (m d : Nat) (bs : List Int) (t : Int) (w : World) (hb : Ints w B m bs) (hm : m ≤ maxLen) (_ : (Lit.int .i64 t).wf = true) :
    Calls Try.prog 10 #[.agg #[.int .i64 kd, .int .i64 ag, .int .i64 sz, .int .i64 sl, .slice B m d, .int .i64 rk], .int .i64 t] w fun e w' => e = .returned (.bool true) ∧ Below w.heap.size w w' := by
  have HI := Lib.hid hb; clear hb
  have HBOX : Below w.heap.size w (w.alloc (.cells #[.int .i64 kd, .int .i64 ag, .int .i64 sz, .int .i64 sl, .slice B m d, .int .i64 rk] 24)) := (Below.refl _ _).alloc (Nat.le_refl _) _
  have HS0 : Hid (SrS w #[.int .i64 kd, .int .i64 ag, .int .i64 sz, .int .i64 sl, .slice B m d, .int .i64 rk] B m bs (w.alloc (.cells #[.int .i64 kd, .int .i64 ag, .int .i64 sz, .int .i64 sl, .slice B m d, .int .i64 rk] 24))) :=
    ⟨Has.made _ _ _, HI.out.below HBOX, HBOX⟩
  clear HBOX
  go_enter Try.func10, Try.ntmps10
  go_wp2_with fail
  refine (sawake_any _).mono ?_
  rintro e w1 ⟨rfl, b1⟩
  have HS1 := Lib.hid (HS0.out.below HI.out b1)
  have hc1 : ∀ i, w1.cell? ⟨w.heap.size, i, none⟩ = _ := fun i => HS1.out.box.cell i
  clear b1 HS0
  go_wp2_with fail
  cases h : (mayQ kd ag sz sl bs rk && (decide (kd ≠ 2) && wi t (-1099511627776) 1099511627776))
  · have U1 := Lib.hid (fun W hI => rwin_bad kd ag sz sl rk t B m d bs W hI hm h)
    have A1 := Lib.hid (fun W hI => at_bad kd ag sz sl rk t B m d bs W hI hm h)
    clear h
    refine (U1.out _ HS1.out.bnd).mono ?_
    rintro e w2 ⟨rfl, b2⟩
    have HS2 := Lib.hid (HS1.out.below HI.out b2)
    have hc2 : ∀ i, w2.cell? ⟨w.heap.size, i, none⟩ = _ := fun i => HS2.out.box.cell i
    clear b2 hc1 HS1 U1
    go_wp2_with fail
    refine (A1.out _ HS2.out.bnd).mono ?_
    rintro e w3 ⟨rfl, b3⟩
    have HB3 := Lib.hid (HS2.out.keep.trans (b3.mono HS2.out.keep.size))
    clear b3 hc2 HS2 A1
    go_wp2_with (go_at_call 17; refine (wnum_any _ _).mono ?_; rintro e w' ⟨rfl, rfl⟩)
    go_ret
    exact ⟨rfl, HB3.out.alloc HB3.out.size _⟩
  · simp only [Bool.and_eq_true] at h
    obtain ⟨h1, h2, h3⟩ := h
    have h2 := of_decide_eq_true h2
    obtain ⟨tt1, tt2⟩ := wi_true h3
    obtain ⟨u1, u2, u3, u4, u5⟩ := unitQ_bd h1 h2
    obtain ⟨s1, s2, s3, s4, s5⟩ := stepQ_bd h1
    obtain ⟨p1, p2⟩ := at_bd t (unitQ kd sz sl) u1
    obtain ⟨k, c1, c2, c3, c4⟩ := cut_count u1 u3 s3 u5
    have U1 := Lib.hid (fun W hI => rwin_ok kd ag sz sl rk t B m d bs W hI hm h1 h2 h3)
    have A1 := Lib.hid (fun W hI => at_lit kd ag sz sl rk t (t / unitQ kd sz sl * unitQ kd sz sl) (t / unitQ kd sz sl * unitQ kd sz sl + unitQ kd sz sl) B m d bs W hI hm h1 h2 h3 rfl rfl)
    have C1 := Lib.hid (fun z W hI (hz : cutB kd sz sl z (z + sz) = true) => cut_lit kd ag sz sl rk z (z + sz) B m d k bs (cutL z (unitQ kd sz sl) k) W hI hm h1 h2 hz c1 rfl)
    have hbd := win_bd t (stepQ kd sz sl) sz s1 s2 s5
    have hg := win_begin t (stepQ kd sz sl) sz s1
    -- the windows, one by one: begin, cut, the time's slice
    have HW : Hid (∃ (N : Nat) (Z : Nat → Int), N ≤ 64 ∧ (winQ kd sz sl t).length = N ∧ ∀ i, i < N → nthS (winQ kd sz sl t) i = (Z i, Z i + sz) ∧ cutB kd sz sl (Z i) (Z i + sz) = true ∧ ∃ j0 : Nat, j0 < k ∧ Z i + (j0 : Int) * unitQ kd sz sl = t / unitQ kd sz sl * unitQ kd sz sl) := by
      have key : ∀ i : Nat, i < (t / stepQ kd sz sl - (t - sz) / stepQ kd sz sl).toNat → ∀ z, ((t - sz) / stepQ kd sz sl + 1 + (i : Int)) * stepQ kd sz sl = z → nthS (winQ kd sz sl t) i = (z, z + sz) ∧ cutB kd sz sl z (z + sz) = true ∧ ∃ j0 : Nat, j0 < k ∧ z + (j0 : Int) * unitQ kd sz sl = t / unitQ kd sz sl * unitQ kd sz sl := fun i hi z hz => by
        have g1 := (hg ((t - sz) / stepQ kd sz sl + 1 + (i : Int))).1.1 (by omega)
        have g2 := (hg ((t - sz) / stepQ kd sz sl + 1 + (i : Int))).2.1 (by omega)
        rw [hz] at g1 g2
        exact ⟨nthS_of (by rw [winQ, winL_at _ _ _ hi, hz]), decide_eq_true ⟨by omega, by omega, rfl, by omega, by rw [← hz]; exact Int.mul_emod_left _ _⟩, in_slice u1 (Int.dvd_trans u4 (by rw [← hz]; exact Int.dvd_mul_left _ _)) (by omega) (by omega) c2⟩
      exact ⟨_, fun i => ((t - sz) / stepQ kd sz sl + 1 + (i : Int)) * stepQ kd sz sl, (show (t / stepQ kd sz sl - (t - sz) / stepQ kd sz sl).toNat ≤ 64 by omega), winL_len _ _ _ _, fun i hi => key i hi _ rfl⟩
    obtain ⟨N, Z, n1, n2, n3⟩ := HW.out
    have HZ := Lib.hid n3
    have HK := Lib.hid (fun j => cut_step (n := k) (j := j) u1 c2)
    clear h1 h2 h3 hbd hg n3 HW c1 u3 u4 u5
    generalize unitQ kd sz sl = u at *
    generalize t / u * u = y at *
    generalize winQ kd sz sl t = ws at *
    refine (U1.out _ HS1.out.bnd).mono ?_
    rintro e w2 ⟨D2, cw, rfl, o2, b2⟩
    subst n2
    have HS2 := Lib.hid (HS1.out.below HI.out b2)
    have HV2 := Lib.hid o2.spans
    have hc2 : ∀ i, w2.cell? ⟨w.heap.size, i, none⟩ = _ := fun i => HS2.out.box.cell i
    clear b2 hc1 HS1 U1 o2
    go_wp2_with fail
    refine (A1.out _ HS2.out.bnd).mono ?_
    rintro e w3 ⟨rfl, b3⟩
    have HS3 : Hid (WhS w #[.int .i64 kd, .int .i64 ag, .int .i64 sz, .int .i64 sl, .slice B m d, .int .i64 rk] #[.int .i64 y, .int .i64 (y + u)] B m bs w3.heap.size D2 ws.length ws (w3.alloc (.cells #[.int .i64 y, .int .i64 (y + u)] 38))) := by
      have h := HS2.out.below HI.out b3
      have h' := h.alloc HI.out (.cells #[.int .i64 y, .int .i64 (y + u)] 38)
      exact ⟨h'.box, Has.made _ _ _, (HV2.out.below b3).below ((Below.refl _ _).alloc (Nat.le_refl _) _), h'.bnd, h'.keep⟩
    generalize hw4 : w3.alloc (.cells #[.int .i64 y, .int .i64 (y + u)] 38) = w4 at HS3
    generalize hga : w3.heap.size = ga at HS3
    clear b3 hc2 HS2 HV2 A1
    go_upto_region 7 with fail
    clear hw4 hga
    have hp4 : ∀ i, w4.cell? ⟨ga, i, none⟩ = _ := fun i => HS3.out.at_.cell i
    go_wp2_with (go_at_call 17; refine (wnum_any _ _).mono ?_; rintro e w' ⟨rfl, rfl⟩)
    clear hp4
    go_loopw [9] (fun i wr => ∃ j : Nat, j ≤ ws.length ∧ i = .int .i64 j ∧ Hid (WhS w #[.int .i64 kd, .int .i64 ag, .int .i64 sz, .int .i64 sl, .slice B m d, .int .i64 rk] #[.int .i64 y, .int .i64 (y + u)] B m bs ga D2 ws.length ws wr)) (fun i _ => ws.length - (intOf i).toNat)
    case atStart => exact ⟨0, Nat.zero_le _, rfl, HS3⟩
    case round =>
      clear HS3
      obtain ⟨i, hi, rfl, HS⟩ := hrel
      by_cases hlt : i < ws.length
      · obtain ⟨z1, z2, j0, z3, z4⟩ := HZ.out i hlt
        obtain ⟨b, fo, rfl, d1, d2⟩ : ∃ b o : Nat, D2 = some ⟨b, o, none⟩ ∧ wr.cell? ⟨b, o + i * 2, none⟩ = some (.int .i64 (Z i)) ∧ wr.cell? ⟨b, o + i * 2 + 1, none⟩ = some (.int .i64 (Z i + sz)) := by
          obtain ⟨b, o, e, hc⟩ := HS.out.ws.at_ hlt
          have := hc i hlt
          rw [z1] at this
          exact ⟨b, o, e, this.1, this.2⟩
        generalize Z i = z at *
        go_upto_region 12 with fail
        refine wh12_any (kd := kd) (ag := ag) (sz := sz) (sl := sl) (rk := rk) (z := z) (B := B) (m := m) (d := d) (g := w.heap.size) (b := b) (fo := fo) (n := ws.length) (c := cw) (i := i) (k := k) (ss := cutL z u k)
          ⟨rfl, rfl, rfl, rfl, HS.out.box, hlt, d1, d2, fun W hW => C1.out z W (HS.out.bnd.below hW) z2⟩ (by kernel_rfl) ?_
        intro A60 c60 A54 c54 A61 c61 A10 c10 w5 b5 _ _ _ p10
        have HS5 := Lib.hid (HS.out.below HI.out b5)
        have HP := Lib.hid p10.spans
        have d5 := rf_cell b5 d1
        have d6 := rf_cell b5 d2
        have HZ2 := Lib.hid z2
        have HZ4 := Lib.hid z4
        clear d1 d2 z1 z2 z4 b5 p10 HS
        simp only [putAll, Act.put, List.setIfInBounds_toArray, List.set_cons_succ, List.set_cons_zero]
        obtain ⟨k', rfl⟩ : ∃ k', k = k' + 1 := ⟨k - 1, by omega⟩
        obtain ⟨b2, o2, rfl, f1, f2⟩ := part_at HP.out (j := 0) (z := z) (by omega) (by simp)
        have hend : z + (k' : Int) * u + u = z + sz := by rw [← c2]; rw [show ((k' + 1 : Nat) : Int) = (k' : Int) + 1 by omega, Int.add_mul]; omega
        obtain ⟨b3, o3, e3, f3, f4⟩ := part_at HP.out (j := k') (by omega) rfl
        injection e3 with e3
        injection e3 with e3 e4
        subst e3 e4
        rw [hend] at f4
        have HEND := Lib.hid hend
        have f0 : w5.cell? ⟨b2, o2, none⟩ = some (.int .i64 z) := by simpa using f1
        clear hend f1 f2 f3
        have g1 : (((k' + 1 : Nat) : Int) == 0) = false := beq_eq_false_iff_ne.2 (by omega)
        have HN : ∀ W : World, Calls Try.prog 17 #[.int .i64 0] W fun e w' => e = .returned (.int .i64 0) ∧ w' = W := fun W => (wnum_any 0 W).mono fun e w2 h => ⟨h.1, h.2.symm⟩
        have hlt2 : (i : Int) < (ws.length : Int) := by omega
        have q1 : IntKind.i64.wrap ((k' : Int) + 1 - 1) = (k' : Int) := by rw [show (k' : Int) + 1 - 1 = k' by omega]; exact IntWalk.i64_in _ (by omega)
        have q4 : IntKind.i64.wrap (k' : Int) = (k' : Int) := IntWalk.i64_in _ (by omega)
        have q5 : (k' : Int) < (k' : Int) + 1 := by omega
        go_wp2_with fail
        go_quiet (first | (go_at_call 17; exact (HN _).mono fun e w2 h => ⟨h.1, _, h.2⟩))
        go_wp2_with fail
        clear q1 q4 q5 g1 f0 f4 d5 d6
        have ha : ∀ i, w5.cell? ⟨ga, i, none⟩ = _ := fun i => HS5.out.at_.cell i
        have zb : -1100585369600 ≤ z ∧ z ≤ 1099511627776 := by
          have := of_decide_eq_true HZ2.out
          omega
        have qa : IntKind.i64.wrap (y + u - y) = u := by rw [show y + u - y = u by omega]; exact IntWalk.i64_in _ (by omega)
        go_loopw [12, 13] (fun v x wr => ∃ j : Nat, j ≤ k' + 1 ∧ v = .bool (decide (j0 < j)) ∧ x = .int .i64 j ∧ ∃ p, wr = w5.drewN p) (fun _ x _ => k' + 1 - (intOf x).toNat)
        case atStart => exact ⟨0, by omega, by simp, rfl, nq, rfl⟩
        case round =>
          obtain ⟨j, hj, rfl, rfl, p, rfl⟩ := hrel
          by_cases hl : j < k' + 1
          · obtain ⟨zj, hzj⟩ : ∃ zj, z + (j : Int) * u = zj := ⟨_, rfl⟩
            obtain ⟨b3, o3, e3, f3, f4⟩ := part_at HP.out hl hzj
            injection e3 with e3
            injection e3 with e3 e4
            subst e3 e4
            obtain ⟨y1, y2, y3, _, _⟩ := HK.out j (by omega)
            have hzb : z ≤ zj ∧ zj ≤ z + sz := by omega
            have qj : IntKind.i64.wrap (zj + u - zj) = u := by rw [show zj + u - zj = u by omega]; exact IntWalk.i64_in _ (by omega)
            have hl2 : (j : Int) < (k' : Int) + 1 := by omega
            have HEQ : Hid ((j0 = j → zj = y) ∧ (j0 ≠ j → zj ≠ y)) := ⟨fun e => by rw [← hzj, ← e]; exact HZ4.out, fun h e => by
              have e1 : (j : Int) * u = (j0 : Int) * u := by have := HZ4.out; omega
              have := Int.eq_of_mul_eq_mul_right (show u ≠ 0 by have := HK.out 1 (by omega); omega) e1
              omega⟩
            have HZJ := Lib.hid hzj; clear hzj y1 y2 y3
            by_cases hj0 : j = 0
            · subst hj0
              have f5 : w5.cell? ⟨b2, o2, none⟩ = some (.int .i64 zj) := by simpa using f3
              have f6 : w5.cell? ⟨b2, o2 + 1, none⟩ = some (.int .i64 (zj + u)) := by simpa using f4
              clear f3 f4
              rw [decide_eq_false (show ¬ j0 < 0 by omega)]
              by_cases h0 : j0 = 0
              · obtain rfl : zj = y := HEQ.out.1 h0
                clear HEQ
                go_wp2_with fail
                go_quiet (fail)
                go_wp2_with fail
                go_quiet (fail)
                go_wp2_with fail
                go_roundw
                case rel =>
                  have hrel : Value.bool true = Value.bool (decide (j0 < 0 + 1)) := by rw [decide_eq_true (by omega)]
                  first
                    | exact ⟨0 + 1, by omega, hrel, by go_num, _, rfl⟩
                    | ((repeat apply Exists.intro); exact ⟨⟨0 + 1, by omega, hrel, by go_num, _, rfl⟩, rfl⟩)
                case measure => simp [intOf]
              · have hne : (zj == y) = false := beq_eq_false_iff_ne.2 (HEQ.out.2 h0)
                clear HEQ
                go_wp2_with fail
                go_quiet (fail)
                go_wp2_with fail
                go_quiet (fail)
                go_wp2_with fail
                go_roundw
                case rel =>
                  have hrel : Value.bool false = Value.bool (decide (j0 < 0 + 1)) := by rw [decide_eq_false (by omega)]
                  first
                    | exact ⟨0 + 1, by omega, hrel, by go_num, _, rfl⟩
                    | ((repeat apply Exists.intro); exact ⟨⟨0 + 1, by omega, hrel, by go_num, _, rfl⟩, rfl⟩)
                case measure => simp [intOf]
            · obtain ⟨jp, hjp⟩ : ∃ jp : Nat, jp + 1 = j := ⟨j - 1, by omega⟩
              obtain ⟨b3, o3, e3, f5, f6⟩ := part_at HP.out (j := jp) (by omega) rfl
              injection e3 with e3
              injection e3 with e3 e4
              subst e3 e4
              have hpz : z + (jp : Int) * u + u = zj := by rw [← HZJ.out, ← hjp, show ((jp + 1 : Nat) : Int) = (jp : Int) + 1 by omega, Int.add_mul]; omega
              rw [hpz] at f6
              have r1 : IntKind.i64.wrap ((j : Int) - 1) = (jp : Int) := by rw [show (j : Int) - 1 = (jp : Int) by omega]; exact IntWalk.i64_in _ (by omega)
              have r2 : 0 < j := by omega
              have r4 : decide (0 < j) = true := decide_eq_true r2
              have r3 : (jp : Int) < (k' : Int) + 1 := by omega
              clear f5 hpz hjp hj0
              rcases Nat.lt_trichotomy j0 j with h0 | h0 | h0
              · rw [decide_eq_true h0]
                clear HEQ
                go_wp2_with fail
                go_quiet (fail)
                go_wp2_with fail
                go_quiet (fail)
                go_wp2_with fail
                go_roundw
                case rel =>
                  have hrel : Value.bool true = Value.bool (decide (j0 < j + 1)) := by rw [decide_eq_true (by omega)]
                  first
                    | exact ⟨j + 1, by omega, hrel, by go_num, _, rfl⟩
                    | ((repeat apply Exists.intro); exact ⟨⟨j + 1, by omega, hrel, by go_num, _, rfl⟩, rfl⟩)
                case measure => simp [intOf]; omega
              · rw [decide_eq_false (show ¬ j0 < j by omega)]
                obtain rfl : zj = y := HEQ.out.1 h0
                clear HEQ
                have h0 := Lib.hid h0
                go_wp2_with fail
                go_quiet (fail)
                go_wp2_with fail
                go_quiet (fail)
                go_wp2_with fail
                go_roundw
                case rel =>
                  have hrel : Value.bool true = Value.bool (decide (j0 < j + 1)) := by rw [decide_eq_true (by have := h0.out; omega)]
                  first
                    | exact ⟨j + 1, by omega, hrel, by go_num, _, rfl⟩
                    | ((repeat apply Exists.intro); exact ⟨⟨j + 1, by omega, hrel, by go_num, _, rfl⟩, rfl⟩)
                case measure => simp [intOf]; omega
              · rw [decide_eq_false (show ¬ j0 < j by omega)]
                have hne : (zj == y) = false := beq_eq_false_iff_ne.2 (HEQ.out.2 (by omega))
                clear HEQ
                go_wp2_with fail
                go_quiet (fail)
                go_wp2_with fail
                go_quiet (fail)
                go_wp2_with fail
                go_roundw
                case rel =>
                  have hrel : Value.bool false = Value.bool (decide (j0 < j + 1)) := by rw [decide_eq_false (by omega)]
                  first
                    | exact ⟨j + 1, by omega, hrel, by go_num, _, rfl⟩
                    | ((repeat apply Exists.intro); exact ⟨⟨j + 1, by omega, hrel, by go_num, _, rfl⟩, rfl⟩)
                case measure => simp [intOf]; omega
          · obtain rfl : j = k' + 1 := by omega
            rw [decide_eq_true (show j0 < k' + 1 by omega)]
            have HS6 := Lib.hid (HS5.out.below HI.out (below_drewN (Below.refl _ _) p))
            go_wp2_with fail
            go_roundw
            case rel => exact ⟨i + 1, by omega, by go_num, HS6⟩
            case measure => simp [intOf]; omega
      · go_wp2_with fail
        go_ret
        exact ⟨rfl, HS.out.keep⟩

end Go.Proofs.Ytkbocjmdbfddhaa
