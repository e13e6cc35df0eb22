/-
  Walk: the reference's GetRec, of results (written by gen/rcrget.py).
-/
import Derived.Test.YtdbcmcdmipehgaaRcGet
import Derived.Test.YtdbcmcdmipehgaaRcRMay2
namespace Go.Proofs.Ytdbcmcdmipehgaa
open Go.RowKit

set_option maxRecDepth 100000 in
set_option maxHeartbeats 2000000 in
theorem rget_00 (s : ByteArray) (w : World) (hs : s.size ≤ maxLen) {a0 a1 a2 a3 a4 a5 a6 a7 x1 x2 x3 x4 x5 x7 : Int} {b0 b1 b2 b3 b4 b5 b6 b7 : Bool} (h0 : nextR s.data.toList 0 false = (0, a0, b0)) (h1 : nextR s.data.toList a0 b0 = (x1, a1, b1)) (h2 : nextR s.data.toList a1 b1 = (x2, a2, b2)) (h3 : nextR s.data.toList a2 b2 = (x3, a3, b3)) (h4 : nextR s.data.toList a3 b3 = (x4, a4, b4)) (h5 : nextR s.data.toList a4 b4 = (x5, a5, b5)) (h6 : nextR s.data.toList a5 b5 = (0, a6, b6)) (h7 : nextR s.data.toList a6 b6 = (x7, a7, b7)) {m : Nat} (hm : x7 = (m : Int)) (hm9 : m ≤ 9) {xs : List Int} {a8 : Int} {b8 : Bool} (h8 : readN s.data.toList m a7 b7 = (xs, a8, b8)) :
    Calls Try.prog 9 #[.string s] w (GetO (finR s.data.toList ⟨0, x1, x2, x3, x4, x5, false, xs, 0, 0, 0, 0⟩ a8 b8) w) := by
  have H8 := Lib.hid h8
  have HZ := Lib.hid hs
  subst hm
  have N0 := Lib.hid (fun (w : World) (g : Nat) h => rnum_any g s _ _ _ _ _ w h hs h0)
  have N1 := Lib.hid (fun (w : World) (g : Nat) h => rnum_any g s _ _ _ _ _ w h hs h1)
  have N2 := Lib.hid (fun (w : World) (g : Nat) h => rnum_any g s _ _ _ _ _ w h hs h2)
  have N3 := Lib.hid (fun (w : World) (g : Nat) h => rnum_any g s _ _ _ _ _ w h hs h3)
  have N4 := Lib.hid (fun (w : World) (g : Nat) h => rnum_any g s _ _ _ _ _ w h hs h4)
  have N5 := Lib.hid (fun (w : World) (g : Nat) h => rnum_any g s _ _ _ _ _ w h hs h5)
  have N6 := Lib.hid (fun (w : World) (g : Nat) h => rnum_any g s _ _ _ _ _ w h hs h6)
  have N7 := Lib.hid (fun (w : World) (g : Nat) h => rnum_any g s _ _ _ _ _ w h hs h7)
  clear h0 h1 h2 h3 h4 h5 h6 h7 h8 hs
  have S0 := GtS.made 64 w s
  go_enter Try.func9, Try.ntmps9
  go_wp2_with fail
  refine (N0.out _ _ S0.rd).mono ?_; rintro e w1 ⟨rfl, r1, o1⟩
  have S1 := S0.next r1 o1
  clear S0 r1 o1
  have hz1 := S1.size
  go_wp2_with fail
  have T1 : GtL _ w s _ _ (recC ⟨0, 0, 0, 0, 0, 0, false, [], 0, 0, 0, 0⟩ none 0 0) _ [] (w1.alloc (.cells #[.int .i64 0, .int .i64 0, .int .i64 0, .int .i64 0, .int .i64 0, .int .i64 0, .bool false, .slice none 0 0, .int .i64 0, .int .i64 0, .int .i64 0, .int .i64 0] 30)) := S1.with (recC ⟨0, 0, 0, 0, 0, 0, false, [], 0, 0, 0, 0⟩ none 0 0)
  refine (N1.out _ _ T1.rd).mono ?_; rintro e w2 ⟨rfl, r2, o2⟩
  have T2 := gtl_next T1 (by decide) r2 o2
  clear T1 r2 o2 S1 hz1
  have c1 : w2.cell? ⟨w.heap.size + 2, 1, none⟩ = some (.int .i64 0) := T2.x.cell 1
  have m1 := T2.x.mark 1
  go_wp2_with fail
  have T2 : GtL _ w s _ _ (recC ⟨0, x1, 0, 0, 0, 0, false, [], 0, 0, 0, 0⟩ none 0 0) _ [] (w2.setCell ⟨w.heap.size + 2, 1, none⟩ (.int .i64 x1)) := gtl_set T2 1 (.int .i64 x1)
  generalize w2.setCell ⟨w.heap.size + 2, 1, none⟩ (.int .i64 x1) = wy1 at T2 ⊢
  clear c1 m1
  refine (N2.out _ _ T2.rd).mono ?_; rintro e w3 ⟨rfl, r3, o3⟩
  have T3 := gtl_next T2 (by decide) r3 o3
  clear T2 r3 o3
  have c2 : w3.cell? ⟨w.heap.size + 2, 2, none⟩ = some (.int .i64 0) := T3.x.cell 2
  have m2 := T3.x.mark 2
  go_wp2_with fail
  have T3 : GtL _ w s _ _ (recC ⟨0, x1, x2, 0, 0, 0, false, [], 0, 0, 0, 0⟩ none 0 0) _ [] (w3.setCell ⟨w.heap.size + 2, 2, none⟩ (.int .i64 x2)) := gtl_set T3 2 (.int .i64 x2)
  generalize w3.setCell ⟨w.heap.size + 2, 2, none⟩ (.int .i64 x2) = wy2 at T3 ⊢
  clear c2 m2
  refine (N3.out _ _ T3.rd).mono ?_; rintro e w4 ⟨rfl, r4, o4⟩
  have T4 := gtl_next T3 (by decide) r4 o4
  clear T3 r4 o4
  have c3 : w4.cell? ⟨w.heap.size + 2, 3, none⟩ = some (.int .i64 0) := T4.x.cell 3
  have m3 := T4.x.mark 3
  go_wp2_with fail
  have T4 : GtL _ w s _ _ (recC ⟨0, x1, x2, x3, 0, 0, false, [], 0, 0, 0, 0⟩ none 0 0) _ [] (w4.setCell ⟨w.heap.size + 2, 3, none⟩ (.int .i64 x3)) := gtl_set T4 3 (.int .i64 x3)
  generalize w4.setCell ⟨w.heap.size + 2, 3, none⟩ (.int .i64 x3) = wy3 at T4 ⊢
  clear c3 m3
  refine (N4.out _ _ T4.rd).mono ?_; rintro e w5 ⟨rfl, r5, o5⟩
  have T5 := gtl_next T4 (by decide) r5 o5
  clear T4 r5 o5
  have c4 : w5.cell? ⟨w.heap.size + 2, 4, none⟩ = some (.int .i64 0) := T5.x.cell 4
  have m4 := T5.x.mark 4
  go_wp2_with fail
  have T5 : GtL _ w s _ _ (recC ⟨0, x1, x2, x3, x4, 0, false, [], 0, 0, 0, 0⟩ none 0 0) _ [] (w5.setCell ⟨w.heap.size + 2, 4, none⟩ (.int .i64 x4)) := gtl_set T5 4 (.int .i64 x4)
  generalize w5.setCell ⟨w.heap.size + 2, 4, none⟩ (.int .i64 x4) = wy4 at T5 ⊢
  clear c4 m4
  refine (N5.out _ _ T5.rd).mono ?_; rintro e w6 ⟨rfl, r6, o6⟩
  have T6 := gtl_next T5 (by decide) r6 o6
  clear T5 r6 o6
  have c5 : w6.cell? ⟨w.heap.size + 2, 5, none⟩ = some (.int .i64 0) := T6.x.cell 5
  have m5 := T6.x.mark 5
  go_wp2_with fail
  have T6 : GtL _ w s _ _ (recC ⟨0, x1, x2, x3, x4, x5, false, [], 0, 0, 0, 0⟩ none 0 0) _ [] (w6.setCell ⟨w.heap.size + 2, 5, none⟩ (.int .i64 x5)) := gtl_set T6 5 (.int .i64 x5)
  generalize w6.setCell ⟨w.heap.size + 2, 5, none⟩ (.int .i64 x5) = wy5 at T6 ⊢
  clear c5 m5
  refine (N6.out _ _ T6.rd).mono ?_; rintro e w7 ⟨rfl, r7, o7⟩
  have T7 := gtl_next T6 (by decide) r7 o7
  clear T6 r7 o7
  have c6 : w7.cell? ⟨w.heap.size + 2, 6, none⟩ = some (.bool false) := T7.x.cell 6
  have m6 := T7.x.mark 6
  go_wp2_with fail
  have T7 : GtL _ w s _ _ (recC ⟨0, x1, x2, x3, x4, x5, false, [], 0, 0, 0, 0⟩ none 0 0) _ [] (w7.setCell ⟨w.heap.size + 2, 6, none⟩ (.bool false)) := gtl_set T7 6 (.bool false)
  generalize w7.setCell ⟨w.heap.size + 2, 6, none⟩ (.bool false) = wz at T7 ⊢
  clear c6 m6
  refine (N7.out _ _ T7.rd).mono ?_; rintro e w8 ⟨rfl, r8, o8⟩
  have T8 := gtl_next T7 (by decide) r8 o8
  clear T7 r8 o8 N0 N1 N2 N3 N4 N5 N6 N7
  have hl1 : (m : Int) ≤ 9 := by omega
  have HT := Lib.hid T8
  clear T8
  go_wp2_with fail
  go_loopw [8] (fun i wr => ∃ (j : Nat) (A : Option Addr) (c : Nat) (hs : List Int) (a : Int) (b : Bool), j ≤ m ∧ i = .int .i64 j ∧ Hid (readN s.data.toList j a7 b7 = (hs, a, b)) ∧ Hid (GtL 64 w s a b (recC ⟨0, x1, x2, x3, x4, x5, false, hs, 0, 0, 0, 0⟩ A j c) (.slice A j c) hs wr)) (fun i _ => m - (intOf i).toNat)
  case atStart => exact ⟨0, none, 0, [], a7, b7, Nat.zero_le _, rfl, Lib.hid rfl, HT⟩
  case round =>
    clear HT
    obtain ⟨j, A, c, hs, a, b, hj, rfl, HR, HS⟩ := hrel
    by_cases hlt : j < m
    · have hjn : (j : Int) < (m : Int) := by omega
      obtain ⟨x, a', b', hn⟩ : ∃ x a' b', nextR s.data.toList a b = (x, a', b') := ⟨_, _, _, rfl⟩
      have hl : hs.length = j := readN_length HR.out
      have HN := Lib.hid (readN_succ HR.out hn)
      have HC := Lib.hid (fun (w1 : World) h => rnum_any (w.heap.size + 1) s _ _ _ _ _ w1 h HZ.out hn)
      clear hn
      go_wp2_with fail
      refine gr19_any rfl rfl rfl HS.out (Nat.le_refl _) (by omega) (by omega) rfl HC.out rfl (fun w5 h S5 hcell => ?_)
      clear HS HC HR
      simp only [putAll, Act.put, List.setIfInBounds_toArray, List.set_cons_succ, List.set_cons_zero, List.drop_succ_cons, List.drop_zero]
      have hS5 := Lib.hid S5
      clear S5
      refine app_intG rfl _ _ rfl rfl hS5.out.own rfl hcell (by omega) hS5.out.bs (fun A2 m2 c2 w6 hm2 hown hgr => ?_)
      have hx6 := hS5.out.grown (by decide) hgr
      have c7 : w6.cell? ⟨w.heap.size + 2, 7, none⟩ = some (.slice A j c) := hx6.cell 7
      have m7 := hx6.mark 7
      obtain rfl : m2 = j + 1 := by omega
      have S6 := Lib.hid (hS5.out.put (Nat.le_refl _) (by omega) (by omega) (by decide) (by decide) (by omega) (by omega) hgr hown 7 (.slice A2 (j + 1) c2))
      clear hS5 hx6 hown hgr hcell hm2 hl
      go_wp2_with fail
      go_roundw
      case rel => exact ⟨j + 1, A2, c2, hs ++ [x], a', b', by omega, by go_num, HN, S6⟩
      case measure => simp [intOf]; omega
    · obtain rfl : j = m := by omega
      obtain ⟨rfl, rfl, rfl⟩ : hs = xs ∧ a = a8 ∧ b = b8 := by have h := HR.out; rw [H8.out] at h; simp only [Prod.mk.injEq] at h; exact ⟨h.1.symm, h.2.1.symm, h.2.2.symm⟩
      clear HR H8 hlt
      go_upto_region 28 with fail
      have T0 := HS.out
      clear HS
      by_cases hE : (!b && a == (s.size : Int)) = true
      · obtain ⟨eb, ea⟩ : b = false ∧ a = (s.size : Int) := by simpa using hE
        have q : (a != (s.size : Int)) = false := by simpa using ea
        by_cases hM : mayR ⟨0, x1, x2, x3, x4, x5, false, hs, 0, 0, 0, 0⟩ = true
        · skip
          have hF := Lib.hid (finR_yes (l := s.data.toList) (a := a) (by simpa using ea) hM)
          have HM := Lib.hid (fun (w : World) h => rmay_any ⟨0, x1, x2, x3, x4, x5, false, hs, 0, 0, 0, 0⟩ A j c true hM w h)
          have c1 : wr.cell? ⟨w.heap.size + 1, 1, none⟩ = some (.int .i64 a) := T0.rd.cell 1
          have c2 : wr.cell? ⟨w.heap.size + 1, 2, none⟩ = some (.bool b) := T0.rd.cell 2
          clear hE ea hM
          subst eb
          go_wp2_with (first
            | (refine load_rec rfl _ rfl _ rfl T0.x ?_)
            | (go_at_call 14; refine (HM.out _ T0.own.ints).mono ?_; rintro e w8 ⟨rfl, b8⟩; have T8 := gtl_below T0 b8; clear T0 b8 c1 c2)
            | (refine load_rec rfl _ rfl _ rfl T8.x ?_)
            | (refine store_rec (r := ⟨0, x1, x2, x3, x4, x5, false, hs, 0, 0, 0, 0⟩) (A := A) (n := j) (c := c) rfl _ _ rfl _ rfl rfl T8.res rfl ?_))
          obtain ⟨e1, e2, e3⟩ := gtl_end T8 ⟨0, x1, x2, x3, x4, x5, false, hs, 0, 0, 0, 0⟩ A j c
          exact bodyPost_ret (ret_rec rfl _ _ _ ⟨0, x1, x2, x3, x4, x5, false, hs, 0, 0, 0, 0⟩ A j c rfl e3) rfl ⟨_, _, _, _, _, hF.out, rfl, e2, e1⟩
        · have hM : mayR ⟨0, x1, x2, x3, x4, x5, false, hs, 0, 0, 0, 0⟩ = false := by simpa using hM
          have hF := Lib.hid (finR_not (l := s.data.toList) (a := a) (b := b) hM)
          have HM := Lib.hid (fun (w : World) h => rmay_any ⟨0, x1, x2, x3, x4, x5, false, hs, 0, 0, 0, 0⟩ A j c false hM w h)
          have c1 : wr.cell? ⟨w.heap.size + 1, 1, none⟩ = some (.int .i64 a) := T0.rd.cell 1
          have c2 : wr.cell? ⟨w.heap.size + 1, 2, none⟩ = some (.bool b) := T0.rd.cell 2
          clear hE ea hM
          subst eb
          go_wp2_with (first
            | (refine load_rec rfl _ rfl _ rfl T0.x ?_)
            | (go_at_call 14; refine (HM.out _ T0.own.ints).mono ?_; rintro e w8 ⟨rfl, b8⟩; have T8 := gtl_below T0 b8; clear T0 b8 c1 c2)
            | (refine store_rec (r := zeroR) (A := none) (n := 0) (c := 0) rfl _ _ rfl _ rfl rfl T8.res rfl ?_))
          obtain ⟨e1, e2, e3⟩ := gtl_end T8 zeroR none 0 0
          exact bodyPost_ret (ret_rec rfl _ _ _ zeroR none 0 0 rfl e3) rfl ⟨_, _, _, _, _, hF.out, rfl, OwnI.nil _ _, e1⟩
      · have hE : (!b && a == (s.size : Int)) = false := by simpa using hE
        have hF := Lib.hid (finR_end ⟨0, x1, x2, x3, x4, x5, false, hs, 0, 0, 0, 0⟩ hE)
        have c1 : wr.cell? ⟨w.heap.size + 1, 1, none⟩ = some (.int .i64 a) := T0.rd.cell 1
        have c2 : wr.cell? ⟨w.heap.size + 1, 2, none⟩ = some (.bool b) := T0.rd.cell 2
        have T8 := T0
        clear T0
        cases b with
        | true =>
          clear hE
          go_wp2_with (refine store_rec (r := zeroR) (A := none) (n := 0) (c := 0) rfl _ _ rfl _ rfl rfl T8.res rfl ?_)
          obtain ⟨e1, e2, e3⟩ := gtl_end T8 zeroR none 0 0
          exact bodyPost_ret (ret_rec rfl _ _ _ zeroR none 0 0 rfl e3) rfl ⟨_, _, _, _, _, hF.out, rfl, OwnI.nil _ _, e1⟩
        | false =>
          have q : (a != (s.size : Int)) = true := by simpa using hE
          clear hE
          go_wp2_with (refine store_rec (r := zeroR) (A := none) (n := 0) (c := 0) rfl _ _ rfl _ rfl rfl T8.res rfl ?_)
          obtain ⟨e1, e2, e3⟩ := gtl_end T8 zeroR none 0 0
          exact bodyPost_ret (ret_rec rfl _ _ _ zeroR none 0 0 rfl e3) rfl ⟨_, _, _, _, _, hF.out, rfl, OwnI.nil _ _, e1⟩

set_option maxRecDepth 100000 in
set_option maxHeartbeats 2000000 in
theorem rget_01 (s : ByteArray) (w : World) (hs : s.size ≤ maxLen) {a0 a1 a2 a3 a4 a5 a6 a7 x1 x2 x3 x4 x5 x7 : Int} {b0 b1 b2 b3 b4 b5 b6 b7 : Bool} (h0 : nextR s.data.toList 0 false = (0, a0, b0)) (h1 : nextR s.data.toList a0 b0 = (x1, a1, b1)) (h2 : nextR s.data.toList a1 b1 = (x2, a2, b2)) (h3 : nextR s.data.toList a2 b2 = (x3, a3, b3)) (h4 : nextR s.data.toList a3 b3 = (x4, a4, b4)) (h5 : nextR s.data.toList a4 b4 = (x5, a5, b5)) (h6 : nextR s.data.toList a5 b5 = (1, a6, b6)) (h7 : nextR s.data.toList a6 b6 = (x7, a7, b7)) {m : Nat} (hm : x7 = (m : Int)) (hm9 : m ≤ 9) {xs : List Int} {a8 : Int} {b8 : Bool} (h8 : readN s.data.toList m a7 b7 = (xs, a8, b8)) :
    Calls Try.prog 9 #[.string s] w (GetO (finR s.data.toList ⟨0, x1, x2, x3, x4, x5, true, xs, 0, 0, 0, 0⟩ a8 b8) w) := by
  have H8 := Lib.hid h8
  have HZ := Lib.hid hs
  subst hm
  have N0 := Lib.hid (fun (w : World) (g : Nat) h => rnum_any g s _ _ _ _ _ w h hs h0)
  have N1 := Lib.hid (fun (w : World) (g : Nat) h => rnum_any g s _ _ _ _ _ w h hs h1)
  have N2 := Lib.hid (fun (w : World) (g : Nat) h => rnum_any g s _ _ _ _ _ w h hs h2)
  have N3 := Lib.hid (fun (w : World) (g : Nat) h => rnum_any g s _ _ _ _ _ w h hs h3)
  have N4 := Lib.hid (fun (w : World) (g : Nat) h => rnum_any g s _ _ _ _ _ w h hs h4)
  have N5 := Lib.hid (fun (w : World) (g : Nat) h => rnum_any g s _ _ _ _ _ w h hs h5)
  have N6 := Lib.hid (fun (w : World) (g : Nat) h => rnum_any g s _ _ _ _ _ w h hs h6)
  have N7 := Lib.hid (fun (w : World) (g : Nat) h => rnum_any g s _ _ _ _ _ w h hs h7)
  clear h0 h1 h2 h3 h4 h5 h6 h7 h8 hs
  have S0 := GtS.made 64 w s
  go_enter Try.func9, Try.ntmps9
  go_wp2_with fail
  refine (N0.out _ _ S0.rd).mono ?_; rintro e w1 ⟨rfl, r1, o1⟩
  have S1 := S0.next r1 o1
  clear S0 r1 o1
  have hz1 := S1.size
  go_wp2_with fail
  have T1 : GtL _ w s _ _ (recC ⟨0, 0, 0, 0, 0, 0, false, [], 0, 0, 0, 0⟩ none 0 0) _ [] (w1.alloc (.cells #[.int .i64 0, .int .i64 0, .int .i64 0, .int .i64 0, .int .i64 0, .int .i64 0, .bool false, .slice none 0 0, .int .i64 0, .int .i64 0, .int .i64 0, .int .i64 0] 30)) := S1.with (recC ⟨0, 0, 0, 0, 0, 0, false, [], 0, 0, 0, 0⟩ none 0 0)
  refine (N1.out _ _ T1.rd).mono ?_; rintro e w2 ⟨rfl, r2, o2⟩
  have T2 := gtl_next T1 (by decide) r2 o2
  clear T1 r2 o2 S1 hz1
  have c1 : w2.cell? ⟨w.heap.size + 2, 1, none⟩ = some (.int .i64 0) := T2.x.cell 1
  have m1 := T2.x.mark 1
  go_wp2_with fail
  have T2 : GtL _ w s _ _ (recC ⟨0, x1, 0, 0, 0, 0, false, [], 0, 0, 0, 0⟩ none 0 0) _ [] (w2.setCell ⟨w.heap.size + 2, 1, none⟩ (.int .i64 x1)) := gtl_set T2 1 (.int .i64 x1)
  generalize w2.setCell ⟨w.heap.size + 2, 1, none⟩ (.int .i64 x1) = wy1 at T2 ⊢
  clear c1 m1
  refine (N2.out _ _ T2.rd).mono ?_; rintro e w3 ⟨rfl, r3, o3⟩
  have T3 := gtl_next T2 (by decide) r3 o3
  clear T2 r3 o3
  have c2 : w3.cell? ⟨w.heap.size + 2, 2, none⟩ = some (.int .i64 0) := T3.x.cell 2
  have m2 := T3.x.mark 2
  go_wp2_with fail
  have T3 : GtL _ w s _ _ (recC ⟨0, x1, x2, 0, 0, 0, false, [], 0, 0, 0, 0⟩ none 0 0) _ [] (w3.setCell ⟨w.heap.size + 2, 2, none⟩ (.int .i64 x2)) := gtl_set T3 2 (.int .i64 x2)
  generalize w3.setCell ⟨w.heap.size + 2, 2, none⟩ (.int .i64 x2) = wy2 at T3 ⊢
  clear c2 m2
  refine (N3.out _ _ T3.rd).mono ?_; rintro e w4 ⟨rfl, r4, o4⟩
  have T4 := gtl_next T3 (by decide) r4 o4
  clear T3 r4 o4
  have c3 : w4.cell? ⟨w.heap.size + 2, 3, none⟩ = some (.int .i64 0) := T4.x.cell 3
  have m3 := T4.x.mark 3
  go_wp2_with fail
  have T4 : GtL _ w s _ _ (recC ⟨0, x1, x2, x3, 0, 0, false, [], 0, 0, 0, 0⟩ none 0 0) _ [] (w4.setCell ⟨w.heap.size + 2, 3, none⟩ (.int .i64 x3)) := gtl_set T4 3 (.int .i64 x3)
  generalize w4.setCell ⟨w.heap.size + 2, 3, none⟩ (.int .i64 x3) = wy3 at T4 ⊢
  clear c3 m3
  refine (N4.out _ _ T4.rd).mono ?_; rintro e w5 ⟨rfl, r5, o5⟩
  have T5 := gtl_next T4 (by decide) r5 o5
  clear T4 r5 o5
  have c4 : w5.cell? ⟨w.heap.size + 2, 4, none⟩ = some (.int .i64 0) := T5.x.cell 4
  have m4 := T5.x.mark 4
  go_wp2_with fail
  have T5 : GtL _ w s _ _ (recC ⟨0, x1, x2, x3, x4, 0, false, [], 0, 0, 0, 0⟩ none 0 0) _ [] (w5.setCell ⟨w.heap.size + 2, 4, none⟩ (.int .i64 x4)) := gtl_set T5 4 (.int .i64 x4)
  generalize w5.setCell ⟨w.heap.size + 2, 4, none⟩ (.int .i64 x4) = wy4 at T5 ⊢
  clear c4 m4
  refine (N5.out _ _ T5.rd).mono ?_; rintro e w6 ⟨rfl, r6, o6⟩
  have T6 := gtl_next T5 (by decide) r6 o6
  clear T5 r6 o6
  have c5 : w6.cell? ⟨w.heap.size + 2, 5, none⟩ = some (.int .i64 0) := T6.x.cell 5
  have m5 := T6.x.mark 5
  go_wp2_with fail
  have T6 : GtL _ w s _ _ (recC ⟨0, x1, x2, x3, x4, x5, false, [], 0, 0, 0, 0⟩ none 0 0) _ [] (w6.setCell ⟨w.heap.size + 2, 5, none⟩ (.int .i64 x5)) := gtl_set T6 5 (.int .i64 x5)
  generalize w6.setCell ⟨w.heap.size + 2, 5, none⟩ (.int .i64 x5) = wy5 at T6 ⊢
  clear c5 m5
  refine (N6.out _ _ T6.rd).mono ?_; rintro e w7 ⟨rfl, r7, o7⟩
  have T7 := gtl_next T6 (by decide) r7 o7
  clear T6 r7 o7
  have c6 : w7.cell? ⟨w.heap.size + 2, 6, none⟩ = some (.bool false) := T7.x.cell 6
  have m6 := T7.x.mark 6
  go_wp2_with fail
  have T7 : GtL _ w s _ _ (recC ⟨0, x1, x2, x3, x4, x5, true, [], 0, 0, 0, 0⟩ none 0 0) _ [] (w7.setCell ⟨w.heap.size + 2, 6, none⟩ (.bool true)) := gtl_set T7 6 (.bool true)
  generalize w7.setCell ⟨w.heap.size + 2, 6, none⟩ (.bool true) = wz at T7 ⊢
  clear c6 m6
  refine (N7.out _ _ T7.rd).mono ?_; rintro e w8 ⟨rfl, r8, o8⟩
  have T8 := gtl_next T7 (by decide) r8 o8
  clear T7 r8 o8 N0 N1 N2 N3 N4 N5 N6 N7
  have hl1 : (m : Int) ≤ 9 := by omega
  have HT := Lib.hid T8
  clear T8
  go_wp2_with fail
  go_loopw [8] (fun i wr => ∃ (j : Nat) (A : Option Addr) (c : Nat) (hs : List Int) (a : Int) (b : Bool), j ≤ m ∧ i = .int .i64 j ∧ Hid (readN s.data.toList j a7 b7 = (hs, a, b)) ∧ Hid (GtL 64 w s a b (recC ⟨0, x1, x2, x3, x4, x5, true, hs, 0, 0, 0, 0⟩ A j c) (.slice A j c) hs wr)) (fun i _ => m - (intOf i).toNat)
  case atStart => exact ⟨0, none, 0, [], a7, b7, Nat.zero_le _, rfl, Lib.hid rfl, HT⟩
  case round =>
    clear HT
    obtain ⟨j, A, c, hs, a, b, hj, rfl, HR, HS⟩ := hrel
    by_cases hlt : j < m
    · have hjn : (j : Int) < (m : Int) := by omega
      obtain ⟨x, a', b', hn⟩ : ∃ x a' b', nextR s.data.toList a b = (x, a', b') := ⟨_, _, _, rfl⟩
      have hl : hs.length = j := readN_length HR.out
      have HN := Lib.hid (readN_succ HR.out hn)
      have HC := Lib.hid (fun (w1 : World) h => rnum_any (w.heap.size + 1) s _ _ _ _ _ w1 h HZ.out hn)
      clear hn
      go_wp2_with fail
      refine gr19_any rfl rfl rfl HS.out (Nat.le_refl _) (by omega) (by omega) rfl HC.out rfl (fun w5 h S5 hcell => ?_)
      clear HS HC HR
      simp only [putAll, Act.put, List.setIfInBounds_toArray, List.set_cons_succ, List.set_cons_zero, List.drop_succ_cons, List.drop_zero]
      have hS5 := Lib.hid S5
      clear S5
      refine app_intG rfl _ _ rfl rfl hS5.out.own rfl hcell (by omega) hS5.out.bs (fun A2 m2 c2 w6 hm2 hown hgr => ?_)
      have hx6 := hS5.out.grown (by decide) hgr
      have c7 : w6.cell? ⟨w.heap.size + 2, 7, none⟩ = some (.slice A j c) := hx6.cell 7
      have m7 := hx6.mark 7
      obtain rfl : m2 = j + 1 := by omega
      have S6 := Lib.hid (hS5.out.put (Nat.le_refl _) (by omega) (by omega) (by decide) (by decide) (by omega) (by omega) hgr hown 7 (.slice A2 (j + 1) c2))
      clear hS5 hx6 hown hgr hcell hm2 hl
      go_wp2_with fail
      go_roundw
      case rel => exact ⟨j + 1, A2, c2, hs ++ [x], a', b', by omega, by go_num, HN, S6⟩
      case measure => simp [intOf]; omega
    · obtain rfl : j = m := by omega
      obtain ⟨rfl, rfl, rfl⟩ : hs = xs ∧ a = a8 ∧ b = b8 := by have h := HR.out; rw [H8.out] at h; simp only [Prod.mk.injEq] at h; exact ⟨h.1.symm, h.2.1.symm, h.2.2.symm⟩
      clear HR H8 hlt
      go_upto_region 28 with fail
      have T0 := HS.out
      clear HS
      by_cases hE : (!b && a == (s.size : Int)) = true
      · obtain ⟨eb, ea⟩ : b = false ∧ a = (s.size : Int) := by simpa using hE
        have q : (a != (s.size : Int)) = false := by simpa using ea
        by_cases hM : mayR ⟨0, x1, x2, x3, x4, x5, true, hs, 0, 0, 0, 0⟩ = true
        · skip
          have hF := Lib.hid (finR_yes (l := s.data.toList) (a := a) (by simpa using ea) hM)
          have HM := Lib.hid (fun (w : World) h => rmay_any ⟨0, x1, x2, x3, x4, x5, true, hs, 0, 0, 0, 0⟩ A j c true hM w h)
          have c1 : wr.cell? ⟨w.heap.size + 1, 1, none⟩ = some (.int .i64 a) := T0.rd.cell 1
          have c2 : wr.cell? ⟨w.heap.size + 1, 2, none⟩ = some (.bool b) := T0.rd.cell 2
          clear hE ea hM
          subst eb
          go_wp2_with (first
            | (refine load_rec rfl _ rfl _ rfl T0.x ?_)
            | (go_at_call 14; refine (HM.out _ T0.own.ints).mono ?_; rintro e w8 ⟨rfl, b8⟩; have T8 := gtl_below T0 b8; clear T0 b8 c1 c2)
            | (refine load_rec rfl _ rfl _ rfl T8.x ?_)
            | (refine store_rec (r := ⟨0, x1, x2, x3, x4, x5, true, hs, 0, 0, 0, 0⟩) (A := A) (n := j) (c := c) rfl _ _ rfl _ rfl rfl T8.res rfl ?_))
          obtain ⟨e1, e2, e3⟩ := gtl_end T8 ⟨0, x1, x2, x3, x4, x5, true, hs, 0, 0, 0, 0⟩ A j c
          exact bodyPost_ret (ret_rec rfl _ _ _ ⟨0, x1, x2, x3, x4, x5, true, hs, 0, 0, 0, 0⟩ A j c rfl e3) rfl ⟨_, _, _, _, _, hF.out, rfl, e2, e1⟩
        · have hM : mayR ⟨0, x1, x2, x3, x4, x5, true, hs, 0, 0, 0, 0⟩ = false := by simpa using hM
          have hF := Lib.hid (finR_not (l := s.data.toList) (a := a) (b := b) hM)
          have HM := Lib.hid (fun (w : World) h => rmay_any ⟨0, x1, x2, x3, x4, x5, true, hs, 0, 0, 0, 0⟩ A j c false hM w h)
          have c1 : wr.cell? ⟨w.heap.size + 1, 1, none⟩ = some (.int .i64 a) := T0.rd.cell 1
          have c2 : wr.cell? ⟨w.heap.size + 1, 2, none⟩ = some (.bool b) := T0.rd.cell 2
          clear hE ea hM
          subst eb
          go_wp2_with (first
            | (refine load_rec rfl _ rfl _ rfl T0.x ?_)
            | (go_at_call 14; refine (HM.out _ T0.own.ints).mono ?_; rintro e w8 ⟨rfl, b8⟩; have T8 := gtl_below T0 b8; clear T0 b8 c1 c2)
            | (refine store_rec (r := zeroR) (A := none) (n := 0) (c := 0) rfl _ _ rfl _ rfl rfl T8.res rfl ?_))
          obtain ⟨e1, e2, e3⟩ := gtl_end T8 zeroR none 0 0
          exact bodyPost_ret (ret_rec rfl _ _ _ zeroR none 0 0 rfl e3) rfl ⟨_, _, _, _, _, hF.out, rfl, OwnI.nil _ _, e1⟩
      · have hE : (!b && a == (s.size : Int)) = false := by simpa using hE
        have hF := Lib.hid (finR_end ⟨0, x1, x2, x3, x4, x5, true, hs, 0, 0, 0, 0⟩ hE)
        have c1 : wr.cell? ⟨w.heap.size + 1, 1, none⟩ = some (.int .i64 a) := T0.rd.cell 1
        have c2 : wr.cell? ⟨w.heap.size + 1, 2, none⟩ = some (.bool b) := T0.rd.cell 2
        have T8 := T0
        clear T0
        cases b with
        | true =>
          clear hE
          go_wp2_with (refine store_rec (r := zeroR) (A := none) (n := 0) (c := 0) rfl _ _ rfl _ rfl rfl T8.res rfl ?_)
          obtain ⟨e1, e2, e3⟩ := gtl_end T8 zeroR none 0 0
          exact bodyPost_ret (ret_rec rfl _ _ _ zeroR none 0 0 rfl e3) rfl ⟨_, _, _, _, _, hF.out, rfl, OwnI.nil _ _, e1⟩
        | false =>
          have q : (a != (s.size : Int)) = true := by simpa using hE
          clear hE
          go_wp2_with (refine store_rec (r := zeroR) (A := none) (n := 0) (c := 0) rfl _ _ rfl _ rfl rfl T8.res rfl ?_)
          obtain ⟨e1, e2, e3⟩ := gtl_end T8 zeroR none 0 0
          exact bodyPost_ret (ret_rec rfl _ _ _ zeroR none 0 0 rfl e3) rfl ⟨_, _, _, _, _, hF.out, rfl, OwnI.nil _ _, e1⟩


end Go.Proofs.Ytdbcmcdmipehgaa
