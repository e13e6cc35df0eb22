/-
  Walk: the reference's GetRec, of what is no result (written by gen/rcrget.py).
-/
import Derived.Test.YtdbcmcdmipehgaaRcGet
import Derived.Test.YtdbcmcdmipehgaaRcRMay2
namespace Go.Proofs.Ytdbcmcdmipehgaa
open Go.RowKit

set_option maxRecDepth 100000 in
set_option maxHeartbeats 1000000 in
theorem rget_1 (s : ByteArray) (w : World) (hs : s.size ≤ maxLen) {a0 a1 a2 a3 x1 x2 x3 : Int} {b0 b1 b2 b3 : Bool} (h0 : nextR s.data.toList 0 false = (1, a0, b0)) (h1 : nextR s.data.toList a0 b0 = (x1, a1, b1)) (h2 : nextR s.data.toList a1 b1 = (x2, a2, b2)) (h3 : nextR s.data.toList a2 b2 = (x3, a3, b3)) :
    Calls Try.prog 9 #[.string s] w (GetO (finR s.data.toList ⟨1, 0, 0, 0, 0, 0, false, [], x1, x2, x3, 0⟩ a3 b3) w) := by
  have N0 := Lib.hid (fun (w : World) (g : Nat) h => rnum_any g s _ _ _ _ _ w h hs h0)
  have N1 := Lib.hid (fun (w : World) (g : Nat) h => rnum_any g s _ _ _ _ _ w h hs h1)
  have N2 := Lib.hid (fun (w : World) (g : Nat) h => rnum_any g s _ _ _ _ _ w h hs h2)
  have N3 := Lib.hid (fun (w : World) (g : Nat) h => rnum_any g s _ _ _ _ _ w h hs h3)
  clear h0 h1 h2 h3
  have S0 := GtS.made 64 w s
  go_enter Try.func9, Try.ntmps9
  go_wp2_with fail
  refine (N0.out _ _ S0.rd).mono ?_; rintro e w1 ⟨rfl, r1, o1⟩
  have S1 := S0.next r1 o1
  clear S0 r1 o1
  have hz1 := S1.size
  go_wp2_with fail
  have T1 : GtL _ w s _ _ (recC ⟨1, 0, 0, 0, 0, 0, false, [], 0, 0, 0, 0⟩ none 0 0) _ [] (w1.alloc (.cells #[.int .i64 1, .int .i64 0, .int .i64 0, .int .i64 0, .int .i64 0, .int .i64 0, .bool false, .slice none 0 0, .int .i64 0, .int .i64 0, .int .i64 0, .int .i64 0] 30)) := S1.with (recC ⟨1, 0, 0, 0, 0, 0, false, [], 0, 0, 0, 0⟩ none 0 0)
  refine (N1.out _ _ T1.rd).mono ?_; rintro e w2 ⟨rfl, r2, o2⟩
  have T2 := gtl_next T1 (by decide) r2 o2
  clear T1 r2 o2 S1 hz1
  have c8 : w2.cell? ⟨w.heap.size + 2, 8, none⟩ = some (.int .i64 0) := T2.x.cell 8
  have m8 := T2.x.mark 8
  go_wp2_with fail
  have T2 : GtL _ w s _ _ (recC ⟨1, 0, 0, 0, 0, 0, false, [], x1, 0, 0, 0⟩ none 0 0) _ [] (w2.setCell ⟨w.heap.size + 2, 8, none⟩ (.int .i64 x1)) := gtl_set T2 8 (.int .i64 x1)
  generalize w2.setCell ⟨w.heap.size + 2, 8, none⟩ (.int .i64 x1) = wy1 at T2 ⊢
  clear c8 m8
  refine (N2.out _ _ T2.rd).mono ?_; rintro e w3 ⟨rfl, r3, o3⟩
  have T3 := gtl_next T2 (by decide) r3 o3
  clear T2 r3 o3
  have c9 : w3.cell? ⟨w.heap.size + 2, 9, none⟩ = some (.int .i64 0) := T3.x.cell 9
  have m9 := T3.x.mark 9
  go_wp2_with fail
  have T3 : GtL _ w s _ _ (recC ⟨1, 0, 0, 0, 0, 0, false, [], x1, x2, 0, 0⟩ none 0 0) _ [] (w3.setCell ⟨w.heap.size + 2, 9, none⟩ (.int .i64 x2)) := gtl_set T3 9 (.int .i64 x2)
  generalize w3.setCell ⟨w.heap.size + 2, 9, none⟩ (.int .i64 x2) = wy2 at T3 ⊢
  clear c9 m9
  refine (N3.out _ _ T3.rd).mono ?_; rintro e w4 ⟨rfl, r4, o4⟩
  have T4 := gtl_next T3 (by decide) r4 o4
  clear T3 r4 o4
  have c10 : w4.cell? ⟨w.heap.size + 2, 10, none⟩ = some (.int .i64 0) := T4.x.cell 10
  have m10 := T4.x.mark 10
  go_upto_region 28 with fail
  have T4 : GtL _ w s _ _ (recC ⟨1, 0, 0, 0, 0, 0, false, [], x1, x2, x3, 0⟩ none 0 0) _ [] (w4.setCell ⟨w.heap.size + 2, 10, none⟩ (.int .i64 x3)) := gtl_set T4 10 (.int .i64 x3)
  generalize w4.setCell ⟨w.heap.size + 2, 10, none⟩ (.int .i64 x3) = wy3 at T4 ⊢
  clear c10 m10
  have T0 := T4
  clear T4 N0 N1 N2 N3
  generalize wy3 = wx at T0 ⊢
  by_cases hE : (!b3 && a3 == (s.size : Int)) = true
  · obtain ⟨eb, ea⟩ : b3 = false ∧ a3 = (s.size : Int) := by simpa using hE
    have q : (a3 != (s.size : Int)) = false := by simpa using ea
    by_cases hM : mayR ⟨1, 0, 0, 0, 0, 0, false, [], x1, x2, x3, 0⟩ = true
    · skip
      have hF := Lib.hid (finR_yes (l := s.data.toList) (a := a3) (by simpa using ea) hM)
      have HM := Lib.hid (fun (w : World) h => rmay_any ⟨1, 0, 0, 0, 0, 0, false, [], x1, x2, x3, 0⟩ none 0 0 true hM w h)
      have c1 : wx.cell? ⟨w.heap.size + 1, 1, none⟩ = some (.int .i64 a3) := T0.rd.cell 1
      have c2 : wx.cell? ⟨w.heap.size + 1, 2, none⟩ = some (.bool b3) := T0.rd.cell 2
      clear hE ea hM
      subst eb
      go_wp2_with (first
        | (refine load_rec rfl _ rfl _ rfl T0.x ?_)
        | (go_at_call 14; refine (HM.out _ T0.own.ints).mono ?_; rintro e w8 ⟨rfl, b8⟩; have T8 := gtl_below T0 b8; clear T0 b8 c1 c2)
        | (refine load_rec rfl _ rfl _ rfl T8.x ?_)
        | (refine store_rec (r := ⟨1, 0, 0, 0, 0, 0, false, [], x1, x2, x3, 0⟩) (A := none) (n := 0) (c := 0) rfl _ _ rfl _ rfl rfl T8.res rfl ?_))
      obtain ⟨e1, e2, e3⟩ := gtl_end T8 ⟨1, 0, 0, 0, 0, 0, false, [], x1, x2, x3, 0⟩ none 0 0
      exact bodyPost_ret (ret_rec rfl _ _ _ ⟨1, 0, 0, 0, 0, 0, false, [], x1, x2, x3, 0⟩ none 0 0 rfl e3) rfl ⟨_, _, _, _, _, hF.out, rfl, e2, e1⟩
    · have hM : mayR ⟨1, 0, 0, 0, 0, 0, false, [], x1, x2, x3, 0⟩ = false := by simpa using hM
      have hF := Lib.hid (finR_not (l := s.data.toList) (a := a3) (b := b3) hM)
      have HM := Lib.hid (fun (w : World) h => rmay_any ⟨1, 0, 0, 0, 0, 0, false, [], x1, x2, x3, 0⟩ none 0 0 false hM w h)
      have c1 : wx.cell? ⟨w.heap.size + 1, 1, none⟩ = some (.int .i64 a3) := T0.rd.cell 1
      have c2 : wx.cell? ⟨w.heap.size + 1, 2, none⟩ = some (.bool b3) := T0.rd.cell 2
      clear hE ea hM
      subst eb
      go_wp2_with (first
        | (refine load_rec rfl _ rfl _ rfl T0.x ?_)
        | (go_at_call 14; refine (HM.out _ T0.own.ints).mono ?_; rintro e w8 ⟨rfl, b8⟩; have T8 := gtl_below T0 b8; clear T0 b8 c1 c2)
        | (refine store_rec (r := zeroR) (A := none) (n := 0) (c := 0) rfl _ _ rfl _ rfl rfl T8.res rfl ?_))
      obtain ⟨e1, e2, e3⟩ := gtl_end T8 zeroR none 0 0
      exact bodyPost_ret (ret_rec rfl _ _ _ zeroR none 0 0 rfl e3) rfl ⟨_, _, _, _, _, hF.out, rfl, OwnI.nil _ _, e1⟩
  · have hE : (!b3 && a3 == (s.size : Int)) = false := by simpa using hE
    have hF := Lib.hid (finR_end ⟨1, 0, 0, 0, 0, 0, false, [], x1, x2, x3, 0⟩ hE)
    have c1 : wx.cell? ⟨w.heap.size + 1, 1, none⟩ = some (.int .i64 a3) := T0.rd.cell 1
    have c2 : wx.cell? ⟨w.heap.size + 1, 2, none⟩ = some (.bool b3) := T0.rd.cell 2
    have T8 := T0
    clear T0
    cases b3 with
    | true =>
      clear hE
      go_wp2_with (refine store_rec (r := zeroR) (A := none) (n := 0) (c := 0) rfl _ _ rfl _ rfl rfl T8.res rfl ?_)
      obtain ⟨e1, e2, e3⟩ := gtl_end T8 zeroR none 0 0
      exact bodyPost_ret (ret_rec rfl _ _ _ zeroR none 0 0 rfl e3) rfl ⟨_, _, _, _, _, hF.out, rfl, OwnI.nil _ _, e1⟩
    | false =>
      have q : (a3 != (s.size : Int)) = true := by simpa using hE
      clear hE
      go_wp2_with (refine store_rec (r := zeroR) (A := none) (n := 0) (c := 0) rfl _ _ rfl _ rfl rfl T8.res rfl ?_)
      obtain ⟨e1, e2, e3⟩ := gtl_end T8 zeroR none 0 0
      exact bodyPost_ret (ret_rec rfl _ _ _ zeroR none 0 0 rfl e3) rfl ⟨_, _, _, _, _, hF.out, rfl, OwnI.nil _ _, e1⟩

set_option maxRecDepth 100000 in
set_option maxHeartbeats 1000000 in
theorem rget_2 (s : ByteArray) (w : World) (hs : s.size ≤ maxLen) {a0 a1 a2 a3 x1 x2 x3 : Int} {b0 b1 b2 b3 : Bool} (h0 : nextR s.data.toList 0 false = (2, a0, b0)) (h1 : nextR s.data.toList a0 b0 = (x1, a1, b1)) (h2 : nextR s.data.toList a1 b1 = (x2, a2, b2)) (h3 : nextR s.data.toList a2 b2 = (x3, a3, b3)) :
    Calls Try.prog 9 #[.string s] w (GetO (finR s.data.toList ⟨2, 0, 0, 0, 0, 0, false, [], x1, x2, x3, 0⟩ a3 b3) w) := by
  have N0 := Lib.hid (fun (w : World) (g : Nat) h => rnum_any g s _ _ _ _ _ w h hs h0)
  have N1 := Lib.hid (fun (w : World) (g : Nat) h => rnum_any g s _ _ _ _ _ w h hs h1)
  have N2 := Lib.hid (fun (w : World) (g : Nat) h => rnum_any g s _ _ _ _ _ w h hs h2)
  have N3 := Lib.hid (fun (w : World) (g : Nat) h => rnum_any g s _ _ _ _ _ w h hs h3)
  clear h0 h1 h2 h3
  have S0 := GtS.made 64 w s
  go_enter Try.func9, Try.ntmps9
  go_wp2_with fail
  refine (N0.out _ _ S0.rd).mono ?_; rintro e w1 ⟨rfl, r1, o1⟩
  have S1 := S0.next r1 o1
  clear S0 r1 o1
  have hz1 := S1.size
  go_wp2_with fail
  have T1 : GtL _ w s _ _ (recC ⟨2, 0, 0, 0, 0, 0, false, [], 0, 0, 0, 0⟩ none 0 0) _ [] (w1.alloc (.cells #[.int .i64 2, .int .i64 0, .int .i64 0, .int .i64 0, .int .i64 0, .int .i64 0, .bool false, .slice none 0 0, .int .i64 0, .int .i64 0, .int .i64 0, .int .i64 0] 30)) := S1.with (recC ⟨2, 0, 0, 0, 0, 0, false, [], 0, 0, 0, 0⟩ none 0 0)
  refine (N1.out _ _ T1.rd).mono ?_; rintro e w2 ⟨rfl, r2, o2⟩
  have T2 := gtl_next T1 (by decide) r2 o2
  clear T1 r2 o2 S1 hz1
  have c8 : w2.cell? ⟨w.heap.size + 2, 8, none⟩ = some (.int .i64 0) := T2.x.cell 8
  have m8 := T2.x.mark 8
  go_wp2_with fail
  have T2 : GtL _ w s _ _ (recC ⟨2, 0, 0, 0, 0, 0, false, [], x1, 0, 0, 0⟩ none 0 0) _ [] (w2.setCell ⟨w.heap.size + 2, 8, none⟩ (.int .i64 x1)) := gtl_set T2 8 (.int .i64 x1)
  generalize w2.setCell ⟨w.heap.size + 2, 8, none⟩ (.int .i64 x1) = wy1 at T2 ⊢
  clear c8 m8
  refine (N2.out _ _ T2.rd).mono ?_; rintro e w3 ⟨rfl, r3, o3⟩
  have T3 := gtl_next T2 (by decide) r3 o3
  clear T2 r3 o3
  have c9 : w3.cell? ⟨w.heap.size + 2, 9, none⟩ = some (.int .i64 0) := T3.x.cell 9
  have m9 := T3.x.mark 9
  go_wp2_with fail
  have T3 : GtL _ w s _ _ (recC ⟨2, 0, 0, 0, 0, 0, false, [], x1, x2, 0, 0⟩ none 0 0) _ [] (w3.setCell ⟨w.heap.size + 2, 9, none⟩ (.int .i64 x2)) := gtl_set T3 9 (.int .i64 x2)
  generalize w3.setCell ⟨w.heap.size + 2, 9, none⟩ (.int .i64 x2) = wy2 at T3 ⊢
  clear c9 m9
  refine (N3.out _ _ T3.rd).mono ?_; rintro e w4 ⟨rfl, r4, o4⟩
  have T4 := gtl_next T3 (by decide) r4 o4
  clear T3 r4 o4
  have c10 : w4.cell? ⟨w.heap.size + 2, 10, none⟩ = some (.int .i64 0) := T4.x.cell 10
  have m10 := T4.x.mark 10
  go_upto_region 28 with fail
  have T4 : GtL _ w s _ _ (recC ⟨2, 0, 0, 0, 0, 0, false, [], x1, x2, x3, 0⟩ none 0 0) _ [] (w4.setCell ⟨w.heap.size + 2, 10, none⟩ (.int .i64 x3)) := gtl_set T4 10 (.int .i64 x3)
  generalize w4.setCell ⟨w.heap.size + 2, 10, none⟩ (.int .i64 x3) = wy3 at T4 ⊢
  clear c10 m10
  have T0 := T4
  clear T4 N0 N1 N2 N3
  generalize wy3 = wx at T0 ⊢
  by_cases hE : (!b3 && a3 == (s.size : Int)) = true
  · obtain ⟨eb, ea⟩ : b3 = false ∧ a3 = (s.size : Int) := by simpa using hE
    have q : (a3 != (s.size : Int)) = false := by simpa using ea
    by_cases hM : mayR ⟨2, 0, 0, 0, 0, 0, false, [], x1, x2, x3, 0⟩ = true
    · skip
      have hF := Lib.hid (finR_yes (l := s.data.toList) (a := a3) (by simpa using ea) hM)
      have HM := Lib.hid (fun (w : World) h => rmay_any ⟨2, 0, 0, 0, 0, 0, false, [], x1, x2, x3, 0⟩ none 0 0 true hM w h)
      have c1 : wx.cell? ⟨w.heap.size + 1, 1, none⟩ = some (.int .i64 a3) := T0.rd.cell 1
      have c2 : wx.cell? ⟨w.heap.size + 1, 2, none⟩ = some (.bool b3) := T0.rd.cell 2
      clear hE ea hM
      subst eb
      go_wp2_with (first
        | (refine load_rec rfl _ rfl _ rfl T0.x ?_)
        | (go_at_call 14; refine (HM.out _ T0.own.ints).mono ?_; rintro e w8 ⟨rfl, b8⟩; have T8 := gtl_below T0 b8; clear T0 b8 c1 c2)
        | (refine load_rec rfl _ rfl _ rfl T8.x ?_)
        | (refine store_rec (r := ⟨2, 0, 0, 0, 0, 0, false, [], x1, x2, x3, 0⟩) (A := none) (n := 0) (c := 0) rfl _ _ rfl _ rfl rfl T8.res rfl ?_))
      obtain ⟨e1, e2, e3⟩ := gtl_end T8 ⟨2, 0, 0, 0, 0, 0, false, [], x1, x2, x3, 0⟩ none 0 0
      exact bodyPost_ret (ret_rec rfl _ _ _ ⟨2, 0, 0, 0, 0, 0, false, [], x1, x2, x3, 0⟩ none 0 0 rfl e3) rfl ⟨_, _, _, _, _, hF.out, rfl, e2, e1⟩
    · have hM : mayR ⟨2, 0, 0, 0, 0, 0, false, [], x1, x2, x3, 0⟩ = false := by simpa using hM
      have hF := Lib.hid (finR_not (l := s.data.toList) (a := a3) (b := b3) hM)
      have HM := Lib.hid (fun (w : World) h => rmay_any ⟨2, 0, 0, 0, 0, 0, false, [], x1, x2, x3, 0⟩ none 0 0 false hM w h)
      have c1 : wx.cell? ⟨w.heap.size + 1, 1, none⟩ = some (.int .i64 a3) := T0.rd.cell 1
      have c2 : wx.cell? ⟨w.heap.size + 1, 2, none⟩ = some (.bool b3) := T0.rd.cell 2
      clear hE ea hM
      subst eb
      go_wp2_with (first
        | (refine load_rec rfl _ rfl _ rfl T0.x ?_)
        | (go_at_call 14; refine (HM.out _ T0.own.ints).mono ?_; rintro e w8 ⟨rfl, b8⟩; have T8 := gtl_below T0 b8; clear T0 b8 c1 c2)
        | (refine store_rec (r := zeroR) (A := none) (n := 0) (c := 0) rfl _ _ rfl _ rfl rfl T8.res rfl ?_))
      obtain ⟨e1, e2, e3⟩ := gtl_end T8 zeroR none 0 0
      exact bodyPost_ret (ret_rec rfl _ _ _ zeroR none 0 0 rfl e3) rfl ⟨_, _, _, _, _, hF.out, rfl, OwnI.nil _ _, e1⟩
  · have hE : (!b3 && a3 == (s.size : Int)) = false := by simpa using hE
    have hF := Lib.hid (finR_end ⟨2, 0, 0, 0, 0, 0, false, [], x1, x2, x3, 0⟩ hE)
    have c1 : wx.cell? ⟨w.heap.size + 1, 1, none⟩ = some (.int .i64 a3) := T0.rd.cell 1
    have c2 : wx.cell? ⟨w.heap.size + 1, 2, none⟩ = some (.bool b3) := T0.rd.cell 2
    have T8 := T0
    clear T0
    cases b3 with
    | true =>
      clear hE
      go_wp2_with (refine store_rec (r := zeroR) (A := none) (n := 0) (c := 0) rfl _ _ rfl _ rfl rfl T8.res rfl ?_)
      obtain ⟨e1, e2, e3⟩ := gtl_end T8 zeroR none 0 0
      exact bodyPost_ret (ret_rec rfl _ _ _ zeroR none 0 0 rfl e3) rfl ⟨_, _, _, _, _, hF.out, rfl, OwnI.nil _ _, e1⟩
    | false =>
      have q : (a3 != (s.size : Int)) = true := by simpa using hE
      clear hE
      go_wp2_with (refine store_rec (r := zeroR) (A := none) (n := 0) (c := 0) rfl _ _ rfl _ rfl rfl T8.res rfl ?_)
      obtain ⟨e1, e2, e3⟩ := gtl_end T8 zeroR none 0 0
      exact bodyPost_ret (ret_rec rfl _ _ _ zeroR none 0 0 rfl e3) rfl ⟨_, _, _, _, _, hF.out, rfl, OwnI.nil _ _, e1⟩

set_option maxRecDepth 100000 in
set_option maxHeartbeats 1000000 in
theorem rget_3 (s : ByteArray) (w : World) (hs : s.size ≤ maxLen) {a0 a1 a2 a3 x1 x2 x3 : Int} {b0 b1 b2 b3 : Bool} (h0 : nextR s.data.toList 0 false = (3, a0, b0)) (h1 : nextR s.data.toList a0 b0 = (x1, a1, b1)) (h2 : nextR s.data.toList a1 b1 = (x2, a2, b2)) (h3 : nextR s.data.toList a2 b2 = (x3, a3, b3)) :
    Calls Try.prog 9 #[.string s] w (GetO (finR s.data.toList ⟨3, 0, 0, 0, 0, 0, false, [], x1, x2, x3, 0⟩ a3 b3) w) := by
  have N0 := Lib.hid (fun (w : World) (g : Nat) h => rnum_any g s _ _ _ _ _ w h hs h0)
  have N1 := Lib.hid (fun (w : World) (g : Nat) h => rnum_any g s _ _ _ _ _ w h hs h1)
  have N2 := Lib.hid (fun (w : World) (g : Nat) h => rnum_any g s _ _ _ _ _ w h hs h2)
  have N3 := Lib.hid (fun (w : World) (g : Nat) h => rnum_any g s _ _ _ _ _ w h hs h3)
  clear h0 h1 h2 h3
  have S0 := GtS.made 64 w s
  go_enter Try.func9, Try.ntmps9
  go_wp2_with fail
  refine (N0.out _ _ S0.rd).mono ?_; rintro e w1 ⟨rfl, r1, o1⟩
  have S1 := S0.next r1 o1
  clear S0 r1 o1
  have hz1 := S1.size
  go_wp2_with fail
  have T1 : GtL _ w s _ _ (recC ⟨3, 0, 0, 0, 0, 0, false, [], 0, 0, 0, 0⟩ none 0 0) _ [] (w1.alloc (.cells #[.int .i64 3, .int .i64 0, .int .i64 0, .int .i64 0, .int .i64 0, .int .i64 0, .bool false, .slice none 0 0, .int .i64 0, .int .i64 0, .int .i64 0, .int .i64 0] 30)) := S1.with (recC ⟨3, 0, 0, 0, 0, 0, false, [], 0, 0, 0, 0⟩ none 0 0)
  refine (N1.out _ _ T1.rd).mono ?_; rintro e w2 ⟨rfl, r2, o2⟩
  have T2 := gtl_next T1 (by decide) r2 o2
  clear T1 r2 o2 S1 hz1
  have c8 : w2.cell? ⟨w.heap.size + 2, 8, none⟩ = some (.int .i64 0) := T2.x.cell 8
  have m8 := T2.x.mark 8
  go_wp2_with fail
  have T2 : GtL _ w s _ _ (recC ⟨3, 0, 0, 0, 0, 0, false, [], x1, 0, 0, 0⟩ none 0 0) _ [] (w2.setCell ⟨w.heap.size + 2, 8, none⟩ (.int .i64 x1)) := gtl_set T2 8 (.int .i64 x1)
  generalize w2.setCell ⟨w.heap.size + 2, 8, none⟩ (.int .i64 x1) = wy1 at T2 ⊢
  clear c8 m8
  refine (N2.out _ _ T2.rd).mono ?_; rintro e w3 ⟨rfl, r3, o3⟩
  have T3 := gtl_next T2 (by decide) r3 o3
  clear T2 r3 o3
  have c9 : w3.cell? ⟨w.heap.size + 2, 9, none⟩ = some (.int .i64 0) := T3.x.cell 9
  have m9 := T3.x.mark 9
  go_wp2_with fail
  have T3 : GtL _ w s _ _ (recC ⟨3, 0, 0, 0, 0, 0, false, [], x1, x2, 0, 0⟩ none 0 0) _ [] (w3.setCell ⟨w.heap.size + 2, 9, none⟩ (.int .i64 x2)) := gtl_set T3 9 (.int .i64 x2)
  generalize w3.setCell ⟨w.heap.size + 2, 9, none⟩ (.int .i64 x2) = wy2 at T3 ⊢
  clear c9 m9
  refine (N3.out _ _ T3.rd).mono ?_; rintro e w4 ⟨rfl, r4, o4⟩
  have T4 := gtl_next T3 (by decide) r4 o4
  clear T3 r4 o4
  have c10 : w4.cell? ⟨w.heap.size + 2, 10, none⟩ = some (.int .i64 0) := T4.x.cell 10
  have m10 := T4.x.mark 10
  go_upto_region 28 with fail
  have T4 : GtL _ w s _ _ (recC ⟨3, 0, 0, 0, 0, 0, false, [], x1, x2, x3, 0⟩ none 0 0) _ [] (w4.setCell ⟨w.heap.size + 2, 10, none⟩ (.int .i64 x3)) := gtl_set T4 10 (.int .i64 x3)
  generalize w4.setCell ⟨w.heap.size + 2, 10, none⟩ (.int .i64 x3) = wy3 at T4 ⊢
  clear c10 m10
  have T0 := T4
  clear T4 N0 N1 N2 N3
  generalize wy3 = wx at T0 ⊢
  by_cases hE : (!b3 && a3 == (s.size : Int)) = true
  · obtain ⟨eb, ea⟩ : b3 = false ∧ a3 = (s.size : Int) := by simpa using hE
    have q : (a3 != (s.size : Int)) = false := by simpa using ea
    by_cases hM : mayR ⟨3, 0, 0, 0, 0, 0, false, [], x1, x2, x3, 0⟩ = true
    · skip
      have hF := Lib.hid (finR_yes (l := s.data.toList) (a := a3) (by simpa using ea) hM)
      have HM := Lib.hid (fun (w : World) h => rmay_any ⟨3, 0, 0, 0, 0, 0, false, [], x1, x2, x3, 0⟩ none 0 0 true hM w h)
      have c1 : wx.cell? ⟨w.heap.size + 1, 1, none⟩ = some (.int .i64 a3) := T0.rd.cell 1
      have c2 : wx.cell? ⟨w.heap.size + 1, 2, none⟩ = some (.bool b3) := T0.rd.cell 2
      clear hE ea hM
      subst eb
      go_wp2_with (first
        | (refine load_rec rfl _ rfl _ rfl T0.x ?_)
        | (go_at_call 14; refine (HM.out _ T0.own.ints).mono ?_; rintro e w8 ⟨rfl, b8⟩; have T8 := gtl_below T0 b8; clear T0 b8 c1 c2)
        | (refine load_rec rfl _ rfl _ rfl T8.x ?_)
        | (refine store_rec (r := ⟨3, 0, 0, 0, 0, 0, false, [], x1, x2, x3, 0⟩) (A := none) (n := 0) (c := 0) rfl _ _ rfl _ rfl rfl T8.res rfl ?_))
      obtain ⟨e1, e2, e3⟩ := gtl_end T8 ⟨3, 0, 0, 0, 0, 0, false, [], x1, x2, x3, 0⟩ none 0 0
      exact bodyPost_ret (ret_rec rfl _ _ _ ⟨3, 0, 0, 0, 0, 0, false, [], x1, x2, x3, 0⟩ none 0 0 rfl e3) rfl ⟨_, _, _, _, _, hF.out, rfl, e2, e1⟩
    · have hM : mayR ⟨3, 0, 0, 0, 0, 0, false, [], x1, x2, x3, 0⟩ = false := by simpa using hM
      have hF := Lib.hid (finR_not (l := s.data.toList) (a := a3) (b := b3) hM)
      have HM := Lib.hid (fun (w : World) h => rmay_any ⟨3, 0, 0, 0, 0, 0, false, [], x1, x2, x3, 0⟩ none 0 0 false hM w h)
      have c1 : wx.cell? ⟨w.heap.size + 1, 1, none⟩ = some (.int .i64 a3) := T0.rd.cell 1
      have c2 : wx.cell? ⟨w.heap.size + 1, 2, none⟩ = some (.bool b3) := T0.rd.cell 2
      clear hE ea hM
      subst eb
      go_wp2_with (first
        | (refine load_rec rfl _ rfl _ rfl T0.x ?_)
        | (go_at_call 14; refine (HM.out _ T0.own.ints).mono ?_; rintro e w8 ⟨rfl, b8⟩; have T8 := gtl_below T0 b8; clear T0 b8 c1 c2)
        | (refine store_rec (r := zeroR) (A := none) (n := 0) (c := 0) rfl _ _ rfl _ rfl rfl T8.res rfl ?_))
      obtain ⟨e1, e2, e3⟩ := gtl_end T8 zeroR none 0 0
      exact bodyPost_ret (ret_rec rfl _ _ _ zeroR none 0 0 rfl e3) rfl ⟨_, _, _, _, _, hF.out, rfl, OwnI.nil _ _, e1⟩
  · have hE : (!b3 && a3 == (s.size : Int)) = false := by simpa using hE
    have hF := Lib.hid (finR_end ⟨3, 0, 0, 0, 0, 0, false, [], x1, x2, x3, 0⟩ hE)
    have c1 : wx.cell? ⟨w.heap.size + 1, 1, none⟩ = some (.int .i64 a3) := T0.rd.cell 1
    have c2 : wx.cell? ⟨w.heap.size + 1, 2, none⟩ = some (.bool b3) := T0.rd.cell 2
    have T8 := T0
    clear T0
    cases b3 with
    | true =>
      clear hE
      go_wp2_with (refine store_rec (r := zeroR) (A := none) (n := 0) (c := 0) rfl _ _ rfl _ rfl rfl T8.res rfl ?_)
      obtain ⟨e1, e2, e3⟩ := gtl_end T8 zeroR none 0 0
      exact bodyPost_ret (ret_rec rfl _ _ _ zeroR none 0 0 rfl e3) rfl ⟨_, _, _, _, _, hF.out, rfl, OwnI.nil _ _, e1⟩
    | false =>
      have q : (a3 != (s.size : Int)) = true := by simpa using hE
      clear hE
      go_wp2_with (refine store_rec (r := zeroR) (A := none) (n := 0) (c := 0) rfl _ _ rfl _ rfl rfl T8.res rfl ?_)
      obtain ⟨e1, e2, e3⟩ := gtl_end T8 zeroR none 0 0
      exact bodyPost_ret (ret_rec rfl _ _ _ zeroR none 0 0 rfl e3) rfl ⟨_, _, _, _, _, hF.out, rfl, OwnI.nil _ _, e1⟩

set_option maxRecDepth 100000 in
set_option maxHeartbeats 1000000 in
theorem rget_5 (s : ByteArray) (w : World) (hs : s.size ≤ maxLen) {a0 a1 x1 : Int} {b0 b1 : Bool} (h0 : nextR s.data.toList 0 false = (5, a0, b0)) (h1 : nextR s.data.toList a0 b0 = (x1, a1, b1)) :
    Calls Try.prog 9 #[.string s] w (GetO (finR s.data.toList ⟨5, 0, 0, 0, 0, 0, false, [], 0, 0, 0, x1⟩ a1 b1) w) := by
  have N0 := Lib.hid (fun (w : World) (g : Nat) h => rnum_any g s _ _ _ _ _ w h hs h0)
  have N1 := Lib.hid (fun (w : World) (g : Nat) h => rnum_any g s _ _ _ _ _ w h hs h1)
  clear h0 h1
  have S0 := GtS.made 64 w s
  go_enter Try.func9, Try.ntmps9
  go_wp2_with fail
  refine (N0.out _ _ S0.rd).mono ?_; rintro e w1 ⟨rfl, r1, o1⟩
  have S1 := S0.next r1 o1
  clear S0 r1 o1
  have hz1 := S1.size
  go_wp2_with fail
  have T1 : GtL _ w s _ _ (recC ⟨5, 0, 0, 0, 0, 0, false, [], 0, 0, 0, 0⟩ none 0 0) _ [] (w1.alloc (.cells #[.int .i64 5, .int .i64 0, .int .i64 0, .int .i64 0, .int .i64 0, .int .i64 0, .bool false, .slice none 0 0, .int .i64 0, .int .i64 0, .int .i64 0, .int .i64 0] 30)) := S1.with (recC ⟨5, 0, 0, 0, 0, 0, false, [], 0, 0, 0, 0⟩ none 0 0)
  refine (N1.out _ _ T1.rd).mono ?_; rintro e w2 ⟨rfl, r2, o2⟩
  have T2 := gtl_next T1 (by decide) r2 o2
  clear T1 r2 o2 S1 hz1
  have c11 : w2.cell? ⟨w.heap.size + 2, 11, none⟩ = some (.int .i64 0) := T2.x.cell 11
  have m11 := T2.x.mark 11
  go_upto_region 28 with fail
  have T2 : GtL _ w s _ _ (recC ⟨5, 0, 0, 0, 0, 0, false, [], 0, 0, 0, x1⟩ none 0 0) _ [] (w2.setCell ⟨w.heap.size + 2, 11, none⟩ (.int .i64 x1)) := gtl_set T2 11 (.int .i64 x1)
  generalize w2.setCell ⟨w.heap.size + 2, 11, none⟩ (.int .i64 x1) = wy1 at T2 ⊢
  clear c11 m11
  have T0 := T2
  clear T2 N0 N1
  generalize wy1 = wx at T0 ⊢
  by_cases hE : (!b1 && a1 == (s.size : Int)) = true
  · obtain ⟨eb, ea⟩ : b1 = false ∧ a1 = (s.size : Int) := by simpa using hE
    have q : (a1 != (s.size : Int)) = false := by simpa using ea
    by_cases hM : mayR ⟨5, 0, 0, 0, 0, 0, false, [], 0, 0, 0, x1⟩ = true
    · skip
      have hF := Lib.hid (finR_yes (l := s.data.toList) (a := a1) (by simpa using ea) hM)
      have HM := Lib.hid (fun (w : World) h => rmay_any ⟨5, 0, 0, 0, 0, 0, false, [], 0, 0, 0, x1⟩ none 0 0 true hM w h)
      have c1 : wx.cell? ⟨w.heap.size + 1, 1, none⟩ = some (.int .i64 a1) := T0.rd.cell 1
      have c2 : wx.cell? ⟨w.heap.size + 1, 2, none⟩ = some (.bool b1) := T0.rd.cell 2
      clear hE ea hM
      subst eb
      go_wp2_with (first
        | (refine load_rec rfl _ rfl _ rfl T0.x ?_)
        | (go_at_call 14; refine (HM.out _ T0.own.ints).mono ?_; rintro e w8 ⟨rfl, b8⟩; have T8 := gtl_below T0 b8; clear T0 b8 c1 c2)
        | (refine load_rec rfl _ rfl _ rfl T8.x ?_)
        | (refine store_rec (r := ⟨5, 0, 0, 0, 0, 0, false, [], 0, 0, 0, x1⟩) (A := none) (n := 0) (c := 0) rfl _ _ rfl _ rfl rfl T8.res rfl ?_))
      obtain ⟨e1, e2, e3⟩ := gtl_end T8 ⟨5, 0, 0, 0, 0, 0, false, [], 0, 0, 0, x1⟩ none 0 0
      exact bodyPost_ret (ret_rec rfl _ _ _ ⟨5, 0, 0, 0, 0, 0, false, [], 0, 0, 0, x1⟩ none 0 0 rfl e3) rfl ⟨_, _, _, _, _, hF.out, rfl, e2, e1⟩
    · have hM : mayR ⟨5, 0, 0, 0, 0, 0, false, [], 0, 0, 0, x1⟩ = false := by simpa using hM
      have hF := Lib.hid (finR_not (l := s.data.toList) (a := a1) (b := b1) hM)
      have HM := Lib.hid (fun (w : World) h => rmay_any ⟨5, 0, 0, 0, 0, 0, false, [], 0, 0, 0, x1⟩ none 0 0 false hM w h)
      have c1 : wx.cell? ⟨w.heap.size + 1, 1, none⟩ = some (.int .i64 a1) := T0.rd.cell 1
      have c2 : wx.cell? ⟨w.heap.size + 1, 2, none⟩ = some (.bool b1) := T0.rd.cell 2
      clear hE ea hM
      subst eb
      go_wp2_with (first
        | (refine load_rec rfl _ rfl _ rfl T0.x ?_)
        | (go_at_call 14; refine (HM.out _ T0.own.ints).mono ?_; rintro e w8 ⟨rfl, b8⟩; have T8 := gtl_below T0 b8; clear T0 b8 c1 c2)
        | (refine store_rec (r := zeroR) (A := none) (n := 0) (c := 0) rfl _ _ rfl _ rfl rfl T8.res rfl ?_))
      obtain ⟨e1, e2, e3⟩ := gtl_end T8 zeroR none 0 0
      exact bodyPost_ret (ret_rec rfl _ _ _ zeroR none 0 0 rfl e3) rfl ⟨_, _, _, _, _, hF.out, rfl, OwnI.nil _ _, e1⟩
  · have hE : (!b1 && a1 == (s.size : Int)) = false := by simpa using hE
    have hF := Lib.hid (finR_end ⟨5, 0, 0, 0, 0, 0, false, [], 0, 0, 0, x1⟩ hE)
    have c1 : wx.cell? ⟨w.heap.size + 1, 1, none⟩ = some (.int .i64 a1) := T0.rd.cell 1
    have c2 : wx.cell? ⟨w.heap.size + 1, 2, none⟩ = some (.bool b1) := T0.rd.cell 2
    have T8 := T0
    clear T0
    cases b1 with
    | true =>
      clear hE
      go_wp2_with (refine store_rec (r := zeroR) (A := none) (n := 0) (c := 0) rfl _ _ rfl _ rfl rfl T8.res rfl ?_)
      obtain ⟨e1, e2, e3⟩ := gtl_end T8 zeroR none 0 0
      exact bodyPost_ret (ret_rec rfl _ _ _ zeroR none 0 0 rfl e3) rfl ⟨_, _, _, _, _, hF.out, rfl, OwnI.nil _ _, e1⟩
    | false =>
      have q : (a1 != (s.size : Int)) = true := by simpa using hE
      clear hE
      go_wp2_with (refine store_rec (r := zeroR) (A := none) (n := 0) (c := 0) rfl _ _ rfl _ rfl rfl T8.res rfl ?_)
      obtain ⟨e1, e2, e3⟩ := gtl_end T8 zeroR none 0 0
      exact bodyPost_ret (ret_rec rfl _ _ _ zeroR none 0 0 rfl e3) rfl ⟨_, _, _, _, _, hF.out, rfl, OwnI.nil _ _, e1⟩

set_option maxRecDepth 100000 in
set_option maxHeartbeats 1000000 in
theorem rget_n (s : ByteArray) (w : World) (hs : s.size ≤ maxLen) {a0 kd : Int} {b0 : Bool} (h0 : nextR s.data.toList 0 false = (kd, a0, b0)) (n0 : kd ≠ 0) (n1 : kd ≠ 1) (n2 : kd ≠ 2) (n3 : kd ≠ 3) (n5 : kd ≠ 5) :
    Calls Try.prog 9 #[.string s] w (GetO (finR s.data.toList ⟨kd, 0, 0, 0, 0, 0, false, [], 0, 0, 0, 0⟩ a0 b0) w) := by
  have N0 := Lib.hid (fun (w : World) (g : Nat) h => rnum_any g s _ _ _ _ _ w h hs h0)
  clear h0
  have q0 : (kd == 0) = false := by simpa using n0
  have q1 : (kd == 1) = false := by simpa using n1
  have q2 : (kd == 2) = false := by simpa using n2
  have q3 : (kd == 3) = false := by simpa using n3
  have q5 : (kd == 5) = false := by simpa using n5
  clear n0 n1 n2 n3 n5
  have S0 := GtS.made 64 w s
  go_enter Try.func9, Try.ntmps9
  go_wp2_with fail
  refine (N0.out _ _ S0.rd).mono ?_; rintro e w1 ⟨rfl, r1, o1⟩
  have S1 := S0.next r1 o1
  clear S0 r1 o1
  have hz1 := S1.size
  go_upto_region 28 with fail
  have T1 : GtL _ w s _ _ (recC ⟨kd, 0, 0, 0, 0, 0, false, [], 0, 0, 0, 0⟩ none 0 0) _ [] (w1.alloc (.cells #[.int .i64 kd, .int .i64 0, .int .i64 0, .int .i64 0, .int .i64 0, .int .i64 0, .bool false, .slice none 0 0, .int .i64 0, .int .i64 0, .int .i64 0, .int .i64 0] 30)) := S1.with (recC ⟨kd, 0, 0, 0, 0, 0, false, [], 0, 0, 0, 0⟩ none 0 0)
  generalize w1.alloc (.cells #[.int .i64 kd, .int .i64 0, .int .i64 0, .int .i64 0, .int .i64 0, .int .i64 0, .bool false, .slice none 0 0, .int .i64 0, .int .i64 0, .int .i64 0, .int .i64 0] 30) = wx at T1 ⊢
  have T0 := T1
  clear T1 S1 hz1 N0
  by_cases hE : (!b0 && a0 == (s.size : Int)) = true
  · obtain ⟨eb, ea⟩ : b0 = false ∧ a0 = (s.size : Int) := by simpa using hE
    have q : (a0 != (s.size : Int)) = false := by simpa using ea
    by_cases hM : mayR ⟨kd, 0, 0, 0, 0, 0, false, [], 0, 0, 0, 0⟩ = true
    · skip
      have hF := Lib.hid (finR_yes (l := s.data.toList) (a := a0) (by simpa using ea) hM)
      have HM := Lib.hid (fun (w : World) h => rmay_any ⟨kd, 0, 0, 0, 0, 0, false, [], 0, 0, 0, 0⟩ none 0 0 true hM w h)
      have c1 : wx.cell? ⟨w.heap.size + 1, 1, none⟩ = some (.int .i64 a0) := T0.rd.cell 1
      have c2 : wx.cell? ⟨w.heap.size + 1, 2, none⟩ = some (.bool b0) := T0.rd.cell 2
      clear hE ea hM
      subst eb
      go_wp2_with (first
        | (refine load_rec rfl _ rfl _ rfl T0.x ?_)
        | (go_at_call 14; refine (HM.out _ T0.own.ints).mono ?_; rintro e w8 ⟨rfl, b8⟩; have T8 := gtl_below T0 b8; clear T0 b8 c1 c2)
        | (refine load_rec rfl _ rfl _ rfl T8.x ?_)
        | (refine store_rec (r := ⟨kd, 0, 0, 0, 0, 0, false, [], 0, 0, 0, 0⟩) (A := none) (n := 0) (c := 0) rfl _ _ rfl _ rfl rfl T8.res rfl ?_))
      obtain ⟨e1, e2, e3⟩ := gtl_end T8 ⟨kd, 0, 0, 0, 0, 0, false, [], 0, 0, 0, 0⟩ none 0 0
      exact bodyPost_ret (ret_rec rfl _ _ _ ⟨kd, 0, 0, 0, 0, 0, false, [], 0, 0, 0, 0⟩ none 0 0 rfl e3) rfl ⟨_, _, _, _, _, hF.out, rfl, e2, e1⟩
    · have hM : mayR ⟨kd, 0, 0, 0, 0, 0, false, [], 0, 0, 0, 0⟩ = false := by simpa using hM
      have hF := Lib.hid (finR_not (l := s.data.toList) (a := a0) (b := b0) hM)
      have HM := Lib.hid (fun (w : World) h => rmay_any ⟨kd, 0, 0, 0, 0, 0, false, [], 0, 0, 0, 0⟩ none 0 0 false hM w h)
      have c1 : wx.cell? ⟨w.heap.size + 1, 1, none⟩ = some (.int .i64 a0) := T0.rd.cell 1
      have c2 : wx.cell? ⟨w.heap.size + 1, 2, none⟩ = some (.bool b0) := T0.rd.cell 2
      clear hE ea hM
      subst eb
      go_wp2_with (first
        | (refine load_rec rfl _ rfl _ rfl T0.x ?_)
        | (go_at_call 14; refine (HM.out _ T0.own.ints).mono ?_; rintro e w8 ⟨rfl, b8⟩; have T8 := gtl_below T0 b8; clear T0 b8 c1 c2)
        | (refine store_rec (r := zeroR) (A := none) (n := 0) (c := 0) rfl _ _ rfl _ rfl rfl T8.res rfl ?_))
      obtain ⟨e1, e2, e3⟩ := gtl_end T8 zeroR none 0 0
      exact bodyPost_ret (ret_rec rfl _ _ _ zeroR none 0 0 rfl e3) rfl ⟨_, _, _, _, _, hF.out, rfl, OwnI.nil _ _, e1⟩
  · have hE : (!b0 && a0 == (s.size : Int)) = false := by simpa using hE
    have hF := Lib.hid (finR_end ⟨kd, 0, 0, 0, 0, 0, false, [], 0, 0, 0, 0⟩ hE)
    have c1 : wx.cell? ⟨w.heap.size + 1, 1, none⟩ = some (.int .i64 a0) := T0.rd.cell 1
    have c2 : wx.cell? ⟨w.heap.size + 1, 2, none⟩ = some (.bool b0) := T0.rd.cell 2
    have T8 := T0
    clear T0
    cases b0 with
    | true =>
      clear hE
      go_wp2_with (refine store_rec (r := zeroR) (A := none) (n := 0) (c := 0) rfl _ _ rfl _ rfl rfl T8.res rfl ?_)
      obtain ⟨e1, e2, e3⟩ := gtl_end T8 zeroR none 0 0
      exact bodyPost_ret (ret_rec rfl _ _ _ zeroR none 0 0 rfl e3) rfl ⟨_, _, _, _, _, hF.out, rfl, OwnI.nil _ _, e1⟩
    | false =>
      have q : (a0 != (s.size : Int)) = true := by simpa using hE
      clear hE
      go_wp2_with (refine store_rec (r := zeroR) (A := none) (n := 0) (c := 0) rfl _ _ rfl _ rfl rfl T8.res rfl ?_)
      obtain ⟨e1, e2, e3⟩ := gtl_end T8 zeroR none 0 0
      exact bodyPost_ret (ret_rec rfl _ _ _ zeroR none 0 0 rfl e3) rfl ⟨_, _, _, _, _, hF.out, rfl, OwnI.nil _ _, e1⟩


end Go.Proofs.Ytdbcmcdmipehgaa
