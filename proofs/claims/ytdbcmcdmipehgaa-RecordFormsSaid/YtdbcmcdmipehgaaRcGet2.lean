/-
  Walk: record.Get, of results; of any bytes (written by gen/rcget.py).
-/
import Derived.Test.YtdbcmcdmipehgaaRcGet
namespace Go.Proofs.Ytdbcmcdmipehgaa
open Go.RowKit


set_option maxRecDepth 100000 in
set_option maxHeartbeats 1000000 in
theorem get_0 (s : ByteArray) (w : World) (hs : s.size ≤ maxLen) {a0 a1 a2 a3 a4 a5 a6 a7 x1 x2 x3 x4 x5 x6 x7 : Int} {b0 b1 b2 b3 b4 b5 b6 b7 : Bool} (h0 : nextR s.data.toList 0 false = (0, a0, b0)) (h1 : nextR s.data.toList a0 b0 = (x1, a1, b1)) (h2 : nextR s.data.toList a1 b1 = (x2, a2, b2)) (h3 : nextR s.data.toList a2 b2 = (x3, a3, b3)) (h4 : nextR s.data.toList a3 b3 = (x4, a4, b4)) (h5 : nextR s.data.toList a4 b4 = (x5, a5, b5)) (h6 : nextR s.data.toList a5 b5 = (x6, a6, b6)) (h7 : nextR s.data.toList a6 b6 = (x7, a7, b7)) (hf : FormX x6 x7) {m : Nat} (hm : x7 = (m : Int)) {xs : List Int} {a8 : Int} {b8 : Bool} (h8 : readN s.data.toList m a7 b7 = (xs, a8, b8)) {ov : Bool} (hov : decide (x6 = 1) = ov) :
    Calls Try.prog 8 #[.string s] w (GetO (finR s.data.toList ⟨0, x1, x2, x3, x4, x5, ov, xs, 0, 0, 0, 0⟩ a8 b8) w) := by
  have N0 := Lib.hid (fun (w : World) (g : Nat) h => next_any g s _ _ _ _ _ w h hs h0)
  have NX := Lib.hid (fun (w : World) (g : Nat) h => nextres_ok g s w hs h1 h2 h3 h4 h5 h6 h7 hf hm h8 hov h)
  clear h0 h1 h2 h3 h4 h5 h6 h7 h8 hf hm hov
  have S0 := GtS.made 74 w s
  go_enter Try.func8, Try.ntmps8
  go_wp2_with (go_at_call 20; refine (read_any _ _).mono ?_; rintro e w' ⟨rfl, rfl⟩)
  refine (N0.out _ _ S0.rd).mono ?_; rintro e w1 ⟨rfl, r1, o1⟩
  have S1 := S0.next r1 o1
  clear S0 r1 o1
  have hz1 := S1.size
  go_wp2_with fail
  have T1 : GtL _ w s _ _ (recC ⟨0, 0, 0, 0, 0, 0, false, [], 0, 0, 0, 0⟩ none 0 0) _ [] (w1.alloc (.cells #[.int .i64 0, .int .i64 0, .int .i64 0, .int .i64 0, .int .i64 0, .int .i64 0, .bool false, .slice none 0 0, .int .i64 0, .int .i64 0, .int .i64 0, .int .i64 0] 30)) := S1.with (recC ⟨0, 0, 0, 0, 0, 0, false, [], 0, 0, 0, 0⟩ none 0 0)
  refine (NX.out _ _ T1.rd).mono ?_; rintro e w2 ⟨A, c, rfl, hown, hrd, hbut⟩
  have T2 := gtl_jump T1 hbut hrd hown
  clear T1 S1 hz1 hown hrd hbut N0 NX
  go_wp2_with (refine store_resM rfl _ _ rfl _ rfl rfl T2.x ?_; intro wx hwx)
  have T0 : GtL 74 w s a8 b8 (recC ⟨0, x1, x2, x3, x4, x5, ov, xs, 0, 0, 0, 0⟩ A m c) (.slice A m c) xs wx := by rw [hwx.out]; exact resC_in 0 x1 x2 x3 x4 x5 ov A m c T2 (by omega) (by decide) (by omega) (by omega)
  clear T2 hwx
  by_cases hE : (!b8 && a8 == (s.size : Int)) = true
  · obtain ⟨eb, ea⟩ : b8 = false ∧ a8 = (s.size : Int) := by simpa using hE
    by_cases hM : mayR ⟨0, x1, x2, x3, x4, x5, ov, xs, 0, 0, 0, 0⟩ = true
    · skip
      refine (atEnd_any _ s _ _ true wx.heap.size wx T0.rd hE).mono ?_; rintro e w7 ⟨rfl, o7⟩
      have T7 := gtl_still T0 o7
      have hF := Lib.hid (finR_yes (l := s.data.toList) (a := a8) (by simpa using ea) hM)
      have HM := Lib.hid (fun (w : World) h => may_any ⟨0, x1, x2, x3, x4, x5, ov, xs, 0, 0, 0, 0⟩ A m c true hM w h)
      clear T0 o7 hE ea hM
      subst eb
      go_wp2_with (first
        | (refine load_rec rfl _ rfl _ rfl T7.x ?_)
        | (go_at_call 13; refine (HM.out _ T7.own.ints).mono ?_; rintro e w8 ⟨rfl, b8⟩; have T8 := gtl_below T7 b8; clear T7 b8)
        | (refine load_rec rfl _ rfl _ rfl T8.x ?_)
        | (refine store_rec (r := ⟨0, x1, x2, x3, x4, x5, ov, xs, 0, 0, 0, 0⟩) (A := A) (n := m) (c := c) rfl _ _ rfl _ rfl rfl T8.res rfl ?_))
      obtain ⟨e1, e2, e3⟩ := gtl_end T8 ⟨0, x1, x2, x3, x4, x5, ov, xs, 0, 0, 0, 0⟩ A m c
      exact bodyPost_ret (ret_rec rfl _ _ _ ⟨0, x1, x2, x3, x4, x5, ov, xs, 0, 0, 0, 0⟩ A m c rfl e3) rfl ⟨_, _, _, _, _, hF.out, rfl, e2, e1⟩
    · have hM : mayR ⟨0, x1, x2, x3, x4, x5, ov, xs, 0, 0, 0, 0⟩ = false := by simpa using hM
      refine (atEnd_any _ s _ _ true wx.heap.size wx T0.rd hE).mono ?_; rintro e w7 ⟨rfl, o7⟩
      have T7 := gtl_still T0 o7
      have hF := Lib.hid (finR_not (l := s.data.toList) (a := a8) (b := b8) hM)
      have HM := Lib.hid (fun (w : World) h => may_any ⟨0, x1, x2, x3, x4, x5, ov, xs, 0, 0, 0, 0⟩ A m c false hM w h)
      clear T0 o7 hE ea eb hM
      go_wp2_with (first
        | (refine load_rec rfl _ rfl _ rfl T7.x ?_)
        | (go_at_call 13; refine (HM.out _ T7.own.ints).mono ?_; rintro e w8 ⟨rfl, b8⟩; have T8 := gtl_below T7 b8; clear T7 b8)
        | (refine store_rec (r := zeroR) (A := none) (n := 0) (c := 0) rfl _ _ rfl _ rfl rfl T8.res rfl ?_))
      obtain ⟨e1, e2, e3⟩ := gtl_end T8 zeroR none 0 0
      exact bodyPost_ret (ret_rec rfl _ _ _ zeroR none 0 0 rfl e3) rfl ⟨_, _, _, _, _, hF.out, rfl, OwnI.nil _ _, e1⟩
  · have hE : (!b8 && a8 == (s.size : Int)) = false := by simpa using hE
    have hF := Lib.hid (finR_end ⟨0, x1, x2, x3, x4, x5, ov, xs, 0, 0, 0, 0⟩ hE)
    refine (atEnd_any _ s _ _ false wx.heap.size wx T0.rd hE).mono ?_; rintro e w7 ⟨rfl, o7⟩
    have T8 := gtl_still T0 o7
    clear T0 o7 hE
    go_wp2_with (refine store_rec (r := zeroR) (A := none) (n := 0) (c := 0) rfl _ _ rfl _ rfl rfl T8.res rfl ?_)
    obtain ⟨e1, e2, e3⟩ := gtl_end T8 zeroR none 0 0
    exact bodyPost_ret (ret_rec rfl _ _ _ zeroR none 0 0 rfl e3) rfl ⟨_, _, _, _, _, hF.out, rfl, OwnI.nil _ _, e1⟩

set_option maxRecDepth 100000 in
set_option maxHeartbeats 1000000 in
theorem get_0x (s : ByteArray) (w : World) (hs : s.size ≤ maxLen) {a0 a1 a2 a3 a4 a5 a6 a7 x1 x2 x3 x4 x5 x6 x7 : Int} {b0 b1 b2 b3 b4 b5 b6 b7 : Bool} (h0 : nextR s.data.toList 0 false = (0, a0, b0)) (h1 : nextR s.data.toList a0 b0 = (x1, a1, b1)) (h2 : nextR s.data.toList a1 b1 = (x2, a2, b2)) (h3 : nextR s.data.toList a2 b2 = (x3, a3, b3)) (h4 : nextR s.data.toList a3 b3 = (x4, a4, b4)) (h5 : nextR s.data.toList a4 b4 = (x5, a5, b5)) (h6 : nextR s.data.toList a5 b5 = (x6, a6, b6)) (h7 : nextR s.data.toList a6 b6 = (x7, a7, b7)) (hf : ¬ FormX x6 x7) :
    Calls Try.prog 8 #[.string s] w (GetO (zeroR, 1000) w) := by
  have N0 := Lib.hid (fun (w : World) (g : Nat) h => next_any g s _ _ _ _ _ w h hs h0)
  have NX := Lib.hid (fun (w : World) (g : Nat) h => nextres_bad g s w hs h1 h2 h3 h4 h5 h6 h7 hf h)
  clear h0 h1 h2 h3 h4 h5 h6 h7 hf
  have S0 := GtS.made 74 w s
  go_enter Try.func8, Try.ntmps8
  go_wp2_with (go_at_call 20; refine (read_any _ _).mono ?_; rintro e w' ⟨rfl, rfl⟩)
  refine (N0.out _ _ S0.rd).mono ?_; rintro e w1 ⟨rfl, r1, o1⟩
  have S1 := S0.next r1 o1
  clear S0 r1 o1
  have hz1 := S1.size
  go_wp2_with fail
  have T1 : GtL _ w s _ _ (recC ⟨0, 0, 0, 0, 0, 0, false, [], 0, 0, 0, 0⟩ none 0 0) _ [] (w1.alloc (.cells #[.int .i64 0, .int .i64 0, .int .i64 0, .int .i64 0, .int .i64 0, .int .i64 0, .bool false, .slice none 0 0, .int .i64 0, .int .i64 0, .int .i64 0, .int .i64 0] 30)) := S1.with (recC ⟨0, 0, 0, 0, 0, 0, false, [], 0, 0, 0, 0⟩ none 0 0)
  refine (NX.out _ _ T1.rd).mono ?_; rintro e w2 ⟨rfl, hrd, hbut⟩
  have T2 := gtl_jump T1 hbut hrd (OwnI.nil _ _)
  clear T1 S1 hz1 hrd hbut N0 NX
  go_wp2_with (first
    | (refine store_resM rfl _ _ rfl _ rfl rfl T2.x ?_; intro wx hwx; have T0 : GtL 74 w s a7 b7 (recC ⟨0, 0, 0, 0, 0, 0, false, [], 0, 0, 0, 0⟩ none 0 0) (.slice none 0 0) [] wx := (by rw [hwx.out]; exact resC_in 0 0 0 0 0 0 false none 0 0 T2 (by omega) (by decide) (by omega) (by omega)); clear T2 hwx)
    | (refine store_rec (r := zeroR) (A := none) (n := 0) (c := 0) rfl _ _ rfl _ rfl rfl T0.res rfl ?_))
  obtain ⟨e1, e2, e3⟩ := gtl_end T0 zeroR none 0 0
  exact bodyPost_ret (ret_rec rfl _ _ _ zeroR none 0 0 rfl e3) rfl ⟨_, _, _, _, _, rfl, rfl, OwnI.nil _ _, e1⟩

/-- record.Get, of any bytes. -/
theorem get_rec (s : ByteArray) (hs : s.size ≤ maxLen) (w : World) : Calls Try.prog 8 #[.string s] w (GetO (getR s.data.toList) w) := by
  obtain ⟨x0, a0, b0, h0⟩ : ∃ x a b, nextR s.data.toList 0 false = (x, a, b) := ⟨_, _, _, rfl⟩
  obtain ⟨x1, a1, b1, h1⟩ : ∃ x a b, nextR s.data.toList a0 b0 = (x, a, b) := ⟨_, _, _, rfl⟩
  by_cases e0 : x0 = 0
  · subst e0
    obtain ⟨x2, a2, b2, h2⟩ : ∃ x a b, nextR s.data.toList a1 b1 = (x, a, b) := ⟨_, _, _, rfl⟩
    obtain ⟨x3, a3, b3, h3⟩ : ∃ x a b, nextR s.data.toList a2 b2 = (x, a, b) := ⟨_, _, _, rfl⟩
    obtain ⟨x4, a4, b4, h4⟩ : ∃ x a b, nextR s.data.toList a3 b3 = (x, a, b) := ⟨_, _, _, rfl⟩
    obtain ⟨x5, a5, b5, h5⟩ : ∃ x a b, nextR s.data.toList a4 b4 = (x, a, b) := ⟨_, _, _, rfl⟩
    obtain ⟨x6, a6, b6, h6⟩ : ∃ x a b, nextR s.data.toList a5 b5 = (x, a, b) := ⟨_, _, _, rfl⟩
    obtain ⟨x7, a7, b7, h7⟩ : ∃ x a b, nextR s.data.toList a6 b6 = (x, a, b) := ⟨_, _, _, rfl⟩
    by_cases hf : FormX x6 x7
    · obtain ⟨xs, a8, b8, h8⟩ : ∃ x a b, readN s.data.toList x7.toNat a7 b7 = (x, a, b) := ⟨_, _, _, rfl⟩
      rw [getR_0 h0 h1 h2 h3 h4 h5 h6 h7 hf h8]
      exact get_0 s w hs h0 h1 h2 h3 h4 h5 h6 h7 hf (by unfold FormX at hf; omega) h8 rfl
    · rw [getR_0x h0 h1 h2 h3 h4 h5 h6 h7 hf]
      exact get_0x s w hs h0 h1 h2 h3 h4 h5 h6 h7 hf
  · by_cases e1 : x0 = 1 ∨ x0 = 2 ∨ x0 = 3
    · obtain ⟨x2, a2, b2, h2⟩ : ∃ x a b, nextR s.data.toList a1 b1 = (x, a, b) := ⟨_, _, _, rfl⟩
      obtain ⟨x3, a3, b3, h3⟩ : ∃ x a b, nextR s.data.toList a2 b2 = (x, a, b) := ⟨_, _, _, rfl⟩
      rw [getR_1 e1 h0 h1 h2 h3]
      rcases e1 with rfl | rfl | rfl
      · exact get_1 s w hs h0 h1 h2 h3
      · exact get_2 s w hs h0 h1 h2 h3
      · exact get_3 s w hs h0 h1 h2 h3
    · by_cases e5 : x0 = 5
      · subst e5
        rw [getR_5 h0 h1]
        exact get_5 s w hs h0 h1
      · rw [getR_n h0 e0 e1 e5]
        exact get_n s w hs h0 e0 (by omega) (by omega) (by omega) e5


end Go.Proofs.Ytdbcmcdmipehgaa
