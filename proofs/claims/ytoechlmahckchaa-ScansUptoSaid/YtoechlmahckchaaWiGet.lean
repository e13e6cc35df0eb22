/-
  Walks: wire.Get and the reference's GetOp (written by gen/wiget.py).
-/
import Derived.Test.YtoechlmahckchaaWiRd
import Derived.Test.YtoechlmahckchaaWiMay
import Derived.Test.YtoechlmahckchaaWiOp
namespace Go.Proofs.Ytoechlmahckchaa
open Go.RowKit

/-- Get's memory ahead of its operation, and with it (R: the reader's type). -/
structure GetS (R : TypeId) (w0 : World) (s : ByteArray) (a : Int) (b : Bool) (w : World) : Prop where
  old : Below w0.heap.size w0 w
  res : Has w w0.heap.size 49 #[.int .i64 0, .int .i64 0, .int .i64 0, .int .i64 0, .int .i64 0]
  rd : Has w (w0.heap.size + 1) R (rdC s a b)
  size : w.heap.size = w0.heap.size + 2
structure GetT (R : TypeId) (w0 : World) (s : ByteArray) (a : Int) (b : Bool) (cs : Array Value) (w : World) : Prop where
  old : Below w0.heap.size w0 w
  res : Has w w0.heap.size 49 #[.int .i64 0, .int .i64 0, .int .i64 0, .int .i64 0, .int .i64 0]
  rd : Has w (w0.heap.size + 1) R (rdC s a b)
  op : Has w (w0.heap.size + 2) 49 cs
  size : w0.heap.size + 3 ≤ w.heap.size
section
variable {R : TypeId} {w0 w w' : World} {s : ByteArray} {a a' : Int} {b b' : Bool} {cs : Array Value}
theorem GetS.next (h : GetS R w0 s a b w) (hr : Has w' (w0.heap.size + 1) R (rdC s a' b')) (ho : Only (w0.heap.size + 1) w w') : GetS R w0 s a' b' w' :=
  ⟨h.old.trans (ho.below (by omega)), ho.has h.res (by omega), hr, ho.size.trans h.size⟩
theorem GetT.next (h : GetT R w0 s a b cs w) (hr : Has w' (w0.heap.size + 1) R (rdC s a' b')) (ho : Only (w0.heap.size + 1) w w') : GetT R w0 s a' b' cs w' :=
  ⟨h.old.trans (ho.below (by omega)), ho.has h.res (by omega), hr, ho.has h.op (by omega), by have := ho.size; have := h.size; omega⟩
theorem GetT.still (h : GetT R w0 s a b cs w) (ho : Only w.heap.size w w') : GetT R w0 s a b cs w' :=
  have := h.size
  ⟨h.old.trans (ho.below (by omega)), ho.has h.res (by omega), ho.has h.rd (by omega), ho.has h.op (by omega), by have := ho.size; omega⟩
theorem GetT.below (h : GetT R w0 s a b cs w) (hb : Below w.heap.size w w') : GetT R w0 s a b cs w' :=
  have := h.size
  ⟨h.old.trans (hb.mono (by omega)), h.res.below hb (by omega), h.rd.below hb (by omega), h.op.below hb (by omega), Nat.le_trans h.size hb.size⟩
theorem GetS.made (R : TypeId) (w0 : World) (s : ByteArray) : GetS R w0 s 0 false ((w0.alloc (.cells #[.int .i64 0, .int .i64 0, .int .i64 0, .int .i64 0, .int .i64 0] 49)).alloc (.cells (rdC s 0 false) R)) :=
  ⟨((Below.refl _ _).alloc (Nat.le_refl _) _).alloc (by simp) _, (Has.made w0 _ _).alloc _, by simpa using Has.made (w0.alloc (.cells #[.int .i64 0, .int .i64 0, .int .i64 0, .int .i64 0, .int .i64 0] 49)) R (rdC s 0 false), by simp⟩
theorem GetS.op (h : GetS R w0 s a b w) (cs : Array Value) : GetT R w0 s a b cs (w.alloc (.cells cs 49)) :=
  ⟨h.old.alloc h.old.size _, h.res.alloc _, h.rd.alloc _, h.size ▸ Has.made w _ _, by simp [h.size]⟩
theorem GetT.set (h : GetT R w0 s a b cs w) (i : Nat) (v : Value) : GetT R w0 s a b (cs.setIfInBounds i v) (w.setCell ⟨w0.heap.size + 2, i, none⟩ v) :=
  ⟨h.old.setCell (by simp <;> omega) _, h.res.putFar (by simp) _, h.rd.putFar (by simp) _, h.op.put _ _, by have := h.size; simpa [World.setCell] using this⟩
end

theorem finO_end {s : ByteArray} {a : Int} {b : Bool} (kd so se ti va : Int) (h : (!b && a == (s.size : Int)) = false) : finO s.data.toList kd so se ti va a b = ((0, 0, 0, 0, 0), 900) := by
  cases b with
  | true => exact finO_bad _ _ _ _ _ _ _
  | false =>
    have h2 : a ≠ (s.data.toList.length : Int) := by
      have : (s.data.toList.length : Int) = (s.size : Int) := by simp
      rw [this]
      simpa using h
    exact finO_far h2

set_option maxRecDepth 100000 in
set_option maxHeartbeats 1000000 in
theorem get_0 (s : ByteArray) (w : World) (hs : s.size ≤ maxLen) {a0 a1 a2 a3 a4 so se ti va : Int} {b0 b1 b2 b3 b4 : Bool} (h0 : nextR s.data.toList 0 false = (0, a0, b0)) (h1 : nextR s.data.toList a0 b0 = (so, a1, b1)) (h2 : nextR s.data.toList a1 b1 = (se, a2, b2)) (h3 : nextR s.data.toList a2 b2 = (ti, a3, b3)) (h4 : nextR s.data.toList a3 b3 = (va, a4, b4)) :
    Calls Try.prog 48 #[.string s] w fun e w' => ∃ k1 k2 k3 k4 k5 z, finO s.data.toList 0 so se ti va a4 b4 = ((k1, k2, k3, k4, k5), z) ∧ e = .returned (.tuple #[.agg #[.int .i64 k1, .int .i64 k2, .int .i64 k3, .int .i64 k4, .int .i64 k5], .int .i64 z]) ∧ Below w.heap.size w w' := by
  have N0 := Lib.hid (fun (w : World) (g : Nat) h => next_any g s _ _ _ _ _ w h hs h0)
  have N1 := Lib.hid (fun (w : World) (g : Nat) h => next_any g s _ _ _ _ _ w h hs h1)
  have N2 := Lib.hid (fun (w : World) (g : Nat) h => next_any g s _ _ _ _ _ w h hs h2)
  have N3 := Lib.hid (fun (w : World) (g : Nat) h => next_any g s _ _ _ _ _ w h hs h3)
  have N4 := Lib.hid (fun (w : World) (g : Nat) h => next_any g s _ _ _ _ _ w h hs h4)
  clear h0 h1 h2 h3 h4
  go_enter Try.func48, Try.ntmps48
  go_wp2_with (go_at_call 56; refine (read_any _ _).mono ?_; rintro e w' ⟨rfl, rfl⟩)
  have S0 := GetS.made 102 w s
  refine (N0.out _ _ S0.rd).mono ?_; rintro e w1 ⟨rfl, r1, o1⟩
  have S1 := S0.next r1 o1
  clear S0 r1 o1
  have hz1 := S1.size
  go_wp2_with fail
  have T1 := S1.op #[.int .i64 0, .int .i64 0, .int .i64 0, .int .i64 0, .int .i64 0]
  refine (N1.out _ _ T1.rd).mono ?_; rintro e w2 ⟨rfl, r2, o2⟩
  have T2 := T1.next r2 o2
  clear T1 r2 o2 S1 hz1
  go_wp2_with fail
  refine (N2.out _ _ T2.rd).mono ?_; rintro e w3 ⟨rfl, r3, o3⟩
  have T3 := T2.next r3 o3
  clear T2 r3 o3
  go_wp2_with fail
  refine (N3.out _ _ T3.rd).mono ?_; rintro e w4 ⟨rfl, r4, o4⟩
  have T4 := T3.next r4 o4
  clear T3 r4 o4
  go_wp2_with fail
  refine (N4.out _ _ T4.rd).mono ?_; rintro e w5 ⟨rfl, r5, o5⟩
  have T5 := T4.next r5 o5
  clear T4 r5 o5
  have c1 : w5.cell? ⟨w.heap.size + 2, 1, none⟩ = some (.int .i64 0) := T5.op.cell 1
  have m1 := T5.op.mark 1
  have c2 : w5.cell? ⟨w.heap.size + 2, 2, none⟩ = some (.int .i64 0) := T5.op.cell 2
  have m2 := T5.op.mark 2
  have c3 : w5.cell? ⟨w.heap.size + 2, 3, none⟩ = some (.int .i64 0) := T5.op.cell 3
  have m3 := T5.op.mark 3
  have c4 : w5.cell? ⟨w.heap.size + 2, 4, none⟩ = some (.int .i64 0) := T5.op.cell 4
  have m4 := T5.op.mark 4
  go_wp2_with fail
  have T0 : GetT _ w s _ _ #[.int .i64 0, .int .i64 so, .int .i64 se, .int .i64 ti, .int .i64 va] ((((w5.setCell ⟨w.heap.size + 2, 1, none⟩ (.int .i64 so)).setCell ⟨w.heap.size + 2, 2, none⟩ (.int .i64 se)).setCell ⟨w.heap.size + 2, 3, none⟩ (.int .i64 ti)).setCell ⟨w.heap.size + 2, 4, none⟩ (.int .i64 va)) := ((((T5.set 1 (.int .i64 so)).set 2 (.int .i64 se)).set 3 (.int .i64 ti)).set 4 (.int .i64 va))
  generalize ((((w5.setCell ⟨w.heap.size + 2, 1, none⟩ (.int .i64 so)).setCell ⟨w.heap.size + 2, 2, none⟩ (.int .i64 se)).setCell ⟨w.heap.size + 2, 3, none⟩ (.int .i64 ti)).setCell ⟨w.heap.size + 2, 4, none⟩ (.int .i64 va)) = wx at T0 ⊢
  clear T5 c1 m1 c2 m2 c3 m3 c4 m4 N0 N1 N2 N3 N4
  by_cases hE : (!b4 && a4 == (s.size : Int)) = true
  · obtain ⟨eb, ea⟩ : b4 = false ∧ a4 = (s.size : Int) := by simpa using hE
    by_cases hM : mayB 0 so se ti va = true
    · refine (atEnd_any _ s _ _ true wx.heap.size wx T0.rd hE).mono ?_; rintro e w7 ⟨rfl, o7⟩
      have T7 := T0.still o7
      have hF := Lib.hid (finO_yes (l := s.data.toList) (a := a4) (by simpa using ea) hM)
      have HM := Lib.hid (fun w : World => may_any 0 so se ti va true hM w)
      clear T0 o7 hE ea hM
      subst eb
      go_wp2_with (first
        | (refine load_op rfl _ rfl _ rfl T7.op ?_)
        | (go_at_call 41; refine (HM.out _).mono ?_; rintro e w8 ⟨rfl, b8⟩; have T8 := T7.below b8; clear T7 b8)
        | (refine load_op rfl _ rfl _ rfl T8.op ?_)
        | (refine store_op rfl _ _ rfl _ rfl rfl T8.res rfl ?_))
      refine bodyPost_ret (ret_op rfl _ _ _ 0 so se ti va rfl (T8.res.row _)) rfl ?_
      exact ⟨_, _, _, _, _, _, hF.out, rfl, below_row T8.old (Nat.le_refl _) _⟩
    · have hM : mayB 0 so se ti va = false := by simpa using hM
      refine (atEnd_any _ s _ _ true wx.heap.size wx T0.rd hE).mono ?_; rintro e w7 ⟨rfl, o7⟩
      have T7 := T0.still o7
      have hF := Lib.hid (finO_not (l := s.data.toList) (a := a4) (b := b4) hM)
      have HM := Lib.hid (fun w : World => may_any 0 so se ti va false hM w)
      clear T0 o7 hE ea eb hM
      go_wp2_with (first
        | (refine load_op rfl _ rfl _ rfl T7.op ?_)
        | (go_at_call 41; refine (HM.out _).mono ?_; rintro e w8 ⟨rfl, b8⟩; have T8 := T7.below b8; clear T7 b8)
        | (refine store_op rfl _ _ rfl _ rfl rfl T8.res rfl ?_))
      refine bodyPost_ret (ret_op rfl _ _ _ 0 0 0 0 0 rfl (T8.res.row _)) rfl ?_
      exact ⟨_, _, _, _, _, _, hF.out, rfl, below_row T8.old (Nat.le_refl _) _⟩
  · have hE : (!b4 && a4 == (s.size : Int)) = false := by simpa using hE
    have hF := Lib.hid (finO_end 0 so se ti va hE)
    refine (atEnd_any _ s _ _ false wx.heap.size wx T0.rd hE).mono ?_; rintro e w7 ⟨rfl, o7⟩
    have T8 := T0.still o7
    clear T0 o7 hE
    go_wp2_with (refine store_op rfl _ _ rfl _ rfl rfl T8.res rfl ?_)
    refine bodyPost_ret (ret_op rfl _ _ _ 0 0 0 0 0 rfl (T8.res.row _)) rfl ?_
    exact ⟨_, _, _, _, _, _, hF.out, rfl, below_row T8.old (Nat.le_refl _) _⟩

set_option maxRecDepth 100000 in
set_option maxHeartbeats 1000000 in
theorem get_1 (s : ByteArray) (w : World) (hs : s.size ≤ maxLen) {a0 a1 a2 so ti : Int} {b0 b1 b2 : Bool} (h0 : nextR s.data.toList 0 false = (1, a0, b0)) (h1 : nextR s.data.toList a0 b0 = (so, a1, b1)) (h2 : nextR s.data.toList a1 b1 = (ti, a2, b2)) :
    Calls Try.prog 48 #[.string s] w fun e w' => ∃ k1 k2 k3 k4 k5 z, finO s.data.toList 1 so 0 ti 0 a2 b2 = ((k1, k2, k3, k4, k5), z) ∧ e = .returned (.tuple #[.agg #[.int .i64 k1, .int .i64 k2, .int .i64 k3, .int .i64 k4, .int .i64 k5], .int .i64 z]) ∧ Below w.heap.size w w' := by
  have N0 := Lib.hid (fun (w : World) (g : Nat) h => next_any g s _ _ _ _ _ w h hs h0)
  have N1 := Lib.hid (fun (w : World) (g : Nat) h => next_any g s _ _ _ _ _ w h hs h1)
  have N2 := Lib.hid (fun (w : World) (g : Nat) h => next_any g s _ _ _ _ _ w h hs h2)
  clear h0 h1 h2
  go_enter Try.func48, Try.ntmps48
  go_wp2_with (go_at_call 56; refine (read_any _ _).mono ?_; rintro e w' ⟨rfl, rfl⟩)
  have S0 := GetS.made 102 w s
  refine (N0.out _ _ S0.rd).mono ?_; rintro e w1 ⟨rfl, r1, o1⟩
  have S1 := S0.next r1 o1
  clear S0 r1 o1
  have hz1 := S1.size
  go_wp2_with fail
  have T1 := S1.op #[.int .i64 1, .int .i64 0, .int .i64 0, .int .i64 0, .int .i64 0]
  refine (N1.out _ _ T1.rd).mono ?_; rintro e w2 ⟨rfl, r2, o2⟩
  have T2 := T1.next r2 o2
  clear T1 r2 o2 S1 hz1
  go_wp2_with fail
  refine (N2.out _ _ T2.rd).mono ?_; rintro e w3 ⟨rfl, r3, o3⟩
  have T3 := T2.next r3 o3
  clear T2 r3 o3
  have c1 : w3.cell? ⟨w.heap.size + 2, 1, none⟩ = some (.int .i64 0) := T3.op.cell 1
  have m1 := T3.op.mark 1
  have c3 : w3.cell? ⟨w.heap.size + 2, 3, none⟩ = some (.int .i64 0) := T3.op.cell 3
  have m3 := T3.op.mark 3
  go_wp2_with fail
  have T0 : GetT _ w s _ _ #[.int .i64 1, .int .i64 so, .int .i64 0, .int .i64 ti, .int .i64 0] ((w3.setCell ⟨w.heap.size + 2, 1, none⟩ (.int .i64 so)).setCell ⟨w.heap.size + 2, 3, none⟩ (.int .i64 ti)) := ((T3.set 1 (.int .i64 so)).set 3 (.int .i64 ti))
  generalize ((w3.setCell ⟨w.heap.size + 2, 1, none⟩ (.int .i64 so)).setCell ⟨w.heap.size + 2, 3, none⟩ (.int .i64 ti)) = wx at T0 ⊢
  clear T3 c1 m1 c3 m3 N0 N1 N2
  by_cases hE : (!b2 && a2 == (s.size : Int)) = true
  · obtain ⟨eb, ea⟩ : b2 = false ∧ a2 = (s.size : Int) := by simpa using hE
    by_cases hM : mayB 1 so 0 ti 0 = true
    · refine (atEnd_any _ s _ _ true wx.heap.size wx T0.rd hE).mono ?_; rintro e w7 ⟨rfl, o7⟩
      have T7 := T0.still o7
      have hF := Lib.hid (finO_yes (l := s.data.toList) (a := a2) (by simpa using ea) hM)
      have HM := Lib.hid (fun w : World => may_any 1 so 0 ti 0 true hM w)
      clear T0 o7 hE ea hM
      subst eb
      go_wp2_with (first
        | (refine load_op rfl _ rfl _ rfl T7.op ?_)
        | (go_at_call 41; refine (HM.out _).mono ?_; rintro e w8 ⟨rfl, b8⟩; have T8 := T7.below b8; clear T7 b8)
        | (refine load_op rfl _ rfl _ rfl T8.op ?_)
        | (refine store_op rfl _ _ rfl _ rfl rfl T8.res rfl ?_))
      refine bodyPost_ret (ret_op rfl _ _ _ 1 so 0 ti 0 rfl (T8.res.row _)) rfl ?_
      exact ⟨_, _, _, _, _, _, hF.out, rfl, below_row T8.old (Nat.le_refl _) _⟩
    · have hM : mayB 1 so 0 ti 0 = false := by simpa using hM
      refine (atEnd_any _ s _ _ true wx.heap.size wx T0.rd hE).mono ?_; rintro e w7 ⟨rfl, o7⟩
      have T7 := T0.still o7
      have hF := Lib.hid (finO_not (l := s.data.toList) (a := a2) (b := b2) hM)
      have HM := Lib.hid (fun w : World => may_any 1 so 0 ti 0 false hM w)
      clear T0 o7 hE ea eb hM
      go_wp2_with (first
        | (refine load_op rfl _ rfl _ rfl T7.op ?_)
        | (go_at_call 41; refine (HM.out _).mono ?_; rintro e w8 ⟨rfl, b8⟩; have T8 := T7.below b8; clear T7 b8)
        | (refine store_op rfl _ _ rfl _ rfl rfl T8.res rfl ?_))
      refine bodyPost_ret (ret_op rfl _ _ _ 0 0 0 0 0 rfl (T8.res.row _)) rfl ?_
      exact ⟨_, _, _, _, _, _, hF.out, rfl, below_row T8.old (Nat.le_refl _) _⟩
  · have hE : (!b2 && a2 == (s.size : Int)) = false := by simpa using hE
    have hF := Lib.hid (finO_end 1 so 0 ti 0 hE)
    refine (atEnd_any _ s _ _ false wx.heap.size wx T0.rd hE).mono ?_; rintro e w7 ⟨rfl, o7⟩
    have T8 := T0.still o7
    clear T0 o7 hE
    go_wp2_with (refine store_op rfl _ _ rfl _ rfl rfl T8.res rfl ?_)
    refine bodyPost_ret (ret_op rfl _ _ _ 0 0 0 0 0 rfl (T8.res.row _)) rfl ?_
    exact ⟨_, _, _, _, _, _, hF.out, rfl, below_row T8.old (Nat.le_refl _) _⟩

set_option maxRecDepth 100000 in
set_option maxHeartbeats 1000000 in
theorem get_n (s : ByteArray) (w : World) (hs : s.size ≤ maxLen) {a0 kd : Int} {b0 : Bool} (h0 : nextR s.data.toList 0 false = (kd, a0, b0)) (n0 : kd ≠ 0) (n1 : kd ≠ 1) :
    Calls Try.prog 48 #[.string s] w fun e w' => ∃ k1 k2 k3 k4 k5 z, finO s.data.toList kd 0 0 0 0 a0 b0 = ((k1, k2, k3, k4, k5), z) ∧ e = .returned (.tuple #[.agg #[.int .i64 k1, .int .i64 k2, .int .i64 k3, .int .i64 k4, .int .i64 k5], .int .i64 z]) ∧ Below w.heap.size w w' := by
  have N0 := Lib.hid (fun (w : World) (g : Nat) h => next_any g s _ _ _ _ _ w h hs h0)
  have q0 : (kd == 0) = false := by simpa using n0
  have q1 : (kd == 1) = false := by simpa using n1
  clear h0 n0 n1
  go_enter Try.func48, Try.ntmps48
  go_wp2_with (go_at_call 56; refine (read_any _ _).mono ?_; rintro e w' ⟨rfl, rfl⟩)
  have S0 := GetS.made 102 w s
  refine (N0.out _ _ S0.rd).mono ?_; rintro e w1 ⟨rfl, r1, o1⟩
  have S1 := S0.next r1 o1
  clear S0 r1 o1
  have hz1 := S1.size
  go_wp2_with fail
  have T0 := S1.op #[.int .i64 kd, .int .i64 0, .int .i64 0, .int .i64 0, .int .i64 0]
  clear S1
  generalize w1.alloc (.cells #[.int .i64 kd, .int .i64 0, .int .i64 0, .int .i64 0, .int .i64 0] 49) = wx at T0 ⊢
  clear hz1 N0
  by_cases hE : (!b0 && a0 == (s.size : Int)) = true
  · obtain ⟨eb, ea⟩ : b0 = false ∧ a0 = (s.size : Int) := by simpa using hE
    by_cases hM : mayB kd 0 0 0 0 = true
    · refine (atEnd_any _ s _ _ true wx.heap.size wx T0.rd hE).mono ?_; rintro e w7 ⟨rfl, o7⟩
      have T7 := T0.still o7
      have hF := Lib.hid (finO_yes (l := s.data.toList) (a := a0) (by simpa using ea) hM)
      have HM := Lib.hid (fun w : World => may_any kd 0 0 0 0 true hM w)
      clear T0 o7 hE ea hM
      subst eb
      go_wp2_with (first
        | (refine load_op rfl _ rfl _ rfl T7.op ?_)
        | (go_at_call 41; refine (HM.out _).mono ?_; rintro e w8 ⟨rfl, b8⟩; have T8 := T7.below b8; clear T7 b8)
        | (refine load_op rfl _ rfl _ rfl T8.op ?_)
        | (refine store_op rfl _ _ rfl _ rfl rfl T8.res rfl ?_))
      refine bodyPost_ret (ret_op rfl _ _ _ kd 0 0 0 0 rfl (T8.res.row _)) rfl ?_
      exact ⟨_, _, _, _, _, _, hF.out, rfl, below_row T8.old (Nat.le_refl _) _⟩
    · have hM : mayB kd 0 0 0 0 = false := by simpa using hM
      refine (atEnd_any _ s _ _ true wx.heap.size wx T0.rd hE).mono ?_; rintro e w7 ⟨rfl, o7⟩
      have T7 := T0.still o7
      have hF := Lib.hid (finO_not (l := s.data.toList) (a := a0) (b := b0) hM)
      have HM := Lib.hid (fun w : World => may_any kd 0 0 0 0 false hM w)
      clear T0 o7 hE ea eb hM
      go_wp2_with (first
        | (refine load_op rfl _ rfl _ rfl T7.op ?_)
        | (go_at_call 41; refine (HM.out _).mono ?_; rintro e w8 ⟨rfl, b8⟩; have T8 := T7.below b8; clear T7 b8)
        | (refine store_op rfl _ _ rfl _ rfl rfl T8.res rfl ?_))
      refine bodyPost_ret (ret_op rfl _ _ _ 0 0 0 0 0 rfl (T8.res.row _)) rfl ?_
      exact ⟨_, _, _, _, _, _, hF.out, rfl, below_row T8.old (Nat.le_refl _) _⟩
  · have hE : (!b0 && a0 == (s.size : Int)) = false := by simpa using hE
    have hF := Lib.hid (finO_end kd 0 0 0 0 hE)
    refine (atEnd_any _ s _ _ false wx.heap.size wx T0.rd hE).mono ?_; rintro e w7 ⟨rfl, o7⟩
    have T8 := T0.still o7
    clear T0 o7 hE
    go_wp2_with (refine store_op rfl _ _ rfl _ rfl rfl T8.res rfl ?_)
    refine bodyPost_ret (ret_op rfl _ _ _ 0 0 0 0 0 rfl (T8.res.row _)) rfl ?_
    exact ⟨_, _, _, _, _, _, hF.out, rfl, below_row T8.old (Nat.le_refl _) _⟩

set_option maxRecDepth 100000 in
set_option maxHeartbeats 1000000 in
theorem rget_0 (s : ByteArray) (w : World) (hs : s.size ≤ maxLen) {a0 a1 a2 a3 a4 so se ti va : Int} {b0 b1 b2 b3 b4 : Bool} (h0 : nextR s.data.toList 0 false = (0, a0, b0)) (h1 : nextR s.data.toList a0 b0 = (so, a1, b1)) (h2 : nextR s.data.toList a1 b1 = (se, a2, b2)) (h3 : nextR s.data.toList a2 b2 = (ti, a3, b3)) (h4 : nextR s.data.toList a3 b3 = (va, a4, b4)) :
    Calls Try.prog 49 #[.string s] w fun e w' => ∃ k1 k2 k3 k4 k5 z, finO s.data.toList 0 so se ti va a4 b4 = ((k1, k2, k3, k4, k5), z) ∧ e = .returned (.tuple #[.agg #[.int .i64 k1, .int .i64 k2, .int .i64 k3, .int .i64 k4, .int .i64 k5], .int .i64 z]) ∧ Below w.heap.size w w' := by
  have N0 := Lib.hid (fun (w : World) (g : Nat) h => rnum_any g s _ _ _ _ _ w h hs h0)
  have N1 := Lib.hid (fun (w : World) (g : Nat) h => rnum_any g s _ _ _ _ _ w h hs h1)
  have N2 := Lib.hid (fun (w : World) (g : Nat) h => rnum_any g s _ _ _ _ _ w h hs h2)
  have N3 := Lib.hid (fun (w : World) (g : Nat) h => rnum_any g s _ _ _ _ _ w h hs h3)
  have N4 := Lib.hid (fun (w : World) (g : Nat) h => rnum_any g s _ _ _ _ _ w h hs h4)
  clear h0 h1 h2 h3 h4
  go_enter Try.func49, Try.ntmps49
  go_wp2_with fail
  have S0 := GetS.made 99 w s
  refine (N0.out _ _ S0.rd).mono ?_; rintro e w1 ⟨rfl, r1, o1⟩
  have S1 := S0.next r1 o1
  clear S0 r1 o1
  have hz1 := S1.size
  go_wp2_with fail
  have T1 := S1.op #[.int .i64 0, .int .i64 0, .int .i64 0, .int .i64 0, .int .i64 0]
  refine (N1.out _ _ T1.rd).mono ?_; rintro e w2 ⟨rfl, r2, o2⟩
  have T2 := T1.next r2 o2
  clear T1 r2 o2 S1 hz1
  have c1 : w2.cell? ⟨w.heap.size + 2, 1, none⟩ = some (.int .i64 0) := T2.op.cell 1
  have m1 := T2.op.mark 1
  go_wp2_with fail
  have T2 : GetT _ w s _ _ #[.int .i64 0, .int .i64 so, .int .i64 0, .int .i64 0, .int .i64 0] _ := T2.set 1 (.int .i64 so)
  generalize w2.setCell ⟨w.heap.size + 2, 1, none⟩ (.int .i64 so) = wy1 at T2 ⊢
  clear c1 m1
  refine (N2.out _ _ T2.rd).mono ?_; rintro e w3 ⟨rfl, r3, o3⟩
  have T3 := T2.next r3 o3
  clear T2 r3 o3
  have c2 : w3.cell? ⟨w.heap.size + 2, 2, none⟩ = some (.int .i64 0) := T3.op.cell 2
  have m2 := T3.op.mark 2
  go_wp2_with fail
  have T3 : GetT _ w s _ _ #[.int .i64 0, .int .i64 so, .int .i64 se, .int .i64 0, .int .i64 0] _ := T3.set 2 (.int .i64 se)
  generalize w3.setCell ⟨w.heap.size + 2, 2, none⟩ (.int .i64 se) = wy2 at T3 ⊢
  clear c2 m2
  refine (N3.out _ _ T3.rd).mono ?_; rintro e w4 ⟨rfl, r4, o4⟩
  have T4 := T3.next r4 o4
  clear T3 r4 o4
  have c3 : w4.cell? ⟨w.heap.size + 2, 3, none⟩ = some (.int .i64 0) := T4.op.cell 3
  have m3 := T4.op.mark 3
  go_wp2_with fail
  have T4 : GetT _ w s _ _ #[.int .i64 0, .int .i64 so, .int .i64 se, .int .i64 ti, .int .i64 0] _ := T4.set 3 (.int .i64 ti)
  generalize w4.setCell ⟨w.heap.size + 2, 3, none⟩ (.int .i64 ti) = wy3 at T4 ⊢
  clear c3 m3
  refine (N4.out _ _ T4.rd).mono ?_; rintro e w5 ⟨rfl, r5, o5⟩
  have T5 := T4.next r5 o5
  clear T4 r5 o5
  have c4 : w5.cell? ⟨w.heap.size + 2, 4, none⟩ = some (.int .i64 0) := T5.op.cell 4
  have m4 := T5.op.mark 4
  go_upto_region 12 with fail
  have T5 : GetT _ w s _ _ #[.int .i64 0, .int .i64 so, .int .i64 se, .int .i64 ti, .int .i64 va] _ := T5.set 4 (.int .i64 va)
  generalize w5.setCell ⟨w.heap.size + 2, 4, none⟩ (.int .i64 va) = wy4 at T5 ⊢
  clear c4 m4
  have T0 := T5
  clear T5 N0 N1 N2 N3 N4
  generalize wy4 = wx at T0 ⊢
  by_cases hE : (!b4 && a4 == (s.size : Int)) = true
  · obtain ⟨eb, ea⟩ : b4 = false ∧ a4 = (s.size : Int) := by simpa using hE
    have q : (a4 != (s.size : Int)) = false := by simpa using ea
    by_cases hM : mayB 0 so se ti va = true
    · skip
      have hF := Lib.hid (finO_yes (l := s.data.toList) (a := a4) (by simpa using ea) hM)
      have HM := Lib.hid (fun w : World => rmay_any 0 so se ti va true hM w)
      have c1 : wx.cell? ⟨w.heap.size + 1, 1, none⟩ = some (.int .i64 a4) := T0.rd.cell 1
      have c2 : wx.cell? ⟨w.heap.size + 1, 2, none⟩ = some (.bool b4) := T0.rd.cell 2
      clear hE ea hM
      subst eb
      go_wp2_with (first
        | (refine load_op rfl _ rfl _ rfl T0.op ?_)
        | (go_at_call 45; refine (HM.out _).mono ?_; rintro e w8 ⟨rfl, b8⟩; have T8 := T0.below b8; clear T0 b8 c1 c2)
        | (refine load_op rfl _ rfl _ rfl T8.op ?_)
        | (refine store_op rfl _ _ rfl _ rfl rfl T8.res rfl ?_))
      refine bodyPost_ret (ret_op rfl _ _ _ 0 so se ti va rfl (T8.res.row _)) rfl ?_
      exact ⟨_, _, _, _, _, _, hF.out, rfl, below_row T8.old (Nat.le_refl _) _⟩
    · have hM : mayB 0 so se ti va = false := by simpa using hM
      have hF := Lib.hid (finO_not (l := s.data.toList) (a := a4) (b := b4) hM)
      have HM := Lib.hid (fun w : World => rmay_any 0 so se ti va false hM w)
      have c1 : wx.cell? ⟨w.heap.size + 1, 1, none⟩ = some (.int .i64 a4) := T0.rd.cell 1
      have c2 : wx.cell? ⟨w.heap.size + 1, 2, none⟩ = some (.bool b4) := T0.rd.cell 2
      clear hE ea hM
      subst eb
      go_wp2_with (first
        | (refine load_op rfl _ rfl _ rfl T0.op ?_)
        | (go_at_call 45; refine (HM.out _).mono ?_; rintro e w8 ⟨rfl, b8⟩; have T8 := T0.below b8; clear T0 b8 c1 c2)
        | (refine store_op rfl _ _ rfl _ rfl rfl T8.res rfl ?_))
      refine bodyPost_ret (ret_op rfl _ _ _ 0 0 0 0 0 rfl (T8.res.row _)) rfl ?_
      exact ⟨_, _, _, _, _, _, hF.out, rfl, below_row T8.old (Nat.le_refl _) _⟩
  · have hE : (!b4 && a4 == (s.size : Int)) = false := by simpa using hE
    have hF := Lib.hid (finO_end 0 so se ti va hE)
    have c1 : wx.cell? ⟨w.heap.size + 1, 1, none⟩ = some (.int .i64 a4) := T0.rd.cell 1
    have c2 : wx.cell? ⟨w.heap.size + 1, 2, none⟩ = some (.bool b4) := T0.rd.cell 2
    cases b4 with
    | true =>
      clear hE
      have T8 := T0
      clear T0
      go_wp2_with (refine store_op rfl _ _ rfl _ rfl rfl T8.res rfl ?_)
      refine bodyPost_ret (ret_op rfl _ _ _ 0 0 0 0 0 rfl (T8.res.row _)) rfl ?_
      exact ⟨_, _, _, _, _, _, hF.out, rfl, below_row T8.old (Nat.le_refl _) _⟩
    | false =>
      have q : (a4 != (s.size : Int)) = true := by simpa using hE
      clear hE
      have T8 := T0
      clear T0
      go_wp2_with (refine store_op rfl _ _ rfl _ rfl rfl T8.res rfl ?_)
      refine bodyPost_ret (ret_op rfl _ _ _ 0 0 0 0 0 rfl (T8.res.row _)) rfl ?_
      exact ⟨_, _, _, _, _, _, hF.out, rfl, below_row T8.old (Nat.le_refl _) _⟩

set_option maxRecDepth 100000 in
set_option maxHeartbeats 1000000 in
theorem rget_1 (s : ByteArray) (w : World) (hs : s.size ≤ maxLen) {a0 a1 a2 so ti : Int} {b0 b1 b2 : Bool} (h0 : nextR s.data.toList 0 false = (1, a0, b0)) (h1 : nextR s.data.toList a0 b0 = (so, a1, b1)) (h2 : nextR s.data.toList a1 b1 = (ti, a2, b2)) :
    Calls Try.prog 49 #[.string s] w fun e w' => ∃ k1 k2 k3 k4 k5 z, finO s.data.toList 1 so 0 ti 0 a2 b2 = ((k1, k2, k3, k4, k5), z) ∧ e = .returned (.tuple #[.agg #[.int .i64 k1, .int .i64 k2, .int .i64 k3, .int .i64 k4, .int .i64 k5], .int .i64 z]) ∧ Below w.heap.size w w' := by
  have N0 := Lib.hid (fun (w : World) (g : Nat) h => rnum_any g s _ _ _ _ _ w h hs h0)
  have N1 := Lib.hid (fun (w : World) (g : Nat) h => rnum_any g s _ _ _ _ _ w h hs h1)
  have N2 := Lib.hid (fun (w : World) (g : Nat) h => rnum_any g s _ _ _ _ _ w h hs h2)
  clear h0 h1 h2
  go_enter Try.func49, Try.ntmps49
  go_wp2_with fail
  have S0 := GetS.made 99 w s
  refine (N0.out _ _ S0.rd).mono ?_; rintro e w1 ⟨rfl, r1, o1⟩
  have S1 := S0.next r1 o1
  clear S0 r1 o1
  have hz1 := S1.size
  go_wp2_with fail
  have T1 := S1.op #[.int .i64 1, .int .i64 0, .int .i64 0, .int .i64 0, .int .i64 0]
  refine (N1.out _ _ T1.rd).mono ?_; rintro e w2 ⟨rfl, r2, o2⟩
  have T2 := T1.next r2 o2
  clear T1 r2 o2 S1 hz1
  have c1 : w2.cell? ⟨w.heap.size + 2, 1, none⟩ = some (.int .i64 0) := T2.op.cell 1
  have m1 := T2.op.mark 1
  go_wp2_with fail
  have T2 : GetT _ w s _ _ #[.int .i64 1, .int .i64 so, .int .i64 0, .int .i64 0, .int .i64 0] _ := T2.set 1 (.int .i64 so)
  generalize w2.setCell ⟨w.heap.size + 2, 1, none⟩ (.int .i64 so) = wy1 at T2 ⊢
  clear c1 m1
  refine (N2.out _ _ T2.rd).mono ?_; rintro e w3 ⟨rfl, r3, o3⟩
  have T3 := T2.next r3 o3
  clear T2 r3 o3
  have c3 : w3.cell? ⟨w.heap.size + 2, 3, none⟩ = some (.int .i64 0) := T3.op.cell 3
  have m3 := T3.op.mark 3
  go_upto_region 12 with fail
  have T3 : GetT _ w s _ _ #[.int .i64 1, .int .i64 so, .int .i64 0, .int .i64 ti, .int .i64 0] _ := T3.set 3 (.int .i64 ti)
  generalize w3.setCell ⟨w.heap.size + 2, 3, none⟩ (.int .i64 ti) = wy2 at T3 ⊢
  clear c3 m3
  have T0 := T3
  clear T3 N0 N1 N2
  generalize wy2 = wx at T0 ⊢
  by_cases hE : (!b2 && a2 == (s.size : Int)) = true
  · obtain ⟨eb, ea⟩ : b2 = false ∧ a2 = (s.size : Int) := by simpa using hE
    have q : (a2 != (s.size : Int)) = false := by simpa using ea
    by_cases hM : mayB 1 so 0 ti 0 = true
    · skip
      have hF := Lib.hid (finO_yes (l := s.data.toList) (a := a2) (by simpa using ea) hM)
      have HM := Lib.hid (fun w : World => rmay_any 1 so 0 ti 0 true hM w)
      have c1 : wx.cell? ⟨w.heap.size + 1, 1, none⟩ = some (.int .i64 a2) := T0.rd.cell 1
      have c2 : wx.cell? ⟨w.heap.size + 1, 2, none⟩ = some (.bool b2) := T0.rd.cell 2
      clear hE ea hM
      subst eb
      go_wp2_with (first
        | (refine load_op rfl _ rfl _ rfl T0.op ?_)
        | (go_at_call 45; refine (HM.out _).mono ?_; rintro e w8 ⟨rfl, b8⟩; have T8 := T0.below b8; clear T0 b8 c1 c2)
        | (refine load_op rfl _ rfl _ rfl T8.op ?_)
        | (refine store_op rfl _ _ rfl _ rfl rfl T8.res rfl ?_))
      refine bodyPost_ret (ret_op rfl _ _ _ 1 so 0 ti 0 rfl (T8.res.row _)) rfl ?_
      exact ⟨_, _, _, _, _, _, hF.out, rfl, below_row T8.old (Nat.le_refl _) _⟩
    · have hM : mayB 1 so 0 ti 0 = false := by simpa using hM
      have hF := Lib.hid (finO_not (l := s.data.toList) (a := a2) (b := b2) hM)
      have HM := Lib.hid (fun w : World => rmay_any 1 so 0 ti 0 false hM w)
      have c1 : wx.cell? ⟨w.heap.size + 1, 1, none⟩ = some (.int .i64 a2) := T0.rd.cell 1
      have c2 : wx.cell? ⟨w.heap.size + 1, 2, none⟩ = some (.bool b2) := T0.rd.cell 2
      clear hE ea hM
      subst eb
      go_wp2_with (first
        | (refine load_op rfl _ rfl _ rfl T0.op ?_)
        | (go_at_call 45; refine (HM.out _).mono ?_; rintro e w8 ⟨rfl, b8⟩; have T8 := T0.below b8; clear T0 b8 c1 c2)
        | (refine store_op rfl _ _ rfl _ rfl rfl T8.res rfl ?_))
      refine bodyPost_ret (ret_op rfl _ _ _ 0 0 0 0 0 rfl (T8.res.row _)) rfl ?_
      exact ⟨_, _, _, _, _, _, hF.out, rfl, below_row T8.old (Nat.le_refl _) _⟩
  · have hE : (!b2 && a2 == (s.size : Int)) = false := by simpa using hE
    have hF := Lib.hid (finO_end 1 so 0 ti 0 hE)
    have c1 : wx.cell? ⟨w.heap.size + 1, 1, none⟩ = some (.int .i64 a2) := T0.rd.cell 1
    have c2 : wx.cell? ⟨w.heap.size + 1, 2, none⟩ = some (.bool b2) := T0.rd.cell 2
    cases b2 with
    | true =>
      clear hE
      have T8 := T0
      clear T0
      go_wp2_with (refine store_op rfl _ _ rfl _ rfl rfl T8.res rfl ?_)
      refine bodyPost_ret (ret_op rfl _ _ _ 0 0 0 0 0 rfl (T8.res.row _)) rfl ?_
      exact ⟨_, _, _, _, _, _, hF.out, rfl, below_row T8.old (Nat.le_refl _) _⟩
    | false =>
      have q : (a2 != (s.size : Int)) = true := by simpa using hE
      clear hE
      have T8 := T0
      clear T0
      go_wp2_with (refine store_op rfl _ _ rfl _ rfl rfl T8.res rfl ?_)
      refine bodyPost_ret (ret_op rfl _ _ _ 0 0 0 0 0 rfl (T8.res.row _)) rfl ?_
      exact ⟨_, _, _, _, _, _, hF.out, rfl, below_row T8.old (Nat.le_refl _) _⟩

set_option maxRecDepth 100000 in
set_option maxHeartbeats 1000000 in
theorem rget_n (s : ByteArray) (w : World) (hs : s.size ≤ maxLen) {a0 kd : Int} {b0 : Bool} (h0 : nextR s.data.toList 0 false = (kd, a0, b0)) (n0 : kd ≠ 0) (n1 : kd ≠ 1) :
    Calls Try.prog 49 #[.string s] w fun e w' => ∃ k1 k2 k3 k4 k5 z, finO s.data.toList kd 0 0 0 0 a0 b0 = ((k1, k2, k3, k4, k5), z) ∧ e = .returned (.tuple #[.agg #[.int .i64 k1, .int .i64 k2, .int .i64 k3, .int .i64 k4, .int .i64 k5], .int .i64 z]) ∧ Below w.heap.size w w' := by
  have N0 := Lib.hid (fun (w : World) (g : Nat) h => rnum_any g s _ _ _ _ _ w h hs h0)
  have q0 : (kd == 0) = false := by simpa using n0
  have q1 : (kd == 1) = false := by simpa using n1
  clear h0 n0 n1
  go_enter Try.func49, Try.ntmps49
  go_wp2_with fail
  have S0 := GetS.made 99 w s
  refine (N0.out _ _ S0.rd).mono ?_; rintro e w1 ⟨rfl, r1, o1⟩
  have S1 := S0.next r1 o1
  clear S0 r1 o1
  have hz1 := S1.size
  go_upto_region 12 with fail
  have T0 := S1.op #[.int .i64 kd, .int .i64 0, .int .i64 0, .int .i64 0, .int .i64 0]
  clear S1
  generalize w1.alloc (.cells #[.int .i64 kd, .int .i64 0, .int .i64 0, .int .i64 0, .int .i64 0] 49) = wx at T0 ⊢
  clear hz1 N0
  by_cases hE : (!b0 && a0 == (s.size : Int)) = true
  · obtain ⟨eb, ea⟩ : b0 = false ∧ a0 = (s.size : Int) := by simpa using hE
    have q : (a0 != (s.size : Int)) = false := by simpa using ea
    by_cases hM : mayB kd 0 0 0 0 = true
    · skip
      have hF := Lib.hid (finO_yes (l := s.data.toList) (a := a0) (by simpa using ea) hM)
      have HM := Lib.hid (fun w : World => rmay_any kd 0 0 0 0 true hM w)
      have c1 : wx.cell? ⟨w.heap.size + 1, 1, none⟩ = some (.int .i64 a0) := T0.rd.cell 1
      have c2 : wx.cell? ⟨w.heap.size + 1, 2, none⟩ = some (.bool b0) := T0.rd.cell 2
      clear hE ea hM
      subst eb
      go_wp2_with (first
        | (refine load_op rfl _ rfl _ rfl T0.op ?_)
        | (go_at_call 45; refine (HM.out _).mono ?_; rintro e w8 ⟨rfl, b8⟩; have T8 := T0.below b8; clear T0 b8 c1 c2)
        | (refine load_op rfl _ rfl _ rfl T8.op ?_)
        | (refine store_op rfl _ _ rfl _ rfl rfl T8.res rfl ?_))
      refine bodyPost_ret (ret_op rfl _ _ _ kd 0 0 0 0 rfl (T8.res.row _)) rfl ?_
      exact ⟨_, _, _, _, _, _, hF.out, rfl, below_row T8.old (Nat.le_refl _) _⟩
    · have hM : mayB kd 0 0 0 0 = false := by simpa using hM
      have hF := Lib.hid (finO_not (l := s.data.toList) (a := a0) (b := b0) hM)
      have HM := Lib.hid (fun w : World => rmay_any kd 0 0 0 0 false hM w)
      have c1 : wx.cell? ⟨w.heap.size + 1, 1, none⟩ = some (.int .i64 a0) := T0.rd.cell 1
      have c2 : wx.cell? ⟨w.heap.size + 1, 2, none⟩ = some (.bool b0) := T0.rd.cell 2
      clear hE ea hM
      subst eb
      go_wp2_with (first
        | (refine load_op rfl _ rfl _ rfl T0.op ?_)
        | (go_at_call 45; refine (HM.out _).mono ?_; rintro e w8 ⟨rfl, b8⟩; have T8 := T0.below b8; clear T0 b8 c1 c2)
        | (refine store_op rfl _ _ rfl _ rfl rfl T8.res rfl ?_))
      refine bodyPost_ret (ret_op rfl _ _ _ 0 0 0 0 0 rfl (T8.res.row _)) rfl ?_
      exact ⟨_, _, _, _, _, _, hF.out, rfl, below_row T8.old (Nat.le_refl _) _⟩
  · have hE : (!b0 && a0 == (s.size : Int)) = false := by simpa using hE
    have hF := Lib.hid (finO_end kd 0 0 0 0 hE)
    have c1 : wx.cell? ⟨w.heap.size + 1, 1, none⟩ = some (.int .i64 a0) := T0.rd.cell 1
    have c2 : wx.cell? ⟨w.heap.size + 1, 2, none⟩ = some (.bool b0) := T0.rd.cell 2
    cases b0 with
    | true =>
      clear hE
      have T8 := T0
      clear T0
      go_wp2_with (refine store_op rfl _ _ rfl _ rfl rfl T8.res rfl ?_)
      refine bodyPost_ret (ret_op rfl _ _ _ 0 0 0 0 0 rfl (T8.res.row _)) rfl ?_
      exact ⟨_, _, _, _, _, _, hF.out, rfl, below_row T8.old (Nat.le_refl _) _⟩
    | false =>
      have q : (a0 != (s.size : Int)) = true := by simpa using hE
      clear hE
      have T8 := T0
      clear T0
      go_wp2_with (refine store_op rfl _ _ rfl _ rfl rfl T8.res rfl ?_)
      refine bodyPost_ret (ret_op rfl _ _ _ 0 0 0 0 0 rfl (T8.res.row _)) rfl ?_
      exact ⟨_, _, _, _, _, _, hF.out, rfl, below_row T8.old (Nat.le_refl _) _⟩

/-- bourne/wire.Get, of any bytes. -/
theorem wget_any (s : ByteArray) (hs : s.size ≤ maxLen) (k1 k2 k3 k4 k5 z : Int) (h : getO s.data.toList = ((k1, k2, k3, k4, k5), z)) (w : World) :
    Calls Try.prog 48 #[.string s] w fun e w' => e = .returned (.tuple #[.agg #[.int .i64 k1, .int .i64 k2, .int .i64 k3, .int .i64 k4, .int .i64 k5], .int .i64 z]) ∧ Below w.heap.size w w' := by
  have fin {f : (Int × Int × Int × Int × Int) × Int} {e : Ending} {w' : World} (hf : getO s.data.toList = f) (hx : ∃ k1 k2 k3 k4 k5 z, f = ((k1, k2, k3, k4, k5), z) ∧ e = .returned (.tuple #[.agg #[.int .i64 k1, .int .i64 k2, .int .i64 k3, .int .i64 k4, .int .i64 k5], .int .i64 z]) ∧ Below w.heap.size w w') :
      e = .returned (.tuple #[.agg #[.int .i64 k1, .int .i64 k2, .int .i64 k3, .int .i64 k4, .int .i64 k5], .int .i64 z]) ∧ Below w.heap.size w w' := by
    obtain ⟨j1, j2, j3, j4, j5, y, hj, he, hb⟩ := hx
    rw [h, hj] at hf
    simp only [Prod.mk.injEq] at hf
    obtain ⟨⟨rfl, rfl, rfl, rfl, rfl⟩, rfl⟩ := hf
    exact ⟨he, hb⟩
  obtain ⟨x0, a0, b0, h0⟩ : ∃ x a b, nextR s.data.toList 0 false = (x, a, b) := ⟨_, _, _, rfl⟩
  by_cases e0 : x0 = 0
  · subst e0
    obtain ⟨so, a1, b1, h1⟩ : ∃ x a b, nextR s.data.toList a0 b0 = (x, a, b) := ⟨_, _, _, rfl⟩
    obtain ⟨se, a2, b2, h2⟩ : ∃ x a b, nextR s.data.toList a1 b1 = (x, a, b) := ⟨_, _, _, rfl⟩
    obtain ⟨ti, a3, b3, h3⟩ : ∃ x a b, nextR s.data.toList a2 b2 = (x, a, b) := ⟨_, _, _, rfl⟩
    obtain ⟨va, a4, b4, h4⟩ : ∃ x a b, nextR s.data.toList a3 b3 = (x, a, b) := ⟨_, _, _, rfl⟩
    exact (get_0 s w hs h0 h1 h2 h3 h4).mono fun e w' hx => fin (getO_0 h0 h1 h2 h3 h4) hx
  · by_cases e1 : x0 = 1
    · subst e1
      obtain ⟨so, a1, b1, h1⟩ : ∃ x a b, nextR s.data.toList a0 b0 = (x, a, b) := ⟨_, _, _, rfl⟩
      obtain ⟨ti, a2, b2, h2⟩ : ∃ x a b, nextR s.data.toList a1 b1 = (x, a, b) := ⟨_, _, _, rfl⟩
      exact (get_1 s w hs h0 h1 h2).mono fun e w' hx => fin (getO_1 h0 h1 h2) hx
    · exact (get_n s w hs h0 e0 e1).mono fun e w' hx => fin (getO_2 h0 e0 e1) hx

/-- bourne/bourneref1.GetOp, of any bytes. -/
theorem rwget_any (s : ByteArray) (hs : s.size ≤ maxLen) (k1 k2 k3 k4 k5 z : Int) (h : getO s.data.toList = ((k1, k2, k3, k4, k5), z)) (w : World) :
    Calls Try.prog 49 #[.string s] w fun e w' => e = .returned (.tuple #[.agg #[.int .i64 k1, .int .i64 k2, .int .i64 k3, .int .i64 k4, .int .i64 k5], .int .i64 z]) ∧ Below w.heap.size w w' := by
  have fin {f : (Int × Int × Int × Int × Int) × Int} {e : Ending} {w' : World} (hf : getO s.data.toList = f) (hx : ∃ k1 k2 k3 k4 k5 z, f = ((k1, k2, k3, k4, k5), z) ∧ e = .returned (.tuple #[.agg #[.int .i64 k1, .int .i64 k2, .int .i64 k3, .int .i64 k4, .int .i64 k5], .int .i64 z]) ∧ Below w.heap.size w w') :
      e = .returned (.tuple #[.agg #[.int .i64 k1, .int .i64 k2, .int .i64 k3, .int .i64 k4, .int .i64 k5], .int .i64 z]) ∧ Below w.heap.size w w' := by
    obtain ⟨j1, j2, j3, j4, j5, y, hj, he, hb⟩ := hx
    rw [h, hj] at hf
    simp only [Prod.mk.injEq] at hf
    obtain ⟨⟨rfl, rfl, rfl, rfl, rfl⟩, rfl⟩ := hf
    exact ⟨he, hb⟩
  obtain ⟨x0, a0, b0, h0⟩ : ∃ x a b, nextR s.data.toList 0 false = (x, a, b) := ⟨_, _, _, rfl⟩
  by_cases e0 : x0 = 0
  · subst e0
    obtain ⟨so, a1, b1, h1⟩ : ∃ x a b, nextR s.data.toList a0 b0 = (x, a, b) := ⟨_, _, _, rfl⟩
    obtain ⟨se, a2, b2, h2⟩ : ∃ x a b, nextR s.data.toList a1 b1 = (x, a, b) := ⟨_, _, _, rfl⟩
    obtain ⟨ti, a3, b3, h3⟩ : ∃ x a b, nextR s.data.toList a2 b2 = (x, a, b) := ⟨_, _, _, rfl⟩
    obtain ⟨va, a4, b4, h4⟩ : ∃ x a b, nextR s.data.toList a3 b3 = (x, a, b) := ⟨_, _, _, rfl⟩
    exact (rget_0 s w hs h0 h1 h2 h3 h4).mono fun e w' hx => fin (getO_0 h0 h1 h2 h3 h4) hx
  · by_cases e1 : x0 = 1
    · subst e1
      obtain ⟨so, a1, b1, h1⟩ : ∃ x a b, nextR s.data.toList a0 b0 = (x, a, b) := ⟨_, _, _, rfl⟩
      obtain ⟨ti, a2, b2, h2⟩ : ∃ x a b, nextR s.data.toList a1 b1 = (x, a, b) := ⟨_, _, _, rfl⟩
      exact (rget_1 s w hs h0 h1 h2).mono fun e w' hx => fin (getO_1 h0 h1 h2) hx
    · exact (rget_n s w hs h0 e0 e1).mono fun e w' hx => fin (getO_2 h0 e0 e1) hx


end Go.Proofs.Ytoechlmahckchaa
