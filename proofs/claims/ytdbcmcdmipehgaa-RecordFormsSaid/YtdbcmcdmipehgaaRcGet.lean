/-
  Walk: record.Get (written by gen/rcget.py).
-/
import Derived.Test.YtdbcmcdmipehgaaRcNext
import Derived.Test.YtdbcmcdmipehgaaRcMay2
namespace Go.Proofs.Ytdbcmcdmipehgaa
open Go.RowKit

/-- Get's memory ahead of its record (R: the reader's type). -/
structure GtS (R : TypeId) (w0 : World) (s : ByteArray) (a : Int) (b : Bool) (w : World) : Prop where
  old : Below w0.heap.size w0 w
  res : Has w w0.heap.size 30 (recC zeroR none 0 0)
  rd : Has w (w0.heap.size + 1) R (rdC s a b)
  size : w.heap.size = w0.heap.size + 2
section
variable {R : TypeId} {w0 w w' : World} {s : ByteArray} {a a' : Int} {b b' : Bool} {cs : Array Value}
theorem GtS.next (h : GtS R w0 s a b w) (hr : Has w' (w0.heap.size + 1) R (rdC s a' b')) (ho : Only (w0.heap.size + 1) w w') : GtS R w0 s a' b' w' :=
  ⟨h.old.trans (ho.below (by omega)), ho.has h.res (by omega), hr, ho.size.trans h.size⟩
theorem GtS.made (R : TypeId) (w0 : World) (s : ByteArray) : GtS R w0 s 0 false ((w0.alloc (.cells (recC zeroR none 0 0) 30)).alloc (.cells (rdC s 0 false) R)) :=
  ⟨((Below.refl _ _).alloc (Nat.le_refl _) _).alloc (by simp) _, (Has.made w0 _ _).alloc _, by simpa using Has.made (w0.alloc (.cells (recC zeroR none 0 0) 30)) R (rdC s 0 false), by simp⟩
/-- The memory of a Get with its record. -/
abbrev GtL (R : TypeId) (w0 : World) (s : ByteArray) (a : Int) (b : Bool) (cs : Array Value) (v : Value) (hs : List Int) (w : World) : Prop :=
  LpS w0.heap.size (w0.heap.size + 1) R s (w0.heap.size + 2) w0.heap.size 30 (recC zeroR none 0 0) (w0.heap.size + 3) w0 a b cs v hs w
theorem GtS.with (h : GtS R w0 s a b w) (cs : Array Value) : GtL R w0 s a b cs (.slice none 0 0) [] (w.alloc (.cells cs 30)) :=
  ⟨Below.but (h.old.alloc h.old.size _) _, h.rd.alloc _, h.size ▸ Has.made w _ _, h.res.alloc _, OwnI.nil _ _, by simp [h.size]⟩
variable {v v' : Value} {hs hs' : List Int}
theorem gtl_set (h : GtL R w0 s a b cs v hs w) (i : Nat) (u : Value) : GtL R w0 s a b (cs.setIfInBounds i u) v hs (w.setCell ⟨w0.heap.size + 2, i, none⟩ u) :=
  h.set (by omega) (by decide) (by omega) (by omega) i u
theorem gtl_next (h : GtL R w0 s a b cs v hs w) (hR : R ≠ 3) (hr : Has w' (w0.heap.size + 1) R (rdC s a' b')) (ho : Only (w0.heap.size + 1) w w') : GtL R w0 s a' b' cs v hs w' :=
  h.next hR (by omega) (by omega) hr ho
theorem gtl_below (h : GtL R w0 s a b cs v hs w) (hb : Below w.heap.size w w') : GtL R w0 s a b cs v hs w' := h.below (Nat.le_refl _) hb
theorem gtl_still (h : GtL R w0 s a b cs v hs w) (ho : Only w.heap.size w w') : GtL R w0 s a b cs v hs w' := gtl_below h (ho.below (Nat.le_refl _))
theorem gtl_jump (h : GtL R w0 s a b cs v hs w) (hb : But w.heap.size (w0.heap.size + 1) w w') (hr : Has w' (w0.heap.size + 1) R (rdC s a' b')) (ho : OwnI w' w.heap.size v' hs') : GtL R w0 s a' b' cs v' hs' w' :=
  have := h.bs
  ⟨h.old.trans (hb.mono (by omega)), hr, hb.has h.x h.x.lt (by omega), hb.has h.res h.res.lt (by omega), ho.mono h.bs, Nat.le_trans h.bs hb.size⟩
theorem gtl_end (h : GtL R w0 s a b cs v hs w) (r : Rc) (A : Option Addr) (n c : Nat) : Below w0.heap.size w0 (w.setRow w0.heap.size (recC r A n c)) ∧ OwnI (w.setRow w0.heap.size (recC r A n c)) w0.heap.size v hs ∧ Has (w.setRow w0.heap.size (recC r A n c)) w0.heap.size 30 (recC r A n c) := by
  obtain ⟨e1, _, e2, e3⟩ := h.row (Nat.le_refl _) (by omega) (by decide) (recC r A n c)
  exact ⟨e1.below (by omega), e2.mono (by omega), e3⟩
end
theorem finR_end {s : ByteArray} {a : Int} {b : Bool} (r : Rc) (h : (!b && a == (s.size : Int)) = false) : finR s.data.toList r a b = (zeroR, 1000) := by
  cases b with
  | true => exact finR_bad _ _ _
  | false =>
    have h2 : a ≠ (s.data.toList.length : Int) := by
      have : (s.data.toList.length : Int) = (s.size : Int) := by simp
      rw [this]
      simpa using h
    exact finR_far h2
/-- What a Get hands out. -/
def GetO (f : Rc × Int) (w : World) (e : Ending) (w' : World) : Prop :=
  ∃ r z A n c, f = (r, z) ∧ e = .returned (.tuple #[.agg (recC r A n c), .int .i64 z]) ∧ OwnI w' w.heap.size (.slice A n c) r.hs ∧ Below w.heap.size w w'

def setsA (cs : Array Value) : Nat → List Value → Array Value
  | _, [] => cs
  | o, v :: r => setsA (cs.setIfInBounds o v) (o + 1) r
theorem LpS.sets {B g : Nat} {R : TypeId} {s : ByteArray} {X Y : Nat} {T : TypeId} {zs : Array Value} {base : Nat} {w0 : World} {a : Int} {b : Bool} {v : Value} {hs : List Int} (hXB : B ≤ X) (hT : T ≠ 3) (hX : X ≠ g) (hY : Y ≠ X) :
    ∀ (us : List Value) (o : Nat) (cs : Array Value) (w : World), LpS B g R s X Y T zs base w0 a b cs v hs w → LpS B g R s X Y T zs base w0 a b (setsA cs o us) v hs (w.setCells X o us)
  | [], _, _, _, h => h
  | u :: r, o, _, _, h => LpS.sets hXB hT hX hY r (o + 1) _ _ (h.set hXB hT hX hY o u)
theorem resC_sets (kd : Int) (qu sr st en va : Int) (ov : Bool) (hs : List Int) (A : Option Addr) (n c : Nat) : setsA (recC ⟨kd, 0, 0, 0, 0, 0, false, [], 0, 0, 0, 0⟩ none 0 0) 1 (resC qu sr st en va ov A n c).toList = recC ⟨kd, qu, sr, st, en, va, ov, hs, 0, 0, 0, 0⟩ A n c := by
  simp [setsA, recC, resC]
theorem resC_in (kd : Int) (qu sr st en va : Int) (ov : Bool) (A : Option Addr) (n c : Nat) {B g : Nat} {R : TypeId} {s : ByteArray} {X Y : Nat} {T : TypeId} {zs : Array Value} {base : Nat} {w0 : World} {a : Int} {b : Bool} {v : Value} {hs : List Int} {w : World}
    (h : LpS B g R s X Y T zs base w0 a b (recC ⟨kd, 0, 0, 0, 0, 0, false, [], 0, 0, 0, 0⟩ none 0 0) v hs w) (hXB : B ≤ X) (hT : T ≠ 3) (hX : X ≠ g) (hY : Y ≠ X) :
    LpS B g R s X Y T zs base w0 a b (recC ⟨kd, qu, sr, st, en, va, ov, hs, 0, 0, 0, 0⟩ A n c) v hs (w.setCells X 1 (resC qu sr st en va ov A n c).toList) := by
  have h1 := LpS.sets hXB hT hX hY (resC qu sr st en va ov A n c).toList 1 _ _ h
  rw [resC_sets kd qu sr st en va ov hs A n c] at h1
  exact h1
/-- The store of a whole result into a record. -/
theorem store_resM {ops : Array Oper} {rest : List Oper} {op : Oper} {a : Act} {w : World} {Q : Exit → Act → World → Prop} {qu sr st en va : Int} {ov : Bool} {A : Option Addr} {n c : Nat} (hgd : op.guard = none) (x y : Operand) (ho : op.op = .store 28 x y)
    (g : Nat) {r : Rc} {A' : Option Addr} {n' c' : Nat} (hx : a.eval x = .pointer (some ⟨g, 1, none⟩)) (hy : a.eval y = .agg (resC qu sr st en va ov A n c)) (hg : Has w g 30 (recC r A' n' c'))
    (h : ∀ wx, Hid (wx = w.setCells g 1 (resC qu sr st en va ov A n c).toList) → wpList Try.prog ops Q rest (a.put op.dst undef) wx) : wpList Try.prog ops Q (op :: rest) a w :=
  wpList_store_mid hgd 28 x y ho g 1 (resC qu sr st en va ov A n c) hx hy (fun j hj => ⟨by rw [hg.cell]; have : j < 7 := hj; rw [Array.getElem?_eq_getElem (show 1 + j < (recC r A' n' c').size by rw [recC_size]; omega)]; rfl, hg.mark _⟩) Try.sizeRes (resC_one _ _ _ _ _ _ _ _ _) (h _ (Lib.hid rfl))

set_option maxRecDepth 100000 in
set_option maxHeartbeats 1000000 in
theorem get_1 (s : ByteArray) (w : World) (hs : s.size ≤ maxLen) {a0 a1 a2 a3 x1 x2 x3 : Int} {b0 b1 b2 b3 : Bool} (h0 : nextR s.data.toList 0 false = (1, a0, b0)) (h1 : nextR s.data.toList a0 b0 = (x1, a1, b1)) (h2 : nextR s.data.toList a1 b1 = (x2, a2, b2)) (h3 : nextR s.data.toList a2 b2 = (x3, a3, b3)) :
    Calls Try.prog 8 #[.string s] w (GetO (finR s.data.toList ⟨1, 0, 0, 0, 0, 0, false, [], x1, x2, x3, 0⟩ a3 b3) w) := by
  have N0 := Lib.hid (fun (w : World) (g : Nat) h => next_any g s _ _ _ _ _ w h hs h0)
  have N1 := Lib.hid (fun (w : World) (g : Nat) h => next_any g s _ _ _ _ _ w h hs h1)
  have N2 := Lib.hid (fun (w : World) (g : Nat) h => next_any g s _ _ _ _ _ w h hs h2)
  have N3 := Lib.hid (fun (w : World) (g : Nat) h => next_any g s _ _ _ _ _ w h hs h3)
  clear h0 h1 h2 h3
  have S0 := GtS.made 74 w s
  go_enter Try.func8, Try.ntmps8
  go_wp2_with (go_at_call 20; refine (read_any _ _).mono ?_; rintro e w' ⟨rfl, rfl⟩)
  refine (N0.out _ _ S0.rd).mono ?_; rintro e w1 ⟨rfl, r1, o1⟩
  have S1 := S0.next r1 o1
  clear S0 r1 o1
  have hz1 := S1.size
  go_wp2_with fail
  have T1 : GtL _ w s _ _ (recC ⟨1, 0, 0, 0, 0, 0, false, [], 0, 0, 0, 0⟩ none 0 0) _ [] (w1.alloc (.cells #[.int .i64 1, .int .i64 0, .int .i64 0, .int .i64 0, .int .i64 0, .int .i64 0, .bool false, .slice none 0 0, .int .i64 0, .int .i64 0, .int .i64 0, .int .i64 0] 30)) := S1.with (recC ⟨1, 0, 0, 0, 0, 0, false, [], 0, 0, 0, 0⟩ none 0 0)
  refine (N1.out _ _ T1.rd).mono ?_; rintro e w2 ⟨rfl, r2, o2⟩
  have T2 := gtl_next T1 (by decide) r2 o2
  clear T1 r2 o2 S1 hz1
  go_wp2_with fail
  refine (N2.out _ _ T2.rd).mono ?_; rintro e w3 ⟨rfl, r3, o3⟩
  have T3 := gtl_next T2 (by decide) r3 o3
  clear T2 r3 o3
  go_wp2_with fail
  refine (N3.out _ _ T3.rd).mono ?_; rintro e w4 ⟨rfl, r4, o4⟩
  have T4 := gtl_next T3 (by decide) r4 o4
  clear T3 r4 o4
  have c8 : w4.cell? ⟨w.heap.size + 2, 8, none⟩ = some (.int .i64 0) := T4.x.cell 8
  have m8 := T4.x.mark 8
  have c9 : w4.cell? ⟨w.heap.size + 2, 9, none⟩ = some (.int .i64 0) := T4.x.cell 9
  have m9 := T4.x.mark 9
  have c10 : w4.cell? ⟨w.heap.size + 2, 10, none⟩ = some (.int .i64 0) := T4.x.cell 10
  have m10 := T4.x.mark 10
  go_wp2_with fail
  have T0 : GtL _ w s _ _ (recC ⟨1, 0, 0, 0, 0, 0, false, [], x1, x2, x3, 0⟩ none 0 0) _ [] (((w4.setCell ⟨w.heap.size + 2, 8, none⟩ (.int .i64 x1)).setCell ⟨w.heap.size + 2, 9, none⟩ (.int .i64 x2)).setCell ⟨w.heap.size + 2, 10, none⟩ (.int .i64 x3)) := (gtl_set (gtl_set (gtl_set T4 8 (.int .i64 x1)) 9 (.int .i64 x2)) 10 (.int .i64 x3))
  generalize (((w4.setCell ⟨w.heap.size + 2, 8, none⟩ (.int .i64 x1)).setCell ⟨w.heap.size + 2, 9, none⟩ (.int .i64 x2)).setCell ⟨w.heap.size + 2, 10, none⟩ (.int .i64 x3)) = wx at T0 ⊢
  clear T4 c8 m8 c9 m9 c10 m10 N0 N1 N2 N3
  by_cases hE : (!b3 && a3 == (s.size : Int)) = true
  · obtain ⟨eb, ea⟩ : b3 = false ∧ a3 = (s.size : Int) := by simpa using hE
    by_cases hM : mayR ⟨1, 0, 0, 0, 0, 0, false, [], x1, x2, x3, 0⟩ = true
    · skip
      refine (atEnd_any _ s _ _ true wx.heap.size wx T0.rd hE).mono ?_; rintro e w7 ⟨rfl, o7⟩
      have T7 := gtl_still T0 o7
      have hF := Lib.hid (finR_yes (l := s.data.toList) (a := a3) (by simpa using ea) hM)
      have HM := Lib.hid (fun (w : World) h => may_any ⟨1, 0, 0, 0, 0, 0, false, [], x1, x2, x3, 0⟩ none 0 0 true hM w h)
      clear T0 o7 hE ea hM
      subst eb
      go_wp2_with (first
        | (refine load_rec rfl _ rfl _ rfl T7.x ?_)
        | (go_at_call 13; refine (HM.out _ T7.own.ints).mono ?_; rintro e w8 ⟨rfl, b8⟩; have T8 := gtl_below T7 b8; clear T7 b8)
        | (refine load_rec rfl _ rfl _ rfl T8.x ?_)
        | (refine store_rec (r := ⟨1, 0, 0, 0, 0, 0, false, [], x1, x2, x3, 0⟩) (A := none) (n := 0) (c := 0) rfl _ _ rfl _ rfl rfl T8.res rfl ?_))
      obtain ⟨e1, e2, e3⟩ := gtl_end T8 ⟨1, 0, 0, 0, 0, 0, false, [], x1, x2, x3, 0⟩ none 0 0
      exact bodyPost_ret (ret_rec rfl _ _ _ ⟨1, 0, 0, 0, 0, 0, false, [], x1, x2, x3, 0⟩ none 0 0 rfl e3) rfl ⟨_, _, _, _, _, hF.out, rfl, e2, e1⟩
    · have hM : mayR ⟨1, 0, 0, 0, 0, 0, false, [], x1, x2, x3, 0⟩ = false := by simpa using hM
      refine (atEnd_any _ s _ _ true wx.heap.size wx T0.rd hE).mono ?_; rintro e w7 ⟨rfl, o7⟩
      have T7 := gtl_still T0 o7
      have hF := Lib.hid (finR_not (l := s.data.toList) (a := a3) (b := b3) hM)
      have HM := Lib.hid (fun (w : World) h => may_any ⟨1, 0, 0, 0, 0, 0, false, [], x1, x2, x3, 0⟩ none 0 0 false hM w h)
      clear T0 o7 hE ea eb hM
      go_wp2_with (first
        | (refine load_rec rfl _ rfl _ rfl T7.x ?_)
        | (go_at_call 13; refine (HM.out _ T7.own.ints).mono ?_; rintro e w8 ⟨rfl, b8⟩; have T8 := gtl_below T7 b8; clear T7 b8)
        | (refine store_rec (r := zeroR) (A := none) (n := 0) (c := 0) rfl _ _ rfl _ rfl rfl T8.res rfl ?_))
      obtain ⟨e1, e2, e3⟩ := gtl_end T8 zeroR none 0 0
      exact bodyPost_ret (ret_rec rfl _ _ _ zeroR none 0 0 rfl e3) rfl ⟨_, _, _, _, _, hF.out, rfl, OwnI.nil _ _, e1⟩
  · have hE : (!b3 && a3 == (s.size : Int)) = false := by simpa using hE
    have hF := Lib.hid (finR_end ⟨1, 0, 0, 0, 0, 0, false, [], x1, x2, x3, 0⟩ hE)
    refine (atEnd_any _ s _ _ false wx.heap.size wx T0.rd hE).mono ?_; rintro e w7 ⟨rfl, o7⟩
    have T8 := gtl_still T0 o7
    clear T0 o7 hE
    go_wp2_with (refine store_rec (r := zeroR) (A := none) (n := 0) (c := 0) rfl _ _ rfl _ rfl rfl T8.res rfl ?_)
    obtain ⟨e1, e2, e3⟩ := gtl_end T8 zeroR none 0 0
    exact bodyPost_ret (ret_rec rfl _ _ _ zeroR none 0 0 rfl e3) rfl ⟨_, _, _, _, _, hF.out, rfl, OwnI.nil _ _, e1⟩

set_option maxRecDepth 100000 in
set_option maxHeartbeats 1000000 in
theorem get_2 (s : ByteArray) (w : World) (hs : s.size ≤ maxLen) {a0 a1 a2 a3 x1 x2 x3 : Int} {b0 b1 b2 b3 : Bool} (h0 : nextR s.data.toList 0 false = (2, a0, b0)) (h1 : nextR s.data.toList a0 b0 = (x1, a1, b1)) (h2 : nextR s.data.toList a1 b1 = (x2, a2, b2)) (h3 : nextR s.data.toList a2 b2 = (x3, a3, b3)) :
    Calls Try.prog 8 #[.string s] w (GetO (finR s.data.toList ⟨2, 0, 0, 0, 0, 0, false, [], x1, x2, x3, 0⟩ a3 b3) w) := by
  have N0 := Lib.hid (fun (w : World) (g : Nat) h => next_any g s _ _ _ _ _ w h hs h0)
  have N1 := Lib.hid (fun (w : World) (g : Nat) h => next_any g s _ _ _ _ _ w h hs h1)
  have N2 := Lib.hid (fun (w : World) (g : Nat) h => next_any g s _ _ _ _ _ w h hs h2)
  have N3 := Lib.hid (fun (w : World) (g : Nat) h => next_any g s _ _ _ _ _ w h hs h3)
  clear h0 h1 h2 h3
  have S0 := GtS.made 74 w s
  go_enter Try.func8, Try.ntmps8
  go_wp2_with (go_at_call 20; refine (read_any _ _).mono ?_; rintro e w' ⟨rfl, rfl⟩)
  refine (N0.out _ _ S0.rd).mono ?_; rintro e w1 ⟨rfl, r1, o1⟩
  have S1 := S0.next r1 o1
  clear S0 r1 o1
  have hz1 := S1.size
  go_wp2_with fail
  have T1 : GtL _ w s _ _ (recC ⟨2, 0, 0, 0, 0, 0, false, [], 0, 0, 0, 0⟩ none 0 0) _ [] (w1.alloc (.cells #[.int .i64 2, .int .i64 0, .int .i64 0, .int .i64 0, .int .i64 0, .int .i64 0, .bool false, .slice none 0 0, .int .i64 0, .int .i64 0, .int .i64 0, .int .i64 0] 30)) := S1.with (recC ⟨2, 0, 0, 0, 0, 0, false, [], 0, 0, 0, 0⟩ none 0 0)
  refine (N1.out _ _ T1.rd).mono ?_; rintro e w2 ⟨rfl, r2, o2⟩
  have T2 := gtl_next T1 (by decide) r2 o2
  clear T1 r2 o2 S1 hz1
  go_wp2_with fail
  refine (N2.out _ _ T2.rd).mono ?_; rintro e w3 ⟨rfl, r3, o3⟩
  have T3 := gtl_next T2 (by decide) r3 o3
  clear T2 r3 o3
  go_wp2_with fail
  refine (N3.out _ _ T3.rd).mono ?_; rintro e w4 ⟨rfl, r4, o4⟩
  have T4 := gtl_next T3 (by decide) r4 o4
  clear T3 r4 o4
  have c8 : w4.cell? ⟨w.heap.size + 2, 8, none⟩ = some (.int .i64 0) := T4.x.cell 8
  have m8 := T4.x.mark 8
  have c9 : w4.cell? ⟨w.heap.size + 2, 9, none⟩ = some (.int .i64 0) := T4.x.cell 9
  have m9 := T4.x.mark 9
  have c10 : w4.cell? ⟨w.heap.size + 2, 10, none⟩ = some (.int .i64 0) := T4.x.cell 10
  have m10 := T4.x.mark 10
  go_wp2_with fail
  have T0 : GtL _ w s _ _ (recC ⟨2, 0, 0, 0, 0, 0, false, [], x1, x2, x3, 0⟩ none 0 0) _ [] (((w4.setCell ⟨w.heap.size + 2, 8, none⟩ (.int .i64 x1)).setCell ⟨w.heap.size + 2, 9, none⟩ (.int .i64 x2)).setCell ⟨w.heap.size + 2, 10, none⟩ (.int .i64 x3)) := (gtl_set (gtl_set (gtl_set T4 8 (.int .i64 x1)) 9 (.int .i64 x2)) 10 (.int .i64 x3))
  generalize (((w4.setCell ⟨w.heap.size + 2, 8, none⟩ (.int .i64 x1)).setCell ⟨w.heap.size + 2, 9, none⟩ (.int .i64 x2)).setCell ⟨w.heap.size + 2, 10, none⟩ (.int .i64 x3)) = wx at T0 ⊢
  clear T4 c8 m8 c9 m9 c10 m10 N0 N1 N2 N3
  by_cases hE : (!b3 && a3 == (s.size : Int)) = true
  · obtain ⟨eb, ea⟩ : b3 = false ∧ a3 = (s.size : Int) := by simpa using hE
    by_cases hM : mayR ⟨2, 0, 0, 0, 0, 0, false, [], x1, x2, x3, 0⟩ = true
    · skip
      refine (atEnd_any _ s _ _ true wx.heap.size wx T0.rd hE).mono ?_; rintro e w7 ⟨rfl, o7⟩
      have T7 := gtl_still T0 o7
      have hF := Lib.hid (finR_yes (l := s.data.toList) (a := a3) (by simpa using ea) hM)
      have HM := Lib.hid (fun (w : World) h => may_any ⟨2, 0, 0, 0, 0, 0, false, [], x1, x2, x3, 0⟩ none 0 0 true hM w h)
      clear T0 o7 hE ea hM
      subst eb
      go_wp2_with (first
        | (refine load_rec rfl _ rfl _ rfl T7.x ?_)
        | (go_at_call 13; refine (HM.out _ T7.own.ints).mono ?_; rintro e w8 ⟨rfl, b8⟩; have T8 := gtl_below T7 b8; clear T7 b8)
        | (refine load_rec rfl _ rfl _ rfl T8.x ?_)
        | (refine store_rec (r := ⟨2, 0, 0, 0, 0, 0, false, [], x1, x2, x3, 0⟩) (A := none) (n := 0) (c := 0) rfl _ _ rfl _ rfl rfl T8.res rfl ?_))
      obtain ⟨e1, e2, e3⟩ := gtl_end T8 ⟨2, 0, 0, 0, 0, 0, false, [], x1, x2, x3, 0⟩ none 0 0
      exact bodyPost_ret (ret_rec rfl _ _ _ ⟨2, 0, 0, 0, 0, 0, false, [], x1, x2, x3, 0⟩ none 0 0 rfl e3) rfl ⟨_, _, _, _, _, hF.out, rfl, e2, e1⟩
    · have hM : mayR ⟨2, 0, 0, 0, 0, 0, false, [], x1, x2, x3, 0⟩ = false := by simpa using hM
      refine (atEnd_any _ s _ _ true wx.heap.size wx T0.rd hE).mono ?_; rintro e w7 ⟨rfl, o7⟩
      have T7 := gtl_still T0 o7
      have hF := Lib.hid (finR_not (l := s.data.toList) (a := a3) (b := b3) hM)
      have HM := Lib.hid (fun (w : World) h => may_any ⟨2, 0, 0, 0, 0, 0, false, [], x1, x2, x3, 0⟩ none 0 0 false hM w h)
      clear T0 o7 hE ea eb hM
      go_wp2_with (first
        | (refine load_rec rfl _ rfl _ rfl T7.x ?_)
        | (go_at_call 13; refine (HM.out _ T7.own.ints).mono ?_; rintro e w8 ⟨rfl, b8⟩; have T8 := gtl_below T7 b8; clear T7 b8)
        | (refine store_rec (r := zeroR) (A := none) (n := 0) (c := 0) rfl _ _ rfl _ rfl rfl T8.res rfl ?_))
      obtain ⟨e1, e2, e3⟩ := gtl_end T8 zeroR none 0 0
      exact bodyPost_ret (ret_rec rfl _ _ _ zeroR none 0 0 rfl e3) rfl ⟨_, _, _, _, _, hF.out, rfl, OwnI.nil _ _, e1⟩
  · have hE : (!b3 && a3 == (s.size : Int)) = false := by simpa using hE
    have hF := Lib.hid (finR_end ⟨2, 0, 0, 0, 0, 0, false, [], x1, x2, x3, 0⟩ hE)
    refine (atEnd_any _ s _ _ false wx.heap.size wx T0.rd hE).mono ?_; rintro e w7 ⟨rfl, o7⟩
    have T8 := gtl_still T0 o7
    clear T0 o7 hE
    go_wp2_with (refine store_rec (r := zeroR) (A := none) (n := 0) (c := 0) rfl _ _ rfl _ rfl rfl T8.res rfl ?_)
    obtain ⟨e1, e2, e3⟩ := gtl_end T8 zeroR none 0 0
    exact bodyPost_ret (ret_rec rfl _ _ _ zeroR none 0 0 rfl e3) rfl ⟨_, _, _, _, _, hF.out, rfl, OwnI.nil _ _, e1⟩

set_option maxRecDepth 100000 in
set_option maxHeartbeats 1000000 in
theorem get_3 (s : ByteArray) (w : World) (hs : s.size ≤ maxLen) {a0 a1 a2 a3 x1 x2 x3 : Int} {b0 b1 b2 b3 : Bool} (h0 : nextR s.data.toList 0 false = (3, a0, b0)) (h1 : nextR s.data.toList a0 b0 = (x1, a1, b1)) (h2 : nextR s.data.toList a1 b1 = (x2, a2, b2)) (h3 : nextR s.data.toList a2 b2 = (x3, a3, b3)) :
    Calls Try.prog 8 #[.string s] w (GetO (finR s.data.toList ⟨3, 0, 0, 0, 0, 0, false, [], x1, x2, x3, 0⟩ a3 b3) w) := by
  have N0 := Lib.hid (fun (w : World) (g : Nat) h => next_any g s _ _ _ _ _ w h hs h0)
  have N1 := Lib.hid (fun (w : World) (g : Nat) h => next_any g s _ _ _ _ _ w h hs h1)
  have N2 := Lib.hid (fun (w : World) (g : Nat) h => next_any g s _ _ _ _ _ w h hs h2)
  have N3 := Lib.hid (fun (w : World) (g : Nat) h => next_any g s _ _ _ _ _ w h hs h3)
  clear h0 h1 h2 h3
  have S0 := GtS.made 74 w s
  go_enter Try.func8, Try.ntmps8
  go_wp2_with (go_at_call 20; refine (read_any _ _).mono ?_; rintro e w' ⟨rfl, rfl⟩)
  refine (N0.out _ _ S0.rd).mono ?_; rintro e w1 ⟨rfl, r1, o1⟩
  have S1 := S0.next r1 o1
  clear S0 r1 o1
  have hz1 := S1.size
  go_wp2_with fail
  have T1 : GtL _ w s _ _ (recC ⟨3, 0, 0, 0, 0, 0, false, [], 0, 0, 0, 0⟩ none 0 0) _ [] (w1.alloc (.cells #[.int .i64 3, .int .i64 0, .int .i64 0, .int .i64 0, .int .i64 0, .int .i64 0, .bool false, .slice none 0 0, .int .i64 0, .int .i64 0, .int .i64 0, .int .i64 0] 30)) := S1.with (recC ⟨3, 0, 0, 0, 0, 0, false, [], 0, 0, 0, 0⟩ none 0 0)
  refine (N1.out _ _ T1.rd).mono ?_; rintro e w2 ⟨rfl, r2, o2⟩
  have T2 := gtl_next T1 (by decide) r2 o2
  clear T1 r2 o2 S1 hz1
  go_wp2_with fail
  refine (N2.out _ _ T2.rd).mono ?_; rintro e w3 ⟨rfl, r3, o3⟩
  have T3 := gtl_next T2 (by decide) r3 o3
  clear T2 r3 o3
  go_wp2_with fail
  refine (N3.out _ _ T3.rd).mono ?_; rintro e w4 ⟨rfl, r4, o4⟩
  have T4 := gtl_next T3 (by decide) r4 o4
  clear T3 r4 o4
  have c8 : w4.cell? ⟨w.heap.size + 2, 8, none⟩ = some (.int .i64 0) := T4.x.cell 8
  have m8 := T4.x.mark 8
  have c9 : w4.cell? ⟨w.heap.size + 2, 9, none⟩ = some (.int .i64 0) := T4.x.cell 9
  have m9 := T4.x.mark 9
  have c10 : w4.cell? ⟨w.heap.size + 2, 10, none⟩ = some (.int .i64 0) := T4.x.cell 10
  have m10 := T4.x.mark 10
  go_wp2_with fail
  have T0 : GtL _ w s _ _ (recC ⟨3, 0, 0, 0, 0, 0, false, [], x1, x2, x3, 0⟩ none 0 0) _ [] (((w4.setCell ⟨w.heap.size + 2, 8, none⟩ (.int .i64 x1)).setCell ⟨w.heap.size + 2, 9, none⟩ (.int .i64 x2)).setCell ⟨w.heap.size + 2, 10, none⟩ (.int .i64 x3)) := (gtl_set (gtl_set (gtl_set T4 8 (.int .i64 x1)) 9 (.int .i64 x2)) 10 (.int .i64 x3))
  generalize (((w4.setCell ⟨w.heap.size + 2, 8, none⟩ (.int .i64 x1)).setCell ⟨w.heap.size + 2, 9, none⟩ (.int .i64 x2)).setCell ⟨w.heap.size + 2, 10, none⟩ (.int .i64 x3)) = wx at T0 ⊢
  clear T4 c8 m8 c9 m9 c10 m10 N0 N1 N2 N3
  by_cases hE : (!b3 && a3 == (s.size : Int)) = true
  · obtain ⟨eb, ea⟩ : b3 = false ∧ a3 = (s.size : Int) := by simpa using hE
    by_cases hM : mayR ⟨3, 0, 0, 0, 0, 0, false, [], x1, x2, x3, 0⟩ = true
    · skip
      refine (atEnd_any _ s _ _ true wx.heap.size wx T0.rd hE).mono ?_; rintro e w7 ⟨rfl, o7⟩
      have T7 := gtl_still T0 o7
      have hF := Lib.hid (finR_yes (l := s.data.toList) (a := a3) (by simpa using ea) hM)
      have HM := Lib.hid (fun (w : World) h => may_any ⟨3, 0, 0, 0, 0, 0, false, [], x1, x2, x3, 0⟩ none 0 0 true hM w h)
      clear T0 o7 hE ea hM
      subst eb
      go_wp2_with (first
        | (refine load_rec rfl _ rfl _ rfl T7.x ?_)
        | (go_at_call 13; refine (HM.out _ T7.own.ints).mono ?_; rintro e w8 ⟨rfl, b8⟩; have T8 := gtl_below T7 b8; clear T7 b8)
        | (refine load_rec rfl _ rfl _ rfl T8.x ?_)
        | (refine store_rec (r := ⟨3, 0, 0, 0, 0, 0, false, [], x1, x2, x3, 0⟩) (A := none) (n := 0) (c := 0) rfl _ _ rfl _ rfl rfl T8.res rfl ?_))
      obtain ⟨e1, e2, e3⟩ := gtl_end T8 ⟨3, 0, 0, 0, 0, 0, false, [], x1, x2, x3, 0⟩ none 0 0
      exact bodyPost_ret (ret_rec rfl _ _ _ ⟨3, 0, 0, 0, 0, 0, false, [], x1, x2, x3, 0⟩ none 0 0 rfl e3) rfl ⟨_, _, _, _, _, hF.out, rfl, e2, e1⟩
    · have hM : mayR ⟨3, 0, 0, 0, 0, 0, false, [], x1, x2, x3, 0⟩ = false := by simpa using hM
      refine (atEnd_any _ s _ _ true wx.heap.size wx T0.rd hE).mono ?_; rintro e w7 ⟨rfl, o7⟩
      have T7 := gtl_still T0 o7
      have hF := Lib.hid (finR_not (l := s.data.toList) (a := a3) (b := b3) hM)
      have HM := Lib.hid (fun (w : World) h => may_any ⟨3, 0, 0, 0, 0, 0, false, [], x1, x2, x3, 0⟩ none 0 0 false hM w h)
      clear T0 o7 hE ea eb hM
      go_wp2_with (first
        | (refine load_rec rfl _ rfl _ rfl T7.x ?_)
        | (go_at_call 13; refine (HM.out _ T7.own.ints).mono ?_; rintro e w8 ⟨rfl, b8⟩; have T8 := gtl_below T7 b8; clear T7 b8)
        | (refine store_rec (r := zeroR) (A := none) (n := 0) (c := 0) rfl _ _ rfl _ rfl rfl T8.res rfl ?_))
      obtain ⟨e1, e2, e3⟩ := gtl_end T8 zeroR none 0 0
      exact bodyPost_ret (ret_rec rfl _ _ _ zeroR none 0 0 rfl e3) rfl ⟨_, _, _, _, _, hF.out, rfl, OwnI.nil _ _, e1⟩
  · have hE : (!b3 && a3 == (s.size : Int)) = false := by simpa using hE
    have hF := Lib.hid (finR_end ⟨3, 0, 0, 0, 0, 0, false, [], x1, x2, x3, 0⟩ hE)
    refine (atEnd_any _ s _ _ false wx.heap.size wx T0.rd hE).mono ?_; rintro e w7 ⟨rfl, o7⟩
    have T8 := gtl_still T0 o7
    clear T0 o7 hE
    go_wp2_with (refine store_rec (r := zeroR) (A := none) (n := 0) (c := 0) rfl _ _ rfl _ rfl rfl T8.res rfl ?_)
    obtain ⟨e1, e2, e3⟩ := gtl_end T8 zeroR none 0 0
    exact bodyPost_ret (ret_rec rfl _ _ _ zeroR none 0 0 rfl e3) rfl ⟨_, _, _, _, _, hF.out, rfl, OwnI.nil _ _, e1⟩

set_option maxRecDepth 100000 in
set_option maxHeartbeats 1000000 in
theorem get_5 (s : ByteArray) (w : World) (hs : s.size ≤ maxLen) {a0 a1 x1 : Int} {b0 b1 : Bool} (h0 : nextR s.data.toList 0 false = (5, a0, b0)) (h1 : nextR s.data.toList a0 b0 = (x1, a1, b1)) :
    Calls Try.prog 8 #[.string s] w (GetO (finR s.data.toList ⟨5, 0, 0, 0, 0, 0, false, [], 0, 0, 0, x1⟩ a1 b1) w) := by
  have N0 := Lib.hid (fun (w : World) (g : Nat) h => next_any g s _ _ _ _ _ w h hs h0)
  have N1 := Lib.hid (fun (w : World) (g : Nat) h => next_any g s _ _ _ _ _ w h hs h1)
  clear h0 h1
  have S0 := GtS.made 74 w s
  go_enter Try.func8, Try.ntmps8
  go_wp2_with (go_at_call 20; refine (read_any _ _).mono ?_; rintro e w' ⟨rfl, rfl⟩)
  refine (N0.out _ _ S0.rd).mono ?_; rintro e w1 ⟨rfl, r1, o1⟩
  have S1 := S0.next r1 o1
  clear S0 r1 o1
  have hz1 := S1.size
  go_wp2_with fail
  have T1 : GtL _ w s _ _ (recC ⟨5, 0, 0, 0, 0, 0, false, [], 0, 0, 0, 0⟩ none 0 0) _ [] (w1.alloc (.cells #[.int .i64 5, .int .i64 0, .int .i64 0, .int .i64 0, .int .i64 0, .int .i64 0, .bool false, .slice none 0 0, .int .i64 0, .int .i64 0, .int .i64 0, .int .i64 0] 30)) := S1.with (recC ⟨5, 0, 0, 0, 0, 0, false, [], 0, 0, 0, 0⟩ none 0 0)
  refine (N1.out _ _ T1.rd).mono ?_; rintro e w2 ⟨rfl, r2, o2⟩
  have T2 := gtl_next T1 (by decide) r2 o2
  clear T1 r2 o2 S1 hz1
  have c11 : w2.cell? ⟨w.heap.size + 2, 11, none⟩ = some (.int .i64 0) := T2.x.cell 11
  have m11 := T2.x.mark 11
  go_wp2_with fail
  have T0 : GtL _ w s _ _ (recC ⟨5, 0, 0, 0, 0, 0, false, [], 0, 0, 0, x1⟩ none 0 0) _ [] (w2.setCell ⟨w.heap.size + 2, 11, none⟩ (.int .i64 x1)) := (gtl_set T2 11 (.int .i64 x1))
  generalize (w2.setCell ⟨w.heap.size + 2, 11, none⟩ (.int .i64 x1)) = wx at T0 ⊢
  clear T2 c11 m11 N0 N1
  by_cases hE : (!b1 && a1 == (s.size : Int)) = true
  · obtain ⟨eb, ea⟩ : b1 = false ∧ a1 = (s.size : Int) := by simpa using hE
    by_cases hM : mayR ⟨5, 0, 0, 0, 0, 0, false, [], 0, 0, 0, x1⟩ = true
    · skip
      refine (atEnd_any _ s _ _ true wx.heap.size wx T0.rd hE).mono ?_; rintro e w7 ⟨rfl, o7⟩
      have T7 := gtl_still T0 o7
      have hF := Lib.hid (finR_yes (l := s.data.toList) (a := a1) (by simpa using ea) hM)
      have HM := Lib.hid (fun (w : World) h => may_any ⟨5, 0, 0, 0, 0, 0, false, [], 0, 0, 0, x1⟩ none 0 0 true hM w h)
      clear T0 o7 hE ea hM
      subst eb
      go_wp2_with (first
        | (refine load_rec rfl _ rfl _ rfl T7.x ?_)
        | (go_at_call 13; refine (HM.out _ T7.own.ints).mono ?_; rintro e w8 ⟨rfl, b8⟩; have T8 := gtl_below T7 b8; clear T7 b8)
        | (refine load_rec rfl _ rfl _ rfl T8.x ?_)
        | (refine store_rec (r := ⟨5, 0, 0, 0, 0, 0, false, [], 0, 0, 0, x1⟩) (A := none) (n := 0) (c := 0) rfl _ _ rfl _ rfl rfl T8.res rfl ?_))
      obtain ⟨e1, e2, e3⟩ := gtl_end T8 ⟨5, 0, 0, 0, 0, 0, false, [], 0, 0, 0, x1⟩ none 0 0
      exact bodyPost_ret (ret_rec rfl _ _ _ ⟨5, 0, 0, 0, 0, 0, false, [], 0, 0, 0, x1⟩ none 0 0 rfl e3) rfl ⟨_, _, _, _, _, hF.out, rfl, e2, e1⟩
    · have hM : mayR ⟨5, 0, 0, 0, 0, 0, false, [], 0, 0, 0, x1⟩ = false := by simpa using hM
      refine (atEnd_any _ s _ _ true wx.heap.size wx T0.rd hE).mono ?_; rintro e w7 ⟨rfl, o7⟩
      have T7 := gtl_still T0 o7
      have hF := Lib.hid (finR_not (l := s.data.toList) (a := a1) (b := b1) hM)
      have HM := Lib.hid (fun (w : World) h => may_any ⟨5, 0, 0, 0, 0, 0, false, [], 0, 0, 0, x1⟩ none 0 0 false hM w h)
      clear T0 o7 hE ea eb hM
      go_wp2_with (first
        | (refine load_rec rfl _ rfl _ rfl T7.x ?_)
        | (go_at_call 13; refine (HM.out _ T7.own.ints).mono ?_; rintro e w8 ⟨rfl, b8⟩; have T8 := gtl_below T7 b8; clear T7 b8)
        | (refine store_rec (r := zeroR) (A := none) (n := 0) (c := 0) rfl _ _ rfl _ rfl rfl T8.res rfl ?_))
      obtain ⟨e1, e2, e3⟩ := gtl_end T8 zeroR none 0 0
      exact bodyPost_ret (ret_rec rfl _ _ _ zeroR none 0 0 rfl e3) rfl ⟨_, _, _, _, _, hF.out, rfl, OwnI.nil _ _, e1⟩
  · have hE : (!b1 && a1 == (s.size : Int)) = false := by simpa using hE
    have hF := Lib.hid (finR_end ⟨5, 0, 0, 0, 0, 0, false, [], 0, 0, 0, x1⟩ hE)
    refine (atEnd_any _ s _ _ false wx.heap.size wx T0.rd hE).mono ?_; rintro e w7 ⟨rfl, o7⟩
    have T8 := gtl_still T0 o7
    clear T0 o7 hE
    go_wp2_with (refine store_rec (r := zeroR) (A := none) (n := 0) (c := 0) rfl _ _ rfl _ rfl rfl T8.res rfl ?_)
    obtain ⟨e1, e2, e3⟩ := gtl_end T8 zeroR none 0 0
    exact bodyPost_ret (ret_rec rfl _ _ _ zeroR none 0 0 rfl e3) rfl ⟨_, _, _, _, _, hF.out, rfl, OwnI.nil _ _, e1⟩

set_option maxRecDepth 100000 in
set_option maxHeartbeats 1000000 in
theorem get_n (s : ByteArray) (w : World) (hs : s.size ≤ maxLen) {a0 kd : Int} {b0 : Bool} (h0 : nextR s.data.toList 0 false = (kd, a0, b0)) (n0 : kd ≠ 0) (n1 : kd ≠ 1) (n2 : kd ≠ 2) (n3 : kd ≠ 3) (n5 : kd ≠ 5) :
    Calls Try.prog 8 #[.string s] w (GetO (finR s.data.toList ⟨kd, 0, 0, 0, 0, 0, false, [], 0, 0, 0, 0⟩ a0 b0) w) := by
  have N0 := Lib.hid (fun (w : World) (g : Nat) h => next_any g s _ _ _ _ _ w h hs h0)
  clear h0
  have q0 : (kd == 0) = false := by simpa using n0
  have q1 : (kd == 1) = false := by simpa using n1
  have q2 : (kd == 2) = false := by simpa using n2
  have q3 : (kd == 3) = false := by simpa using n3
  have q5 : (kd == 5) = false := by simpa using n5
  clear n0 n1 n2 n3 n5
  have S0 := GtS.made 74 w s
  go_enter Try.func8, Try.ntmps8
  go_wp2_with (go_at_call 20; refine (read_any _ _).mono ?_; rintro e w' ⟨rfl, rfl⟩)
  refine (N0.out _ _ S0.rd).mono ?_; rintro e w1 ⟨rfl, r1, o1⟩
  have S1 := S0.next r1 o1
  clear S0 r1 o1
  have hz1 := S1.size
  go_wp2_with fail
  have T1 : GtL _ w s _ _ (recC ⟨kd, 0, 0, 0, 0, 0, false, [], 0, 0, 0, 0⟩ none 0 0) _ [] (w1.alloc (.cells #[.int .i64 kd, .int .i64 0, .int .i64 0, .int .i64 0, .int .i64 0, .int .i64 0, .bool false, .slice none 0 0, .int .i64 0, .int .i64 0, .int .i64 0, .int .i64 0] 30)) := S1.with (recC ⟨kd, 0, 0, 0, 0, 0, false, [], 0, 0, 0, 0⟩ none 0 0)
  generalize w1.alloc (.cells #[.int .i64 kd, .int .i64 0, .int .i64 0, .int .i64 0, .int .i64 0, .int .i64 0, .bool false, .slice none 0 0, .int .i64 0, .int .i64 0, .int .i64 0, .int .i64 0] 30) = wx at T1 ⊢
  have T0 := T1
  clear T1 S1 hz1 N0
  by_cases hE : (!b0 && a0 == (s.size : Int)) = true
  · obtain ⟨eb, ea⟩ : b0 = false ∧ a0 = (s.size : Int) := by simpa using hE
    by_cases hM : mayR ⟨kd, 0, 0, 0, 0, 0, false, [], 0, 0, 0, 0⟩ = true
    · skip
      refine (atEnd_any _ s _ _ true wx.heap.size wx T0.rd hE).mono ?_; rintro e w7 ⟨rfl, o7⟩
      have T7 := gtl_still T0 o7
      have hF := Lib.hid (finR_yes (l := s.data.toList) (a := a0) (by simpa using ea) hM)
      have HM := Lib.hid (fun (w : World) h => may_any ⟨kd, 0, 0, 0, 0, 0, false, [], 0, 0, 0, 0⟩ none 0 0 true hM w h)
      clear T0 o7 hE ea hM
      subst eb
      go_wp2_with (first
        | (refine load_rec rfl _ rfl _ rfl T7.x ?_)
        | (go_at_call 13; refine (HM.out _ T7.own.ints).mono ?_; rintro e w8 ⟨rfl, b8⟩; have T8 := gtl_below T7 b8; clear T7 b8)
        | (refine load_rec rfl _ rfl _ rfl T8.x ?_)
        | (refine store_rec (r := ⟨kd, 0, 0, 0, 0, 0, false, [], 0, 0, 0, 0⟩) (A := none) (n := 0) (c := 0) rfl _ _ rfl _ rfl rfl T8.res rfl ?_))
      obtain ⟨e1, e2, e3⟩ := gtl_end T8 ⟨kd, 0, 0, 0, 0, 0, false, [], 0, 0, 0, 0⟩ none 0 0
      exact bodyPost_ret (ret_rec rfl _ _ _ ⟨kd, 0, 0, 0, 0, 0, false, [], 0, 0, 0, 0⟩ none 0 0 rfl e3) rfl ⟨_, _, _, _, _, hF.out, rfl, e2, e1⟩
    · have hM : mayR ⟨kd, 0, 0, 0, 0, 0, false, [], 0, 0, 0, 0⟩ = false := by simpa using hM
      refine (atEnd_any _ s _ _ true wx.heap.size wx T0.rd hE).mono ?_; rintro e w7 ⟨rfl, o7⟩
      have T7 := gtl_still T0 o7
      have hF := Lib.hid (finR_not (l := s.data.toList) (a := a0) (b := b0) hM)
      have HM := Lib.hid (fun (w : World) h => may_any ⟨kd, 0, 0, 0, 0, 0, false, [], 0, 0, 0, 0⟩ none 0 0 false hM w h)
      clear T0 o7 hE ea eb hM
      go_wp2_with (first
        | (refine load_rec rfl _ rfl _ rfl T7.x ?_)
        | (go_at_call 13; refine (HM.out _ T7.own.ints).mono ?_; rintro e w8 ⟨rfl, b8⟩; have T8 := gtl_below T7 b8; clear T7 b8)
        | (refine store_rec (r := zeroR) (A := none) (n := 0) (c := 0) rfl _ _ rfl _ rfl rfl T8.res rfl ?_))
      obtain ⟨e1, e2, e3⟩ := gtl_end T8 zeroR none 0 0
      exact bodyPost_ret (ret_rec rfl _ _ _ zeroR none 0 0 rfl e3) rfl ⟨_, _, _, _, _, hF.out, rfl, OwnI.nil _ _, e1⟩
  · have hE : (!b0 && a0 == (s.size : Int)) = false := by simpa using hE
    have hF := Lib.hid (finR_end ⟨kd, 0, 0, 0, 0, 0, false, [], 0, 0, 0, 0⟩ hE)
    refine (atEnd_any _ s _ _ false wx.heap.size wx T0.rd hE).mono ?_; rintro e w7 ⟨rfl, o7⟩
    have T8 := gtl_still T0 o7
    clear T0 o7 hE
    go_wp2_with (refine store_rec (r := zeroR) (A := none) (n := 0) (c := 0) rfl _ _ rfl _ rfl rfl T8.res rfl ?_)
    obtain ⟨e1, e2, e3⟩ := gtl_end T8 zeroR none 0 0
    exact bodyPost_ret (ret_rec rfl _ _ _ zeroR none 0 0 rfl e3) rfl ⟨_, _, _, _, _, hF.out, rfl, OwnI.nil _ _, e1⟩


end Go.Proofs.Ytdbcmcdmipehgaa
