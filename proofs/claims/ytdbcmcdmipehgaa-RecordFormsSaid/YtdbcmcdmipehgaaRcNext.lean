/-
  Walk: record.nextResult (written by gen/rcnext.py).
-/
import Derived.Test.YtdbcmcdmipehgaaRcLoop
import Derived.Test.YtdbcmcdmipehgaaRcMay
namespace Go.Proofs.Ytdbcmcdmipehgaa
open Go.RowKit

/-- A result's cells. -/
def resC (qu sr st en va : Int) (ov : Bool) (A : Option Addr) (n c : Nat) : Array Value := #[.int .i64 qu, .int .i64 sr, .int .i64 st, .int .i64 en, .int .i64 va, .bool ov, .slice A n c]
theorem resC_one (qu sr st en va : Int) (ov : Bool) (A : Option Addr) (n c : Nat) : (resC qu sr st en va ov A n c).all (fun x => x.oneCell') = true := by simp [resC, Value.oneCell']
theorem resC_6 (qu sr st en va : Int) (ov : Bool) (A A' : Option Addr) (n c n' c' : Nat) : (resC qu sr st en va ov A n c).setIfInBounds 6 (.slice A' n' c') = resC qu sr st en va ov A' n' c' := rfl
theorem Try.sizeRes : (Try.prog.info? 28).map (·.size) = some 7 := by kernel_rfl
section
variable {ops : Array Oper} {rest : List Oper} {op : Oper} {a : Act} {w : World} {Q : Exit → Act → World → Prop} {qu sr st en va : Int} {ov : Bool} {A : Option Addr} {n c : Nat}
theorem load_res (hw : Region.wanted op (yielded ops a.tmps) = true) (x : Operand) (ho : op.op = .load 28 x)
    (g : Nat) (hx : a.eval x = .pointer (some ⟨g, 0, none⟩)) (hc : Has w g 28 (resC qu sr st en va ov A n c))
    (h : wpList Try.prog ops Q rest (a.put op.dst (.agg (resC qu sr st en va ov A n c))) w) : wpList Try.prog ops Q (op :: rest) a w :=
  wpList_step fun _ hK => by
    rw [if_pos hw]
    exact wp_load_row 28 x ho g hx 28 _ (0, 0) _ hc Try.underlying28 rfl Try.sizeRes (hK _ _ h)
theorem store_res (hgd : op.guard = none) (x y : Operand) (ho : op.op = .store 28 x y)
    (g : Nat) {old : Array Value} (hx : a.eval x = .pointer (some ⟨g, 0, none⟩)) (hy : a.eval y = .agg (resC qu sr st en va ov A n c)) (hg : Has w g 28 old) (hold : old.size = 7)
    (h : wpList Try.prog ops Q rest (a.put op.dst undef) (w.setRow g (resC qu sr st en va ov A n c))) : wpList Try.prog ops Q (op :: rest) a w :=
  wpList_store_row hgd 28 x y ho g _ hx hy 28 old hg Try.sizeRes hold (resC_one _ _ _ _ _ _ _ _ _) h
end
theorem ret_res {fn : Func} {p u : Tmp} (h : fn.results = #[.cell p 28, .tmp u]) (tmps : Array Value) (w : World) (g : Nat) (qu sr st en va : Int) (ov : Bool) (A : Option Addr) (n c : Nat)
    (hp : tmps.getD p undef = .pointer (some ⟨g, 0, none⟩)) (hg : Has w g 28 (resC qu sr st en va ov A n c)) :
    (results fn tmps).run Try.prog w = .ok (.tuple #[.agg (resC qu sr st en va ov A n c), tmps.getD u undef]) w :=
  ret_row h tmps w g 28 _ _ hp hg Try.underlying28 rfl (by exact Try.sizeRes)
theorem LpS.row {B g : Nat} {R : TypeId} {s : ByteArray} {X Y : Nat} {T : TypeId} {zs : Array Value} {base : Nat} {w0 : World} {a : Int} {b : Bool} {cs : Array Value} {v : Value} {hs : List Int} {w : World} (h : LpS B g R s X Y T zs base w0 a b cs v hs w) (hYB : B ≤ Y) (hR : Y ≠ g) (hT : T ≠ 3) (zs' : Array Value) :
    But B g w0 (w.setRow Y zs') ∧ Has (w.setRow Y zs') g R (rdC s a b) ∧ OwnI (w.setRow Y zs') base v hs ∧ Has (w.setRow Y zs') Y T zs' :=
  ⟨h.old.trans ⟨rfl, rfl, rfl, by simp, fun k hk _ => setRow_other w Y k zs' (by omega)⟩, h.rd.rowFar (fun e => hR e.symm) _, h.own.row h.res hT _, h.res.row _⟩

theorem nx_made {g : Nat} {s : ByteArray} {a : Int} {b : Bool} (w : World) (h : Has w g 74 (rdC s a b)) : LpS w.heap.size g 74 s (w.heap.size + 1) w.heap.size 28 (resC 0 0 0 0 0 false none 0 0) (w.heap.size + 2) w a b (resC 0 0 0 0 0 false none 0 0) (.slice none 0 0) [] ((w.alloc (.cells (resC 0 0 0 0 0 false none 0 0) 28)).alloc (.cells (resC 0 0 0 0 0 false none 0 0) 28)) := by
  have e2 : Has ((w.alloc (.cells (resC 0 0 0 0 0 false none 0 0) 28)).alloc (.cells (resC 0 0 0 0 0 false none 0 0) 28)) (w.heap.size + 1) 28 (resC 0 0 0 0 0 false none 0 0) := by simpa using Has.made (w.alloc (.cells (resC 0 0 0 0 0 false none 0 0) 28)) 28 (resC 0 0 0 0 0 false none 0 0)
  exact ⟨Below.but (((Below.refl _ _).alloc (Nat.le_refl _) _).alloc (by simp) _) g, (h.alloc _).alloc _, e2, (Has.made w _ _).alloc _, OwnI.nil _ _, by simp⟩

set_option maxRecDepth 100000 in
set_option maxHeartbeats 1000000 in
theorem nextres_bad (g : Nat) (s : ByteArray) (w : World) (hs : s.size ≤ maxLen) {a0 a1 a2 a3 a4 a5 a6 a7 x1 x2 x3 x4 x5 x6 x7 : Int} {b0 b1 b2 b3 b4 b5 b6 b7 : Bool} (h1 : nextR s.data.toList a0 b0 = (x1, a1, b1)) (h2 : nextR s.data.toList a1 b1 = (x2, a2, b2)) (h3 : nextR s.data.toList a2 b2 = (x3, a3, b3)) (h4 : nextR s.data.toList a3 b3 = (x4, a4, b4)) (h5 : nextR s.data.toList a4 b4 = (x5, a5, b5)) (h6 : nextR s.data.toList a5 b5 = (x6, a6, b6)) (h7 : nextR s.data.toList a6 b6 = (x7, a7, b7)) (hf : ¬ FormX x6 x7) (hr : Has w g 74 (rdC s a0 b0)) :
    Calls Try.prog 22 #[.pointer (some ⟨g, 0, none⟩)] w fun e w' => e = .returned (.tuple #[.agg (resC 0 0 0 0 0 false none 0 0), .bool false]) ∧ Has w' g 74 (rdC s a7 b7) ∧ But w.heap.size g w w' := by
  have N1 := Lib.hid (fun (w : World) (g : Nat) h => next_any g s _ _ _ _ _ w h hs h1)
  have N2 := Lib.hid (fun (w : World) (g : Nat) h => next_any g s _ _ _ _ _ w h hs h2)
  have N3 := Lib.hid (fun (w : World) (g : Nat) h => next_any g s _ _ _ _ _ w h hs h3)
  have N4 := Lib.hid (fun (w : World) (g : Nat) h => next_any g s _ _ _ _ _ w h hs h4)
  have N5 := Lib.hid (fun (w : World) (g : Nat) h => next_any g s _ _ _ _ _ w h hs h5)
  have N6 := Lib.hid (fun (w : World) (g : Nat) h => next_any g s _ _ _ _ _ w h hs h6)
  have N7 := Lib.hid (fun (w : World) (g : Nat) h => next_any g s _ _ _ _ _ w h hs h7)
  have S0 := nx_made w hr
  have hgl := hr.lt
  clear h1 h2 h3 h4 h5 h6 h7 hr
  go_enter Try.func22, Try.ntmps22
  go_wp2_with fail
  refine (N1.out _ _ S0.rd).mono ?_; rintro e w1 ⟨rfl, r, o⟩
  have S1 := S0.next (by decide) (by omega) (by omega) r o
  clear S0 r o N1
  go_wp2_with fail
  refine (N2.out _ _ S1.rd).mono ?_; rintro e w2 ⟨rfl, r, o⟩
  have S2 := S1.next (by decide) (by omega) (by omega) r o
  clear S1 r o N2
  go_wp2_with fail
  refine (N3.out _ _ S2.rd).mono ?_; rintro e w3 ⟨rfl, r, o⟩
  have S3 := S2.next (by decide) (by omega) (by omega) r o
  clear S2 r o N3
  go_wp2_with fail
  refine (N4.out _ _ S3.rd).mono ?_; rintro e w4 ⟨rfl, r, o⟩
  have S4 := S3.next (by decide) (by omega) (by omega) r o
  clear S3 r o N4
  go_wp2_with fail
  refine (N5.out _ _ S4.rd).mono ?_; rintro e w5 ⟨rfl, r, o⟩
  have S5 := S4.next (by decide) (by omega) (by omega) r o
  clear S4 r o N5
  have c0 : w5.cell? ⟨w.heap.size + 1, 0, none⟩ = some (.int .i64 0) := S5.x.cell 0
  have m0 := S5.x.mark 0
  have c1 : w5.cell? ⟨w.heap.size + 1, 1, none⟩ = some (.int .i64 0) := S5.x.cell 1
  have m1 := S5.x.mark 1
  have c2 : w5.cell? ⟨w.heap.size + 1, 2, none⟩ = some (.int .i64 0) := S5.x.cell 2
  have m2 := S5.x.mark 2
  have c3 : w5.cell? ⟨w.heap.size + 1, 3, none⟩ = some (.int .i64 0) := S5.x.cell 3
  have m3 := S5.x.mark 3
  have c4 : w5.cell? ⟨w.heap.size + 1, 4, none⟩ = some (.int .i64 0) := S5.x.cell 4
  have m4 := S5.x.mark 4
  go_wp2_with fail
  have T5 : LpS w.heap.size g 74 s (w.heap.size + 1) w.heap.size 28 (resC 0 0 0 0 0 false none 0 0) (w.heap.size + 2) w a5 b5 (resC x1 x2 x3 x4 x5 false none 0 0) (.slice none 0 0) [] (((((w5.setCell ⟨w.heap.size + 1, 0, none⟩ (.int .i64 x1)).setCell ⟨w.heap.size + 1, 1, none⟩ (.int .i64 x2)).setCell ⟨w.heap.size + 1, 2, none⟩ (.int .i64 x3)).setCell ⟨w.heap.size + 1, 3, none⟩ (.int .i64 x4)).setCell ⟨w.heap.size + 1, 4, none⟩ (.int .i64 x5)) := (((((S5.set (by omega) (by decide) (by omega) (by omega) 0 (.int .i64 x1)).set (by omega) (by decide) (by omega) (by omega) 1 (.int .i64 x2)).set (by omega) (by decide) (by omega) (by omega) 2 (.int .i64 x3)).set (by omega) (by decide) (by omega) (by omega) 3 (.int .i64 x4)).set (by omega) (by decide) (by omega) (by omega) 4 (.int .i64 x5))
  generalize (((((w5.setCell ⟨w.heap.size + 1, 0, none⟩ (.int .i64 x1)).setCell ⟨w.heap.size + 1, 1, none⟩ (.int .i64 x2)).setCell ⟨w.heap.size + 1, 2, none⟩ (.int .i64 x3)).setCell ⟨w.heap.size + 1, 3, none⟩ (.int .i64 x4)).setCell ⟨w.heap.size + 1, 4, none⟩ (.int .i64 x5)) = wx at T5 ⊢
  clear S5 c0 m0 c1 m1 c2 m2 c3 m3 c4 m4
  refine (N6.out _ _ T5.rd).mono ?_; rintro e w6 ⟨rfl, r, o⟩
  have T6 := T5.next (by decide) (by omega) (by omega) r o
  clear T5 r o N6
  go_wp2_with fail
  refine (N7.out _ _ T6.rd).mono ?_; rintro e w7 ⟨rfl, r, o⟩
  have T7 := T6.next (by decide) (by omega) (by omega) r o
  clear T6 r o N7
  have hf2 : ¬ (0 ≤ x6 ∧ x6 ≤ 1) ∨ ¬ (0 ≤ x7 ∧ x7 ≤ 9) := by unfold FormX at hf; omega
  clear hf
  by_cases hq : 0 ≤ x6 ∧ x6 ≤ 1
  · go_wp2_with (first | (go_at_call 30; refine (within_yes _ _ _ _ (by omega) (by omega)).mono ?_; rintro e w' ⟨rfl, rfl⟩) | (go_at_call 36; refine (len_no _ (by omega) _).mono ?_; rintro e w' ⟨rfl, rfl⟩) | (refine store_res rfl _ _ rfl _ rfl rfl T7.res rfl ?_))
    obtain ⟨e1, e2, _, e3⟩ := T7.row (Nat.le_refl _) (by omega) (by decide) (resC 0 0 0 0 0 false none 0 0)
    exact bodyPost_ret (ret_res rfl _ _ _ 0 0 0 0 0 false none 0 0 rfl e3) rfl ⟨rfl, e2, e1⟩
  · go_wp2_with (first | (go_at_call 30; refine (within_no _ _ _ _ (by omega)).mono ?_; rintro e w' ⟨rfl, rfl⟩) | (refine store_res rfl _ _ rfl _ rfl rfl T7.res rfl ?_))
    obtain ⟨e1, e2, _, e3⟩ := T7.row (Nat.le_refl _) (by omega) (by decide) (resC 0 0 0 0 0 false none 0 0)
    exact bodyPost_ret (ret_res rfl _ _ _ 0 0 0 0 0 false none 0 0 rfl e3) rfl ⟨rfl, e2, e1⟩

set_option maxRecDepth 100000 in
set_option maxHeartbeats 2000000 in
theorem nextres_ok (g : Nat) (s : ByteArray) (w : World) (hs : s.size ≤ maxLen) {a0 a1 a2 a3 a4 a5 a6 a7 x1 x2 x3 x4 x5 x6 x7 : Int} {b0 b1 b2 b3 b4 b5 b6 b7 : Bool} (h1 : nextR s.data.toList a0 b0 = (x1, a1, b1)) (h2 : nextR s.data.toList a1 b1 = (x2, a2, b2)) (h3 : nextR s.data.toList a2 b2 = (x3, a3, b3)) (h4 : nextR s.data.toList a3 b3 = (x4, a4, b4)) (h5 : nextR s.data.toList a4 b4 = (x5, a5, b5)) (h6 : nextR s.data.toList a5 b5 = (x6, a6, b6)) (h7 : nextR s.data.toList a6 b6 = (x7, a7, b7)) (hf : FormX x6 x7) {m : Nat} (hm : x7 = (m : Int)) {xs : List Int} {a8 : Int} {b8 : Bool} (h8 : readN s.data.toList m a7 b7 = (xs, a8, b8)) {ov : Bool} (hov : decide (x6 = 1) = ov) (hr : Has w g 74 (rdC s a0 b0)) :
    Calls Try.prog 22 #[.pointer (some ⟨g, 0, none⟩)] w fun e w' => ∃ A c, e = .returned (.tuple #[.agg (resC x1 x2 x3 x4 x5 ov A m c), .bool true]) ∧ OwnI w' w.heap.size (.slice A m c) xs ∧ Has w' g 74 (rdC s a8 b8) ∧ But w.heap.size g w w' := by
  subst hov
  have H8 := Lib.hid h8
  have HZ := Lib.hid hs
  subst hm
  have N1 := Lib.hid (fun (w : World) (g : Nat) h => next_any g s _ _ _ _ _ w h hs h1)
  have N2 := Lib.hid (fun (w : World) (g : Nat) h => next_any g s _ _ _ _ _ w h hs h2)
  have N3 := Lib.hid (fun (w : World) (g : Nat) h => next_any g s _ _ _ _ _ w h hs h3)
  have N4 := Lib.hid (fun (w : World) (g : Nat) h => next_any g s _ _ _ _ _ w h hs h4)
  have N5 := Lib.hid (fun (w : World) (g : Nat) h => next_any g s _ _ _ _ _ w h hs h5)
  have N6 := Lib.hid (fun (w : World) (g : Nat) h => next_any g s _ _ _ _ _ w h hs h6)
  have N7 := Lib.hid (fun (w : World) (g : Nat) h => next_any g s _ _ _ _ _ w h hs h7)
  have S0 := nx_made w hr
  have hgl := hr.lt
  clear h1 h2 h3 h4 h5 h6 h7 hr
  go_enter Try.func22, Try.ntmps22
  go_wp2_with fail
  refine (N1.out _ _ S0.rd).mono ?_; rintro e w1 ⟨rfl, r, o⟩
  have S1 := S0.next (by decide) (by omega) (by omega) r o
  clear S0 r o N1
  go_wp2_with fail
  refine (N2.out _ _ S1.rd).mono ?_; rintro e w2 ⟨rfl, r, o⟩
  have S2 := S1.next (by decide) (by omega) (by omega) r o
  clear S1 r o N2
  go_wp2_with fail
  refine (N3.out _ _ S2.rd).mono ?_; rintro e w3 ⟨rfl, r, o⟩
  have S3 := S2.next (by decide) (by omega) (by omega) r o
  clear S2 r o N3
  go_wp2_with fail
  refine (N4.out _ _ S3.rd).mono ?_; rintro e w4 ⟨rfl, r, o⟩
  have S4 := S3.next (by decide) (by omega) (by omega) r o
  clear S3 r o N4
  go_wp2_with fail
  refine (N5.out _ _ S4.rd).mono ?_; rintro e w5 ⟨rfl, r, o⟩
  have S5 := S4.next (by decide) (by omega) (by omega) r o
  clear S4 r o N5
  have c0 : w5.cell? ⟨w.heap.size + 1, 0, none⟩ = some (.int .i64 0) := S5.x.cell 0
  have m0 := S5.x.mark 0
  have c1 : w5.cell? ⟨w.heap.size + 1, 1, none⟩ = some (.int .i64 0) := S5.x.cell 1
  have m1 := S5.x.mark 1
  have c2 : w5.cell? ⟨w.heap.size + 1, 2, none⟩ = some (.int .i64 0) := S5.x.cell 2
  have m2 := S5.x.mark 2
  have c3 : w5.cell? ⟨w.heap.size + 1, 3, none⟩ = some (.int .i64 0) := S5.x.cell 3
  have m3 := S5.x.mark 3
  have c4 : w5.cell? ⟨w.heap.size + 1, 4, none⟩ = some (.int .i64 0) := S5.x.cell 4
  have m4 := S5.x.mark 4
  go_wp2_with fail
  have T5 : LpS w.heap.size g 74 s (w.heap.size + 1) w.heap.size 28 (resC 0 0 0 0 0 false none 0 0) (w.heap.size + 2) w a5 b5 (resC x1 x2 x3 x4 x5 false none 0 0) (.slice none 0 0) [] (((((w5.setCell ⟨w.heap.size + 1, 0, none⟩ (.int .i64 x1)).setCell ⟨w.heap.size + 1, 1, none⟩ (.int .i64 x2)).setCell ⟨w.heap.size + 1, 2, none⟩ (.int .i64 x3)).setCell ⟨w.heap.size + 1, 3, none⟩ (.int .i64 x4)).setCell ⟨w.heap.size + 1, 4, none⟩ (.int .i64 x5)) := (((((S5.set (by omega) (by decide) (by omega) (by omega) 0 (.int .i64 x1)).set (by omega) (by decide) (by omega) (by omega) 1 (.int .i64 x2)).set (by omega) (by decide) (by omega) (by omega) 2 (.int .i64 x3)).set (by omega) (by decide) (by omega) (by omega) 3 (.int .i64 x4)).set (by omega) (by decide) (by omega) (by omega) 4 (.int .i64 x5))
  generalize (((((w5.setCell ⟨w.heap.size + 1, 0, none⟩ (.int .i64 x1)).setCell ⟨w.heap.size + 1, 1, none⟩ (.int .i64 x2)).setCell ⟨w.heap.size + 1, 2, none⟩ (.int .i64 x3)).setCell ⟨w.heap.size + 1, 3, none⟩ (.int .i64 x4)).setCell ⟨w.heap.size + 1, 4, none⟩ (.int .i64 x5)) = wx at T5 ⊢
  clear S5 c0 m0 c1 m1 c2 m2 c3 m3 c4 m4
  refine (N6.out _ _ T5.rd).mono ?_; rintro e w6 ⟨rfl, r, o⟩
  have T6 := T5.next (by decide) (by omega) (by omega) r o
  clear T5 r o N6
  go_wp2_with fail
  refine (N7.out _ _ T6.rd).mono ?_; rintro e w7 ⟨rfl, r, o⟩
  have T7 := T6.next (by decide) (by omega) (by omega) r o
  clear T6 r o N7
  have hx : x6 = 0 ∨ x6 = 1 := by unfold FormX at hf; omega
  have hm9 : m ≤ 9 := by unfold FormX at hf; omega
  clear hf h8 hs
  rcases hx with rfl | rfl
  · have c5 : w7.cell? ⟨w.heap.size + 1, 5, none⟩ = some (.bool false) := T7.x.cell 5
    have m5 := T7.x.mark 5
    go_wp2_with (first | (go_at_call 30; refine (within_yes _ _ _ _ (by omega) (by omega)).mono ?_; rintro e w' ⟨rfl, rfl⟩) | (go_at_call 36; refine (len_yes _ (by omega) (by omega) _).mono ?_; rintro e w' ⟨rfl, rfl⟩))
    have T8 : LpS w.heap.size g 74 s (w.heap.size + 1) w.heap.size 28 (resC 0 0 0 0 0 false none 0 0) (w.heap.size + 2) w a7 b7 (resC x1 x2 x3 x4 x5 false none 0 0) (.slice none 0 0) [] (w7.setCell ⟨w.heap.size + 1, 5, none⟩ (.bool false)) := T7.set (by omega) (by decide) (by omega) (by omega) 5 (.bool false)
    generalize w7.setCell ⟨w.heap.size + 1, 5, none⟩ (.bool false) = wy at T8 ⊢
    clear T7 c5 m5
    have HT := Lib.hid T8
    clear T8
    go_loopw [43] (fun i wr => ∃ (j : Nat) (A : Option Addr) (c : Nat) (hs : List Int) (a : Int) (b : Bool), j ≤ m ∧ i = .int .i64 j ∧ Hid (readN s.data.toList j a7 b7 = (hs, a, b)) ∧ Hid (LpS w.heap.size g 74 s (w.heap.size + 1) w.heap.size 28 (resC 0 0 0 0 0 false none 0 0) (w.heap.size + 2) w a b (resC x1 x2 x3 x4 x5 false A j c) (.slice A j c) hs wr)) (fun i _ => m - (intOf i).toNat)
    case atStart => exact ⟨0, none, 0, [], a7, b7, Nat.zero_le _, rfl, Lib.hid rfl, HT⟩
    case round =>
      clear HT
      obtain ⟨j, A, c, hs, a, b, hj, rfl, HR, HS⟩ := hrel
      by_cases hlt : j < m
      · have hjn : (j : Int) < (m : Int) := by omega
        obtain ⟨x, a', b', hn⟩ : ∃ x a' b', nextR s.data.toList a b = (x, a', b') := ⟨_, _, _, rfl⟩
        have hl : hs.length = j := readN_length HR.out
        have HN := Lib.hid (readN_succ HR.out hn)
        have HC := Lib.hid (fun (w : World) h => next_any g s _ _ _ _ _ w h HZ.out hn)
        clear hn
        go_wp2_with fail
        refine nr9_any rfl rfl rfl HS.out (Nat.le_refl _) (by omega) (by omega) rfl HC.out rfl (fun w5 h S5 hcell => ?_)
        clear HS HC HR
        simp only [putAll, Act.put, List.setIfInBounds_toArray, List.set_cons_succ, List.set_cons_zero, List.drop_succ_cons, List.drop_zero]
        have hS5 := Lib.hid S5
        clear S5
        refine app_intG rfl _ _ rfl rfl hS5.out.own rfl hcell (by omega) hS5.out.bs (fun A2 m2 c2 w6 hm2 hown hgr => ?_)
        have hx6 := hS5.out.grown (by decide) hgr
        have c6 : w6.cell? ⟨w.heap.size + 1, 6, none⟩ = some (.slice A j c) := hx6.cell 6
        have m6 := hx6.mark 6
        obtain rfl : m2 = j + 1 := by omega
        have S6 := Lib.hid (hS5.out.put (Nat.le_refl _) (by omega) (by omega) (by decide) (by decide) (by omega) (by omega) hgr hown 6 (.slice A2 (j + 1) c2))
        clear hS5 hx6 hown hgr hcell hm2 hl
        go_wp2_with fail
        go_roundw
        case rel => exact ⟨j + 1, A2, c2, hs ++ [x], a', b', by omega, by go_num, HN, S6⟩
        case measure => simp [intOf]; omega
      · obtain rfl : j = m := by omega
        obtain ⟨rfl, rfl, rfl⟩ : hs = xs ∧ a = a8 ∧ b = b8 := by have h := HR.out; rw [H8.out] at h; simp only [Prod.mk.injEq] at h; exact ⟨h.1.symm, h.2.1.symm, h.2.2.symm⟩
        clear HR H8
        go_wp2_with (first | (refine load_res rfl _ rfl _ rfl HS.out.x ?_) | (refine store_res rfl _ _ rfl _ rfl rfl HS.out.res rfl ?_))
        obtain ⟨e1, e2, e4, e3⟩ := HS.out.row (Nat.le_refl _) (by omega) (by decide) (resC x1 x2 x3 x4 x5 false A j c)
        exact bodyPost_ret (ret_res rfl _ _ _ x1 x2 x3 x4 x5 false A j c rfl e3) rfl ⟨A, c, rfl, e4.mono (by omega), e2, e1⟩
  · have c5 : w7.cell? ⟨w.heap.size + 1, 5, none⟩ = some (.bool false) := T7.x.cell 5
    have m5 := T7.x.mark 5
    go_wp2_with (first | (go_at_call 30; refine (within_yes _ _ _ _ (by omega) (by omega)).mono ?_; rintro e w' ⟨rfl, rfl⟩) | (go_at_call 36; refine (len_yes _ (by omega) (by omega) _).mono ?_; rintro e w' ⟨rfl, rfl⟩))
    have T8 : LpS w.heap.size g 74 s (w.heap.size + 1) w.heap.size 28 (resC 0 0 0 0 0 false none 0 0) (w.heap.size + 2) w a7 b7 (resC x1 x2 x3 x4 x5 true none 0 0) (.slice none 0 0) [] (w7.setCell ⟨w.heap.size + 1, 5, none⟩ (.bool true)) := T7.set (by omega) (by decide) (by omega) (by omega) 5 (.bool true)
    generalize w7.setCell ⟨w.heap.size + 1, 5, none⟩ (.bool true) = wy at T8 ⊢
    clear T7 c5 m5
    have HT := Lib.hid T8
    clear T8
    go_loopw [43] (fun i wr => ∃ (j : Nat) (A : Option Addr) (c : Nat) (hs : List Int) (a : Int) (b : Bool), j ≤ m ∧ i = .int .i64 j ∧ Hid (readN s.data.toList j a7 b7 = (hs, a, b)) ∧ Hid (LpS w.heap.size g 74 s (w.heap.size + 1) w.heap.size 28 (resC 0 0 0 0 0 false none 0 0) (w.heap.size + 2) w a b (resC x1 x2 x3 x4 x5 true A j c) (.slice A j c) hs wr)) (fun i _ => m - (intOf i).toNat)
    case atStart => exact ⟨0, none, 0, [], a7, b7, Nat.zero_le _, rfl, Lib.hid rfl, HT⟩
    case round =>
      clear HT
      obtain ⟨j, A, c, hs, a, b, hj, rfl, HR, HS⟩ := hrel
      by_cases hlt : j < m
      · have hjn : (j : Int) < (m : Int) := by omega
        obtain ⟨x, a', b', hn⟩ : ∃ x a' b', nextR s.data.toList a b = (x, a', b') := ⟨_, _, _, rfl⟩
        have hl : hs.length = j := readN_length HR.out
        have HN := Lib.hid (readN_succ HR.out hn)
        have HC := Lib.hid (fun (w : World) h => next_any g s _ _ _ _ _ w h HZ.out hn)
        clear hn
        go_wp2_with fail
        refine nr9_any rfl rfl rfl HS.out (Nat.le_refl _) (by omega) (by omega) rfl HC.out rfl (fun w5 h S5 hcell => ?_)
        clear HS HC HR
        simp only [putAll, Act.put, List.setIfInBounds_toArray, List.set_cons_succ, List.set_cons_zero, List.drop_succ_cons, List.drop_zero]
        have hS5 := Lib.hid S5
        clear S5
        refine app_intG rfl _ _ rfl rfl hS5.out.own rfl hcell (by omega) hS5.out.bs (fun A2 m2 c2 w6 hm2 hown hgr => ?_)
        have hx6 := hS5.out.grown (by decide) hgr
        have c6 : w6.cell? ⟨w.heap.size + 1, 6, none⟩ = some (.slice A j c) := hx6.cell 6
        have m6 := hx6.mark 6
        obtain rfl : m2 = j + 1 := by omega
        have S6 := Lib.hid (hS5.out.put (Nat.le_refl _) (by omega) (by omega) (by decide) (by decide) (by omega) (by omega) hgr hown 6 (.slice A2 (j + 1) c2))
        clear hS5 hx6 hown hgr hcell hm2 hl
        go_wp2_with fail
        go_roundw
        case rel => exact ⟨j + 1, A2, c2, hs ++ [x], a', b', by omega, by go_num, HN, S6⟩
        case measure => simp [intOf]; omega
      · obtain rfl : j = m := by omega
        obtain ⟨rfl, rfl, rfl⟩ : hs = xs ∧ a = a8 ∧ b = b8 := by have h := HR.out; rw [H8.out] at h; simp only [Prod.mk.injEq] at h; exact ⟨h.1.symm, h.2.1.symm, h.2.2.symm⟩
        clear HR H8
        go_wp2_with (first | (refine load_res rfl _ rfl _ rfl HS.out.x ?_) | (refine store_res rfl _ _ rfl _ rfl rfl HS.out.res rfl ?_))
        obtain ⟨e1, e2, e4, e3⟩ := HS.out.row (Nat.le_refl _) (by omega) (by decide) (resC x1 x2 x3 x4 x5 true A j c)
        exact bodyPost_ret (ret_res rfl _ _ _ x1 x2 x3 x4 x5 true A j c rfl e3) rfl ⟨A, c, rfl, e4.mono (by omega), e2, e1⟩


end Go.Proofs.Ytdbcmcdmipehgaa
