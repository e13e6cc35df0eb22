/-
  What an argument that came in looks like: a record. No program's own steps here.
-/
import Derived.Test.YtdbcmcdmipehgaaOpenI
import Derived.Test.YtdbcmcdmipehgaaRcOp
namespace Go.Proofs.Ytdbcmcdmipehgaa
open Go.ChangeShapes Go.WideShapes Go.ChangeAt Go.RowKit Go.Joins Go.Deep

theorem cellsRec : Try.prog.cellsOf 30 = 12 := by kernel_rfl
theorem cellsRes : Try.prog.cellsOf 28 = 7 := by kernel_rfl
theorem cellsOut : Try.prog.cellsOf 26 = 3 := by kernel_rfl
theorem cellsSpan : Try.prog.cellsOf 23 = 2 := by kernel_rfl
theorem cellsBool : Try.prog.cellsOf 4 = 1 := by kernel_rfl

section
variable {H : Type} {enc : TypeId × Value → H} {W : World} {base : Nat} {sp : Nat → Bool} {held : Bool} {r : Reach} {b0 : Nat}
theorem bool_cell {n : Nat} {c : Value} {y : DataW H × List MemPlace} (h : DataW.trod enc Try.prog W base sp held n 4 [c] = some y) : ∃ a : Bool, c = .bool a := by
  obtain ⟨a, e, _⟩ := DataW.trod_bool Try.underlying4 h
  simp only [List.cons.injEq, and_true] at e
  exact ⟨a, e⟩
theorem span_cells {n : Nat} {c0 c1 : Value} {y : DataW H × List MemPlace} (h : DataW.trod enc Try.prog W base sp held n 23 [c0, c1] = some y) : ∃ a b : Int, c0 = .int .i64 a ∧ c1 = .int .i64 b := by
  obtain ⟨xs, n', _, _, _, hxl, hg⟩ := DataW.trod_struct Try.underlying23 h
  match xs, hxl with
  | [y0, y1], _ =>
    have g0 : DataW.trod enc Try.prog W base sp held n' 3 ((List.drop 0 [c0, c1]).take (Try.prog.cellsOf 3)) = ([y0, y1] : List (DataW H × List MemPlace))[0]? := hg 0 _ rfl
    have g1 : DataW.trod enc Try.prog W base sp held n' 3 ((List.drop 1 [c0, c1]).take (Try.prog.cellsOf 3)) = ([y0, y1] : List (DataW H × List MemPlace))[1]? := hg 1 _ rfl
    rw [cellsInt] at g0 g1
    obtain ⟨a0, rfl⟩ := int_cell (by simpa using g0)
    obtain ⟨a1, rfl⟩ := int_cell (by simpa using g1)
    exact ⟨a0, a1, rfl, rfl⟩
theorem out_cells {n : Nat} {c0 c1 c2 : Value} {y : DataW H × List MemPlace} (h : DataW.trod enc Try.prog W base sp held n 26 [c0, c1, c2] = some y) (hsp : ∀ b, sp b = true) :
    ∃ (v : Int) (o : Bool) (A : Option Addr) (k c : Nat) (hs : List Int), c0 = .int .i64 v ∧ c1 = .bool o ∧ c2 = .slice A k c ∧ Ints W A k hs ∧ k ≤ maxLen := by
  obtain ⟨xs, n', _, _, _, hxl, hg⟩ := DataW.trod_struct Try.underlying26 h
  match xs, hxl with
  | [y0, y1, y2], _ =>
    have g0 : DataW.trod enc Try.prog W base sp held n' 3 ((List.drop 0 [c0, c1, c2]).take (Try.prog.cellsOf 3)) = ([y0, y1, y2] : List (DataW H × List MemPlace))[0]? := hg 0 _ rfl
    have g1 : DataW.trod enc Try.prog W base sp held n' 4 ((List.drop 1 [c0, c1, c2]).take (Try.prog.cellsOf 4)) = ([y0, y1, y2] : List (DataW H × List MemPlace))[1]? := hg 1 _ rfl
    have g2 : DataW.trod enc Try.prog W base sp held n' 24 ((List.drop 2 [c0, c1, c2]).take (Try.prog.cellsOf 24)) = ([y0, y1, y2] : List (DataW H × List MemPlace))[2]? := hg 2 _ rfl
    rw [cellsInt] at g0
    rw [cellsBool] at g1
    rw [cellsRow] at g2
    obtain ⟨a0, rfl⟩ := int_cell (by simpa using g0)
    obtain ⟨a1, rfl⟩ := bool_cell (by simpa using g1)
    obtain ⟨A, len, cap, xs, rfl, hI, hlc, hm, _, _⟩ := row_cell (by simpa using g2) hsp
    exact ⟨a0, a1, A, len, cap, xs, rfl, rfl, rfl, hI, by omega⟩
theorem res_cells {n : Nat} {c0 c1 c2 c3 c4 c5 c6 : Value} {y : DataW H × List MemPlace} (h : DataW.trod enc Try.prog W base sp held n 28 [c0, c1, c2, c3, c4, c5, c6] = some y) (hsp : ∀ b, sp b = true) :
    ∃ (qu sr st en v : Int) (o : Bool) (A : Option Addr) (k c : Nat) (hs : List Int), c0 = .int .i64 qu ∧ c1 = .int .i64 sr ∧ c2 = .int .i64 st ∧ c3 = .int .i64 en ∧ c4 = .int .i64 v ∧ c5 = .bool o ∧ c6 = .slice A k c ∧ Ints W A k hs ∧ k ≤ maxLen := by
  obtain ⟨xs, n', _, _, _, hxl, hg⟩ := DataW.trod_struct Try.underlying28 h
  match xs, hxl with
  | [y0, y1, y2, y3], _ =>
    have g0 : DataW.trod enc Try.prog W base sp held n' 3 ((List.drop 0 [c0, c1, c2, c3, c4, c5, c6]).take (Try.prog.cellsOf 3)) = ([y0, y1, y2, y3] : List (DataW H × List MemPlace))[0]? := hg 0 _ rfl
    have g1 : DataW.trod enc Try.prog W base sp held n' 3 ((List.drop 1 [c0, c1, c2, c3, c4, c5, c6]).take (Try.prog.cellsOf 3)) = ([y0, y1, y2, y3] : List (DataW H × List MemPlace))[1]? := hg 1 _ rfl
    have g2 : DataW.trod enc Try.prog W base sp held n' 23 ((List.drop 2 [c0, c1, c2, c3, c4, c5, c6]).take (Try.prog.cellsOf 23)) = ([y0, y1, y2, y3] : List (DataW H × List MemPlace))[2]? := hg 2 _ rfl
    have g3 : DataW.trod enc Try.prog W base sp held n' 26 ((List.drop 4 [c0, c1, c2, c3, c4, c5, c6]).take (Try.prog.cellsOf 26)) = ([y0, y1, y2, y3] : List (DataW H × List MemPlace))[3]? := hg 3 _ rfl
    rw [cellsInt] at g0 g1
    rw [cellsSpan] at g2
    rw [cellsOut] at g3
    obtain ⟨a0, rfl⟩ := int_cell (by simpa [Value.cells] using g0)
    obtain ⟨a1, rfl⟩ := int_cell (by simpa [Value.cells] using g1)
    obtain ⟨a2, a3, rfl, rfl⟩ := span_cells (by simpa [Value.cells] using g2)
    obtain ⟨v, o, A, k, c, hs, rfl, rfl, rfl, hI, hk⟩ := out_cells (by simpa [Value.cells] using g3) hsp
    exact ⟨a0, a1, a2, a3, v, o, A, k, c, hs, rfl, rfl, rfl, rfl, rfl, rfl, rfl, hI, hk⟩
set_option maxRecDepth 100000 in
theorem open_rec {v : Value} {d : DataW H} {p : List MemPlace} (hv : Value.okWide Try.prog W r b0 30 v) (h : DataW.Trod enc Try.prog W base sp held 30 v d p) (hsp : ∀ b, sp b = true) :
    ∃ (x : Rc) (A : Option Addr) (k c : Nat), v = .agg (recC x A k c) ∧ Ints W A k x.hs ∧ k ≤ maxLen := by
  obtain ⟨cs, rfl, hsz⟩ := okWide_struct Try.underlying30 hv
  obtain ⟨l⟩ := cs
  match l, hsz.trans cellsRec with
  | [c0, c1, c2, c3, c4, c5, c6, c7, c8, c9, c10, c11], _ =>
    obtain ⟨fuel, hf⟩ := h
    obtain ⟨xs, n, _, _, _, hxl, hg⟩ := DataW.trod_struct Try.underlying30 hf
    match xs, hxl with
    | [y0, y1, y2, y3, y4, y5], _ =>
      have g0 : DataW.trod enc Try.prog W base sp held n 3 ((List.drop 0 [c0, c1, c2, c3, c4, c5, c6, c7, c8, c9, c10, c11]).take (Try.prog.cellsOf 3)) = ([y0, y1, y2, y3, y4, y5] : List (DataW H × List MemPlace))[0]? := hg 0 _ rfl
      have g1 : DataW.trod enc Try.prog W base sp held n 28 ((List.drop 1 [c0, c1, c2, c3, c4, c5, c6, c7, c8, c9, c10, c11]).take (Try.prog.cellsOf 28)) = ([y0, y1, y2, y3, y4, y5] : List (DataW H × List MemPlace))[1]? := hg 1 _ rfl
      have g2 : DataW.trod enc Try.prog W base sp held n 3 ((List.drop 8 [c0, c1, c2, c3, c4, c5, c6, c7, c8, c9, c10, c11]).take (Try.prog.cellsOf 3)) = ([y0, y1, y2, y3, y4, y5] : List (DataW H × List MemPlace))[2]? := hg 2 _ rfl
      have g3 : DataW.trod enc Try.prog W base sp held n 3 ((List.drop 9 [c0, c1, c2, c3, c4, c5, c6, c7, c8, c9, c10, c11]).take (Try.prog.cellsOf 3)) = ([y0, y1, y2, y3, y4, y5] : List (DataW H × List MemPlace))[3]? := hg 3 _ rfl
      have g4 : DataW.trod enc Try.prog W base sp held n 3 ((List.drop 10 [c0, c1, c2, c3, c4, c5, c6, c7, c8, c9, c10, c11]).take (Try.prog.cellsOf 3)) = ([y0, y1, y2, y3, y4, y5] : List (DataW H × List MemPlace))[4]? := hg 4 _ rfl
      have g5 : DataW.trod enc Try.prog W base sp held n 3 ((List.drop 11 [c0, c1, c2, c3, c4, c5, c6, c7, c8, c9, c10, c11]).take (Try.prog.cellsOf 3)) = ([y0, y1, y2, y3, y4, y5] : List (DataW H × List MemPlace))[5]? := hg 5 _ rfl
      rw [cellsInt] at g0 g2 g3 g4 g5
      rw [cellsRes] at g1
      obtain ⟨kd, rfl⟩ := int_cell (by simpa [Value.cells] using g0)
      obtain ⟨qu, sr, st, en, va, ov, A, k, c, hs, rfl, rfl, rfl, rfl, rfl, rfl, rfl, hI, hk⟩ := res_cells (by simpa [Value.cells] using g1) hsp
      obtain ⟨se, rfl⟩ := int_cell (by simpa [Value.cells] using g2)
      obtain ⟨ti, rfl⟩ := int_cell (by simpa [Value.cells] using g3)
      obtain ⟨sq, rfl⟩ := int_cell (by simpa [Value.cells] using g4)
      obtain ⟨bd, rfl⟩ := int_cell (by simpa [Value.cells] using g5)
      exact ⟨⟨kd, qu, sr, st, en, va, ov, hs, se, ti, sq, bd⟩, A, k, c, rfl, hI, hk⟩
end

end Go.Proofs.Ytdbcmcdmipehgaa
