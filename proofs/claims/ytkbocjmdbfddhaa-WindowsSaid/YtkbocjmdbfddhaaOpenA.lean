/-
  What an argument that came in looks like: an aggregate. No program's own steps here.
-/
import Derived.Test.YtkbocjmdbfddhaaOpenI
import Derived.Test.YtkbocjmdbfddhaaOpen
import Derived.Test.YtkbocjmdbfddhaaOne
import Derived.SizedLaws
namespace Go.Proofs.Ytkbocjmdbfddhaa
open Go.ChangeShapes Go.WideShapes Go.ChangeAt Go.RowKit Go.Joins Go.Deep

theorem cellsItem : Try.prog.cellsOf 55 = 4 := by kernel_rfl
theorem cellsAcc : Try.prog.cellsOf 60 = 13 := by kernel_rfl
section
variable {H : Type} {enc : TypeId × Value → H} {W : World} {base : Nat} {sp : Nat → Bool} {held : Bool} {r : Reach} {b0 : Nat}
theorem item_cells {n : Nat} {c0 c1 c2 c3 : Value} {y : DataW H × List MemPlace} (h : DataW.trod enc Try.prog W base sp held n 55 [c0, c1, c2, c3] = some y) : ∃ x : It, c0 = .int .i64 x.s ∧ c1 = .int .i64 x.t ∧ c2 = .int .i64 x.q ∧ c3 = .int .i64 x.v := by
  obtain ⟨xs, n', _, _, _, hxl, hg⟩ := DataW.trod_struct Try.underlying55 h
  match xs, hxl with
  | [y0, y1, y2, y3], _ =>
    have g0 : DataW.trod enc Try.prog W base sp held n' 3 ((List.drop 0 [c0, c1, c2, c3]).take (Try.prog.cellsOf 3)) = ([y0, y1, y2, y3] : List (DataW H × List MemPlace))[0]? := hg 0 _ rfl
    have g1 : DataW.trod enc Try.prog W base sp held n' 3 ((List.drop 1 [c0, c1, c2, c3]).take (Try.prog.cellsOf 3)) = ([y0, y1, y2, y3] : List (DataW H × List MemPlace))[1]? := hg 1 _ rfl
    have g2 : DataW.trod enc Try.prog W base sp held n' 3 ((List.drop 2 [c0, c1, c2, c3]).take (Try.prog.cellsOf 3)) = ([y0, y1, y2, y3] : List (DataW H × List MemPlace))[2]? := hg 2 _ rfl
    have g3 : DataW.trod enc Try.prog W base sp held n' 3 ((List.drop 3 [c0, c1, c2, c3]).take (Try.prog.cellsOf 3)) = ([y0, y1, y2, y3] : List (DataW H × List MemPlace))[3]? := hg 3 _ rfl
    rw [cellsInt] at g0 g1 g2 g3
    obtain ⟨a0, rfl⟩ := int_cell (by simpa using g0)
    obtain ⟨a1, rfl⟩ := int_cell (by simpa using g1)
    obtain ⟨a2, rfl⟩ := int_cell (by simpa using g2)
    obtain ⟨a3, rfl⟩ := int_cell (by simpa using g3)
    exact ⟨⟨a0, a1, a2, a3⟩, rfl, rfl, rfl, rfl⟩
set_option maxRecDepth 100000 in
theorem open_acc {v : Value} {d : DataW H} {p : List MemPlace} (hv : Value.okWide Try.prog W r b0 60 v) (h : DataW.Trod enc Try.prog W base sp held 60 v d p) (hsp : ∀ b, sp b = true) :
    ∃ (a : Ac) (A : Option Addr) (k c : Nat), v = .agg (accC a A k c) ∧ Ints W A k a.h ∧ k ≤ c ∧ (A = none → c = 0) ∧ (c = 0 ∨ c * 8 ∈ d.weights Try.prog 60) := by
  obtain ⟨cs, rfl, hsz⟩ := okWide_struct Try.underlying60 hv
  obtain ⟨l⟩ := cs
  match l, hsz.trans cellsAcc with
  | [c0, c1, c2, c3, c4, c5, c6, c7, c8, c9, c10, c11, c12], _ =>
    obtain ⟨fuel, hf⟩ := h
    obtain ⟨xs, n, _, hx, _, hxl, hg⟩ := DataW.trod_struct Try.underlying60 hf
    match xs, hxl with
    | [y0, y1, y2, y3, y4, y5, y6], _ =>
      have g0 : DataW.trod enc Try.prog W base sp held n 3 ((List.drop 0 [c0, c1, c2, c3, c4, c5, c6, c7, c8, c9, c10, c11, c12]).take (Try.prog.cellsOf 3)) = ([y0, y1, y2, y3, y4, y5, y6] : List (DataW H × List MemPlace))[0]? := hg 0 _ rfl
      have g1 : DataW.trod enc Try.prog W base sp held n 3 ((List.drop 1 [c0, c1, c2, c3, c4, c5, c6, c7, c8, c9, c10, c11, c12]).take (Try.prog.cellsOf 3)) = ([y0, y1, y2, y3, y4, y5, y6] : List (DataW H × List MemPlace))[1]? := hg 1 _ rfl
      have g2 : DataW.trod enc Try.prog W base sp held n 3 ((List.drop 2 [c0, c1, c2, c3, c4, c5, c6, c7, c8, c9, c10, c11, c12]).take (Try.prog.cellsOf 3)) = ([y0, y1, y2, y3, y4, y5, y6] : List (DataW H × List MemPlace))[2]? := hg 2 _ rfl
      have g3 : DataW.trod enc Try.prog W base sp held n 3 ((List.drop 3 [c0, c1, c2, c3, c4, c5, c6, c7, c8, c9, c10, c11, c12]).take (Try.prog.cellsOf 3)) = ([y0, y1, y2, y3, y4, y5, y6] : List (DataW H × List MemPlace))[3]? := hg 3 _ rfl
      have g4 : DataW.trod enc Try.prog W base sp held n 55 ((List.drop 4 [c0, c1, c2, c3, c4, c5, c6, c7, c8, c9, c10, c11, c12]).take (Try.prog.cellsOf 55)) = ([y0, y1, y2, y3, y4, y5, y6] : List (DataW H × List MemPlace))[4]? := hg 4 _ rfl
      have g5 : DataW.trod enc Try.prog W base sp held n 55 ((List.drop 8 [c0, c1, c2, c3, c4, c5, c6, c7, c8, c9, c10, c11, c12]).take (Try.prog.cellsOf 55)) = ([y0, y1, y2, y3, y4, y5, y6] : List (DataW H × List MemPlace))[5]? := hg 5 _ rfl
      have g6 : DataW.trod enc Try.prog W base sp held n 22 ((List.drop 12 [c0, c1, c2, c3, c4, c5, c6, c7, c8, c9, c10, c11, c12]).take (Try.prog.cellsOf 22)) = ([y0, y1, y2, y3, y4, y5, y6] : List (DataW H × List MemPlace))[6]? := hg 6 _ rfl
      rw [cellsInt] at g0 g1 g2 g3
      rw [cellsItem] at g4 g5
      rw [cellsRow] at g6
      obtain ⟨a0, rfl⟩ := int_cell (by simpa [Value.cells] using g0)
      obtain ⟨a1, rfl⟩ := int_cell (by simpa [Value.cells] using g1)
      obtain ⟨a2, rfl⟩ := int_cell (by simpa [Value.cells] using g2)
      obtain ⟨a3, rfl⟩ := int_cell (by simpa [Value.cells] using g3)
      obtain ⟨f, rfl, rfl, rfl, rfl⟩ := item_cells (by simpa [Value.cells] using g4)
      obtain ⟨z, rfl, rfl, rfl, rfl⟩ := item_cells (by simpa [Value.cells] using g5)
      obtain ⟨A, len, cap, xs, rfl, hI, hlc, hm, hnil, hw⟩ := row_cell (by simpa [Value.cells] using g6) hsp
      refine ⟨⟨a0, a1, a2, a3, f, z, xs⟩, A, len, cap, rfl, hI, hlc, hnil, ?_⟩
      rcases hw with h0 | ⟨elems, spare, e, hl⟩
      · exact .inl h0
      · right
        simp only [Prod.mk.injEq] at hx
        rw [hx.1]
        simp only [DataW.weights, Try.underlying60]
        refine DataW.weights_mem_each (j := 6) rfl rfl _ ?_
        show cap * 8 ∈ DataW.weights Try.prog 22 y6.1
        rw [e]
        simp only [DataW.weights, Try.underlying22, bytesInt, hl]
        exact List.mem_cons_self
end

end Go.Proofs.Ytkbocjmdbfddhaa
