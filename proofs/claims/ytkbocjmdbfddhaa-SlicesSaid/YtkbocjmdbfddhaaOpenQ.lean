/-
  What an argument that came in looks like: a query. No program's own steps here.
-/
import Derived.Test.YtkbocjmdbfddhaaOpenI
import Derived.Test.YtkbocjmdbfddhaaQu
namespace Go.Proofs.Ytkbocjmdbfddhaa
open Go.ChangeShapes Go.WideShapes Go.ChangeAt Go.RowKit Go.Joins Go.Deep

theorem cellsQuery : Try.prog.cellsOf 24 = 6 := by kernel_rfl

section
variable {H : Type} {enc : TypeId × Value → H} {W : World} {base : Nat} {sp : Nat → Bool} {held : Bool} {r : Reach} {b0 : Nat}
set_option maxRecDepth 100000 in
theorem open_query {v : Value} {d : DataW H} {p : List MemPlace} (hv : Value.okWide Try.prog W r b0 24 v) (h : DataW.Trod enc Try.prog W base sp held 24 v d p) (hsp : ∀ b, sp b = true) :
    ∃ (q : Qu) (B : Option Addr) (m c : Nat), v = .agg (quC q B m c) ∧ Ints W B m q.bs ∧ m ≤ maxLen := by
  obtain ⟨cs, rfl, hsz⟩ := okWide_struct Try.underlying24 hv
  obtain ⟨l⟩ := cs
  match l, hsz.trans cellsQuery with
  | [c0, c1, c2, c3, c4, c5], _ =>
    obtain ⟨fuel, hf⟩ := h
    obtain ⟨xs, n, _, _, _, hxl, hg⟩ := DataW.trod_struct Try.underlying24 hf
    match xs, hxl with
    | [y0, y1, y2, y3, y4, y5], _ =>
      have g0 : DataW.trod enc Try.prog W base sp held n 3 ((List.drop 0 [c0, c1, c2, c3, c4, c5]).take (Try.prog.cellsOf 3)) = ([y0, y1, y2, y3, y4, y5] : List (DataW H × List MemPlace))[0]? := hg 0 _ rfl
      have g1 : DataW.trod enc Try.prog W base sp held n 3 ((List.drop 1 [c0, c1, c2, c3, c4, c5]).take (Try.prog.cellsOf 3)) = ([y0, y1, y2, y3, y4, y5] : List (DataW H × List MemPlace))[1]? := hg 1 _ rfl
      have g2 : DataW.trod enc Try.prog W base sp held n 3 ((List.drop 2 [c0, c1, c2, c3, c4, c5]).take (Try.prog.cellsOf 3)) = ([y0, y1, y2, y3, y4, y5] : List (DataW H × List MemPlace))[2]? := hg 2 _ rfl
      have g3 : DataW.trod enc Try.prog W base sp held n 3 ((List.drop 3 [c0, c1, c2, c3, c4, c5]).take (Try.prog.cellsOf 3)) = ([y0, y1, y2, y3, y4, y5] : List (DataW H × List MemPlace))[3]? := hg 3 _ rfl
      have g4 : DataW.trod enc Try.prog W base sp held n 22 ((List.drop 4 [c0, c1, c2, c3, c4, c5]).take (Try.prog.cellsOf 22)) = ([y0, y1, y2, y3, y4, y5] : List (DataW H × List MemPlace))[4]? := hg 4 _ rfl
      have g5 : DataW.trod enc Try.prog W base sp held n 3 ((List.drop 5 [c0, c1, c2, c3, c4, c5]).take (Try.prog.cellsOf 3)) = ([y0, y1, y2, y3, y4, y5] : List (DataW H × List MemPlace))[5]? := hg 5 _ rfl
      rw [cellsInt] at g0 g1 g2 g3 g5
      rw [cellsRow] at g4
      obtain ⟨a0, rfl⟩ := int_cell (by simpa [Value.cells] using g0)
      obtain ⟨a1, rfl⟩ := int_cell (by simpa [Value.cells] using g1)
      obtain ⟨a2, rfl⟩ := int_cell (by simpa [Value.cells] using g2)
      obtain ⟨a3, rfl⟩ := int_cell (by simpa [Value.cells] using g3)
      obtain ⟨A, len, cap, xs, rfl, hI, hlc, hm, _, _⟩ := row_cell (by simpa [Value.cells] using g4) hsp
      obtain ⟨a5, rfl⟩ := int_cell (by simpa [Value.cells] using g5)
      exact ⟨⟨a0, a1, a2, a3, xs, a5⟩, A, len, cap, rfl, hI, by omega⟩
end

end Go.Proofs.Ytkbocjmdbfddhaa
