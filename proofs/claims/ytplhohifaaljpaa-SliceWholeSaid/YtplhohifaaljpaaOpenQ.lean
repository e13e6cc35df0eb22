/-
  What an argument that came in looks like: a query. No program's own steps here.
-/
import Derived.Test.YtplhohifaaljpaaOpen
import Derived.Test.YtplhohifaaljpaaQu
import Derived.SizedLaws
namespace Go.Proofs.Ytplhohifaaljpaa
open Go.ChangeShapes Go.WideShapes Go.ChangeAt Go.RowKit Go.Joins Go.Deep

theorem cellsInt : Try.prog.cellsOf 3 = 1 := by kernel_rfl
theorem cellsRow : Try.prog.cellsOf 25 = 1 := by kernel_rfl
theorem cellsQuery : Try.prog.cellsOf 53 = 6 := by kernel_rfl
theorem bytesInt : Try.prog.bytesOf 3 = 8 := by kernel_rfl

section
variable {H : Type} {enc : TypeId × Value → H} {W : World} {base : Nat} {sp : Nat → Bool} {held : Bool} {r : Reach} {b0 : Nat}
theorem int_cell {n : Nat} {c : Value} {y : DataW H × List MemPlace} (h : DataW.trod enc Try.prog W base sp held n 3 [c] = some y) : ∃ a : Int, c = .int .i64 a := by
  obtain ⟨a, e, _, _⟩ := DataW.trod_int Try.underlying3 h
  simp only [List.cons.injEq, and_true] at e
  exact ⟨a, e⟩
/-- A slice of integers in a struct's field. -/
theorem row_cell {n : Nat} {c : Value} {y : DataW H × List MemPlace} (h : DataW.trod enc Try.prog W base sp held n 25 [c] = some y) (hsp : ∀ b, sp b = true) :
    ∃ (A : Option Addr) (len cap : Nat) (xs : List Int), c = .slice A len cap ∧ Ints W A len xs ∧ len ≤ cap ∧ cap ≤ maxLen ∧ (A = none → cap = 0) ∧ (cap = 0 ∨ ∃ elems spare, y.1 = .slice elems spare ∧ elems.length + spare.length = cap) := by
  rcases open_ints Try.underlying25 Try.underlying3 (by kernel_rfl) h with ⟨hcs, _⟩ | ⟨x, l, cp, zs, hcs, _, hl, hm, hz, hd, hcell, hwz⟩
  · simp only [List.cons.injEq, and_true] at hcs
    exact ⟨none, 0, 0, [], hcs, Ints.nil, Nat.le_refl _, Nat.zero_le _, fun _ => rfl, .inl rfl⟩
  · simp only [List.cons.injEq, and_true] at hcs
    subst hcs
    have hz' : zs.length = cp := by rw [hz, if_pos (hsp _)]
    refine ⟨some x, l, cp, zs.take l, rfl, ⟨by simp only [List.length_take]; omega, fun hn => ⟨x.block, x.off, ?_, fun k hk => ?_⟩⟩, hl, hm, (fun e => by cases e), Or.inr ⟨_, _, (by rw [hd]), (by simp [lits]; omega)⟩⟩
    · have h0 := hcell 0 (by omega)
      have hs := spot_none h0
      simp only [Addr.add, if_true] at hs
      obtain ⟨b, o, s⟩ := x
      simp only at hs
      rw [hs]
    · have h1 := hcell k (by omega)
      have e : x.add k = ⟨x.block, x.off + k, none⟩ := by
        have hs := spot_none (hcell 0 (by omega))
        simp only [Addr.add, if_true] at hs
        obtain ⟨b, o, s⟩ := x
        simp only at hs
        subst hs
        by_cases h : k = 0
        · subst h; rfl
        · simp [Addr.add, h]
      rw [e] at h1
      rw [h1]
      have hk2 : k < zs.length := by omega
      simp [nth, hk, hk2]
set_option maxRecDepth 100000 in
theorem open_query {v : Value} {d : DataW H} {p : List MemPlace} (hv : Value.okWide Try.prog W r b0 53 v) (h : DataW.Trod enc Try.prog W base sp held 53 v d p) (hsp : ∀ b, sp b = true) :
    ∃ (q : Qu) (B : Option Addr) (m c : Nat), v = .agg (quC q B m c) ∧ Ints W B m q.bs ∧ m ≤ maxLen := by
  obtain ⟨cs, rfl, hsz⟩ := okWide_struct Try.underlying53 hv
  obtain ⟨l⟩ := cs
  match l, hsz.trans cellsQuery with
  | [c0, c1, c2, c3, c4, c5], _ =>
    obtain ⟨fuel, hf⟩ := h
    obtain ⟨xs, n, _, _, _, hxl, hg⟩ := DataW.trod_struct Try.underlying53 hf
    match xs, hxl with
    | [y0, y1, y2, y3, y4, y5], _ =>
      have g0 : DataW.trod enc Try.prog W base sp held n 3 ((List.drop 0 [c0, c1, c2, c3, c4, c5]).take (Try.prog.cellsOf 3)) = ([y0, y1, y2, y3, y4, y5] : List (DataW H × List MemPlace))[0]? := hg 0 _ rfl
      have g1 : DataW.trod enc Try.prog W base sp held n 3 ((List.drop 1 [c0, c1, c2, c3, c4, c5]).take (Try.prog.cellsOf 3)) = ([y0, y1, y2, y3, y4, y5] : List (DataW H × List MemPlace))[1]? := hg 1 _ rfl
      have g2 : DataW.trod enc Try.prog W base sp held n 3 ((List.drop 2 [c0, c1, c2, c3, c4, c5]).take (Try.prog.cellsOf 3)) = ([y0, y1, y2, y3, y4, y5] : List (DataW H × List MemPlace))[2]? := hg 2 _ rfl
      have g3 : DataW.trod enc Try.prog W base sp held n 3 ((List.drop 3 [c0, c1, c2, c3, c4, c5]).take (Try.prog.cellsOf 3)) = ([y0, y1, y2, y3, y4, y5] : List (DataW H × List MemPlace))[3]? := hg 3 _ rfl
      have g4 : DataW.trod enc Try.prog W base sp held n 25 ((List.drop 4 [c0, c1, c2, c3, c4, c5]).take (Try.prog.cellsOf 25)) = ([y0, y1, y2, y3, y4, y5] : List (DataW H × List MemPlace))[4]? := hg 4 _ rfl
      have g5 : DataW.trod enc Try.prog W base sp held n 3 ((List.drop 5 [c0, c1, c2, c3, c4, c5]).take (Try.prog.cellsOf 3)) = ([y0, y1, y2, y3, y4, y5] : List (DataW H × List MemPlace))[5]? := hg 5 _ rfl
      rw [cellsInt] at g0 g1 g2 g3 g5
      rw [cellsRow] at g4
      obtain ⟨a0, rfl⟩ := int_cell (by simpa [Value.cells] using g0)
      obtain ⟨a1, rfl⟩ := int_cell (by simpa [Value.cells] using g1)
      obtain ⟨a2, rfl⟩ := int_cell (by simpa [Value.cells] using g2)
      obtain ⟨a3, rfl⟩ := int_cell (by simpa [Value.cells] using g3)
      obtain ⟨A, len, cap, xs, rfl, hI, hlc, hm, _, _⟩ := row_cell (by simpa [Value.cells] using g4) hsp
      obtain ⟨a5, rfl⟩ := int_cell (by simpa [Value.cells] using g5)
      exact ⟨⟨a0, a1, a2, a3, xs, a5⟩, A, len, cap, rfl, hI, by omega⟩
end

end Go.Proofs.Ytplhohifaaljpaa
