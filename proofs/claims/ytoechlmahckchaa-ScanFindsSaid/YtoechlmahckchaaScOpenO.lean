/-
  What an argument that came in looks like: a slice of operations. No program's own steps here.
-/
import Derived.Test.YtoechlmahckchaaScOpen
import Derived.Test.YtoechlmahckchaaScMem
namespace Go.Proofs.Ytoechlmahckchaa
open Go.ChangeShapes Go.WideShapes Go.ChangeAt Go.RowKit Go.Joins Go.Deep

instance : Inhabited Po := ⟨noP⟩
theorem cellsOpU : Try.prog.cellsOf 49 = 5 := by kernel_rfl
theorem cellsIntU : Try.prog.cellsOf 3 = 1 := by kernel_rfl
section
variable {H : Type} {enc : TypeId × Value → H} {W : World} {base : Nat} {sp : Nat → Bool} {held : Bool}
theorem intU_cell {n : Nat} {c : Value} {y : DataW H × List MemPlace} (h : DataW.trod enc Try.prog W base sp held n 3 [c] = some y) : ∃ a : Int, c = .int .i64 a := by
  obtain ⟨a, e, _, _⟩ := DataW.trod_int Try.underlying3 h
  simp only [List.cons.injEq, and_true] at e
  exact ⟨a, e⟩
theorem opU_cells {n : Nat} {c0 c1 c2 c3 c4 : Value} {y : DataW H × List MemPlace} (h : DataW.trod enc Try.prog W base sp held n 49 [c0, c1, c2, c3, c4] = some y) : ∃ x : Po, [c0, c1, c2, c3, c4] = opL x := by
  obtain ⟨xs, n', _, _, _, hxl, hg⟩ := DataW.trod_struct Try.underlying49 h
  match xs, hxl with
  | [y0, y1, y2, y3, y4], _ =>
    have g0 : DataW.trod enc Try.prog W base sp held n' 3 ((List.drop 0 [c0, c1, c2, c3, c4]).take (Try.prog.cellsOf 3)) = ([y0, y1, y2, y3, y4] : List (DataW H × List MemPlace))[0]? := hg 0 _ rfl
    have g1 : DataW.trod enc Try.prog W base sp held n' 3 ((List.drop 1 [c0, c1, c2, c3, c4]).take (Try.prog.cellsOf 3)) = ([y0, y1, y2, y3, y4] : List (DataW H × List MemPlace))[1]? := hg 1 _ rfl
    have g2 : DataW.trod enc Try.prog W base sp held n' 3 ((List.drop 2 [c0, c1, c2, c3, c4]).take (Try.prog.cellsOf 3)) = ([y0, y1, y2, y3, y4] : List (DataW H × List MemPlace))[2]? := hg 2 _ rfl
    have g3 : DataW.trod enc Try.prog W base sp held n' 3 ((List.drop 3 [c0, c1, c2, c3, c4]).take (Try.prog.cellsOf 3)) = ([y0, y1, y2, y3, y4] : List (DataW H × List MemPlace))[3]? := hg 3 _ rfl
    have g4 : DataW.trod enc Try.prog W base sp held n' 3 ((List.drop 4 [c0, c1, c2, c3, c4]).take (Try.prog.cellsOf 3)) = ([y0, y1, y2, y3, y4] : List (DataW H × List MemPlace))[4]? := hg 4 _ rfl
    rw [cellsIntU] at g0 g1 g2 g3 g4
    obtain ⟨a0, rfl⟩ := intU_cell (by simpa using g0)
    obtain ⟨a1, rfl⟩ := intU_cell (by simpa using g1)
    obtain ⟨a2, rfl⟩ := intU_cell (by simpa using g2)
    obtain ⟨a3, rfl⟩ := intU_cell (by simpa using g3)
    obtain ⟨a4, rfl⟩ := intU_cell (by simpa using g4)
    exact ⟨⟨a0, a1, a2, a3, a4⟩, rfl⟩
set_option maxRecDepth 100000 in
theorem open_opsU {d : DataW H} {p : List MemPlace} {A : Option Addr} {len cap : Nat} (h : DataW.Trod enc Try.prog W base sp held 34 (.slice A len cap) d p) (hsp : ∀ b, sp b = true) :
    ∃ xs : List Po, Ops W A len xs ∧ len ≤ maxLen := by
  obtain ⟨fuel, hf⟩ := h
  rcases Deep.open_slice Try.underlying34 hf with ⟨hcs, _⟩ | ⟨x, l, cp, m, n, D, Pl, hcs, _, hl, hm, hmm, _, hi⟩
  · simp only [Value.cells, List.cons.injEq, and_true] at hcs
    injection hcs with e1 e2 e3
    subst e1; subst e2; subst e3
    exact ⟨[], Ops.nil _ _, by unfold maxLen; omega⟩
  · simp only [Value.cells, List.cons.injEq, and_true] at hcs
    injection hcs with e1 e2 e3
    subst e1; subst e2; subst e3
    rw [if_pos (hsp _)] at hmm
    subst hmm
    have five : ∀ (cs : List Value), cs.length = 5 → ∀ {n y}, DataW.trod enc Try.prog W base sp held n 49 cs = some y → ∃ q : Po, cs = opL q := by
      intro cs hlen n y hf
      match cs, hlen with
      | [c0, c1, c2, c3, c4], _ => exact opU_cells hf
    have hsp0 : 0 < len → x.spot = none := fun h0 => by
      obtain ⟨cs', h1, h2⟩ := hi 0 (by omega)
      rw [cellsOpU] at h1
      obtain ⟨_, hlen, hcell⟩ := World.cells?_some h1
      obtain ⟨q, e⟩ := five _ hlen h2
      subst e
      have h3 := hcell 0 (by omega)
      have hsome : (opL q)[0]? = some (.int .i64 q.k) := rfl
      rw [hsome] at h3
      have h4 := spot_of h3
      simpa [Addr.add] using h4
    have each : ∀ i, i < len → ∃ q : Po, W.rangeAt x.block (x.off + i * 5) (opL q) ∧ x.spot = none := by
      intro i hil
      obtain ⟨cs', h1, h2⟩ := hi i (by omega)
      rw [cellsOpU] at h1
      obtain ⟨_, hlen, hcell⟩ := World.cells?_some h1
      obtain ⟨q, e⟩ := five _ hlen h2
      subst e
      have hs : x.spot = none ∧ ∀ j, j < 5 → (x.add (i * 5)).add j = ⟨x.block, x.off + i * 5 + j, none⟩ := by
        have hsn := hsp0 (by omega)
        obtain ⟨b, o, s⟩ := x
        simp only at hsn
        subst hsn
        exact ⟨rfl, fun j _ => by rw [Addr.add_mid, Addr.add_mid]⟩
      refine ⟨q, fun j v hv => ?_, hs.1⟩
      have hj : j < 5 := (List.getElem?_eq_some_iff.1 hv).1
      rw [← hs.2 j hj, hcell j hj]
      exact hv
    obtain ⟨q, hq⟩ := choose_lt each
    refine ⟨(List.range len).map q, ⟨by simp, fun hn => ?_⟩, by omega⟩
    obtain ⟨b, o, s⟩ := x
    have hs := (hq 0 hn).2
    simp only at hs
    subst hs
    refine ⟨b, o, rfl, fun i hlt => ?_⟩
    have e : nthO ((List.range len).map q) i = q i := by simp [nthO, hlt]
    rw [e]
    exact (hq i hlt).1
end

end Go.Proofs.Ytoechlmahckchaa
