/-
  What an argument that came in looks like: a slice of items. No program's own steps here.
-/
import Derived.Test.YtdoflmphkalicaaOpenG
import Derived.Test.YtdoflmphkalicaaIt0
namespace Go.Proofs.Ytdoflmphkalicaa
open Go.ChangeShapes Go.WideShapes Go.ChangeAt Go.RowKit Go.Joins Go.Deep

set_option maxRecDepth 100000 in
theorem cellsItemT : Try.prog.cellsOf 47 = 4 := by kernel_rfl
set_option maxRecDepth 100000 in
theorem cellsIntT : Try.prog.cellsOf 3 = 1 := by kernel_rfl
section
variable {H : Type} {enc : TypeId × Value → H} {W : World} {base : Nat} {sp : Nat → Bool} {held : Bool}
set_option maxRecDepth 100000 in
theorem intT_cell {n : Nat} {c : Value} {y : DataW H × List MemPlace} (h : DataW.trod enc Try.prog W base sp held n 3 [c] = some y) : ∃ a : Int, c = .int .i64 a := by
  obtain ⟨a, e, _, _⟩ := DataW.trod_int Try.underlying3 h
  simp only [List.cons.injEq, and_true] at e
  exact ⟨a, e⟩
set_option maxRecDepth 100000 in
theorem itT_cells {n : Nat} {c0 c1 c2 c3 : Value} {y : DataW H × List MemPlace} (h : DataW.trod enc Try.prog W base sp held n 47 [c0, c1, c2, c3] = some y) : ∃ x : It, [c0, c1, c2, c3] = itemL x := by
  obtain ⟨xs, n', _, _, _, hxl, hg⟩ := DataW.trod_struct Try.underlying47 h
  match xs, hxl with
  | [y0, y1, y2, y3], _ =>
    have g0 : DataW.trod enc Try.prog W base sp held n' 3 ((List.drop 0 [c0, c1, c2, c3]).take (Try.prog.cellsOf 3)) = ([y0, y1, y2, y3] : List (DataW H × List MemPlace))[0]? := hg 0 _ rfl
    have g1 : DataW.trod enc Try.prog W base sp held n' 3 ((List.drop 1 [c0, c1, c2, c3]).take (Try.prog.cellsOf 3)) = ([y0, y1, y2, y3] : List (DataW H × List MemPlace))[1]? := hg 1 _ rfl
    have g2 : DataW.trod enc Try.prog W base sp held n' 3 ((List.drop 2 [c0, c1, c2, c3]).take (Try.prog.cellsOf 3)) = ([y0, y1, y2, y3] : List (DataW H × List MemPlace))[2]? := hg 2 _ rfl
    have g3 : DataW.trod enc Try.prog W base sp held n' 3 ((List.drop 3 [c0, c1, c2, c3]).take (Try.prog.cellsOf 3)) = ([y0, y1, y2, y3] : List (DataW H × List MemPlace))[3]? := hg 3 _ rfl
    rw [cellsIntT] at g0 g1 g2 g3
    obtain ⟨a0, rfl⟩ := intT_cell (by simpa using g0)
    obtain ⟨a1, rfl⟩ := intT_cell (by simpa using g1)
    obtain ⟨a2, rfl⟩ := intT_cell (by simpa using g2)
    obtain ⟨a3, rfl⟩ := intT_cell (by simpa using g3)
    exact ⟨⟨a0, a1, a2, a3⟩, rfl⟩
set_option maxRecDepth 100000 in
/-- A slice of items that came in. -/
theorem open_itemsT {d : DataW H} {p : List MemPlace} {A : Option Addr} {len cap : Nat} (h : DataW.Trod enc Try.prog W base sp held 36 (.slice A len cap) d p) (hsp : ∀ b, sp b = true) :
    ∃ xs : List It, Items W A len xs ∧ (A = none → cap = 0 ∧ len = 0) ∧ len ≤ cap ∧ cap ≤ maxLen := by
  obtain ⟨fuel, hf⟩ := h
  rcases Deep.open_slice Try.underlying36 hf with ⟨hcs, _⟩ | ⟨x, l, cp, m, n, D, Pl, hcs, _, hl, hm, hmm, _, hi⟩
  · simp only [Value.cells, List.cons.injEq, and_true] at hcs
    injection hcs with e1 e2 e3
    subst e1; subst e2; subst e3
    exact ⟨[], Items.nil _ _, fun _ => ⟨rfl, rfl⟩, Nat.le_refl _, by unfold maxLen; omega⟩
  · simp only [Value.cells, List.cons.injEq, and_true] at hcs
    injection hcs with e1 e2 e3
    subst e1; subst e2; subst e3
    rw [if_pos (hsp _)] at hmm
    subst hmm
    have four : ∀ (cs : List Value), cs.length = 4 → ∀ {n y}, DataW.trod enc Try.prog W base sp held n 47 cs = some y → ∃ q : It, cs = itemL q := by
      intro cs hlen n y hf
      match cs, hlen with
      | [c0, c1, c2, c3], _ => exact itT_cells hf
    have hsp0 : 0 < len → x.spot = none := fun h0 => by
      obtain ⟨cs', h1, h2⟩ := hi 0 (by omega)
      rw [cellsItemT] at h1
      obtain ⟨_, hlen, hcell⟩ := World.cells?_some h1
      obtain ⟨q, e⟩ := four _ hlen h2
      subst e
      have h3 := hcell 0 (by omega)
      have hsome : (itemL q)[0]? = some (.int .i64 q.s) := rfl
      rw [hsome] at h3
      have h4 := spot_G h3
      simpa [Addr.add] using h4
    have each : ∀ i, i < len → ∃ q : It, W.rangeAt x.block (x.off + i * 4) (itemL q) := by
      intro i hil
      obtain ⟨cs', h1, h2⟩ := hi i (by omega)
      rw [cellsItemT] at h1
      obtain ⟨_, hlen, hcell⟩ := World.cells?_some h1
      obtain ⟨q, e⟩ := four _ hlen h2
      subst e
      have hs : ∀ j, j < 4 → (x.add (i * 4)).add j = ⟨x.block, x.off + i * 4 + j, none⟩ := by
        have hsn := hsp0 (by omega)
        obtain ⟨b, o, s⟩ := x
        simp only at hsn
        subst hsn
        exact fun j _ => by rw [Addr.add_mid, Addr.add_mid]
      refine ⟨q, fun j v hv => ?_⟩
      have hj : j < 4 := (List.getElem?_eq_some_iff.1 hv).1
      rw [← hs j hj, hcell j hj]
      exact hv
    haveI : Inhabited It := ⟨zeroIt⟩
    obtain ⟨q, hq⟩ := choose_lt each
    refine ⟨(List.range len).map q, ⟨by simp, fun hn => ?_⟩, fun e => (by cases e), hl, hm⟩
    have hs := hsp0 hn
    obtain ⟨b, o, s⟩ := x
    simp only at hs
    subst hs
    refine ⟨b, o, rfl, fun i hlt => ?_⟩
    have e : nthI ((List.range len).map q) i = q i := by simp [nthI, hlt]
    rw [e]
    exact hq i hlt
end

end Go.Proofs.Ytdoflmphkalicaa
