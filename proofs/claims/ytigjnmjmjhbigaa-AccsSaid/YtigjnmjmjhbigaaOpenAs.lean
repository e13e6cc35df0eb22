/-
  What an argument that came in looks like: a slice of aggregates. No program's own steps here.
-/
import Derived.Test.YtigjnmjmjhbigaaOpenA
import Derived.Test.YtigjnmjmjhbigaaCopyAs
import Derived.Deep.Slices
namespace Go.Proofs.Ytigjnmjmjhbigaa
open Go.ChangeShapes Go.WideShapes Go.ChangeAt Go.RowKit Go.Joins Go.Deep

theorem bytesAcc : Try.prog.bytesOf 29 = 120 := by kernel_rfl
section
variable {H : Type} {enc : TypeId × Value → H} {W : World} {base : Nat} {sp : Nat → Bool} {held : Bool}
theorem weightsAll_mem {P : Program} {e : TypeId} {ds : List (DataW H)} {d : DataW H} (hd : d ∈ ds) : ∀ n ∈ d.weights P e, n ∈ DataW.weightsAll P e ds := by
  induction ds with
  | nil => cases hd
  | cons a r ih =>
    intro n hn
    rw [DataW.weightsAll, List.mem_append]
    rcases List.mem_cons.1 hd with rfl | h
    · exact Or.inl hn
    · exact Or.inr (ih h n hn)
/-- An aggregate out of its cells. -/
theorem acc_cells {fuel : Nat} {l : List Value} {y : DataW H × List MemPlace} (hf : DataW.trod enc Try.prog W base sp held fuel 29 l = some y) (hsz : l.length = 13) (hsp : ∀ b, sp b = true) :
    ∃ (a : Ac) (A : Option Addr) (k c : Nat), l = (accC a A k c).toList ∧ Ints W A k a.h ∧ k ≤ c ∧ c ≤ maxLen ∧ (A = none → c = 0) ∧ (c = 0 ∨ c * 8 ∈ y.1.weights Try.prog 29) := by
  match l, hsz with
  | [c0, c1, c2, c3, c4, c5, c6, c7, c8, c9, c10, c11, c12], _ =>
    obtain ⟨xs, n, _, hx, _, hxl, hg⟩ := DataW.trod_struct Try.underlying29 hf
    match xs, hxl with
    | [y0, y1, y2, y3, y4, y5, y6], _ =>
      have g0 : DataW.trod enc Try.prog W base sp held n 3 ((List.drop 0 [c0, c1, c2, c3, c4, c5, c6, c7, c8, c9, c10, c11, c12]).take (Try.prog.cellsOf 3)) = ([y0, y1, y2, y3, y4, y5, y6] : List (DataW H × List MemPlace))[0]? := hg 0 _ rfl
      have g1 : DataW.trod enc Try.prog W base sp held n 3 ((List.drop 1 [c0, c1, c2, c3, c4, c5, c6, c7, c8, c9, c10, c11, c12]).take (Try.prog.cellsOf 3)) = ([y0, y1, y2, y3, y4, y5, y6] : List (DataW H × List MemPlace))[1]? := hg 1 _ rfl
      have g2 : DataW.trod enc Try.prog W base sp held n 3 ((List.drop 2 [c0, c1, c2, c3, c4, c5, c6, c7, c8, c9, c10, c11, c12]).take (Try.prog.cellsOf 3)) = ([y0, y1, y2, y3, y4, y5, y6] : List (DataW H × List MemPlace))[2]? := hg 2 _ rfl
      have g3 : DataW.trod enc Try.prog W base sp held n 3 ((List.drop 3 [c0, c1, c2, c3, c4, c5, c6, c7, c8, c9, c10, c11, c12]).take (Try.prog.cellsOf 3)) = ([y0, y1, y2, y3, y4, y5, y6] : List (DataW H × List MemPlace))[3]? := hg 3 _ rfl
      have g4 : DataW.trod enc Try.prog W base sp held n 23 ((List.drop 4 [c0, c1, c2, c3, c4, c5, c6, c7, c8, c9, c10, c11, c12]).take (Try.prog.cellsOf 23)) = ([y0, y1, y2, y3, y4, y5, y6] : List (DataW H × List MemPlace))[4]? := hg 4 _ rfl
      have g5 : DataW.trod enc Try.prog W base sp held n 23 ((List.drop 8 [c0, c1, c2, c3, c4, c5, c6, c7, c8, c9, c10, c11, c12]).take (Try.prog.cellsOf 23)) = ([y0, y1, y2, y3, y4, y5, y6] : List (DataW H × List MemPlace))[5]? := hg 5 _ rfl
      have g6 : DataW.trod enc Try.prog W base sp held n 25 ((List.drop 12 [c0, c1, c2, c3, c4, c5, c6, c7, c8, c9, c10, c11, c12]).take (Try.prog.cellsOf 25)) = ([y0, y1, y2, y3, y4, y5, y6] : List (DataW H × List MemPlace))[6]? := hg 6 _ rfl
      rw [cellsInt] at g0 g1 g2 g3
      rw [cellsItem] at g4 g5
      rw [cellsRow] at g6
      obtain ⟨a0, rfl⟩ := int_cell (by simpa [Value.cells] using g0)
      obtain ⟨a1, rfl⟩ := int_cell (by simpa [Value.cells] using g1)
      obtain ⟨a2, rfl⟩ := int_cell (by simpa [Value.cells] using g2)
      obtain ⟨a3, rfl⟩ := int_cell (by simpa [Value.cells] using g3)
      obtain ⟨f, rfl, rfl, rfl, rfl⟩ := item_cells (by simpa [Value.cells] using g4)
      obtain ⟨z, rfl, rfl, rfl, rfl⟩ := item_cells (by simpa [Value.cells] using g5)
      obtain ⟨A, len, cap, xs, rfl, hI, hlc, hm, hnil, hw⟩ := row_cell (by simpa [Value.cells] using g6) hsp
      refine ⟨⟨a0, a1, a2, a3, f, z, xs⟩, A, len, cap, rfl, hI, hlc, hm, hnil, ?_⟩
      rcases hw with h0 | ⟨elems, spare, e, hl⟩
      · exact .inl h0
      · right
        rw [hx]
        simp only [DataW.weights, Try.underlying29]
        refine DataW.weights_mem_each (j := 6) rfl rfl _ ?_
        show cap * 8 ∈ DataW.weights Try.prog 25 y6.1
        rw [e]
        simp only [DataW.weights, Try.underlying25, bytesInt, hl]
        exact List.mem_cons_self

instance : Inhabited Ac := ⟨zeroAc⟩
set_option maxRecDepth 100000 in
/-- A slice of aggregates that came in. -/
theorem open_accs {d : DataW H} {p : List MemPlace} {A : Option Addr} {len cap : Nat} (h : DataW.Trod enc Try.prog W base sp held 24 (.slice A len cap) d p) (hsp : ∀ b, sp b = true)
    (hall : ∀ n ∈ d.weights Try.prog 24, n ≤ 140737488351232) : ∃ xs : List Ac, AccsR W A len xs ∧ len * 120 ≤ 140737488351232 := by
  obtain ⟨fuel, hf⟩ := h
  rcases Deep.open_slice Try.underlying24 hf with ⟨hcs, _⟩ | ⟨x, l, cp, m, n, D, Pl, hcs, _, hl, hm, hmm, hx, hi⟩
  · simp only [Value.cells, List.cons.injEq, and_true] at hcs
    injection hcs with e1 e2 e3
    subst e1; subst e2; subst e3
    exact ⟨[], ⟨rfl, fun h => absurd h (by omega)⟩, by omega⟩
  · simp only [Value.cells, List.cons.injEq, and_true] at hcs
    injection hcs with e1 e2 e3
    subst e1; subst e2; subst e3
    rw [if_pos (hsp _)] at hmm
    subst hmm
    injection hx with hd _
    have hsp0 : 0 < len → x.spot = none := fun h0 => by
      obtain ⟨cs', h1, h2⟩ := hi 0 (by omega)
      rw [cellsAcc] at h1
      obtain ⟨_, hlen, hcell⟩ := World.cells?_some h1
      obtain ⟨a, B, k, c, e, _⟩ := acc_cells h2 hlen hsp
      subst e
      have h3 := hcell 0 (by omega)
      have hsome : ((accC a B k c).toList)[0]? = some (.int .i64 a.n) := rfl
      rw [hsome] at h3
      have h4 := spot_none h3
      simpa [Addr.add] using h4
    have each : ∀ i, i < len → ∃ q : Ac × Option Addr × Nat × Nat, AccAt W x.block (x.off + i * 13) q.1 q.2.1 q.2.2.1 q.2.2.2 ∧ x.spot = none ∧ (q.2.1 = none → q.2.2.2 = 0) ∧ q.2.2.1 * 8 ≤ 140737488351232 := by
      intro i hil
      obtain ⟨cs', h1, h2⟩ := hi i (by omega)
      rw [cellsAcc] at h1
      obtain ⟨_, hlen, hcell⟩ := World.cells?_some h1
      obtain ⟨a, B, k, c, e, hI, hkc, hcm, hnil, hw⟩ := acc_cells h2 hlen hsp
      subst e
      have hs : x.spot = none ∧ ∀ j, j < 13 → (x.add (i * 13)).add j = ⟨x.block, x.off + i * 13 + j, none⟩ := by
        have hsn := hsp0 (by omega)
        obtain ⟨b, o, s⟩ := x
        simp only at hsn
        subst hsn
        exact ⟨rfl, fun j _ => by rw [Addr.add_mid, Addr.add_mid]⟩
      refine ⟨(a, B, k, c), ⟨fun j v hv => ?_, hI, hkc, hcm⟩, hs.1, hnil, ?_⟩
      · have hj : j < 13 := by have := (List.getElem?_eq_some_iff.1 hv).1; rwa [accC_len] at this
        rw [← hs.2 j hj, hcell j hj]
        exact hv
      · rcases hw with h0 | h0
        · simp only; omega
        · have := hall (c * 8) (by
            rw [hd]
            simp only [DataW.weights, Try.underlying24]
            refine List.mem_cons_of_mem _ (List.mem_append_left _ (weightsAll_mem (d := D i) ?_ _ h0))
            exact List.mem_map.2 ⟨i, List.mem_range.2 hil, rfl⟩)
          simp only; omega
    obtain ⟨q, hq⟩ := choose_lt each
    refine ⟨(List.range len).map fun i => (q i).1, ⟨by simp, fun hn => ?_⟩, ?_⟩
    · obtain ⟨b, o, s⟩ := x
      have hs := (hq 0 hn).2.1
      simp only at hs
      subst hs
      refine ⟨b, o, rfl, fun i hlt => ⟨(q i).2.1, (q i).2.2.1, (q i).2.2.2, ?_, (hq i hlt).2.2.1, (hq i hlt).2.2.2⟩⟩
      have e : nthA ((List.range len).map fun i => (q i).1) i = (q i).1 := by simp [nthA, hlt]
      rw [e]
      exact (hq i hlt).1
    · have := hall ((len + (m - len)) * 120) (by
        rw [hd]
        simp only [DataW.weights, Try.underlying24, List.length_map, List.length_range, bytesAcc]
        exact List.mem_cons_self)
      omega
/-- A slice of integers that came in, with what it weighs. -/
theorem open_bounds {d : DataW H} {p : List MemPlace} {A : Option Addr} {len cap : Nat} (h : DataW.Trod enc Try.prog W base sp held 25 (.slice A len cap) d p) (hsp : ∀ b, sp b = true)
    (hall : ∀ n ∈ d.weights Try.prog 25, n ≤ 140737488351232) : ∃ xs : List Int, Ints W A len xs ∧ len * 8 ≤ 140737488351232 ∧ (A = none → cap = 0) := by
  obtain ⟨fuel, hf⟩ := h
  obtain ⟨A', len', cap', xs, e, hI, hlc, hm, hnil, hw⟩ := row_cell (by simpa [Value.cells] using hf) hsp
  injection e with e1 e2 e3
  subst e1; subst e2; subst e3
  refine ⟨xs, hI, ?_, hnil⟩
  rcases hw with h0 | ⟨elems, spare, e, hl⟩
  · omega
  · have := hall (cap * 8) (by
      simp only at e
      rw [e]
      simp only [DataW.weights, Try.underlying25, bytesInt, hl]
      exact List.mem_cons_self)
    omega
end

end Go.Proofs.Ytigjnmjmjhbigaa
