/-
  What an argument that came in looks like: a config, with its queries. No program's own steps here.
-/
import Derived.Test.YtecdeplcoggjkaaOpenI
import Derived.Test.YtecdeplcoggjkaaAdCopy
import Derived.Deep.Slices
namespace Go.Proofs.Ytecdeplcoggjkaa
open Go.ChangeShapes Go.WideShapes Go.ChangeAt Go.RowKit Go.Joins Go.Deep

theorem cellsQu : Try.prog.cellsOf 42 = 6 := by kernel_rfl
theorem cellsQus : Try.prog.cellsOf 22 = 1 := by kernel_rfl
theorem cellsConf : Try.prog.cellsOf 24 = 5 := by kernel_rfl
theorem bytesQy : Try.prog.bytesOf 42 = 64 := by kernel_rfl
section
variable {H : Type} {enc : TypeId × Value → H} {W : World} {base : Nat} {sp : Nat → Bool} {held : Bool} {r : Reach} {b0 : Nat}
theorem weightsAll_memQ {P : Program} {e : TypeId} {ds : List (DataW H)} {d : DataW H} (hd : d ∈ ds) : ∀ n ∈ d.weights P e, n ∈ DataW.weightsAll P e ds := by
  induction ds with
  | nil => cases hd
  | cons a r ih =>
    intro n hn
    rw [DataW.weightsAll, List.mem_append]
    rcases List.mem_cons.1 hd with rfl | h
    · exact Or.inl hn
    · exact Or.inr (ih h n hn)
/-- A query out of its cells. -/
theorem qu_cells {fuel : Nat} {l : List Value} {y : DataW H × List MemPlace} (hf : DataW.trod enc Try.prog W base sp held fuel 42 l = some y) (hsz : l.length = 6) (hsp : ∀ b, sp b = true) :
    ∃ (q : Qu) (B : Option Addr) (m d : Nat), l = (quC q B m d).toList ∧ Ints W B m q.bs ∧ m ≤ d ∧ d ≤ maxLen ∧ (B = none → d = 0) ∧ (d = 0 ∨ d * 8 ∈ y.1.weights Try.prog 42) := by
  match l, hsz with
  | [c0, c1, c2, c3, c4, c5], _ =>
    obtain ⟨xs, n, _, hx, _, hxl, hg⟩ := DataW.trod_struct Try.underlying42 hf
    match xs, hxl with
    | [y0, y1, y2, y3, y4, y5], _ =>
      have g0 : DataW.trod enc Try.prog W base sp held n 3 ((List.drop 0 [c0, c1, c2, c3, c4, c5]).take (Try.prog.cellsOf 3)) = ([y0, y1, y2, y3, y4, y5] : List (DataW H × List MemPlace))[0]? := hg 0 _ rfl
      have g1 : DataW.trod enc Try.prog W base sp held n 3 ((List.drop 1 [c0, c1, c2, c3, c4, c5]).take (Try.prog.cellsOf 3)) = ([y0, y1, y2, y3, y4, y5] : List (DataW H × List MemPlace))[1]? := hg 1 _ rfl
      have g2 : DataW.trod enc Try.prog W base sp held n 3 ((List.drop 2 [c0, c1, c2, c3, c4, c5]).take (Try.prog.cellsOf 3)) = ([y0, y1, y2, y3, y4, y5] : List (DataW H × List MemPlace))[2]? := hg 2 _ rfl
      have g3 : DataW.trod enc Try.prog W base sp held n 3 ((List.drop 3 [c0, c1, c2, c3, c4, c5]).take (Try.prog.cellsOf 3)) = ([y0, y1, y2, y3, y4, y5] : List (DataW H × List MemPlace))[3]? := hg 3 _ rfl
      have g4 : DataW.trod enc Try.prog W base sp held n 40 ((List.drop 4 [c0, c1, c2, c3, c4, c5]).take (Try.prog.cellsOf 40)) = ([y0, y1, y2, y3, y4, y5] : List (DataW H × List MemPlace))[4]? := hg 4 _ rfl
      have g5 : DataW.trod enc Try.prog W base sp held n 3 ((List.drop 5 [c0, c1, c2, c3, c4, c5]).take (Try.prog.cellsOf 3)) = ([y0, y1, y2, y3, y4, y5] : List (DataW H × List MemPlace))[5]? := hg 5 _ rfl
      rw [cellsInt] at g0 g1 g2 g3 g5
      rw [cellsRow] at g4
      obtain ⟨a0, rfl⟩ := int_cell (by simpa [Value.cells] using g0)
      obtain ⟨a1, rfl⟩ := int_cell (by simpa [Value.cells] using g1)
      obtain ⟨a2, rfl⟩ := int_cell (by simpa [Value.cells] using g2)
      obtain ⟨a3, rfl⟩ := int_cell (by simpa [Value.cells] using g3)
      obtain ⟨A, len, cap, xs, rfl, hI, hlc, hm, hnil, hw⟩ := row_cell (by simpa [Value.cells] using g4) hsp
      obtain ⟨a5, rfl⟩ := int_cell (by simpa [Value.cells] using g5)
      refine ⟨⟨a0, a1, a2, a3, xs, a5⟩, A, len, cap, rfl, hI, hlc, hm, hnil, ?_⟩
      rcases hw with h0 | ⟨elems, spare, e, hl⟩
      · exact .inl h0
      · right
        rw [hx]
        simp only [DataW.weights, Try.underlying42]
        refine DataW.weights_mem_each (j := 4) rfl rfl _ ?_
        show cap * 8 ∈ DataW.weights Try.prog 40 y4.1
        rw [e]
        simp only [DataW.weights, Try.underlying40, bytesInt, hl]
        exact List.mem_cons_self

instance : Inhabited Qu := ⟨⟨0, 0, 0, 0, [], 0⟩⟩
set_option maxRecDepth 100000 in
/-- A slice of queries in a struct's field. -/
theorem qus_cell {fuel : Nat} {v : Value} {y : DataW H × List MemPlace} (hf : DataW.trod enc Try.prog W base sp held fuel 22 [v] = some y) (hsp : ∀ b, sp b = true)
    (hall : ∀ n ∈ y.1.weights Try.prog 22, n ≤ 140737488351232) : ∃ (A : Option Addr) (len cap : Nat) (qs : List Qu), v = .slice A len cap ∧ QusR W A len qs ∧ len * 64 ≤ 140737488351232 := by
  rcases Deep.open_slice Try.underlying22 hf with ⟨hcs, _⟩ | ⟨x, l, cp, m, n, D, Pl, hcs, _, hl, hm, hmm, hx, hi⟩
  · simp only [List.cons.injEq, and_true] at hcs
    exact ⟨none, 0, 0, [], hcs, ⟨rfl, fun h => absurd h (by omega)⟩, by omega⟩
  · simp only [List.cons.injEq, and_true] at hcs
    rw [if_pos (hsp _)] at hmm
    subst hmm
    subst hx
    have hsp0 : 0 < l → x.spot = none := fun h0 => by
      obtain ⟨cs', h1, h2⟩ := hi 0 (by omega)
      rw [cellsQu] at h1
      obtain ⟨_, hlen, hcell⟩ := World.cells?_some h1
      obtain ⟨q, B, k, c, e, _⟩ := qu_cells h2 hlen hsp
      subst e
      have h3 := hcell 0 (by omega)
      have hsome : ((quC q B k c).toList)[0]? = some (.int .i64 q.kind) := rfl
      rw [hsome] at h3
      have h4 := spot_none h3
      simpa [Addr.add] using h4
    have each : ∀ i, i < l → ∃ q : Qu × Option Addr × Nat × Nat, QuAt W x.block (x.off + i * 6) q.1 q.2.1 q.2.2.1 q.2.2.2 ∧ x.spot = none ∧ (q.2.1 = none → q.2.2.2 = 0) ∧ q.2.2.1 * 8 ≤ 140737488351232 := by
      intro i hil
      obtain ⟨cs', h1, h2⟩ := hi i (by omega)
      rw [cellsQu] at h1
      obtain ⟨_, hlen, hcell⟩ := World.cells?_some h1
      obtain ⟨q, B, k, c, e, hI, hkc, hcm, hnil, hw⟩ := qu_cells h2 hlen hsp
      subst e
      have hs : x.spot = none ∧ ∀ j, j < 6 → (x.add (i * 6)).add j = ⟨x.block, x.off + i * 6 + j, none⟩ := by
        have hsn := hsp0 (by omega)
        obtain ⟨b, o, s⟩ := x
        simp only at hsn
        subst hsn
        exact ⟨rfl, fun j _ => by rw [Addr.add_mid, Addr.add_mid]⟩
      refine ⟨(q, B, k, c), ⟨fun j v hv => ?_, hI, by simp only; omega⟩, hs.1, hnil, ?_⟩
      · have hj : j < 6 := by have := (List.getElem?_eq_some_iff.1 hv).1; rwa [quC_6] at this
        rw [← hs.2 j hj, hcell j hj]
        exact hv
      · rcases hw with h0 | h0
        · simp only; omega
        · have := hall (c * 8) (by
            simp only [DataW.weights, Try.underlying22]
            refine List.mem_cons_of_mem _ (List.mem_append_left _ (weightsAll_memQ (d := D i) ?_ _ h0))
            exact List.mem_map.2 ⟨i, List.mem_range.2 hil, rfl⟩)
          simp only; omega
    obtain ⟨q, hq⟩ := choose_lt each
    refine ⟨some x, l, _, (List.range l).map fun i => (q i).1, hcs, ⟨by simp, fun hn => ?_⟩, ?_⟩
    · obtain ⟨b, o, s⟩ := x
      have hs := (hq 0 hn).2.1
      simp only at hs
      subst hs
      refine ⟨b, o, rfl, fun i hlt => ⟨(q i).2.1, (q i).2.2.1, (q i).2.2.2, ?_, (hq i hlt).2.2.1, (hq i hlt).2.2.2⟩⟩
      have e : nthQ ((List.range l).map fun i => (q i).1) i = (q i).1 := by simp [nthQ, hlt]
      rw [e]
      exact (hq i hlt).1
    · have := hall ((l + (m - l)) * 64) (by
        simp only [DataW.weights, Try.underlying22, List.length_map, List.length_range, bytesQy]
        exact List.mem_cons_self)
      omega
set_option maxRecDepth 100000 in
/-- A config that came in. -/
theorem open_conf {v : Value} {d : DataW H} {p : List MemPlace} (hv : Value.okWide Try.prog W r b0 24 v) (h : DataW.Trod enc Try.prog W base sp held 24 v d p) (hsp : ∀ b, sp b = true)
    (hall : ∀ n ∈ d.weights Try.prog 24, n ≤ 140737488351232) :
    ∃ (A : Option Addr) (n c : Nat) (qs : List Qu) (la ro se so : Int), v = .agg #[.slice A n c, .int .i64 la, .int .i64 ro, .int .i64 se, .int .i64 so] ∧ QusR W A n qs ∧ n * 64 ≤ 140737488351232 := by
  obtain ⟨cs, rfl, hsz⟩ := okWide_struct Try.underlying24 hv
  obtain ⟨l⟩ := cs
  match l, hsz.trans cellsConf with
  | [c0, c1, c2, c3, c4], _ =>
    obtain ⟨fuel, hf⟩ := h
    obtain ⟨xs, n, _, hx, _, hxl, hg⟩ := DataW.trod_struct Try.underlying24 hf
    match xs, hxl with
    | [y0, y1, y2, y3, y4], _ =>
      have g0 : DataW.trod enc Try.prog W base sp held n 22 ((List.drop 0 [c0, c1, c2, c3, c4]).take (Try.prog.cellsOf 22)) = ([y0, y1, y2, y3, y4] : List (DataW H × List MemPlace))[0]? := hg 0 _ rfl
      have g1 : DataW.trod enc Try.prog W base sp held n 3 ((List.drop 1 [c0, c1, c2, c3, c4]).take (Try.prog.cellsOf 3)) = ([y0, y1, y2, y3, y4] : List (DataW H × List MemPlace))[1]? := hg 1 _ rfl
      have g2 : DataW.trod enc Try.prog W base sp held n 3 ((List.drop 2 [c0, c1, c2, c3, c4]).take (Try.prog.cellsOf 3)) = ([y0, y1, y2, y3, y4] : List (DataW H × List MemPlace))[2]? := hg 2 _ rfl
      have g3 : DataW.trod enc Try.prog W base sp held n 3 ((List.drop 3 [c0, c1, c2, c3, c4]).take (Try.prog.cellsOf 3)) = ([y0, y1, y2, y3, y4] : List (DataW H × List MemPlace))[3]? := hg 3 _ rfl
      have g4 : DataW.trod enc Try.prog W base sp held n 3 ((List.drop 4 [c0, c1, c2, c3, c4]).take (Try.prog.cellsOf 3)) = ([y0, y1, y2, y3, y4] : List (DataW H × List MemPlace))[4]? := hg 4 _ rfl
      rw [cellsInt] at g1 g2 g3 g4
      rw [cellsQus] at g0
      obtain ⟨a1, rfl⟩ := int_cell (by simpa [Value.cells] using g1)
      obtain ⟨a2, rfl⟩ := int_cell (by simpa [Value.cells] using g2)
      obtain ⟨a3, rfl⟩ := int_cell (by simpa [Value.cells] using g3)
      obtain ⟨a4, rfl⟩ := int_cell (by simpa [Value.cells] using g4)
      have hall0 : ∀ k ∈ y0.1.weights Try.prog 22, k ≤ 140737488351232 := fun k hk => hall k (by
        simp only [Prod.mk.injEq] at hx
        rw [hx.1]
        simp only [DataW.weights, Try.underlying24]
        exact DataW.weights_mem_each (j := 0) rfl rfl _ hk)
      obtain ⟨A, len, cap, qs, rfl, hq, hn⟩ := qus_cell (by simpa [Value.cells] using g0) hsp hall0
      exact ⟨A, len, cap, qs, a1, a2, a3, a4, rfl, hq, hn⟩
end

end Go.Proofs.Ytecdeplcoggjkaa
