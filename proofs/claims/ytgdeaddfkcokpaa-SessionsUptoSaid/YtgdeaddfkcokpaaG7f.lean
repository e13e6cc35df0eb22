/-
  What an argument that came in looks like: a slice of integers, an item. No program's own steps here.
  What an argument that came in looks like: an int and a slice of ints in a struct's fields. No program's own steps here.
  What an argument that came in looks like: an aggregate. No program's own steps here.
  What an argument that came in looks like: a slice of aggregates. No program's own steps here.
  What an argument that came in looks like: a slice of sessions, a slice of items. No program's own steps here.
-/
import Derived.Test.YtgdeaddfkcokpaaProg
import Derived.Test.YtgdeaddfkcokpaaMem
import Derived.ProofKit
import Derived.OpenShut
import Derived.ChangeOld
import Derived.Lib.SmallJoins
import Derived.SizedLaws
import Derived.Test.YtgdeaddfkcokpaaOne
import Derived.Test.YtgdeaddfkcokpaaCopyAs
import Derived.Deep.Slices
import Derived.Test.YtgdeaddfkcokpaaG6i
import Derived.Test.YtgdeaddfkcokpaaG7e
namespace Go.Proofs.Ytgdeaddfkcokpaa
open Go.ChangeShapes Go.WideShapes Go.ChangeAt Go.RowKit Go.Joins Go.Deep

theorem spot_none {w : World} {x : Addr} {v : Value} (h : w.cell? x = some v) : x.spot = none := by
  unfold World.cell? at h
  split at h
  · cases e : x.spot with
    | none => rfl
    | some y => rw [e] at h; simp at h
  · cases h
/-- A slice of integers that came in. -/
theorem open_slice {H : Type} {enc : TypeId × Value → H} {W : World} {base : Nat} {sp : Nat → Bool} {d : DataW H} {p : List MemPlace} {a : Option Addr} {len cap : Nat} (h : DataW.Trod enc Try.prog W base sp true 25 (.slice a len cap) d p) (hsp : ∀ b, sp b = true) :
    ∃ xs : List Int, Ints W a len xs ∧ len ≤ maxLen ∧ ∀ x ∈ xs, (Lit.int .i64 x).wf = true := by
  obtain ⟨fuel, hf⟩ := h
  rcases open_ints Try.underlying25 Try.underlying3 (by kernel_rfl) hf with ⟨hcs, _⟩ | ⟨x, l, c, zs, hcs, _, hl, hm, hz, _, hcell, hwz⟩
  · simp [Value.cells] at hcs
    obtain ⟨rfl, rfl, rfl⟩ := hcs
    exact ⟨[], Ints.nil, Nat.zero_le _, fun _ h => by cases h⟩
  · simp [Value.cells] at hcs
    obtain ⟨rfl, rfl, rfl⟩ := hcs
    have hz' : zs.length = cap := by rw [hz, if_pos (hsp _)]
    refine ⟨zs.take len, ⟨by simp only [List.length_take]; omega, fun hn => ⟨x.block, x.off, ?_, fun k hk => ?_⟩⟩, by omega, fun y hy => hwz y (List.mem_of_mem_take hy)⟩
    · have h0 := hcell 0 (by omega)
      have hs := spot_none h0
      simp only [Addr.add, if_true] at hs
      obtain ⟨b, o, s⟩ := x
      simp only at hs
      rw [hs]
    · have h1 := hcell k (by omega)
      have e : x.add k = ⟨x.block, x.off + k, none⟩ := by
        have hs := spot_none (hcell 0 (by omega))
        simp only [Addr.add, if_true] at hs
        obtain ⟨b, o, s⟩ := x
        simp only at hs
        subst hs
        by_cases h : k = 0
        · subst h; rfl
        · simp [Addr.add, h]
      rw [e] at h1
      rw [h1]
      have hk2 : k < zs.length := by omega
      simp [nth, hk, hk2]
set_option maxRecDepth 100000 in
theorem open_item {H : Type} {enc : TypeId × Value → H} {W : World} {base : Nat} {sp : Nat → Bool} {held : Bool} {r : Reach} {b0 : Nat} {v : Value} {d : DataW H} {p : List MemPlace} (hv : Value.okWide Try.prog W r b0 23 v) (h : DataW.Trod enc Try.prog W base sp held 23 v d p) :
    ∃ x : It, v = .agg #[.int .i64 x.s, .int .i64 x.t, .int .i64 x.q, .int .i64 x.v] ∧ (Lit.int .i64 x.s).wf = true ∧ (Lit.int .i64 x.t).wf = true ∧ (Lit.int .i64 x.q).wf = true ∧ (Lit.int .i64 x.v).wf = true := by
  obtain ⟨v0, v1, v2, v3, y0, y1, y2, y3, n, rfl, _, _, t0, t1, t2, t3⟩ := open_agg4 Try.underlying23 (by kernel_rfl) (by kernel_rfl) hv h
  obtain ⟨a, e0, _, w0⟩ := DataW.trod_int Try.underlying3 t0
  obtain ⟨b, e1, _, w1⟩ := DataW.trod_int Try.underlying3 t1
  obtain ⟨c, e2, _, w2⟩ := DataW.trod_int Try.underlying3 t2
  obtain ⟨e, e3, _, w3⟩ := DataW.trod_int Try.underlying3 t3
  simp only [List.cons.injEq, and_true] at e0 e1 e2 e3
  subst e0 e1 e2 e3
  exact ⟨⟨a, b, c, e⟩, rfl, w0, w1, w2, w3⟩

end Go.Proofs.Ytgdeaddfkcokpaa

namespace Go.Proofs.Ytgdeaddfkcokpaa
open Go.ChangeShapes Go.WideShapes Go.ChangeAt Go.RowKit Go.Joins Go.Deep

theorem cellsInt : Try.prog.cellsOf 3 = 1 := by kernel_rfl
theorem cellsRow : Try.prog.cellsOf 25 = 1 := by kernel_rfl
theorem bytesInt : Try.prog.bytesOf 3 = 8 := by kernel_rfl

section
variable {H : Type} {enc : TypeId × Value → H} {W : World} {base : Nat} {sp : Nat → Bool} {held : Bool} {r : Reach} {b0 : Nat}
theorem int_cell {n : Nat} {c : Value} {y : DataW H × List MemPlace} (h : DataW.trod enc Try.prog W base sp held n 3 [c] = some y) : ∃ a : Int, c = .int .i64 a := by
  obtain ⟨a, e, _, _⟩ := DataW.trod_int Try.underlying3 h
  simp only [List.cons.injEq, and_true] at e
  exact ⟨a, e⟩
/-- A slice of integers in a struct's field. -/
theorem row_cell {n : Nat} {c : Value} {y : DataW H × List MemPlace} (h : DataW.trod enc Try.prog W base sp held n 25 [c] = some y) (hsp : ∀ b, sp b = true) :
    ∃ (A : Option Addr) (len cap : Nat) (xs : List Int), c = .slice A len cap ∧ Ints W A len xs ∧ len ≤ cap ∧ cap ≤ maxLen ∧ (A = none → cap = 0) ∧ (cap = 0 ∨ ∃ elems spare, y.1 = .slice elems spare ∧ elems.length + spare.length = cap) := by
  rcases open_ints Try.underlying25 Try.underlying3 (by kernel_rfl) h with ⟨hcs, _⟩ | ⟨x, l, cp, zs, hcs, _, hl, hm, hz, hd, hcell, hwz⟩
  · simp only [List.cons.injEq, and_true] at hcs
    exact ⟨none, 0, 0, [], hcs, Ints.nil, Nat.le_refl _, Nat.zero_le _, fun _ => rfl, .inl rfl⟩
  · simp only [List.cons.injEq, and_true] at hcs
    subst hcs
    have hz' : zs.length = cp := by rw [hz, if_pos (hsp _)]
    refine ⟨some x, l, cp, zs.take l, rfl, ⟨by simp only [List.length_take]; omega, fun hn => ⟨x.block, x.off, ?_, fun k hk => ?_⟩⟩, hl, hm, (fun e => by cases e), Or.inr ⟨_, _, (by rw [hd]), (by simp [lits]; omega)⟩⟩
    · have h0 := hcell 0 (by omega)
      have hs := spot_none h0
      simp only [Addr.add, if_true] at hs
      obtain ⟨b, o, s⟩ := x
      simp only at hs
      rw [hs]
    · have h1 := hcell k (by omega)
      have e : x.add k = ⟨x.block, x.off + k, none⟩ := by
        have hs := spot_none (hcell 0 (by omega))
        simp only [Addr.add, if_true] at hs
        obtain ⟨b, o, s⟩ := x
        simp only at hs
        subst hs
        by_cases h : k = 0
        · subst h; rfl
        · simp [Addr.add, h]
      rw [e] at h1
      rw [h1]
      have hk2 : k < zs.length := by omega
      simp [nth, hk, hk2]
end

end Go.Proofs.Ytgdeaddfkcokpaa

namespace Go.Proofs.Ytgdeaddfkcokpaa
open Go.ChangeShapes Go.WideShapes Go.ChangeAt Go.RowKit Go.Joins Go.Deep

theorem cellsItem : Try.prog.cellsOf 23 = 4 := by kernel_rfl
theorem cellsAcc : Try.prog.cellsOf 29 = 13 := by kernel_rfl
section
variable {H : Type} {enc : TypeId × Value → H} {W : World} {base : Nat} {sp : Nat → Bool} {held : Bool} {r : Reach} {b0 : Nat}
theorem item_cells {n : Nat} {c0 c1 c2 c3 : Value} {y : DataW H × List MemPlace} (h : DataW.trod enc Try.prog W base sp held n 23 [c0, c1, c2, c3] = some y) : ∃ x : It, c0 = .int .i64 x.s ∧ c1 = .int .i64 x.t ∧ c2 = .int .i64 x.q ∧ c3 = .int .i64 x.v := by
  obtain ⟨xs, n', _, _, _, hxl, hg⟩ := DataW.trod_struct Try.underlying23 h
  match xs, hxl with
  | [y0, y1, y2, y3], _ =>
    have g0 : DataW.trod enc Try.prog W base sp held n' 3 ((List.drop 0 [c0, c1, c2, c3]).take (Try.prog.cellsOf 3)) = ([y0, y1, y2, y3] : List (DataW H × List MemPlace))[0]? := hg 0 _ rfl
    have g1 : DataW.trod enc Try.prog W base sp held n' 3 ((List.drop 1 [c0, c1, c2, c3]).take (Try.prog.cellsOf 3)) = ([y0, y1, y2, y3] : List (DataW H × List MemPlace))[1]? := hg 1 _ rfl
    have g2 : DataW.trod enc Try.prog W base sp held n' 3 ((List.drop 2 [c0, c1, c2, c3]).take (Try.prog.cellsOf 3)) = ([y0, y1, y2, y3] : List (DataW H × List MemPlace))[2]? := hg 2 _ rfl
    have g3 : DataW.trod enc Try.prog W base sp held n' 3 ((List.drop 3 [c0, c1, c2, c3]).take (Try.prog.cellsOf 3)) = ([y0, y1, y2, y3] : List (DataW H × List MemPlace))[3]? := hg 3 _ rfl
    rw [cellsInt] at g0 g1 g2 g3
    obtain ⟨a0, rfl⟩ := int_cell (by simpa using g0)
    obtain ⟨a1, rfl⟩ := int_cell (by simpa using g1)
    obtain ⟨a2, rfl⟩ := int_cell (by simpa using g2)
    obtain ⟨a3, rfl⟩ := int_cell (by simpa using g3)
    exact ⟨⟨a0, a1, a2, a3⟩, rfl, rfl, rfl, rfl⟩
set_option maxRecDepth 100000 in
theorem open_acc {v : Value} {d : DataW H} {p : List MemPlace} (hv : Value.okWide Try.prog W r b0 29 v) (h : DataW.Trod enc Try.prog W base sp held 29 v d p) (hsp : ∀ b, sp b = true) :
    ∃ (a : Ac) (A : Option Addr) (k c : Nat), v = .agg (accC a A k c) ∧ Ints W A k a.h ∧ k ≤ c ∧ (A = none → c = 0) ∧ (c = 0 ∨ c * 8 ∈ d.weights Try.prog 29) := by
  obtain ⟨cs, rfl, hsz⟩ := okWide_struct Try.underlying29 hv
  obtain ⟨l⟩ := cs
  match l, hsz.trans cellsAcc with
  | [c0, c1, c2, c3, c4, c5, c6, c7, c8, c9, c10, c11, c12], _ =>
    obtain ⟨fuel, hf⟩ := h
    obtain ⟨xs, n, _, hx, _, hxl, hg⟩ := DataW.trod_struct Try.underlying29 hf
    match xs, hxl with
    | [y0, y1, y2, y3, y4, y5, y6], _ =>
      have g0 : DataW.trod enc Try.prog W base sp held n 3 ((List.drop 0 [c0, c1, c2, c3, c4, c5, c6, c7, c8, c9, c10, c11, c12]).take (Try.prog.cellsOf 3)) = ([y0, y1, y2, y3, y4, y5, y6] : List (DataW H × List MemPlace))[0]? := hg 0 _ rfl
      have g1 : DataW.trod enc Try.prog W base sp held n 3 ((List.drop 1 [c0, c1, c2, c3, c4, c5, c6, c7, c8, c9, c10, c11, c12]).take (Try.prog.cellsOf 3)) = ([y0, y1, y2, y3, y4, y5, y6] : List (DataW H × List MemPlace))[1]? := hg 1 _ rfl
      have g2 : DataW.trod enc Try.prog W base sp held n 3 ((List.drop 2 [c0, c1, c2, c3, c4, c5, c6, c7, c8, c9, c10, c11, c12]).take (Try.prog.cellsOf 3)) = ([y0, y1, y2, y3, y4, y5, y6] : List (DataW H × List MemPlace))[2]? := hg 2 _ rfl
      have g3 : DataW.trod enc Try.prog W base sp held n 3 ((List.drop 3 [c0, c1, c2, c3, c4, c5, c6, c7, c8, c9, c10, c11, c12]).take (Try.prog.cellsOf 3)) = ([y0, y1, y2, y3, y4, y5, y6] : List (DataW H × List MemPlace))[3]? := hg 3 _ rfl
      have g4 : DataW.trod enc Try.prog W base sp held n 23 ((List.drop 4 [c0, c1, c2, c3, c4, c5, c6, c7, c8, c9, c10, c11, c12]).take (Try.prog.cellsOf 23)) = ([y0, y1, y2, y3, y4, y5, y6] : List (DataW H × List MemPlace))[4]? := hg 4 _ rfl
      have g5 : DataW.trod enc Try.prog W base sp held n 23 ((List.drop 8 [c0, c1, c2, c3, c4, c5, c6, c7, c8, c9, c10, c11, c12]).take (Try.prog.cellsOf 23)) = ([y0, y1, y2, y3, y4, y5, y6] : List (DataW H × List MemPlace))[5]? := hg 5 _ rfl
      have g6 : DataW.trod enc Try.prog W base sp held n 25 ((List.drop 12 [c0, c1, c2, c3, c4, c5, c6, c7, c8, c9, c10, c11, c12]).take (Try.prog.cellsOf 25)) = ([y0, y1, y2, y3, y4, y5, y6] : List (DataW H × List MemPlace))[6]? := hg 6 _ rfl
      rw [cellsInt] at g0 g1 g2 g3
      rw [cellsItem] at g4 g5
      rw [cellsRow] at g6
      obtain ⟨a0, rfl⟩ := int_cell (by simpa [Value.cells] using g0)
      obtain ⟨a1, rfl⟩ := int_cell (by simpa [Value.cells] using g1)
      obtain ⟨a2, rfl⟩ := int_cell (by simpa [Value.cells] using g2)
      obtain ⟨a3, rfl⟩ := int_cell (by simpa [Value.cells] using g3)
      obtain ⟨f, rfl, rfl, rfl, rfl⟩ := item_cells (by simpa [Value.cells] using g4)
      obtain ⟨z, rfl, rfl, rfl, rfl⟩ := item_cells (by simpa [Value.cells] using g5)
      obtain ⟨A, len, cap, xs, rfl, hI, hlc, hm, hnil, hw⟩ := row_cell (by simpa [Value.cells] using g6) hsp
      refine ⟨⟨a0, a1, a2, a3, f, z, xs⟩, A, len, cap, rfl, hI, hlc, hnil, ?_⟩
      rcases hw with h0 | ⟨elems, spare, e, hl⟩
      · exact .inl h0
      · right
        simp only [Prod.mk.injEq] at hx
        rw [hx.1]
        simp only [DataW.weights, Try.underlying29]
        refine DataW.weights_mem_each (j := 6) rfl rfl _ ?_
        show cap * 8 ∈ DataW.weights Try.prog 25 y6.1
        rw [e]
        simp only [DataW.weights, Try.underlying25, bytesInt, hl]
        exact List.mem_cons_self
end

end Go.Proofs.Ytgdeaddfkcokpaa

namespace Go.Proofs.Ytgdeaddfkcokpaa
open Go.ChangeShapes Go.WideShapes Go.ChangeAt Go.RowKit Go.Joins Go.Deep

theorem bytesAcc : Try.prog.bytesOf 29 = 120 := by kernel_rfl
section
variable {H : Type} {enc : TypeId × Value → H} {W : World} {base : Nat} {sp : Nat → Bool} {held : Bool}
theorem weightsAll_mem {P : Program} {e : TypeId} {ds : List (DataW H)} {d : DataW H} (hd : d ∈ ds) : ∀ n ∈ d.weights P e, n ∈ DataW.weightsAll P e ds := by
  induction ds with
  | nil => cases hd
  | cons a r ih =>
    intro n hn
    rw [DataW.weightsAll, List.mem_append]
    rcases List.mem_cons.1 hd with rfl | h
    · exact Or.inl hn
    · exact Or.inr (ih h n hn)
/-- An aggregate out of its cells. -/
theorem acc_cells {fuel : Nat} {l : List Value} {y : DataW H × List MemPlace} (hf : DataW.trod enc Try.prog W base sp held fuel 29 l = some y) (hsz : l.length = 13) (hsp : ∀ b, sp b = true) :
    ∃ (a : Ac) (A : Option Addr) (k c : Nat), l = (accC a A k c).toList ∧ Ints W A k a.h ∧ k ≤ c ∧ c ≤ maxLen ∧ (A = none → c = 0) ∧ (c = 0 ∨ c * 8 ∈ y.1.weights Try.prog 29) := by
  match l, hsz with
  | [c0, c1, c2, c3, c4, c5, c6, c7, c8, c9, c10, c11, c12], _ =>
    obtain ⟨xs, n, _, hx, _, hxl, hg⟩ := DataW.trod_struct Try.underlying29 hf
    match xs, hxl with
    | [y0, y1, y2, y3, y4, y5, y6], _ =>
      have g0 : DataW.trod enc Try.prog W base sp held n 3 ((List.drop 0 [c0, c1, c2, c3, c4, c5, c6, c7, c8, c9, c10, c11, c12]).take (Try.prog.cellsOf 3)) = ([y0, y1, y2, y3, y4, y5, y6] : List (DataW H × List MemPlace))[0]? := hg 0 _ rfl
      have g1 : DataW.trod enc Try.prog W base sp held n 3 ((List.drop 1 [c0, c1, c2, c3, c4, c5, c6, c7, c8, c9, c10, c11, c12]).take (Try.prog.cellsOf 3)) = ([y0, y1, y2, y3, y4, y5, y6] : List (DataW H × List MemPlace))[1]? := hg 1 _ rfl
      have g2 : DataW.trod enc Try.prog W base sp held n 3 ((List.drop 2 [c0, c1, c2, c3, c4, c5, c6, c7, c8, c9, c10, c11, c12]).take (Try.prog.cellsOf 3)) = ([y0, y1, y2, y3, y4, y5, y6] : List (DataW H × List MemPlace))[2]? := hg 2 _ rfl
      have g3 : DataW.trod enc Try.prog W base sp held n 3 ((List.drop 3 [c0, c1, c2, c3, c4, c5, c6, c7, c8, c9, c10, c11, c12]).take (Try.prog.cellsOf 3)) = ([y0, y1, y2, y3, y4, y5, y6] : List (DataW H × List MemPlace))[3]? := hg 3 _ rfl
      have g4 : DataW.trod enc Try.prog W base sp held n 23 ((List.drop 4 [c0, c1, c2, c3, c4, c5, c6, c7, c8, c9, c10, c11, c12]).take (Try.prog.cellsOf 23)) = ([y0, y1, y2, y3, y4, y5, y6] : List (DataW H × List MemPlace))[4]? := hg 4 _ rfl
      have g5 : DataW.trod enc Try.prog W base sp held n 23 ((List.drop 8 [c0, c1, c2, c3, c4, c5, c6, c7, c8, c9, c10, c11, c12]).take (Try.prog.cellsOf 23)) = ([y0, y1, y2, y3, y4, y5, y6] : List (DataW H × List MemPlace))[5]? := hg 5 _ rfl
      have g6 : DataW.trod enc Try.prog W base sp held n 25 ((List.drop 12 [c0, c1, c2, c3, c4, c5, c6, c7, c8, c9, c10, c11, c12]).take (Try.prog.cellsOf 25)) = ([y0, y1, y2, y3, y4, y5, y6] : List (DataW H × List MemPlace))[6]? := hg 6 _ rfl
      rw [cellsInt] at g0 g1 g2 g3
      rw [cellsItem] at g4 g5
      rw [cellsRow] at g6
      obtain ⟨a0, rfl⟩ := int_cell (by simpa [Value.cells] using g0)
      obtain ⟨a1, rfl⟩ := int_cell (by simpa [Value.cells] using g1)
      obtain ⟨a2, rfl⟩ := int_cell (by simpa [Value.cells] using g2)
      obtain ⟨a3, rfl⟩ := int_cell (by simpa [Value.cells] using g3)
      obtain ⟨f, rfl, rfl, rfl, rfl⟩ := item_cells (by simpa [Value.cells] using g4)
      obtain ⟨z, rfl, rfl, rfl, rfl⟩ := item_cells (by simpa [Value.cells] using g5)
      obtain ⟨A, len, cap, xs, rfl, hI, hlc, hm, hnil, hw⟩ := row_cell (by simpa [Value.cells] using g6) hsp
      refine ⟨⟨a0, a1, a2, a3, f, z, xs⟩, A, len, cap, rfl, hI, hlc, hm, hnil, ?_⟩
      rcases hw with h0 | ⟨elems, spare, e, hl⟩
      · exact .inl h0
      · right
        rw [hx]
        simp only [DataW.weights, Try.underlying29]
        refine DataW.weights_mem_each (j := 6) rfl rfl _ ?_
        show cap * 8 ∈ DataW.weights Try.prog 25 y6.1
        rw [e]
        simp only [DataW.weights, Try.underlying25, bytesInt, hl]
        exact List.mem_cons_self

instance : Inhabited Ac := ⟨zeroAc⟩
set_option maxRecDepth 100000 in
/-- A slice of aggregates that came in. -/
theorem open_accs {d : DataW H} {p : List MemPlace} {A : Option Addr} {len cap : Nat} (h : DataW.Trod enc Try.prog W base sp held 24 (.slice A len cap) d p) (hsp : ∀ b, sp b = true)
    (hall : ∀ n ∈ d.weights Try.prog 24, n ≤ 140737488351232) : ∃ xs : List Ac, AccsR W A len xs ∧ len * 120 ≤ 140737488351232 := by
  obtain ⟨fuel, hf⟩ := h
  rcases Deep.open_slice Try.underlying24 hf with ⟨hcs, _⟩ | ⟨x, l, cp, m, n, D, Pl, hcs, _, hl, hm, hmm, hx, hi⟩
  · simp only [Value.cells, List.cons.injEq, and_true] at hcs
    injection hcs with e1 e2 e3
    subst e1; subst e2; subst e3
    exact ⟨[], ⟨rfl, fun h => absurd h (by omega)⟩, by omega⟩
  · simp only [Value.cells, List.cons.injEq, and_true] at hcs
    injection hcs with e1 e2 e3
    subst e1; subst e2; subst e3
    rw [if_pos (hsp _)] at hmm
    subst hmm
    injection hx with hd _
    have hsp0 : 0 < len → x.spot = none := fun h0 => by
      obtain ⟨cs', h1, h2⟩ := hi 0 (by omega)
      rw [cellsAcc] at h1
      obtain ⟨_, hlen, hcell⟩ := World.cells?_some h1
      obtain ⟨a, B, k, c, e, _⟩ := acc_cells h2 hlen hsp
      subst e
      have h3 := hcell 0 (by omega)
      have hsome : ((accC a B k c).toList)[0]? = some (.int .i64 a.n) := rfl
      rw [hsome] at h3
      have h4 := spot_none h3
      simpa [Addr.add] using h4
    have each : ∀ i, i < len → ∃ q : Ac × Option Addr × Nat × Nat, AccAt W x.block (x.off + i * 13) q.1 q.2.1 q.2.2.1 q.2.2.2 ∧ x.spot = none ∧ (q.2.1 = none → q.2.2.2 = 0) ∧ q.2.2.1 * 8 ≤ 140737488351232 := by
      intro i hil
      obtain ⟨cs', h1, h2⟩ := hi i (by omega)
      rw [cellsAcc] at h1
      obtain ⟨_, hlen, hcell⟩ := World.cells?_some h1
      obtain ⟨a, B, k, c, e, hI, hkc, hcm, hnil, hw⟩ := acc_cells h2 hlen hsp
      subst e
      have hs : x.spot = none ∧ ∀ j, j < 13 → (x.add (i * 13)).add j = ⟨x.block, x.off + i * 13 + j, none⟩ := by
        have hsn := hsp0 (by omega)
        obtain ⟨b, o, s⟩ := x
        simp only at hsn
        subst hsn
        exact ⟨rfl, fun j _ => by rw [Addr.add_mid, Addr.add_mid]⟩
      refine ⟨(a, B, k, c), ⟨fun j v hv => ?_, hI, hkc, hcm⟩, hs.1, hnil, ?_⟩
      · have hj : j < 13 := by have := (List.getElem?_eq_some_iff.1 hv).1; rwa [accC_len] at this
        rw [← hs.2 j hj, hcell j hj]
        exact hv
      · rcases hw with h0 | h0
        · simp only; omega
        · have := hall (c * 8) (by
            rw [hd]
            simp only [DataW.weights, Try.underlying24]
            refine List.mem_cons_of_mem _ (List.mem_append_left _ (weightsAll_mem (d := D i) ?_ _ h0))
            exact List.mem_map.2 ⟨i, List.mem_range.2 hil, rfl⟩)
          simp only; omega
    obtain ⟨q, hq⟩ := choose_lt each
    refine ⟨(List.range len).map fun i => (q i).1, ⟨by simp, fun hn => ?_⟩, ?_⟩
    · obtain ⟨b, o, s⟩ := x
      have hs := (hq 0 hn).2.1
      simp only at hs
      subst hs
      refine ⟨b, o, rfl, fun i hlt => ⟨(q i).2.1, (q i).2.2.1, (q i).2.2.2, ?_, (hq i hlt).2.2.1, (hq i hlt).2.2.2⟩⟩
      have e : nthA ((List.range len).map fun i => (q i).1) i = (q i).1 := by simp [nthA, hlt]
      rw [e]
      exact (hq i hlt).1
    · have := hall ((len + (m - len)) * 120) (by
        rw [hd]
        simp only [DataW.weights, Try.underlying24, List.length_map, List.length_range, bytesAcc]
        exact List.mem_cons_self)
      omega
/-- A slice of integers that came in, with what it weighs. -/
theorem open_bounds {d : DataW H} {p : List MemPlace} {A : Option Addr} {len cap : Nat} (h : DataW.Trod enc Try.prog W base sp held 25 (.slice A len cap) d p) (hsp : ∀ b, sp b = true)
    (hall : ∀ n ∈ d.weights Try.prog 25, n ≤ 140737488351232) : ∃ xs : List Int, Ints W A len xs ∧ len * 8 ≤ 140737488351232 ∧ (A = none → cap = 0) := by
  obtain ⟨fuel, hf⟩ := h
  obtain ⟨A', len', cap', xs, e, hI, hlc, hm, hnil, hw⟩ := row_cell (by simpa [Value.cells] using hf) hsp
  injection e with e1 e2 e3
  subst e1; subst e2; subst e3
  refine ⟨xs, hI, ?_, hnil⟩
  rcases hw with h0 | ⟨elems, spare, e, hl⟩
  · omega
  · have := hall (cap * 8) (by
      simp only at e
      rw [e]
      simp only [DataW.weights, Try.underlying25, bytesInt, hl]
      exact List.mem_cons_self)
    omega
end

end Go.Proofs.Ytgdeaddfkcokpaa

namespace Go.Proofs.Ytgdeaddfkcokpaa
open Go.ChangeShapes Go.WideShapes Go.ChangeAt Go.RowKit Go.Joins Go.Deep

theorem bytesSes : Try.prog.bytesOf 60 = 136 := by kernel_rfl
theorem cellsSes : Try.prog.cellsOf 60 = 15 := by kernel_rfl
section
variable {H : Type} {enc : TypeId × Value → H} {W : World} {base : Nat} {sp : Nat → Bool} {held : Bool}
/-- A session out of its cells. -/
theorem ses_cells {fuel : Nat} {l : List Value} {y : DataW H × List MemPlace} (hf : DataW.trod enc Try.prog W base sp held fuel 60 l = some y) (hsz : l.length = 15) (hsp : ∀ b, sp b = true) :
    ∃ (s : Se) (A : Option Addr) (k c : Nat), l = (sesC s A k c).toList ∧ Ints W A k s.a.h ∧ k ≤ c ∧ c ≤ maxLen ∧ (A = none → c = 0) ∧ (c = 0 ∨ c * 8 ∈ y.1.weights Try.prog 60) := by
  match l, hsz with
  | [c0, c1, c2, c3, c4, c5, c6, c7, c8, c9, c10, c11, c12, c13, c14], _ =>
    obtain ⟨xs, n, _, hx, _, hxl, hg⟩ := DataW.trod_struct Try.underlying60 hf
    match xs, hxl with
    | [y0, y1, y2], _ =>
      have g0 : DataW.trod enc Try.prog W base sp held n 3 ((List.drop 0 [c0, c1, c2, c3, c4, c5, c6, c7, c8, c9, c10, c11, c12, c13, c14]).take (Try.prog.cellsOf 3)) = ([y0, y1, y2] : List (DataW H × List MemPlace))[0]? := hg 0 _ rfl
      have g1 : DataW.trod enc Try.prog W base sp held n 3 ((List.drop 1 [c0, c1, c2, c3, c4, c5, c6, c7, c8, c9, c10, c11, c12, c13, c14]).take (Try.prog.cellsOf 3)) = ([y0, y1, y2] : List (DataW H × List MemPlace))[1]? := hg 1 _ rfl
      have g2 : DataW.trod enc Try.prog W base sp held n 29 ((List.drop 2 [c0, c1, c2, c3, c4, c5, c6, c7, c8, c9, c10, c11, c12, c13, c14]).take (Try.prog.cellsOf 29)) = ([y0, y1, y2] : List (DataW H × List MemPlace))[2]? := hg 2 _ rfl
      rw [cellsInt] at g0 g1
      rw [cellsAcc] at g2
      obtain ⟨a0, rfl⟩ := int_cell (by simpa [Value.cells] using g0)
      obtain ⟨a1, rfl⟩ := int_cell (by simpa [Value.cells] using g1)
      have g3 : DataW.trod enc Try.prog W base sp held n 29 [c2, c3, c4, c5, c6, c7, c8, c9, c10, c11, c12, c13, c14] = some y2 := g2
      obtain ⟨a, A, k, c, e, hI, hlc, hm, hnil, hw⟩ := acc_cells g3 rfl hsp
      refine ⟨⟨a0, a1, a⟩, A, k, c, ?_, hI, hlc, hm, hnil, ?_⟩
      · have h2 : (sesC ⟨a0, a1, a⟩ A k c).toList = .int .i64 a0 :: .int .i64 a1 :: (accC a A k c).toList := rfl
        rw [h2, ← e]
      · rcases hw with h0 | h0
        · exact .inl h0
        · right
          rw [hx]
          simp only [DataW.weights, Try.underlying60]
          exact DataW.weights_mem_each (j := 2) rfl rfl _ h0

instance : Inhabited Se := ⟨⟨0, 0, zeroAc⟩⟩
set_option maxRecDepth 100000 in
/-- A slice of sessions that came in. -/
theorem open_sessions {d : DataW H} {p : List MemPlace} {A : Option Addr} {len cap : Nat} (h : DataW.Trod enc Try.prog W base sp held 45 (.slice A len cap) d p) (hsp : ∀ b, sp b = true)
    (hall : ∀ n ∈ d.weights Try.prog 45, n ≤ 140737488351232) : ∃ xs : List Se, SessR W A len xs ∧ (len = 0 ∨ ∃ elems spare, d = .slice elems spare ∧ elems.length = len) := by
  obtain ⟨fuel, hf⟩ := h
  rcases Deep.open_slice Try.underlying45 hf with ⟨hcs, _⟩ | ⟨x, l, cp, m, n, D, Pl, hcs, _, hl, hm, hmm, hx, hi⟩
  · simp only [Value.cells, List.cons.injEq, and_true] at hcs
    injection hcs with e1 e2 e3
    subst e1; subst e2; subst e3
    exact ⟨[], ⟨rfl, fun h => absurd h (by omega)⟩, .inl rfl⟩
  · simp only [Value.cells, List.cons.injEq, and_true] at hcs
    injection hcs with e1 e2 e3
    subst e1; subst e2; subst e3
    rw [if_pos (hsp _)] at hmm
    subst hmm
    injection hx with hd _
    have hsp0 : 0 < len → x.spot = none := fun h0 => by
      obtain ⟨cs', h1, h2⟩ := hi 0 (by omega)
      rw [cellsSes] at h1
      obtain ⟨_, hlen, hcell⟩ := World.cells?_some h1
      obtain ⟨a, B, k, c, e, _⟩ := ses_cells h2 hlen hsp
      subst e
      have h3 := hcell 0 (by omega)
      have hsome : ((sesC a B k c).toList)[0]? = some (.int .i64 a.f) := rfl
      rw [hsome] at h3
      have h4 := spot_none h3
      simpa [Addr.add] using h4
    have each : ∀ i, i < len → ∃ q : Se × Option Addr × Nat × Nat, SesAt W x.block (x.off + i * 15) q.1 q.2.1 q.2.2.1 q.2.2.2 ∧ x.spot = none ∧ (q.2.1 = none → q.2.2.2 = 0) ∧ q.2.2.1 * 8 ≤ 140737488351232 := by
      intro i hil
      obtain ⟨cs', h1, h2⟩ := hi i (by omega)
      rw [cellsSes] at h1
      obtain ⟨_, hlen, hcell⟩ := World.cells?_some h1
      obtain ⟨a, B, k, c, e, hI, hkc, hcm, hnil, hw⟩ := ses_cells h2 hlen hsp
      subst e
      have hs : x.spot = none ∧ ∀ j, j < 15 → (x.add (i * 15)).add j = ⟨x.block, x.off + i * 15 + j, none⟩ := by
        have hsn := hsp0 (by omega)
        obtain ⟨b, o, s⟩ := x
        simp only at hsn
        subst hsn
        exact ⟨rfl, fun j _ => by rw [Addr.add_mid, Addr.add_mid]⟩
      refine ⟨(a, B, k, c), ⟨fun j v hv => ?_, hI, hkc, hcm⟩, hs.1, hnil, ?_⟩
      · have hj : j < 15 := by have := (List.getElem?_eq_some_iff.1 hv).1; rwa [sesC_len] at this
        rw [← hs.2 j hj, hcell j hj]
        exact hv
      · rcases hw with h0 | h0
        · simp only; omega
        · have := hall (c * 8) (by
            rw [hd]
            simp only [DataW.weights, Try.underlying45]
            refine List.mem_cons_of_mem _ (List.mem_append_left _ (weightsAll_mem (d := D i) ?_ _ h0))
            exact List.mem_map.2 ⟨i, List.mem_range.2 hil, rfl⟩)
          simp only; omega
    obtain ⟨q, hq⟩ := choose_lt each
    refine ⟨(List.range len).map fun i => (q i).1, ⟨by simp, fun hn => ?_⟩, .inr ⟨_, _, hd, by simp⟩⟩
    obtain ⟨b, o, s⟩ := x
    have hs := (hq 0 hn).2.1
    simp only at hs
    subst hs
    refine ⟨b, o, rfl, fun i hlt => ⟨(q i).2.1, (q i).2.2.1, (q i).2.2.2, ?_, (hq i hlt).2.2.1, (hq i hlt).2.2.2⟩⟩
    have e : nthE ((List.range len).map fun i => (q i).1) i = (q i).1 := by simp [nthE, hlt]
    rw [e]
    exact (hq i hlt).1

set_option maxRecDepth 100000 in
/-- A slice of items that came in. -/
theorem open_items {d : DataW H} {p : List MemPlace} {A : Option Addr} {len cap : Nat} (h : DataW.Trod enc Try.prog W base sp held 46 (.slice A len cap) d p) (hsp : ∀ b, sp b = true) :
    ∃ xs : List It, Items W A len xs ∧ (A = none → cap = 0 ∧ len = 0) ∧ (len = 0 ∨ ∃ elems spare, d = .slice elems spare ∧ elems.length = len) := by
  obtain ⟨fuel, hf⟩ := h
  rcases Deep.open_slice Try.underlying46 hf with ⟨hcs, _⟩ | ⟨x, l, cp, m, n, D, Pl, hcs, _, hl, hm, hmm, hx, hi⟩
  · simp only [Value.cells, List.cons.injEq, and_true] at hcs
    injection hcs with e1 e2 e3
    subst e1; subst e2; subst e3
    exact ⟨[], Items.nil _ _, fun _ => ⟨rfl, rfl⟩, .inl rfl⟩
  · simp only [Value.cells, List.cons.injEq, and_true] at hcs
    injection hcs with e1 e2 e3
    subst e1; subst e2; subst e3
    rw [if_pos (hsp _)] at hmm
    subst hmm
    injection hx with hd _
    have four : ∀ (cs : List Value), cs.length = 4 → ∀ {n y}, DataW.trod enc Try.prog W base sp held n 23 cs = some y → ∃ q : It, cs = itemL q := by
      intro cs hlen n y hf
      match cs, hlen with
      | [c0, c1, c2, c3], _ =>
        obtain ⟨q, rfl, rfl, rfl, rfl⟩ := item_cells hf
        exact ⟨q, rfl⟩
    have hsp0 : 0 < len → x.spot = none := fun h0 => by
      obtain ⟨cs', h1, h2⟩ := hi 0 (by omega)
      rw [cellsItem] at h1
      obtain ⟨_, hlen, hcell⟩ := World.cells?_some h1
      obtain ⟨q, e⟩ := four _ hlen h2
      subst e
      have h3 := hcell 0 (by omega)
      have hsome : (itemL q)[0]? = some (.int .i64 q.s) := rfl
      rw [hsome] at h3
      have h4 := spot_none h3
      simpa [Addr.add] using h4
    have each : ∀ i, i < len → ∃ q : It, W.rangeAt x.block (x.off + i * 4) (itemL q) ∧ x.spot = none := by
      intro i hil
      obtain ⟨cs', h1, h2⟩ := hi i (by omega)
      rw [cellsItem] at h1
      obtain ⟨_, hlen, hcell⟩ := World.cells?_some h1
      obtain ⟨q, e⟩ := four _ hlen h2
      subst e
      have hs : x.spot = none ∧ ∀ j, j < 4 → (x.add (i * 4)).add j = ⟨x.block, x.off + i * 4 + j, none⟩ := by
        have hsn := hsp0 (by omega)
        obtain ⟨b, o, s⟩ := x
        simp only at hsn
        subst hsn
        exact ⟨rfl, fun j _ => by rw [Addr.add_mid, Addr.add_mid]⟩
      refine ⟨q, fun j v hv => ?_, hs.1⟩
      have hj : j < 4 := (List.getElem?_eq_some_iff.1 hv).1
      rw [← hs.2 j hj, hcell j hj]
      exact hv
    obtain ⟨q, hq⟩ := choose_lt each
    refine ⟨(List.range len).map q, ⟨by simp, fun hn => ?_⟩, fun e => (by cases e), .inr ⟨_, _, hd, by simp⟩⟩
    obtain ⟨b, o, s⟩ := x
    have hs := (hq 0 hn).2
    simp only at hs
    subst hs
    refine ⟨b, o, rfl, fun i hlt => ?_⟩
    have e : nthI ((List.range len).map q) i = q i := by simp [nthI, hlt]
    rw [e]
    exact (hq i hlt).1
end

end Go.Proofs.Ytgdeaddfkcokpaa
