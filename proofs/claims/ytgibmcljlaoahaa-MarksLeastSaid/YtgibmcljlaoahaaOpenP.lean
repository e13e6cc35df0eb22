/-
  What an argument that came in looks like: a slice of structs of two integers each. No program's own steps here.
-/
import Derived.Test.YtgibmcljlaoahaaOpenG
import Derived.Deep.MidRow
namespace Go.Proofs.Ytgibmcljlaoahaa
open Go.ChangeShapes Go.WideShapes Go.ChangeAt Go.RowKit Go.Joins Go.Deep

def nthP (xs : List (Int × Int)) (k : Nat) : Int × Int := xs.getD k (0, 0)
/-- The slice value '.slice A n _' reads as the pairs xs. -/
def Prs (w : World) (A : Option Addr) (n : Nat) (xs : List (Int × Int)) : Prop :=
  xs.length = n ∧ (0 < n → ∃ b o : Nat, A = some ⟨b, o, none⟩ ∧ ∀ i, i < n → w.cell? ⟨b, o + i * 2, none⟩ = some (.int .i64 (nthP xs i).1) ∧ w.cell? ⟨b, o + i * 2 + 1, none⟩ = some (.int .i64 (nthP xs i).2))
theorem Prs.nil (w : World) (A : Option Addr) : Prs w A 0 [] := ⟨rfl, fun h => absurd h (by omega)⟩
theorem Prs.at_ {w : World} {A : Option Addr} {n : Nat} {xs : List (Int × Int)} (h : Prs w A n xs) (hn : 0 < n) : ∃ b o : Nat, A = some ⟨b, o, none⟩ ∧ ∀ i, i < n → w.cell? ⟨b, o + i * 2, none⟩ = some (.int .i64 (nthP xs i).1) ∧ w.cell? ⟨b, o + i * 2 + 1, none⟩ = some (.int .i64 (nthP xs i).2) := h.2 hn
theorem cellsPr : Try.prog.cellsOf 36 = 2 := by kernel_rfl
theorem cellsIntP : Try.prog.cellsOf 3 = 1 := by kernel_rfl
section
variable {H : Type} {enc : TypeId × Value → H} {W : World} {base : Nat} {sp : Nat → Bool} {held : Bool}
theorem intP_cell {n : Nat} {c : Value} {y : DataW H × List MemPlace} (h : DataW.trod enc Try.prog W base sp held n 3 [c] = some y) : ∃ a : Int, c = .int .i64 a := by
  obtain ⟨a, e, _, _⟩ := DataW.trod_int Try.underlying3 h
  simp only [List.cons.injEq, and_true] at e
  exact ⟨a, e⟩
theorem pr_cells {n : Nat} {c0 c1 : Value} {y : DataW H × List MemPlace} (h : DataW.trod enc Try.prog W base sp held n 36 [c0, c1] = some y) : ∃ x : Int × Int, [c0, c1] = [Value.int .i64 x.1, Value.int .i64 x.2] := by
  obtain ⟨xs, n', _, _, _, hxl, hg⟩ := DataW.trod_struct Try.underlying36 h
  match xs, hxl with
  | [y0, y1], _ =>
    have g0 : DataW.trod enc Try.prog W base sp held n' 3 ((List.drop 0 [c0, c1]).take (Try.prog.cellsOf 3)) = ([y0, y1] : List (DataW H × List MemPlace))[0]? := hg 0 _ rfl
    have g1 : DataW.trod enc Try.prog W base sp held n' 3 ((List.drop 1 [c0, c1]).take (Try.prog.cellsOf 3)) = ([y0, y1] : List (DataW H × List MemPlace))[1]? := hg 1 _ rfl
    rw [cellsIntP] at g0 g1
    obtain ⟨a0, rfl⟩ := intP_cell (by simpa using g0)
    obtain ⟨a1, rfl⟩ := intP_cell (by simpa using g1)
    exact ⟨(a0, a1), rfl⟩
set_option maxRecDepth 100000 in
theorem open_prs {d : DataW H} {p : List MemPlace} {A : Option Addr} {len cap : Nat} (h : DataW.Trod enc Try.prog W base sp held 22 (.slice A len cap) d p) (hsp : ∀ b, sp b = true) :
    ∃ xs : List (Int × Int), Prs W A len xs ∧ len ≤ maxLen := by
  obtain ⟨fuel, hf⟩ := h
  rcases Deep.open_slice Try.underlying22 hf with ⟨hcs, _⟩ | ⟨x, l, cp, m, n, D, Pl, hcs, _, hl, hm, hmm, _, hi⟩
  · simp only [Value.cells, List.cons.injEq, and_true] at hcs
    injection hcs with e1 e2 e3
    subst e1; subst e2; subst e3
    exact ⟨[], Prs.nil _ _, by unfold maxLen; omega⟩
  · simp only [Value.cells, List.cons.injEq, and_true] at hcs
    injection hcs with e1 e2 e3
    subst e1; subst e2; subst e3
    rw [if_pos (hsp _)] at hmm
    subst hmm
    have two : ∀ (cs : List Value), cs.length = 2 → ∀ {n y}, DataW.trod enc Try.prog W base sp held n 36 cs = some y → ∃ q : Int × Int, cs = [Value.int .i64 q.1, Value.int .i64 q.2] := by
      intro cs hlen n y hf
      match cs, hlen with
      | [c0, c1], _ => exact pr_cells hf
    have hsp0 : 0 < len → x.spot = none := fun h0 => by
      obtain ⟨cs', h1, h2⟩ := hi 0 (by omega)
      rw [cellsPr] at h1
      obtain ⟨_, hlen, hcell⟩ := World.cells?_some h1
      obtain ⟨q, e⟩ := two _ hlen h2
      subst e
      have h3 := hcell 0 (by omega)
      have hsome : [Value.int .i64 q.1, Value.int .i64 q.2][0]? = some (.int .i64 q.1) := rfl
      rw [hsome] at h3
      have h4 := spot_G h3
      simpa [Addr.add] using h4
    have each : ∀ i, i < len → ∃ q : Int × Int, W.cell? ⟨x.block, x.off + i * 2, none⟩ = some (.int .i64 q.1) ∧ W.cell? ⟨x.block, x.off + i * 2 + 1, none⟩ = some (.int .i64 q.2) := by
      intro i hil
      obtain ⟨cs', h1, h2⟩ := hi i (by omega)
      rw [cellsPr] at h1
      obtain ⟨_, hlen, hcell⟩ := World.cells?_some h1
      obtain ⟨q, e⟩ := two _ hlen h2
      subst e
      have hs : ∀ j, j < 2 → (x.add (i * 2)).add j = ⟨x.block, x.off + i * 2 + j, none⟩ := by
        have hsn := hsp0 (by omega)
        obtain ⟨b, o, s⟩ := x
        simp only at hsn
        subst hsn
        exact fun j _ => by rw [Addr.add_mid, Addr.add_mid]
      have q0 := hcell 0 (by omega)
      have q1 := hcell 1 (by omega)
      rw [hs 0 (by omega)] at q0
      rw [hs 1 (by omega)] at q1
      exact ⟨q, q0, q1⟩
    obtain ⟨q, hq⟩ := choose_lt each
    refine ⟨(List.range len).map q, ⟨by simp, fun hn => ?_⟩, by omega⟩
    have hs := hsp0 hn
    obtain ⟨b, o, s⟩ := x
    simp only at hs
    subst hs
    refine ⟨b, o, rfl, fun i hlt => ?_⟩
    have e : nthP ((List.range len).map q) i = q i := by simp [nthP, hlt]
    rw [e]
    exact hq i hlt
end

end Go.Proofs.Ytgibmcljlaoahaa
