/-
  What an argument that came in looks like: a slice of integers, an item. No program's own steps here.
-/
import Derived.Test.YtkbocjmdbfddhaaProg
import Derived.Test.YtkbocjmdbfddhaaMem
import Derived.Test.YtkbocjmdbfddhaaOpenN
import Derived.ProofKit
import Derived.OpenShut
import Derived.ChangeOld
import Derived.Lib.SmallJoins
namespace Go.Proofs.Ytkbocjmdbfddhaa
open Go.ChangeShapes Go.WideShapes Go.ChangeAt Go.RowKit Go.Joins Go.Deep

/-- A slice of integers that came in. -/
theorem open_slice {H : Type} {enc : TypeId × Value → H} {W : World} {base : Nat} {sp : Nat → Bool} {d : DataW H} {p : List MemPlace} {a : Option Addr} {len cap : Nat} (h : DataW.Trod enc Try.prog W base sp true 22 (.slice a len cap) d p) (hsp : ∀ b, sp b = true) :
    ∃ xs : List Int, Ints W a len xs ∧ len ≤ maxLen ∧ ∀ x ∈ xs, (Lit.int .i64 x).wf = true := by
  obtain ⟨fuel, hf⟩ := h
  rcases open_ints Try.underlying22 Try.underlying3 (by kernel_rfl) hf with ⟨hcs, _⟩ | ⟨x, l, c, zs, hcs, _, hl, hm, hz, _, hcell, hwz⟩
  · simp [Value.cells] at hcs
    obtain ⟨rfl, rfl, rfl⟩ := hcs
    exact ⟨[], Ints.nil, Nat.zero_le _, fun _ h => by cases h⟩
  · simp [Value.cells] at hcs
    obtain ⟨rfl, rfl, rfl⟩ := hcs
    have hz' : zs.length = cap := by rw [hz, if_pos (hsp _)]
    refine ⟨zs.take len, ⟨by simp only [List.length_take]; omega, fun hn => ⟨x.block, x.off, ?_, fun k hk => ?_⟩⟩, by omega, fun y hy => hwz y (List.mem_of_mem_take hy)⟩
    · have h0 := hcell 0 (by omega)
      have hs := spot_none h0
      simp only [Addr.add, if_true] at hs
      obtain ⟨b, o, s⟩ := x
      simp only at hs
      rw [hs]
    · have h1 := hcell k (by omega)
      have e : x.add k = ⟨x.block, x.off + k, none⟩ := by
        have hs := spot_none (hcell 0 (by omega))
        simp only [Addr.add, if_true] at hs
        obtain ⟨b, o, s⟩ := x
        simp only at hs
        subst hs
        by_cases h : k = 0
        · subst h; rfl
        · simp [Addr.add, h]
      rw [e] at h1
      rw [h1]
      have hk2 : k < zs.length := by omega
      simp [nth, hk, hk2]
set_option maxRecDepth 100000 in
theorem open_item {H : Type} {enc : TypeId × Value → H} {W : World} {base : Nat} {sp : Nat → Bool} {held : Bool} {r : Reach} {b0 : Nat} {v : Value} {d : DataW H} {p : List MemPlace} (hv : Value.okWide Try.prog W r b0 55 v) (h : DataW.Trod enc Try.prog W base sp held 55 v d p) :
    ∃ x : It, v = .agg #[.int .i64 x.s, .int .i64 x.t, .int .i64 x.q, .int .i64 x.v] ∧ (Lit.int .i64 x.s).wf = true ∧ (Lit.int .i64 x.t).wf = true ∧ (Lit.int .i64 x.q).wf = true ∧ (Lit.int .i64 x.v).wf = true := by
  obtain ⟨v0, v1, v2, v3, y0, y1, y2, y3, n, rfl, _, _, t0, t1, t2, t3⟩ := open_agg4 Try.underlying55 (by kernel_rfl) (by kernel_rfl) hv h
  obtain ⟨a, e0, _, w0⟩ := DataW.trod_int Try.underlying3 t0
  obtain ⟨b, e1, _, w1⟩ := DataW.trod_int Try.underlying3 t1
  obtain ⟨c, e2, _, w2⟩ := DataW.trod_int Try.underlying3 t2
  obtain ⟨e, e3, _, w3⟩ := DataW.trod_int Try.underlying3 t3
  simp only [List.cons.injEq, and_true] at e0 e1 e2 e3
  subst e0 e1 e2 e3
  exact ⟨⟨a, b, c, e⟩, rfl, w0, w1, w2, w3⟩

end Go.Proofs.Ytkbocjmdbfddhaa
