/-
  What an argument that came in looks like: a slice of integers. No program's own steps here.
-/
import Derived.Test.YtdoflmphkalicaaProg
import Derived.Test.YtdoflmphkalicaaMem
import Derived.ProofKit
import Derived.OpenShut
import Derived.ChangeOld
import Derived.Lib.SmallJoins
namespace Go.Proofs.Ytdoflmphkalicaa
open Go.ChangeShapes Go.WideShapes Go.ChangeAt Go.RowKit Go.Joins Go.Deep

theorem spot_G {w : World} {x : Addr} {v : Value} (h : w.cell? x = some v) : x.spot = none := by
  unfold World.cell? at h
  split at h
  · cases e : x.spot with
    | none => rfl
    | some y => rw [e] at h; simp at h
  · cases h
/-- A slice of integers that came in. -/
theorem open_intsG {H : Type} {enc : TypeId × Value → H} {W : World} {base : Nat} {sp : Nat → Bool} {d : DataW H} {p : List MemPlace} {a : Option Addr} {len cap : Nat} (h : DataW.Trod enc Try.prog W base sp true 22 (.slice a len cap) d p) (hsp : ∀ b, sp b = true) :
    ∃ xs : List Int, Ints W a len xs ∧ len ≤ maxLen ∧ ∀ x ∈ xs, (Lit.int .i64 x).wf = true := by
  obtain ⟨fuel, hf⟩ := h
  rcases open_ints Try.underlying22 Try.underlying3 (by kernel_rfl) hf with ⟨hcs, _⟩ | ⟨x, l, c, zs, hcs, _, hl, hm, hz, _, hcell, hwz⟩
  · simp [Value.cells] at hcs
    obtain ⟨rfl, rfl, rfl⟩ := hcs
    exact ⟨[], Ints.nil, Nat.zero_le _, fun _ h => by cases h⟩
  · simp [Value.cells] at hcs
    obtain ⟨rfl, rfl, rfl⟩ := hcs
    have hz' : zs.length = cap := by rw [hz, if_pos (hsp _)]
    refine ⟨zs.take len, ⟨by simp only [List.length_take]; omega, fun hn => ⟨x.block, x.off, ?_, fun k hk => ?_⟩⟩, by omega, fun y hy => hwz y (List.mem_of_mem_take hy)⟩
    · have h0 := hcell 0 (by omega)
      have hs := spot_G h0
      simp only [Addr.add, if_true] at hs
      obtain ⟨b, o, s⟩ := x
      simp only at hs
      rw [hs]
    · have h1 := hcell k (by omega)
      have e : x.add k = ⟨x.block, x.off + k, none⟩ := by
        have hs := spot_G (hcell 0 (by omega))
        simp only [Addr.add, if_true] at hs
        obtain ⟨b, o, s⟩ := x
        simp only at hs
        subst hs
        by_cases h : k = 0
        · subst h; rfl
        · simp [Addr.add, h]
      rw [e] at h1
      rw [h1]
      have hk2 : k < zs.length := by omega
      simp [nth, hk, hk2]

end Go.Proofs.Ytdoflmphkalicaa
