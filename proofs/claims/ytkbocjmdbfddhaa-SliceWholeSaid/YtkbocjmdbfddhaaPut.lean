/-
  The frame behind a region whose facts are shown one by one, written as what it was with slots turned. No program here.
-/
import Derived.Test.YtkbocjmdbfddhaaAny
namespace Go.Proofs.Ytkbocjmdbfddhaa
open Go.RowKit

/-- The frame a0 with these slots turned. -/
def putAll (a0 : Act) : List (Nat × Value) → Act
  | [] => a0
  | p :: r => putAll (a0.put (some p.1) p.2) r
theorem put_size (a : Act) (t : Nat) (v : Value) : (a.put (some t) v).tmps.size = a.tmps.size := by simp [Act.put]
theorem putAll_size (vs : List (Nat × Value)) : ∀ a0 : Act, (putAll a0 vs).tmps.size = a0.tmps.size := by
  induction vs with
  | nil => intro a0; rfl
  | cons p r ih => intro a0; simp only [putAll]; rw [ih, put_size]
theorem putAll_defers (vs : List (Nat × Value)) : ∀ a0 : Act, (putAll a0 vs).defers = a0.defers := by
  induction vs with
  | nil => intro a0; rfl
  | cons p r ih => intro a0; simp only [putAll]; rw [ih]; rfl
theorem put_get (a : Act) {t s : Nat} (v : Value) (hs : t ≠ s) : (a.put (some t) v).tmps.getD s undef = a.tmps.getD s undef := by simp [Act.put, hs]
theorem put_get_same (a : Act) {t : Nat} (v : Value) (h : t < a.tmps.size) : (a.put (some t) v).tmps.getD t undef = v := by simp [Act.put, h]
theorem putAll_far (vs : List (Nat × Value)) : ∀ (a0 : Act) (s : Nat), s ∉ vs.map (·.1) → (putAll a0 vs).tmps.getD s undef = a0.tmps.getD s undef := by
  induction vs with
  | nil => intro a0 s _; rfl
  | cons p r ih =>
    intro a0 s hs
    simp only [List.map_cons, List.mem_cons, not_or] at hs
    simp only [putAll]
    rw [ih _ _ hs.2, put_get _ _ (Ne.symm hs.1)]
def valsAre (a : Act) : List (Nat × Value) → Prop
  | [] => True
  | p :: r => a.tmps.getD p.1 undef = p.2 ∧ valsAre a r
theorem putAll_same (vs : List (Nat × Value)) : ∀ (a0 a : Act), nodupB (vs.map (·.1)) = true → a.tmps.size = a0.tmps.size → a.defers = a0.defers → valsAre a vs → (∀ s, s ∉ vs.map (·.1) → a.tmps.getD s undef = a0.tmps.getD s undef) → a = putAll a0 vs := by
  induction vs with
  | nil =>
    intro a0 a _ hs hd _ ho
    obtain ⟨t, d⟩ := a
    obtain ⟨t0, d0⟩ := a0
    simp only at hs hd
    subst hd
    show Act.mk t d = Act.mk t0 d
    congr 1
    apply Array.ext hs
    intro i h1 h2
    have := ho i (by simp)
    simpa [h1, h2] using this
  | cons p r ih =>
    intro a0 a hnd hs hd hv ho
    simp only [List.map_cons, nodupB, Bool.and_eq_true] at hnd
    have hp : p.1 ∉ r.map (·.1) := by have := hnd.1; simpa using this
    simp only [putAll]
    refine ih _ a hnd.2 (by rw [put_size]; exact hs) hd hv.2 fun s hsr => ?_
    by_cases e : p.1 = s
    · subst e
      by_cases hl : p.1 < a0.tmps.size
      · rw [put_get_same _ _ hl]; exact hv.1
      · have h1 : a.tmps.getD p.1 undef = undef := by simp [Array.getD, show ¬ p.1 < a.tmps.size by omega]
        have h2 : (a0.put (some p.1) p.2).tmps.getD p.1 undef = undef := by simp [Array.getD, put_size, hl]
        rw [h1, h2]
    · rw [put_get _ _ e]
      refine ho s ?_
      simp only [List.map_cons, List.mem_cons, not_or]
      exact ⟨fun h => e h.symm, hsr⟩
/-- Behind a head: the frame, written as what it was with these slots turned. -/
theorem frame_is {a0 a : Act} {D : List (Option Tmp)} (hF : FrD D a0 a) (vs : List (Nat × Value)) (hv : valsAre a vs) (hnd : nodupB (vs.map (·.1)) = true) (hD : D.all (fun d => match d with | some t => (vs.map (·.1)).contains t | none => true) = true) : a = putAll a0 vs :=
  putAll_same vs a0 a hnd hF.size hF.defers hv fun s hs => hF.other s (by
    rw [← Bool.not_eq_true]
    intro hc
    have hm : some s ∈ D := by simpa using hc
    have := List.all_eq_true.1 hD (some s) hm
    simp only [List.contains_iff_mem] at this
    exact hs this)

end Go.Proofs.Ytkbocjmdbfddhaa
