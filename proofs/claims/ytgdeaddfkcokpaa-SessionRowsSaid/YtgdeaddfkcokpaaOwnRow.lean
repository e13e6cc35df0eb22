/-
  Rows of aggregates that are owned: each one with its own buckets; a part of a row.
-/
import Derived.Test.YtgdeaddfkcokpaaApp
import Derived.Test.YtgdeaddfkcokpaaOneP
namespace Go.Proofs.Ytgdeaddfkcokpaa
open Go.RowKit

theorem Own.rows {w : World} {base : Nat} {A : Option Addr} {n c : Nat} {ps : List (Ac × Nat)} (h : Own w base (.slice A n c) ps) (hl : ∀ p, p ∈ ps → p.1.h.length ≤ maxLen) (hpos : 0 < n) :
    ps.length = n ∧ ∃ g, A = some ⟨g, 0, none⟩ ∧ base ≤ g ∧ ∀ (i : Nat) (hi : i < ps.length), AccAt w g (i * 13) (ps[i]).1 (some ⟨(ps[i]).2, 0, none⟩) (ps[i]).1.h.length (ps[i]).1.h.length := by
  rcases h.row.2 with ⟨e, h0⟩ | ⟨g, cap, cur, e, hg, hh, hn, hc, hs, ht⟩
  · injection e with e1 e2 e3
    omega
  · injection e with e1 e2 e3
    subst e1; subst e2; subst e3
    refine ⟨rfl, g, rfl, hg, fun i hi => ?_⟩
    have hp : ps[i] ∈ ps := List.getElem_mem hi
    refine ⟨?_, ints_of_has (h.hist _ hp) rfl, Nat.le_refl _, hl _ hp⟩
    intro j v hv
    have hj : j < 13 := by have := (List.getElem?_eq_some_iff.1 hv).1; rwa [accC_len] at this
    rw [h.row.cellAt _ (by omega), rowC_at _ hi hj]
    exact hv

theorem nthA_take {xs : List Ac} {k i : Nat} (h : i < k) : nthA (xs.take k) i = nthA xs i := by
  simp [nthA, h]
theorem nthA_drop (xs : List Ac) (k i : Nat) : nthA (xs.drop k) i = nthA xs (k + i) := by
  simp [nthA, List.getElem?_drop]
theorem Accs.take {w : World} {A : Option Addr} {n : Nat} {xs : List Ac} (h : Accs w A n xs) {k : Nat} (hk : k ≤ n) : Accs w A k (xs.take k) := by
  refine ⟨by rw [List.length_take, h.1]; omega, fun hpos => ?_⟩
  obtain ⟨b, o, e, hr⟩ := h.2 (by omega)
  exact ⟨b, o, e, fun i hi => by rw [nthA_take hi]; exact hr i (by omega)⟩
theorem Accs.drop {w : World} {b o : Nat} {n : Nat} {xs : List Ac} (h : Accs w (some ⟨b, o, none⟩) n xs) {k : Nat} (hk : k ≤ n) : Accs w (some ⟨b, o + k * 13, none⟩) (n - k) (xs.drop k) := by
  refine ⟨by rw [List.length_drop, h.1], fun hpos => ?_⟩
  obtain ⟨b2, o2, e, hr⟩ := h.2 (by omega)
  injection e with e
  injection e with e1 e2
  subst e1 e2
  refine ⟨b, o + k * 13, rfl, fun i hi => ?_⟩
  rw [nthA_drop, show o + k * 13 + i * 13 = o + (k + i) * 13 by omega]
  exact hr (k + i) (by omega)
theorem ones_take (bs : List Int) (xs : List It) (k : Nat) : (ones bs xs).take k = ones bs (xs.take k) := by simp [ones, List.map_take]
theorem ones_drop (bs : List Int) (xs : List It) (k : Nat) : (ones bs xs).drop k = ones bs (xs.drop k) := by simp [ones, List.map_drop]
theorem ones_reverse (bs : List Int) (xs : List It) : (ones bs xs).reverse = ones bs xs.reverse := by simp [ones]

end Go.Proofs.Ytgdeaddfkcokpaa
