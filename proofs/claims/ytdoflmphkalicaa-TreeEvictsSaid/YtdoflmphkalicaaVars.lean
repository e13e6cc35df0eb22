/-
  Variables that hold aggregates; rows of two.
-/
import Derived.Test.YtdoflmphkalicaaSlit
namespace Go.Proofs.Ytdoflmphkalicaa
open Go.RowKit

/-- A variable that holds an aggregate: block g the cells, block y the buckets. -/
structure V (w : World) (g y : Nat) (a : Ac) : Prop where
  cells : Has w g 49 (accC a (some ⟨y, 0, none⟩) a.h.length a.h.length)
  hist : Has w y 3 (ints a.h)
theorem V.below {w w' : World} {g y : Nat} {a : Ac} (h : V w g y a) (hb : Below w.heap.size w w') : V w' g y a := ⟨h.cells.below hb h.cells.lt, h.hist.below hb h.hist.lt⟩
theorem V.alloc {w : World} {g y : Nat} {a : Ac} (h : V w g y a) (o : Obj) : V (w.alloc o) g y a := ⟨h.cells.alloc o, h.hist.alloc o⟩
theorem V.new {w : World} {y : Nat} {a : Ac} (h : Has w y 3 (ints a.h)) : V (w.alloc (.cells (accC a (some ⟨y, 0, none⟩) a.h.length a.h.length) 49)) w.heap.size y a := ⟨Has.made _ _ _, h.alloc _⟩
theorem ints_of_has {w : World} {y : Nat} {xs : List Int} {n : Nat} (h : Has w y 3 (ints xs)) (hn : xs.length = n) : Ints w (some ⟨y, 0, none⟩) n xs :=
  ⟨hn, fun _ => ⟨y, 0, rfl, fun k hk => by rw [Nat.zero_add, h.cell, ints_get _ (by omega)]⟩⟩
theorem V.ints {w : World} {g y : Nat} {a : Ac} (h : V w g y a) : Ints w (some ⟨y, 0, none⟩) a.h.length a.h := ints_of_has h.hist rfl
theorem has_below {w w' : World} {g : Nat} {t : TypeId} {cs : Array Value} (h : Has w g t cs) (hb : Below w.heap.size w w') : Has w' g t cs := h.below hb h.lt


theorem nthA_zero (a : Ac) (r : List Ac) : nthA (a :: r) 0 = a := rfl
/-- Two aggregates in a new row. -/
theorem accs_two {w : World} {g : Nat} {a b : Ac} {A B : Option Addr} {k c l d : Nat} {cs : Array Value} (h : Has w g 49 cs) (e : cs = accC a A k c ++ accC b B l d) (ha : Ints w A k a.h) (hb : Ints w B l b.h) (h1 : k ≤ c ∧ c ≤ maxLen) (h2 : l ≤ d ∧ d ≤ maxLen) :
    Accs w (some ⟨g, 0, none⟩) 2 [a, b] := by
  refine ⟨rfl, fun _ => ⟨g, 0, rfl, fun i hi => ?_⟩⟩
  subst e
  match i, hi with
  | 0, _ =>
    refine ⟨A, k, c, fun j v hv => ?_, ha, h1⟩
    rw [h.cell]
    have hj : j < 13 := by have := (List.getElem?_eq_some_iff.1 hv).1; rwa [nthA_zero, accC_len] at this
    rw [show 0 + 0 * 13 + j = j by omega, Array.getElem?_append_left (by simpa [accC] using hj)]
    simpa [nthA] using hv
  | 1, _ =>
    refine ⟨B, l, d, fun j v hv => ?_, hb, h2⟩
    rw [h.cell]
    have hs : (accC a A k c).size = 13 := rfl
    rw [show 0 + 1 * 13 + j = 13 + j by omega, Array.getElem?_append_right (by omega), hs, show 13 + j - 13 = j by omega]
    simpa [nthA] using hv


end Go.Proofs.Ytdoflmphkalicaa
