/-
  Walk: the laws' helper bad: operations with so many bytes more that are none.
-/
import Derived.Test.YtoechlmahckchaaG11m
import Derived.Test.YtoechlmahckchaaScP
namespace Go.Proofs.Ytoechlmahckchaa
open Go.RowKit

theorem OwnO.setLast {w : World} {base g p c b : Nat} {W : List Po} (hW : W.length = p) (h : OwnO w base (.slice (some ⟨g, 0, none⟩) (p + 1) c) (W ++ [badP b])) (k : Nat) :
    OwnO (w.setCell ⟨g, p * 5 + 4, none⟩ (.int .i64 ((b + k : Nat) : Int))) base (.slice (some ⟨g, 0, none⟩) (p + 1) c) (W ++ [badP (b + k)]) := by
  rcases h.2 with ⟨e, _⟩ | ⟨g', cap, cur, e, hg, hh, hn, hc, hs, ht⟩
  · cases e
  · injection e with e1 e2 e3
    injection e1 with e1
    injection e1 with e1
    subst e1 e3
    have hlen : (W ++ [badP b]).length = p + 1 := by simp [hW]
    have hlen2 : (W ++ [badP (b + k)]).length = p + 1 := by simp [hW]
    refine ⟨oflat_len _, .inr ⟨g, c, cur.setIfInBounds (p * 5 + 4) (.int .i64 ((b + k : Nat) : Int)), by rw [hlen2], hg, ?_, by omega, hc, by rw [Array.size_setIfInBounds]; exact hs, ?_⟩⟩
    · exact Has.put (t := 49) hh _ _
    · rw [hlen] at ht
      rw [hlen2, Array.toList_setIfInBounds, List.take_set, ht, List.flatMap_append, List.flatMap_append]
      have hl : (W.flatMap opL).length = p * 5 := by rw [oflat_len, hW]
      rw [List.set_append_right _ _ (by omega), hl, show p * 5 + 4 - p * 5 = 4 by omega]
      simp [opL, badP]

theorem OwnO.at1 {w : World} {base n c : Nat} {A : Option Addr} {xs : List Po} (h : OwnO w base (.slice A n c) xs) (hn : 0 < n) : ∃ g, A = some ⟨g, 0, none⟩ ∧ base ≤ g ∧ (∃ cs, Has w g 49 cs) ∧ ∀ i, i < n → w.rangeAt g (i * 5) (opL (nthO xs i)) := by
  obtain ⟨b, o, e, hi⟩ := h.ops.2 hn
  rcases h.2 with ⟨e1, h1⟩ | ⟨g, cap, cur, e1, hg, hh, _⟩
  · injection e1 with _ e2
    omega
  · injection e1 with e2
    rw [e2] at e
    injection e with e
    injection e with e3 e4
    subst e3 e4
    exact ⟨g, e2, hg, ⟨cur, hh⟩, fun i hlt => by have := hi i hlt; rwa [Nat.zero_add] at this⟩
theorem below_wrote' {B : Nat} {w0 w w' : World} {row : Option Nat} (h : Below B w0 w) (hg : w.grownBy w' row) (hB : B ≤ w.heap.size) (hr : ∀ k, row = some k → B ≤ k) : Below B w0 w' :=
  h.trans ⟨hg.os, hg.tape, hg.output, hg.size, fun k hk => hg.block k (by omega) (fun e => by have := hr k e.symm; omega)⟩
def BadO (m : Nat) (os : List Po) (e : Ending) (w w' : World) : Prop := ∃ A' c', e = .returned (.slice A' m c') ∧ OwnO w' w.heap.size (.slice A' m c') os ∧ Below w.heap.size w w'
set_option maxRecDepth 100000 in
set_option maxHeartbeats 1000000 in
theorem badA_any (A : Option Addr) (p c b k : Nat) (W : List Po) (w : World) (hr : Ops w A (p + 1) (W ++ [badP b])) (hW : W.length = p) (hp : p ≤ 1000) (hb : b + k ≤ 1000000000) (hnil : A = none → c = 0 ∧ p + 1 = 0) :
    Calls Try.prog 23 #[.slice A (p + 1) c, .int .i64 k] w fun e w' => BadO (p + 1) (W ++ [badP (b + k)]) e w w' := by
  have HC := Lib.hid (copyops_any A (p + 1) c _ w hr (by omega) hnil)
  have HW := Lib.hid hW
  clear hr hW hnil
  go_enter Try.func23, Try.ntmps23
  go_wp2_with fail
  refine (HC.out).mono ?_; rintro e w1 ⟨A1, c1, rfl, h1, b1⟩
  obtain ⟨g, rfl, hg, ⟨cs, hcs⟩, hi⟩ := h1.at1 (by omega)
  have X := hi p (by omega)
  have hy : nthO (W ++ [badP b]) p = badP b := by simp [nthO, ← HW.out]
  rw [hy] at X
  have q0 : w1.cell? ⟨g, p * 5, none⟩ = some (.int .i64 3) := X 0 _ rfl
  have q4 : w1.cell? ⟨g, p * 5 + 4, none⟩ = some (.int .i64 b) := X 4 _ rfl
  have m4 : w1.frozen? ⟨g, p * 5 + 4, none⟩ = false := hcs.mark _
  have HE : Hid (BadO (p + 1) (W ++ [badP (b + k)]) (.returned (.slice (some ⟨g, 0, none⟩) (p + 1) c1)) w (w1.setCell ⟨g, p * 5 + 4, none⟩ (.int .i64 ((b : Int) + (k : Int))))) := Lib.hid (by rw [← Int.natCast_add]; exact ⟨_, _, rfl, h1.setLast HW.out k, b1.setCell hg _⟩)
  clear h1 b1 hi X hy hcs HC
  go_wp2_with fail
  go_ret
  exact HE.out
set_option maxRecDepth 100000 in
set_option maxHeartbeats 1000000 in
theorem badB_any (A : Option Addr) (n c k : Nat) (xs : List Po) (w : World) (hr : Ops w A n xs) (hl : ∀ y, xs.getLast? = some y → y.k ≠ 3) (hn : n ≤ 1000) (hnil : A = none → c = 0 ∧ n = 0) :
    Calls Try.prog 23 #[.slice A n c, .int .i64 k] w fun e w' => BadO (n + 1) (xs ++ [badP k]) e w w' := by
  have HC := Lib.hid (copyops_any A n c _ w hr (by omega) hnil)
  have hlen := hr.1
  clear hr hnil
  have HF : Hid (∀ (w1 : World) (A1 : Option Addr) (c1 : Nat), OwnO w1 w.heap.size (.slice A1 n c1) xs → Below w.heap.size w w1 → OwnO (w1.alloc (.cells (opC (badP k)) 49)) w.heap.size (.slice A1 n c1) xs ∧ Ops (w1.alloc (.cells (opC (badP k)) 49)) (some ⟨w1.heap.size, 0, none⟩) 1 [badP k] ∧ w.heap.size ≤ (w1.alloc (.cells (opC (badP k)) 49)).heap.size ∧ Below w.heap.size w (w1.alloc (.cells (opC (badP k)) 49))) := Lib.hid (fun w1 A1 c1 h1 b1 =>
    ⟨h1.below ((Below.refl _ _).alloc (Nat.le_refl _) _), Ops.one (Has.made w1 _ (opC (badP k))) rfl, by have := b1.size; simp; omega, b1.alloc b1.size _⟩)
  by_cases h0 : n = 0
  · subst h0
    clear hl
    go_enter Try.func23, Try.ntmps23
    go_wp2_with fail
    refine (HC.out).mono ?_; rintro e w1 ⟨A1, c1, rfl, h1, b1⟩
    have HX := Lib.hid (HF.out w1 A1 c1 h1 b1)
    have hs := HX.out.2.2.1
    clear h1 HF HC
    go_wp2_with (refine app_ops rfl _ _ rfl rfl HX.out.1 rfl HX.out.2.1 (fun h => by cases h) (by omega) hs (fun A2 c2 w2 g1 g2 _ => ?_); have HE : Hid (BadO 1 (xs ++ [badP k]) (.returned (.slice A2 (0 + 1) c2)) w w2) := Lib.hid ⟨A2, c2, rfl, g1, below_wrote' HX.out.2.2.2 g2 hs (fun _ hk => (HX.out.1.lt hk).2)⟩; clear g1 g2)
    go_ret
    exact HE.out
  · obtain ⟨p, rfl⟩ : ∃ p, n = p + 1 := ⟨n - 1, by omega⟩
    have hy : (nthO xs p).k ≠ 3 := by
      refine hl _ ?_
      rw [List.getLast?_eq_getElem?, hlen]
      simp [nthO, show p < xs.length by omega]
    have hk3 : ((nthO xs p).k == 3) = false := by simpa using hy
    clear hl h0 hy
    go_enter Try.func23, Try.ntmps23
    go_wp2_with fail
    refine (HC.out).mono ?_; rintro e w1 ⟨A1, c1, rfl, h1, b1⟩
    have HX := Lib.hid (HF.out w1 A1 c1 h1 b1)
    have hs := HX.out.2.2.1
    obtain ⟨g, rfl, hg, ⟨cs, hcs⟩, hi⟩ := h1.at1 (by omega)
    have q0 : w1.cell? ⟨g, p * 5, none⟩ = some (.int .i64 (nthO xs p).k) := (hi p (by omega)) 0 _ rfl
    generalize (nthO xs p).k = kk at q0 hk3
    clear h1 HF HC hi hcs
    go_wp2_with (refine app_ops rfl _ _ rfl rfl HX.out.1 rfl HX.out.2.1 (fun h => by cases h) (by omega) hs (fun A2 c2 w2 g1 g2 _ => ?_); have HE : Hid (BadO (p + 1 + 1) (xs ++ [badP k]) (.returned (.slice A2 (p + 1 + 1) c2)) w w2) := Lib.hid ⟨A2, c2, rfl, g1, below_wrote' HX.out.2.2.2 g2 hs (fun _ hk => (HX.out.1.lt hk).2)⟩; clear g1 g2)
    go_ret
    exact HE.out

end Go.Proofs.Ytoechlmahckchaa
