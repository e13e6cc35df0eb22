/-
  Plain facts: aggregates that may not be. No program's own steps here.
-/
import Derived.Test.YtdnlkimibdojmaaLaw
namespace Go.Proofs.Ytdnlkimibdojmaa
open Go.RowKit

theorem fit_no_n {a : Ac} {m : Int} (h : ¬ (0 ≤ a.n ∧ a.n ≤ 8192)) : fitB a m = false := by
  unfold fitB; rw [wi_false h]; rfl
theorem fit_no_h {a : Ac} {m : Int} (h : histB a m = false) : fitB a m = false := by
  unfold fitB; rw [h]; simp
theorem fit_no_e {a : Ac} {m : Int} (h0 : ¬ a.n = 0) (h : endsB a = false) : fitB a m = false := by
  unfold fitB; rw [if_neg h0, h]; simp
theorem fit_no_v {a : Ac} {m : Int} (h0 : ¬ a.n = 0) (h : valsB a = false) : fitB a m = false := by
  unfold fitB; rw [if_neg h0, h]; simp
theorem fit_no_z {a : Ac} {m : Int} (h0 : a.n = 0) (h : zeroB a = false) : fitB a m = false := by
  unfold fitB; rw [if_pos h0, h]; simp
theorem accs_one {w : World} {g : Nat} {a : Ac} {A : Option Addr} {k c : Nat} (h : Has w g 29 (accC a A k c)) (ha : Ints w A k a.h) (h1 : k ≤ c ∧ c ≤ maxLen) :
    Accs w (some ⟨g, 0, none⟩) 1 [a] := by
  refine ⟨rfl, fun _ => ⟨g, 0, rfl, fun i hi => ?_⟩⟩
  obtain rfl : i = 0 := by omega
  refine ⟨A, k, c, fun j v hv => ?_, ha, h1⟩
  rw [h.cell, show 0 + 0 * 13 + j = j by omega]
  simpa [nthA] using hv
theorem tog_no {a : Ac} {m s : Int} (h : fitB a m = false) : togB m s [a] = false := by simp [togB, h]

/-- Item i, item j, both together: what AccForms turns. -/
def fmI : It := ⟨1, 4, 2, 3⟩
def fmJ : It := ⟨1, 5, 3, 9⟩
def fmA : Ac := ⟨2, 12, 3, 9, fmI, fmJ, [0, 1, 1]⟩

section
variable {d : Int} (h : 1 ≤ d) (h2 : d ≤ 1024)
include h
theorem fm0 : fitB { fmA with n := 2 + d } 3 = false := fit_no_h (decide_eq_false fun k => by have := k.2.2; simp only [fmA, isum] at this; omega)
omit h in
theorem fm1 : fitB { fmA with n := 1 } 3 = false := fit_no_h (decide_eq_false fun k => by have := k.2.2; simp only [fmA, isum] at this; omega)
theorem fm2 : fitB { fmA with s := 18 + d } 3 = false := fit_no_v (by simp [fmA]) (decide_eq_false fun k => by simp only [fmA, fmI, fmJ] at k; omega)
theorem fm3 : fitB { fmA with s := 6 - d } 3 = false := fit_no_v (by simp [fmA]) (decide_eq_false fun k => by simp only [fmA, fmI, fmJ] at k; omega)
theorem fm4 : fitB { fmA with mn := 3 + d } 3 = false := fit_no_v (by simp [fmA]) (decide_eq_false fun k => by simp only [fmA, fmI, fmJ] at k; omega)
theorem fm5 : fitB { fmA with mx := 9 - d } 3 = false := fit_no_v (by simp [fmA]) (decide_eq_false fun k => by simp only [fmA, fmI, fmJ] at k; omega)
theorem fm6 : fitB { fmA with mx := 1099511627776 + d } 3 = false := fit_no_v (by simp [fmA]) (decide_eq_false fun k => by simp only [fmA, fmI, fmJ] at k; omega)
omit h in
theorem fm7 : fitB { fmA with f := { fmI with s := 2 } } 3 = false := by decide
theorem fm8 : fitB { fmA with f := { fmI with t := 5 + d } } 3 = false := fit_no_e (by simp [fmA]) (decide_eq_false fun k => by
  have := k.2.2.2
  have e : beforeB fmA.l { fmI with t := 5 + d } = true := decide_eq_true (by simp only [fmA, fmI, fmJ]; omega)
  simp only at this
  rw [e] at this
  cases this)
omit h in
theorem fm9 : fitB { fmA with l := { fmJ with q := 0 } } 3 = false := by decide
theorem fm10 : fitB { fmA with l := { fmJ with v := 9 + d } } 3 = false := fit_no_v (by simp [fmA]) (decide_eq_false fun k => by simp only [fmA, fmI, fmJ] at k; omega)
theorem fm11 : fitB { fmA with h := [d, 1, 1] } 3 = false := fit_no_h (decide_eq_false fun k => by have := k.2.2; simp only [fmA, isum] at this; omega)
omit h in
theorem fm12 : fitB { fmA with h := [-1, 1, 1] } 3 = false := by decide
omit h in
theorem fm13 : fitB { fmA with h := [0, 1] } 3 = false := by decide
theorem fm14 : fitB ⟨0, d, 0, 0, zeroIt, zeroIt, [0, 0, 0]⟩ 3 = false := fit_no_z rfl (decide_eq_false fun k => by have := k.1; simp only at this; omega)
omit h in
theorem fm15 : fitB ⟨0, 0, 0, 0, fmI, zeroIt, [0, 0, 0]⟩ 3 = false := by decide
theorem fm16 : fitB { fmA with f := { fmI with t := -1099511627776 - d } } 3 = false := fit_no_e (by simp [fmA]) (decide_eq_false fun k => by
  have := k.1
  have e : itemB { fmI with t := -1099511627776 - d } = false := itemB_false (by simp only [fmI]; omega)
  simp only at this
  rw [e] at this
  cases this)
theorem fm17 : fitB { fmA with n := -d } 3 = false := fit_no_n (by simp only; omega)
end

/-- What stands behind the switch: in block g lies an aggregate that may not be; the bounds and the first aggregate are as they were. -/
def FmS (w : World) (g gb gP yP : Nat) (P : Ac) (wx : World) : Prop :=
  ∃ a' B k c, Has wx g 29 (accC a' B k c) ∧ Ints wx B k a'.h ∧ k ≤ c ∧ c ≤ maxLen ∧ fitB a' 3 = false ∧ Has wx gb 3 (ints [0, 5]) ∧ V wx gP yP P ∧ Below w.heap.size w wx
structure FmB (w : World) (g y gb gP yP : Nat) (P : Ac) (wx : World) : Prop where
  a : V wx g y fmA
  b : Has wx gb 3 (ints [0, 5])
  p : V wx gP yP P
  keep : Below w.heap.size w wx
  pa : gP < g
  yb : gb < y
  yp : yP < y
  g0 : w.heap.size ≤ g
  y0 : w.heap.size ≤ y
section
variable {w wx : World} {g y gb gP yP : Nat} {P : Ac} (S : FmB w g y gb gP yP P wx)
include S
theorem FmB.gy : g ≠ y := fun e => has_types (e ▸ S.a.cells) S.a.hist (by decide)
theorem FmB.ggb : g ≠ gb := fun e => has_types (e ▸ S.a.cells) S.b (by decide)
theorem FmB.gyp : g ≠ yP := fun e => has_types (e ▸ S.a.cells) S.p.hist (by decide)
theorem FmB.ygp : y ≠ gP := fun e => has_types (e ▸ S.a.hist) S.p.cells (by decide)
theorem fm_put (a' : Ac) (i : Nat) (v : Value) (e : (accC fmA (some ⟨y, 0, none⟩) 3 3).setIfInBounds i v = accC a' (some ⟨y, 0, none⟩) 3 3) (hh : a'.h = fmA.h) (hf : fitB a' 3 = false) : FmS w g gb gP yP P (wx.setCell ⟨g, i, none⟩ v) :=
  ⟨a', some ⟨y, 0, none⟩, 3, 3, e ▸ S.a.cells.put i v, by rw [hh]; exact ints_of_has (S.a.hist.putFar (Ne.symm S.gy) v) rfl, Nat.le_refl _, by unfold maxLen; omega, hf, S.b.putFar (Ne.symm S.ggb) v, ⟨S.p.cells.putFar (show gP ≠ g from by have := S.pa; omega) v, S.p.hist.putFar (Ne.symm S.gyp) v⟩, S.keep.setCell S.g0 v⟩
theorem fm_putH (v : Int) (hf : fitB { fmA with h := [v, 1, 1] } 3 = false) : FmS w g gb gP yP P (wx.setCell ⟨y, 0, none⟩ (.int .i64 v)) :=
  ⟨{ fmA with h := [v, 1, 1] }, some ⟨y, 0, none⟩, 3, 3, S.a.cells.putFar S.gy _, ints_of_has (xs := [v, 1, 1]) (ints_set [0, 1, 1] 0 v ▸ S.a.hist.put 0 _) rfl, Nat.le_refl _, by unfold maxLen; omega, hf, S.b.putFar (show gb ≠ y from by have := S.yb; omega) _, ⟨S.p.cells.putFar (Ne.symm S.ygp) _, S.p.hist.putFar (show yP ≠ y from by have := S.yp; omega) _⟩, S.keep.setCell S.y0 _⟩
theorem fm_cut : FmS w g gb gP yP P (wx.setCell ⟨g, 12, none⟩ (.slice (some ⟨y, 0, none⟩) 2 3)) :=
  ⟨{ fmA with h := [0, 1] }, some ⟨y, 0, none⟩, 2, 3, S.a.cells.put 12 _, ⟨rfl, fun _ => ⟨y, 0, rfl, fun k hk => by
      rw [(S.a.hist.putFar (Ne.symm S.gy) _).cell]
      match k, hk with
      | 0, _ => rfl
      | 1, _ => rfl⟩⟩, by omega, by unfold maxLen; omega, fm13, S.b.putFar (Ne.symm S.ggb) _, ⟨S.p.cells.putFar (show gP ≠ g from by have := S.pa; omega) _, S.p.hist.putFar (Ne.symm S.gyp) _⟩, S.keep.setCell S.g0 _⟩
theorem fm_row (a' : Ac) (h3 : a'.h = [0, 0, 0]) (hf : fitB a' 3 = false) : FmS w g gb gP yP P ((wx.alloc (.cells #[.int .i64 0, .int .i64 0, .int .i64 0] 3)).setRow g (accC a' (some ⟨wx.heap.size, 0, none⟩) 3 3)) :=
  have hg := S.a.cells.lt
  ⟨a', some ⟨wx.heap.size, 0, none⟩, 3, 3, (S.a.cells.alloc _).row _, by rw [h3]; exact ints_of_has (xs := [0, 0, 0]) (Has.rowFar (Has.made wx 3 #[.int .i64 0, .int .i64 0, .int .i64 0]) (show wx.heap.size ≠ g by omega) _) rfl, Nat.le_refl _, by unfold maxLen; omega, hf, (S.b.alloc _).rowFar (Ne.symm S.ggb) _, ⟨(S.p.cells.alloc _).rowFar (show gP ≠ g from by have := S.pa; omega) _, (S.p.hist.alloc _).rowFar (Ne.symm S.gyp) _⟩, below_row (below_alloc S.keep (Nat.le_refl _) _) S.g0 _⟩
end

end Go.Proofs.Ytdnlkimibdojmaa
