/-
  'xs = append(xs, y)' of a row of items that the call itself made, in a walk. (Out of XIt0.)
  Slices of aggregates written out: []T{a}, []T{a, b}, []T{a, b, c, d}.
  Variables that hold aggregates; rows of two.
  Small words that the laws' walks share.
-/
import Derived.Test.YtjgjbhbpndjnnaaG20
import Derived.Test.YtjgjbhbpndjnnaaG10
namespace Go.Proofs.Ytjgjbhbpndjnnaa
open Go.RowKit

set_option maxRecDepth 100000 in
/-- 's = append(s, y)' in a walk, y laid into a new row of one first. -/
theorem app_item {ops : Array Oper} {rest : List Oper} {op : Oper} {p : Act} {w : World} {Q : Exit → Act → World → Prop} (hgd : op.guard = none) (s x : Operand)
    (ho : op.op = .call { callee := .builtin .append, args := #[s, x], argTypes := #[52, 52] })
    {base g : Nat} {v : Value} {xs : List It} {y : It} (hs : p.eval s = v) (hown : OwnIt w base v xs) (hx : p.eval x = .slice (some ⟨g, 0, none⟩) 1 1) (hg : Has w g 23 (itemL y).toArray)
    (hn : xs.length ≤ 8192) (hbase : base ≤ w.heap.size)
    (h : ∀ A c w', OwnIt w' base (.slice A (xs.length + 1) c) (xs ++ [y]) → Below base w w' → wpList Try.prog ops Q rest (p.put op.dst (.slice A (xs.length + 1) c)) w') : wpList Try.prog ops Q (op :: rest) p w := by
  obtain ⟨i0, hi, hz, hs0, hy0⟩ := info_parts Try.infoItem
  refine wpList_append_own w hgd s x 52 ho base 23 i0 _ 4 32 Try.underlying52 hi hz hs0 hy0 rfl (by omega) v xs.length (xs.flatMap itemL) hs hown ⟨g, 0, none⟩ 1 1 (itemL y) hx rfl
    (fun j u hu => ?_) (fun u hu => ?_) (by unfold maxLen; omega) (by omega) hbase (fun v' w' h1 h2 _ => ?_)
  · rw [Addr.add_mid, hg.cell, Nat.zero_add]
    simpa using hu
  · simp only [itemL, List.mem_cons, List.not_mem_nil, or_false] at hu
    rcases hu with rfl | rfl | rfl | rfl <;> rfl
  · have h3 : OwnIt w' base v' (xs ++ [y]) := by unfold OwnIt; simpa [List.flatMap_append] using h1
    obtain ⟨A, c, rfl, _⟩ := h3.form
    have e : (xs ++ [y]).length = xs.length + 1 := by simp
    rw [e] at h3 ⊢
    refine h A c w' h3 ⟨h2.os, h2.tape, h2.output, h2.size, fun k hk => h2.block k (by omega) (fun e => ?_)⟩
    have := World.ownsRow.lt hown k e.symm
    omega

end Go.Proofs.Ytjgjbhbpndjnnaa

namespace Go.Proofs.Ytjgjbhbpndjnnaa
open Go.RowKit

theorem lit2_run (a b : Ac) (A B : Option Addr) (k c l d : Nat) (w : World) :
    (Instr.buildSlice 24 2 #[(0, .agg (accC a A k c)), (1, .agg (accC b B l d))]).run Try.prog w = .ok (.slice (some ⟨w.heap.size, 0, none⟩) 2 2) (w.alloc (.cells (accC a A k c ++ accC b B l d) 29)) := by kernel_rfl

/-- '[]T{a, b}' in a walk. -/
theorem lit2 {ops : Array Oper} {rest : List Oper} {op : Oper} {p : Act} {w : World} {Q : Exit → Act → World → Prop} (hgd : op.guard = none) (x y : Operand) (ho : op.op = .buildSlice 24 2 #[(0, x), (1, y)])
    {a b : Ac} {A B : Option Addr} {k c l d : Nat} (hx : p.eval x = .agg (accC a A k c)) (hy : p.eval y = .agg (accC b B l d))
    (h : ∀ w', Below w.heap.size w w' → Has w' w.heap.size 29 (accC a A k c ++ accC b B l d) → wpList Try.prog ops Q rest (p.put op.dst (.slice (some ⟨w.heap.size, 0, none⟩) 2 2)) w') : wpList Try.prog ops Q (op :: rest) p w :=
  wpList_plain hgd fun _ hK => by
    unfold Oper.wp execOp
    simp only [ho, List.map_toArray, List.map_cons, List.map_nil, hx, hy, Sem.run_bind, lit2_run, Result.andThen_ok]
    exact hK _ _ (h _ ((Below.refl _ _).alloc (Nat.le_refl _) _) (Has.made _ _ _))

theorem lit1_run (a : Ac) (A : Option Addr) (k c : Nat) (w : World) :
    (Instr.buildSlice 24 1 #[(0, .agg (accC a A k c))]).run Try.prog w = .ok (.slice (some ⟨w.heap.size, 0, none⟩) 1 1) (w.alloc (.cells (accC a A k c) 29)) := by kernel_rfl
/-- '[]T{a}' in a walk. -/
theorem lit1 {ops : Array Oper} {rest : List Oper} {op : Oper} {p : Act} {w : World} {Q : Exit → Act → World → Prop} (hgd : op.guard = none) (x : Operand) (ho : op.op = .buildSlice 24 1 #[(0, x)])
    {a : Ac} {A : Option Addr} {k c : Nat} (hx : p.eval x = .agg (accC a A k c))
    (h : ∀ w', Below w.heap.size w w' → Has w' w.heap.size 29 (accC a A k c) → wpList Try.prog ops Q rest (p.put op.dst (.slice (some ⟨w.heap.size, 0, none⟩) 1 1)) w') : wpList Try.prog ops Q (op :: rest) p w :=
  wpList_plain hgd fun _ hK => by
    unfold Oper.wp execOp
    simp only [ho, List.map_toArray, List.map_cons, List.map_nil, hx, Sem.run_bind, lit1_run, Result.andThen_ok]
    exact hK _ _ (h _ ((Below.refl _ _).alloc (Nat.le_refl _) _) (Has.made _ _ _))

theorem lit4_run (a : Ac) (A : Option Addr) (k c : Nat) (w : World) :
    (Instr.buildSlice 24 4 #[(0, .agg (accC a A k c)), (1, .agg (accC a A k c)), (2, .agg (accC a A k c)), (3, .agg (accC a A k c))]).run Try.prog w = .ok (.slice (some ⟨w.heap.size, 0, none⟩) 4 4) (w.alloc (.cells (accC a A k c ++ accC a A k c ++ accC a A k c ++ accC a A k c) 29)) := by kernel_rfl
/-- '[]T{a, a, a, a}' in a walk. -/
theorem lit4 {ops : Array Oper} {rest : List Oper} {op : Oper} {p : Act} {w : World} {Q : Exit → Act → World → Prop} (hgd : op.guard = none) (x y z u : Operand) (ho : op.op = .buildSlice 24 4 #[(0, x), (1, y), (2, z), (3, u)])
    {a : Ac} {A : Option Addr} {k c : Nat} (hx : p.eval x = .agg (accC a A k c)) (hy : p.eval y = .agg (accC a A k c)) (hz : p.eval z = .agg (accC a A k c)) (hu : p.eval u = .agg (accC a A k c))
    (h : ∀ w', Below w.heap.size w w' → Has w' w.heap.size 29 (accC a A k c ++ accC a A k c ++ accC a A k c ++ accC a A k c) → wpList Try.prog ops Q rest (p.put op.dst (.slice (some ⟨w.heap.size, 0, none⟩) 4 4)) w') : wpList Try.prog ops Q (op :: rest) p w :=
  wpList_plain hgd fun _ hK => by
    unfold Oper.wp execOp
    simp only [ho, List.map_toArray, List.map_cons, List.map_nil, hx, hy, hz, hu, Sem.run_bind, lit4_run, Result.andThen_ok]
    exact hK _ _ (h _ ((Below.refl _ _).alloc (Nat.le_refl _) _) (Has.made _ _ _))

end Go.Proofs.Ytjgjbhbpndjnnaa

namespace Go.Proofs.Ytjgjbhbpndjnnaa
open Go.RowKit

/-- A variable that holds an aggregate: block g the cells, block y the buckets. -/
structure V (w : World) (g y : Nat) (a : Ac) : Prop where
  cells : Has w g 29 (accC a (some ⟨y, 0, none⟩) a.h.length a.h.length)
  hist : Has w y 3 (ints a.h)
theorem V.below {w w' : World} {g y : Nat} {a : Ac} (h : V w g y a) (hb : Below w.heap.size w w') : V w' g y a := ⟨h.cells.below hb h.cells.lt, h.hist.below hb h.hist.lt⟩
theorem V.alloc {w : World} {g y : Nat} {a : Ac} (h : V w g y a) (o : Obj) : V (w.alloc o) g y a := ⟨h.cells.alloc o, h.hist.alloc o⟩
theorem V.new {w : World} {y : Nat} {a : Ac} (h : Has w y 3 (ints a.h)) : V (w.alloc (.cells (accC a (some ⟨y, 0, none⟩) a.h.length a.h.length) 29)) w.heap.size y a := ⟨Has.made _ _ _, h.alloc _⟩
theorem ints_of_has {w : World} {y : Nat} {xs : List Int} {n : Nat} (h : Has w y 3 (ints xs)) (hn : xs.length = n) : Ints w (some ⟨y, 0, none⟩) n xs :=
  ⟨hn, fun _ => ⟨y, 0, rfl, fun k hk => by rw [Nat.zero_add, h.cell, ints_get _ (by omega)]⟩⟩
theorem V.ints {w : World} {g y : Nat} {a : Ac} (h : V w g y a) : Ints w (some ⟨y, 0, none⟩) a.h.length a.h := ints_of_has h.hist rfl
theorem has_below {w w' : World} {g : Nat} {t : TypeId} {cs : Array Value} (h : Has w g t cs) (hb : Below w.heap.size w w') : Has w' g t cs := h.below hb h.lt


theorem nthA_zero (a : Ac) (r : List Ac) : nthA (a :: r) 0 = a := rfl
/-- Two aggregates in a new row. -/
theorem accs_two {w : World} {g : Nat} {a b : Ac} {A B : Option Addr} {k c l d : Nat} {cs : Array Value} (h : Has w g 29 cs) (e : cs = accC a A k c ++ accC b B l d) (ha : Ints w A k a.h) (hb : Ints w B l b.h) (h1 : k ≤ c ∧ c ≤ maxLen) (h2 : l ≤ d ∧ d ≤ maxLen) :
    Accs w (some ⟨g, 0, none⟩) 2 [a, b] := by
  refine ⟨rfl, fun _ => ⟨g, 0, rfl, fun i hi => ?_⟩⟩
  subst e
  match i, hi with
  | 0, _ =>
    refine ⟨A, k, c, fun j v hv => ?_, ha, h1⟩
    rw [h.cell]
    have hj : j < 13 := by have := (List.getElem?_eq_some_iff.1 hv).1; rwa [nthA_zero, accC_len] at this
    rw [show 0 + 0 * 13 + j = j by omega, Array.getElem?_append_left (by simpa [accC] using hj)]
    simpa [nthA] using hv
  | 1, _ =>
    refine ⟨B, l, d, fun j v hv => ?_, hb, h2⟩
    rw [h.cell]
    have hs : (accC a A k c).size = 13 := rfl
    rw [show 0 + 1 * 13 + j = 13 + j by omega, Array.getElem?_append_right (by omega), hs, show 13 + j - 13 = j by omega]
    simpa [nthA] using hv


end Go.Proofs.Ytjgjbhbpndjnnaa

namespace Go.Proofs.Ytjgjbhbpndjnnaa
open Go.RowKit

/-- The load of a whole aggregate behind a guard that lets it by. -/
theorem load_hasG {ops : Array Oper} {rest : List Oper} {op : Oper} {a : Act} {w : World} {Q : Exit → Act → World → Prop} (hw : Region.wanted op (yielded ops a.tmps) = true) (x : Operand) (ho : op.op = .load 29 x)
    (g : Nat) (hx : a.eval x = .pointer (some ⟨g, 0, none⟩)) {ac : Ac} {A : Option Addr} {k c : Nat} (hc : Has w g 29 (accC ac A k c))
    (h : wpList Try.prog ops Q rest (a.put op.dst (.agg (accC ac A k c))) w) : wpList Try.prog ops Q (op :: rest) a w :=
  wpList_step fun _ hK => by
    rw [if_pos hw]
    exact wp_load_row 29 x ho g hx 29 _ (0, 0) _ hc Try.underlying29 rfl Try.sizeAcc (hK _ _ h)

end Go.Proofs.Ytjgjbhbpndjnnaa
