/-
  'xs = append(xs, y)' of a row of items that the call itself made, in a walk. (Out of XIt0.)
  Slices of aggregates written out: []T{a}, []T{a, b}, []T{a, b, c, d}.
  Variables that hold aggregates; rows of two.
  Small words that the laws' walks share.
  A row of integers that the call itself appends to. (Out of XRcI0.)
  A row of integers that the call itself appends to; results whose buckets may have room behind them.
-/
import Derived.Test.YtjgjbhbpndjnnaaG19
import Derived.Test.YtjgjbhbpndjnnaaG10
import Derived.Test.YtjgjbhbpndjnnaaG0
import Derived.Test.YtjgjbhbpndjnnaaProg
import Derived.OwnWalk
import Derived.Lib.Hide
import Derived.Deep.MidRow
import Derived.BigQuiet
import Derived.Deep.QuietTactic
namespace Go.Proofs.Ytjgjbhbpndjnnaa
open Go.RowKit

set_option maxRecDepth 100000 in
/-- 's = append(s, y)' in a walk, y laid into a new row of one first. -/
theorem app_item {ops : Array Oper} {rest : List Oper} {op : Oper} {p : Act} {w : World} {Q : Exit → Act → World → Prop} (hgd : op.guard = none) (s x : Operand)
    (ho : op.op = .call { callee := .builtin .append, args := #[s, x], argTypes := #[52, 52] })
    {base g : Nat} {v : Value} {xs : List It} {y : It} (hs : p.eval s = v) (hown : OwnIt w base v xs) (hx : p.eval x = .slice (some ⟨g, 0, none⟩) 1 1) (hg : Has w g 23 (itemL y).toArray)
    (hn : xs.length ≤ 8192) (hbase : base ≤ w.heap.size)
    (h : ∀ A c w', OwnIt w' base (.slice A (xs.length + 1) c) (xs ++ [y]) → Below base w w' → wpList Try.prog ops Q rest (p.put op.dst (.slice A (xs.length + 1) c)) w') : wpList Try.prog ops Q (op :: rest) p w := by
  obtain ⟨i0, hi, hz, hs0, hy0⟩ := info_parts Try.infoItem
  refine wpList_append_own w hgd s x 52 ho base 23 i0 _ 4 32 Try.underlying52 hi hz hs0 hy0 rfl (by omega) v xs.length (xs.flatMap itemL) hs hown ⟨g, 0, none⟩ 1 1 (itemL y) hx rfl
    (fun j u hu => ?_) (fun u hu => ?_) (by unfold maxLen; omega) (by omega) hbase (fun v' w' h1 h2 _ => ?_)
  · rw [Addr.add_mid, hg.cell, Nat.zero_add]
    simpa using hu
  · simp only [itemL, List.mem_cons, List.not_mem_nil, or_false] at hu
    rcases hu with rfl | rfl | rfl | rfl <;> rfl
  · have h3 : OwnIt w' base v' (xs ++ [y]) := by unfold OwnIt; simpa [List.flatMap_append] using h1
    obtain ⟨A, c, rfl, _⟩ := h3.form
    have e : (xs ++ [y]).length = xs.length + 1 := by simp
    rw [e] at h3 ⊢
    refine h A c w' h3 ⟨h2.os, h2.tape, h2.output, h2.size, fun k hk => h2.block k (by omega) (fun e => ?_)⟩
    have := World.ownsRow.lt hown k e.symm
    omega

end Go.Proofs.Ytjgjbhbpndjnnaa

namespace Go.Proofs.Ytjgjbhbpndjnnaa
open Go.RowKit

theorem lit2_run (a b : Ac) (A B : Option Addr) (k c l d : Nat) (w : World) :
    (Instr.buildSlice 24 2 #[(0, .agg (accC a A k c)), (1, .agg (accC b B l d))]).run Try.prog w = .ok (.slice (some ⟨w.heap.size, 0, none⟩) 2 2) (w.alloc (.cells (accC a A k c ++ accC b B l d) 29)) := by kernel_rfl

/-- '[]T{a, b}' in a walk. -/
theorem lit2 {ops : Array Oper} {rest : List Oper} {op : Oper} {p : Act} {w : World} {Q : Exit → Act → World → Prop} (hgd : op.guard = none) (x y : Operand) (ho : op.op = .buildSlice 24 2 #[(0, x), (1, y)])
    {a b : Ac} {A B : Option Addr} {k c l d : Nat} (hx : p.eval x = .agg (accC a A k c)) (hy : p.eval y = .agg (accC b B l d))
    (h : ∀ w', Below w.heap.size w w' → Has w' w.heap.size 29 (accC a A k c ++ accC b B l d) → wpList Try.prog ops Q rest (p.put op.dst (.slice (some ⟨w.heap.size, 0, none⟩) 2 2)) w') : wpList Try.prog ops Q (op :: rest) p w :=
  wpList_plain hgd fun _ hK => by
    unfold Oper.wp execOp
    simp only [ho, List.map_toArray, List.map_cons, List.map_nil, hx, hy, Sem.run_bind, lit2_run, Result.andThen_ok]
    exact hK _ _ (h _ ((Below.refl _ _).alloc (Nat.le_refl _) _) (Has.made _ _ _))

theorem lit1_run (a : Ac) (A : Option Addr) (k c : Nat) (w : World) :
    (Instr.buildSlice 24 1 #[(0, .agg (accC a A k c))]).run Try.prog w = .ok (.slice (some ⟨w.heap.size, 0, none⟩) 1 1) (w.alloc (.cells (accC a A k c) 29)) := by kernel_rfl
/-- '[]T{a}' in a walk. -/
theorem lit1 {ops : Array Oper} {rest : List Oper} {op : Oper} {p : Act} {w : World} {Q : Exit → Act → World → Prop} (hgd : op.guard = none) (x : Operand) (ho : op.op = .buildSlice 24 1 #[(0, x)])
    {a : Ac} {A : Option Addr} {k c : Nat} (hx : p.eval x = .agg (accC a A k c))
    (h : ∀ w', Below w.heap.size w w' → Has w' w.heap.size 29 (accC a A k c) → wpList Try.prog ops Q rest (p.put op.dst (.slice (some ⟨w.heap.size, 0, none⟩) 1 1)) w') : wpList Try.prog ops Q (op :: rest) p w :=
  wpList_plain hgd fun _ hK => by
    unfold Oper.wp execOp
    simp only [ho, List.map_toArray, List.map_cons, List.map_nil, hx, Sem.run_bind, lit1_run, Result.andThen_ok]
    exact hK _ _ (h _ ((Below.refl _ _).alloc (Nat.le_refl _) _) (Has.made _ _ _))

theorem lit4_run (a : Ac) (A : Option Addr) (k c : Nat) (w : World) :
    (Instr.buildSlice 24 4 #[(0, .agg (accC a A k c)), (1, .agg (accC a A k c)), (2, .agg (accC a A k c)), (3, .agg (accC a A k c))]).run Try.prog w = .ok (.slice (some ⟨w.heap.size, 0, none⟩) 4 4) (w.alloc (.cells (accC a A k c ++ accC a A k c ++ accC a A k c ++ accC a A k c) 29)) := by kernel_rfl
/-- '[]T{a, a, a, a}' in a walk. -/
theorem lit4 {ops : Array Oper} {rest : List Oper} {op : Oper} {p : Act} {w : World} {Q : Exit → Act → World → Prop} (hgd : op.guard = none) (x y z u : Operand) (ho : op.op = .buildSlice 24 4 #[(0, x), (1, y), (2, z), (3, u)])
    {a : Ac} {A : Option Addr} {k c : Nat} (hx : p.eval x = .agg (accC a A k c)) (hy : p.eval y = .agg (accC a A k c)) (hz : p.eval z = .agg (accC a A k c)) (hu : p.eval u = .agg (accC a A k c))
    (h : ∀ w', Below w.heap.size w w' → Has w' w.heap.size 29 (accC a A k c ++ accC a A k c ++ accC a A k c ++ accC a A k c) → wpList Try.prog ops Q rest (p.put op.dst (.slice (some ⟨w.heap.size, 0, none⟩) 4 4)) w') : wpList Try.prog ops Q (op :: rest) p w :=
  wpList_plain hgd fun _ hK => by
    unfold Oper.wp execOp
    simp only [ho, List.map_toArray, List.map_cons, List.map_nil, hx, hy, hz, hu, Sem.run_bind, lit4_run, Result.andThen_ok]
    exact hK _ _ (h _ ((Below.refl _ _).alloc (Nat.le_refl _) _) (Has.made _ _ _))

end Go.Proofs.Ytjgjbhbpndjnnaa

namespace Go.Proofs.Ytjgjbhbpndjnnaa
open Go.RowKit

/-- A variable that holds an aggregate: block g the cells, block y the buckets. -/
structure V (w : World) (g y : Nat) (a : Ac) : Prop where
  cells : Has w g 29 (accC a (some ⟨y, 0, none⟩) a.h.length a.h.length)
  hist : Has w y 3 (ints a.h)
theorem V.below {w w' : World} {g y : Nat} {a : Ac} (h : V w g y a) (hb : Below w.heap.size w w') : V w' g y a := ⟨h.cells.below hb h.cells.lt, h.hist.below hb h.hist.lt⟩
theorem V.alloc {w : World} {g y : Nat} {a : Ac} (h : V w g y a) (o : Obj) : V (w.alloc o) g y a := ⟨h.cells.alloc o, h.hist.alloc o⟩
theorem V.new {w : World} {y : Nat} {a : Ac} (h : Has w y 3 (ints a.h)) : V (w.alloc (.cells (accC a (some ⟨y, 0, none⟩) a.h.length a.h.length) 29)) w.heap.size y a := ⟨Has.made _ _ _, h.alloc _⟩
theorem ints_of_has {w : World} {y : Nat} {xs : List Int} {n : Nat} (h : Has w y 3 (ints xs)) (hn : xs.length = n) : Ints w (some ⟨y, 0, none⟩) n xs :=
  ⟨hn, fun _ => ⟨y, 0, rfl, fun k hk => by rw [Nat.zero_add, h.cell, ints_get _ (by omega)]⟩⟩
theorem V.ints {w : World} {g y : Nat} {a : Ac} (h : V w g y a) : Ints w (some ⟨y, 0, none⟩) a.h.length a.h := ints_of_has h.hist rfl
theorem has_below {w w' : World} {g : Nat} {t : TypeId} {cs : Array Value} (h : Has w g t cs) (hb : Below w.heap.size w w') : Has w' g t cs := h.below hb h.lt


theorem nthA_zero (a : Ac) (r : List Ac) : nthA (a :: r) 0 = a := rfl
/-- Two aggregates in a new row. -/
theorem accs_two {w : World} {g : Nat} {a b : Ac} {A B : Option Addr} {k c l d : Nat} {cs : Array Value} (h : Has w g 29 cs) (e : cs = accC a A k c ++ accC b B l d) (ha : Ints w A k a.h) (hb : Ints w B l b.h) (h1 : k ≤ c ∧ c ≤ maxLen) (h2 : l ≤ d ∧ d ≤ maxLen) :
    Accs w (some ⟨g, 0, none⟩) 2 [a, b] := by
  refine ⟨rfl, fun _ => ⟨g, 0, rfl, fun i hi => ?_⟩⟩
  subst e
  match i, hi with
  | 0, _ =>
    refine ⟨A, k, c, fun j v hv => ?_, ha, h1⟩
    rw [h.cell]
    have hj : j < 13 := by have := (List.getElem?_eq_some_iff.1 hv).1; rwa [nthA_zero, accC_len] at this
    rw [show 0 + 0 * 13 + j = j by omega, Array.getElem?_append_left (by simpa [accC] using hj)]
    simpa [nthA] using hv
  | 1, _ =>
    refine ⟨B, l, d, fun j v hv => ?_, hb, h2⟩
    rw [h.cell]
    have hs : (accC a A k c).size = 13 := rfl
    rw [show 0 + 1 * 13 + j = 13 + j by omega, Array.getElem?_append_right (by omega), hs, show 13 + j - 13 = j by omega]
    simpa [nthA] using hv


end Go.Proofs.Ytjgjbhbpndjnnaa

namespace Go.Proofs.Ytjgjbhbpndjnnaa
open Go.RowKit

/-- The load of a whole aggregate behind a guard that lets it by. -/
theorem load_hasG {ops : Array Oper} {rest : List Oper} {op : Oper} {a : Act} {w : World} {Q : Exit → Act → World → Prop} (hw : Region.wanted op (yielded ops a.tmps) = true) (x : Operand) (ho : op.op = .load 29 x)
    (g : Nat) (hx : a.eval x = .pointer (some ⟨g, 0, none⟩)) {ac : Ac} {A : Option Addr} {k c : Nat} (hc : Has w g 29 (accC ac A k c))
    (h : wpList Try.prog ops Q rest (a.put op.dst (.agg (accC ac A k c))) w) : wpList Try.prog ops Q (op :: rest) a w :=
  wpList_step fun _ hK => by
    rw [if_pos hw]
    exact wp_load_row 29 x ho g hx 29 _ (0, 0) _ hc Try.underlying29 rfl Try.sizeAcc (hK _ _ h)

end Go.Proofs.Ytjgjbhbpndjnnaa

namespace Go.Proofs.Ytjgjbhbpndjnnaa
open Go.RowKit

set_option maxRecDepth 100000 in
theorem Try.rinfoInt : (Try.prog.info? 3).map (fun i => (i.zero, i.size, i.bytes)) = some (some (.int .i64 0), 1, 8) := by kernel_rfl
set_option maxRecDepth 100000 in
theorem rinfo_parts : ∃ i, Try.prog.info? 3 = some i ∧ i.zero = some (.int .i64 0) ∧ i.size = 1 ∧ i.bytes = 8 := by
  have h := Try.rinfoInt
  cases hi : Try.prog.info? 3 with
  | none => rw [hi] at h; simp at h
  | some i =>
    rw [hi] at h
    simp only [Option.map_some, Option.some.injEq, Prod.mk.injEq] at h
    exact ⟨i, rfl, h.1, h.2.1, h.2.2⟩
def intL (xs : List Int) : List Value := xs.map (Value.int .i64)
/-- v is a row of integers that the call owns, from block base on. -/
def OwnI (w : World) (base : Nat) (v : Value) (xs : List Int) : Prop := w.ownsRow base 3 1 v xs.length (intL xs)
set_option maxRecDepth 100000 in
theorem OwnI.nil (w : World) (base : Nat) : OwnI w base (.slice none 0 0) [] := World.ownsRow_nil _ _ _ _
set_option maxRecDepth 100000 in
theorem OwnI.form {w : World} {base : Nat} {v : Value} {xs : List Int} (h : OwnI w base v xs) : ∃ A c, v = .slice A xs.length c ∧ xs.length ≤ c ∧ c ≤ maxLen ∧ (∀ ad, A = some ad → base ≤ ad.block) := by
  rcases h.2 with ⟨e, h0⟩ | ⟨g, cap, cur, e, hg, _, hc1, hc2, _⟩
  · exact ⟨none, 0, by rw [e, h0], by omega, Nat.zero_le _, fun ad h => by cases h⟩
  · exact ⟨some ⟨g, 0, none⟩, cap, e, hc1, hc2, fun ad h => by injection h with h; subst h; exact hg⟩
set_option maxRecDepth 100000 in
theorem OwnI.ints {w : World} {base : Nat} {A : Option Addr} {n c : Nat} {xs : List Int} (h : OwnI w base (.slice A n c) xs) : Ints w A n xs := by
  rcases h.2 with ⟨e, h0⟩ | ⟨g, cap, cur, e, hg, hh, hn, hc, hs, ht⟩
  · injection e with e1 e2 e3
    subst e2
    exact ⟨h0, fun h => absurd h (by omega)⟩
  · injection e with e1 e2 e3
    subst e1; subst e2; subst e3
    refine ⟨rfl, fun hpos => ⟨g, 0, rfl, fun k hk => ?_⟩⟩
    rw [Nat.zero_add, World.ownsRow.cellAt h k (by omega)]
    simp [intL, nth, hk]
set_option maxRecDepth 100000 in
theorem OwnI.mono {w : World} {base base' : Nat} {v : Value} {xs : List Int} (h : OwnI w base v xs) (hb : base' ≤ base) : OwnI w base' v xs := by
  refine ⟨h.1, ?_⟩
  rcases h.2 with h0 | ⟨g, cap, cur, e, hg, r⟩
  · exact .inl h0
  · exact .inr ⟨g, cap, cur, e, Nat.le_trans hb hg, r⟩
set_option maxRecDepth 100000 in
theorem OwnI.new {w : World} {base : Nat} {A : Option Addr} {n c : Nat} {xs : List Int} (h : OwnI w base (.slice A n c) xs) : ∀ ad, A = some ad → base ≤ ad.block := by
  obtain ⟨A', c', e, _, _, h4⟩ := h.form
  injection e with e1 e2 e3
  subst e1
  exact h4
set_option maxRecDepth 100000 in
theorem OwnI.below {w w' : World} {base : Nat} {v : Value} {xs : List Int} (h : OwnI w base v xs) (hb : Below w.heap.size w w') : OwnI w' base v xs :=
  World.ownsRow.kept h (row := none) ⟨hb.os, hb.tape, hb.output, hb.size, fun k hk _ => hb.block k hk⟩ (by
    cases e : v.ownBlock with
    | none => exact .inl rfl
    | some k => exact .inr (by simp))
set_option maxRecDepth 100000 in
/-- A block of another type is no row of integers. -/
theorem OwnI.apart {w : World} {base : Nat} {v : Value} {l : List Int} (h : OwnI w base v l) {k : Nat} {t : TypeId} {cs : Array Value} (hh : Has w k t cs) (ht : t ≠ 3) : v.ownBlock ≠ some k := by
  rcases h.2 with ⟨e, _⟩ | ⟨g, cap, cur, e, hg, hr, _⟩
  · rw [e]; simp [Value.ownBlock]
  · rw [e]
    intro hk
    obtain rfl : g = k := by simpa [Value.ownBlock] using hk
    unfold Has at hh
    rw [hr] at hh
    simp only [Option.some.injEq, Obj.cells.injEq] at hh
    exact ht hh.2.1.symm
set_option maxRecDepth 100000 in
/-- A block that changes and is no row of integers leaves them be. -/
theorem OwnI.kept1 {w w' : World} {base : Nat} {v : Value} {xs : List Int} (h : OwnI w base v xs) {k : Nat} {t : TypeId} {cs : Array Value} (hh : Has w k t cs) (ht : t ≠ 3)
    (os : w'.os = w.os) (tape : w'.tape = w.tape) (output : w'.output = w.output) (size : w'.heap.size = w.heap.size) (other : ∀ j, j ≠ k → w'.heap[j]? = w.heap[j]?) : OwnI w' base v xs :=
  World.ownsRow.kept h (row := some k) ⟨os, tape, output, Nat.le_of_eq size.symm, fun j _ hne => other j (fun e => hne (by rw [e]))⟩ (by
    cases e : v.ownBlock with
    | none => exact .inl rfl
    | some j => exact .inr (fun e2 => h.apart hh ht (by rw [e, ← e2])))
set_option maxRecDepth 100000 in
theorem OwnI.row {w : World} {base : Nat} {v : Value} {xs : List Int} (h : OwnI w base v xs) {k : Nat} {t : TypeId} {cs : Array Value} (hh : Has w k t cs) (ht : t ≠ 3) (cs' : Array Value) : OwnI (w.setRow k cs') base v xs :=
  h.kept1 hh ht rfl rfl rfl (by simp) (fun j hj => setRow_other w k j cs' hj)
set_option maxRecDepth 100000 in
theorem OwnI.set {w : World} {base : Nat} {v : Value} {xs : List Int} (h : OwnI w base v xs) {k : Nat} {t : TypeId} {cs : Array Value} (hh : Has w k t cs) (ht : t ≠ 3) (i : Nat) (u : Value) : OwnI (w.setCell ⟨k, i, none⟩ u) base v xs :=
  h.kept1 hh ht rfl rfl rfl (by simp [World.setCell]) (fun j hj => heap_setCell_other _ _ _ _ hj)

set_option maxRecDepth 100000 in
/-- 's = append(s, y)' in a walk, y laid into a new row of one first; every other block stays. -/
theorem app_intG {ops : Array Oper} {rest : List Oper} {op : Oper} {p : Act} {w : World} {Q : Exit → Act → World → Prop} (hgd : op.guard = none) (s x : Operand)
    (ho : op.op = .call { callee := .builtin .append, args := #[s, x], argTypes := #[25, 25] })
    {base g : Nat} {v : Value} {xs : List Int} {y : Int} (hs : p.eval s = v) (hown : OwnI w base v xs) (hx : p.eval x = .slice (some ⟨g, 0, none⟩) 1 1) (hg : w.cell? ⟨g, 0, none⟩ = some (.int .i64 y))
    (hn : xs.length ≤ 8192) (hbase : base ≤ w.heap.size)
    (h : ∀ A m c w', m = xs.length + 1 → OwnI w' base (.slice A m c) (xs ++ [y]) → w.grownBy w' v.ownBlock → wpList Try.prog ops Q rest (p.put op.dst (.slice A m c)) w') : wpList Try.prog ops Q (op :: rest) p w := by
  obtain ⟨i0, hi, hz, hs0, hy0⟩ := rinfo_parts
  refine wpList_append_own w hgd s x 25 ho base 3 i0 _ 1 8 Try.underlying25 hi hz hs0 hy0 rfl (by omega) v xs.length (intL xs) hs hown ⟨g, 0, none⟩ 1 1 [.int .i64 y] hx rfl
    (fun j u hu => ?_) (fun u hu => ?_) (by unfold maxLen; omega) (by omega) hbase (fun v' w' h1 h2 _ => ?_)
  · cases j with
    | zero => rw [Addr.add_mid]; simp at hu; rw [← hu]; exact hg
    | succ j => simp at hu
  · obtain rfl : u = .int .i64 y := by simpa using hu
    rfl
  · have h3 : OwnI w' base v' (xs ++ [y]) := by unfold OwnI intL; simpa [intL] using h1
    obtain ⟨A, c, rfl, _⟩ := h3.form
    have e : (xs ++ [y]).length = xs.length + 1 := by simp
    rw [e] at h3 ⊢
    exact h A _ c w' rfl h3 h2

end Go.Proofs.Ytjgjbhbpndjnnaa

namespace Go.Proofs.Ytjgjbhbpndjnnaa
open Go.RowKit

theorem OwnI.rowL {w : World} {base g : Nat} {v : Value} {xs : List Int} (h : OwnI w base v xs) (hg : g < base) (cs : Array Value) : OwnI (w.setRow g cs) base v xs :=
  World.ownsRow.kept h (row := some g) ⟨rfl, rfl, rfl, by simp, fun k _ hne => setRow_other w g k cs (fun e => hne (by rw [e]))⟩ (by
    cases e : v.ownBlock with
    | none => exact .inl rfl
    | some k =>
      refine .inr (fun e2 => ?_)
      obtain ⟨A, c, rfl, _, _, h3⟩ := h.form
      cases A with
      | none => simp [Value.ownBlock] at e
      | some ad =>
        simp [Value.ownBlock] at e
        have := h3 ad rfl
        injection e2 with e2
        omega)

/-- 's = append(s, y)' in a walk, y laid into a new row of one first. -/
theorem app_int {ops : Array Oper} {rest : List Oper} {op : Oper} {p : Act} {w : World} {Q : Exit → Act → World → Prop} (hgd : op.guard = none) (s x : Operand)
    (ho : op.op = .call { callee := .builtin .append, args := #[s, x], argTypes := #[25, 25] })
    {base g : Nat} {v : Value} {xs : List Int} {y : Int} (hs : p.eval s = v) (hown : OwnI w base v xs) (hx : p.eval x = .slice (some ⟨g, 0, none⟩) 1 1) (hg : w.cell? ⟨g, 0, none⟩ = some (.int .i64 y))
    (hn : xs.length ≤ 8192) (hbase : base ≤ w.heap.size)
    (h : ∀ A c w', OwnI w' base (.slice A (xs.length + 1) c) (xs ++ [y]) → Below base w w' → wpList Try.prog ops Q rest (p.put op.dst (.slice A (xs.length + 1) c)) w') : wpList Try.prog ops Q (op :: rest) p w := by
  obtain ⟨i0, hi, hz, hs0, hy0⟩ := info_parts Try.infoInt
  refine wpList_append_own w hgd s x 25 ho base 3 i0 _ 1 8 Try.underlying25 hi hz hs0 hy0 rfl (by omega) v xs.length (intL xs) hs hown ⟨g, 0, none⟩ 1 1 [.int .i64 y] hx rfl
    (fun j u hu => ?_) (fun u hu => ?_) (by unfold maxLen; omega) (by omega) hbase (fun v' w' h1 h2 _ => ?_)
  · cases j with
    | zero => rw [Addr.add_mid]; simp at hu; rw [← hu]; exact hg
    | succ j => simp at hu
  · obtain rfl : u = .int .i64 y := by simpa using hu
    rfl
  · have h3 : OwnI w' base v' (xs ++ [y]) := by unfold OwnI intL; simpa [intL] using h1
    obtain ⟨A, c, rfl, _⟩ := h3.form
    have e : (xs ++ [y]).length = xs.length + 1 := by simp
    rw [e] at h3 ⊢
    refine h A c w' h3 ⟨h2.os, h2.tape, h2.output, h2.size, fun k hk => h2.block k (by omega) (fun e => ?_)⟩
    have := World.ownsRow.lt hown k e.symm
    omega

theorem cell_setRow_far {w : World} {g : Nat} {cs : Array Value} {p : Addr} (h : p.block ≠ g) : (w.setRow g cs).cell? p = w.cell? p := by
  unfold World.cell?
  rw [setRow_other w g p.block cs h]
theorem Ints.row {w : World} {A : Option Addr} {n : Nat} {xs : List Int} (h : Ints w A n xs) {g : Nat} (hg : ∀ ad, A = some ad → ad.block ≠ g) (cs : Array Value) : Ints (w.setRow g cs) A n xs :=
  ⟨h.1, fun hn => by
    obtain ⟨b, o, e, hc⟩ := h.2 hn
    exact ⟨b, o, e, fun k hk => (cell_setRow_far (p := ⟨b, o + k, none⟩) (show b ≠ g from hg _ e)).trans (hc k hk)⟩⟩

/-- Such a row's block holds integers. -/
theorem OwnI.typ {w : World} {base : Nat} {A : Option Addr} {n c : Nat} {xs : List Int} (h : OwnI w base (.slice A n c) xs) : ∀ ad, A = some ad → ∃ cs, Has w ad.block 3 cs := fun ad e => by
  rcases h.2 with ⟨e1, _⟩ | ⟨g, cap, cur, e1, hg, hh, _⟩
  · injection e1 with e2
    rw [e2] at e; cases e
  · injection e1 with e2
    rw [e2] at e
    injection e with e
    subst e
    exact ⟨cur, hh⟩
/-- An aggregate lies in a result: its buckets in new memory, with or without room behind them. -/
structure AccIn (w : World) (B : Nat) (a : Ac) (A : Option Addr) (n c : Nat) : Prop where
  hist : Ints w A n a.h
  cap : n ≤ c
  most : c ≤ maxLen
  new : ∀ ad, A = some ad → B ≤ ad.block
  typ : ∀ ad, A = some ad → ∃ cs, Has w ad.block 3 cs
theorem AccIn.below {w w' : World} {B n c : Nat} {a : Ac} {A : Option Addr} (h : AccIn w B a A n c) (hb : Below w.heap.size w w') : AccIn w' B a A n c := ⟨h.hist.below hb, h.cap, h.most, h.new, fun ad e => by obtain ⟨cs, hh⟩ := h.typ ad e; exact ⟨cs, hh.below hb hh.lt⟩⟩
theorem AccIn.mono {w : World} {B B' n c : Nat} {a : Ac} {A : Option Addr} (h : AccIn w B a A n c) (hB : B' ≤ B) : AccIn w B' a A n c := ⟨h.hist, h.cap, h.most, fun ad e => Nat.le_trans hB (h.new ad e), h.typ⟩
/-- The call hands out this aggregate alone. -/
def FoldAcc (a : Ac) (w : World) (e : Ending) (w' : World) : Prop :=
  ∃ A n c, e = .returned (accV a A n c) ∧ AccIn w' w.heap.size a A n c ∧ Below w.heap.size w w'

/-- A struct that is handed out alone: out of its cell. -/
theorem ret_row1 {P : Program} {fn : Func} {p : Tmp} {ty : TypeId} (h : fn.results = #[.cell p ty]) (tmps : Array Value) (w : World) (g : Nat) (t : TypeId) (cs : Array Value) (d : TypeDesc)
    (hp : tmps.getD p undef = .pointer (some ⟨g, 0, none⟩)) (hg : Has w g t cs) (hu : P.underlying ty = some d) (hd : (match d with | .struct _ | .array _ _ => true | _ => false) = true) (hi : (P.info? ty).map (·.size) = some cs.size) :
    (results fn tmps).run P w = .ok (.agg cs) w := by
  have hp' : tmps[p]?.getD undef = .pointer (some ⟨g, 0, none⟩) := by simpa using hp
  simp [results, h, hp', asAddr, run_loadVar_row w g t ty cs (0, 0) d hg hu hd hi]

end Go.Proofs.Ytjgjbhbpndjnnaa
