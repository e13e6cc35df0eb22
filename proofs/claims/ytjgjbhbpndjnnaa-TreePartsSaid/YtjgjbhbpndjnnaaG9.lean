/-
  Items in rows, light: an item's cells; rows of items as they lie in memory; a row of items that the call itself appends to. (Out of XItL, XItemsR, XItemsO, XSame.)
  Slices of aggregates written out: []T{a}, []T{a, b}, []T{a, b, c, d}.
  Variables that hold aggregates; rows of two.
  Small words that the laws' walks share.
-/
import Derived.Test.YtjgjbhbpndjnnaaProg
import Derived.Test.YtjgjbhbpndjnnaaG2
import Derived.Test.YtjgjbhbpndjnnaaG0
import Derived.Deep.MidRow
import Derived.Lib.LazyBuf
import Derived.Maps.AppendAt
import Derived.Test.YtjgjbhbpndjnnaaG7
namespace Go.Proofs.Ytjgjbhbpndjnnaa
open Go.RowKit

set_option maxRecDepth 100000 in
theorem Try.sizeItem : (Try.prog.info? 23).map (·.size) = some 4 := by kernel_rfl
def itemL (x : It) : List Value := [.int .i64 x.s, .int .i64 x.t, .int .i64 x.q, .int .i64 x.v]
set_option maxRecDepth 100000 in
theorem range_item {w : World} {g : Nat} {x : It} (h : Has w g 23 #[.int .i64 x.s, .int .i64 x.t, .int .i64 x.q, .int .i64 x.v]) : w.rangeAt g 0 (itemL x) := fun j v hj => by
  rw [h.cell]
  match j, hj with
  | 0, hj => exact hj
  | 1, hj => exact hj
  | 2, hj => exact hj
  | 3, hj => exact hj
  | j + 4, hj => simp [itemL] at hj

/-- The slice value '.slice A n _' reads as the items xs. -/
def Items (w : World) (A : Option Addr) (n : Nat) (xs : List It) : Prop :=
  xs.length = n ∧ (0 < n → ∃ b o : Nat, A = some ⟨b, o, none⟩ ∧ ∀ i, i < n → w.rangeAt b (o + i * 4) (itemL (nthI xs i)))
set_option maxRecDepth 100000 in
theorem rangeAt_keep {w w' : World} {b o : Nat} {l : List Value} (h : w.rangeAt b o l) (hl : 0 < l.length) (hk : ∀ p : Addr, p.block < w.heap.size → w'.cell? p = w.cell? p) : w'.rangeAt b o l := fun j v hv => by
  have h0 := h 0 (l[0]) (by simp)
  have hb : b < w.heap.size := block_lt_of_cell h0
  exact (hk ⟨b, o + j, none⟩ hb).trans (h j v hv)
set_option maxRecDepth 100000 in
theorem Items.keep {w w' : World} {A : Option Addr} {n : Nat} {xs : List It} (h : Items w A n xs) (hk : ∀ p : Addr, p.block < w.heap.size → w'.cell? p = w.cell? p) : Items w' A n xs :=
  ⟨h.1, fun hn => by
    obtain ⟨b, o, e, hi⟩ := h.2 hn
    exact ⟨b, o, e, fun i hlt => rangeAt_keep (hi i hlt) (by simp [itemL]) hk⟩⟩
set_option maxRecDepth 100000 in
theorem Items.below {w w' : World} {A : Option Addr} {n : Nat} {xs : List It} (h : Items w A n xs) (hb : Below w.heap.size w w') : Items w' A n xs := h.keep fun _ hp => hb.cell hp
set_option maxRecDepth 100000 in
theorem Items.at_ {w : World} {A : Option Addr} {n : Nat} {xs : List It} (h : Items w A n xs) (hn : 0 < n) : ∃ b o : Nat, A = some ⟨b, o, none⟩ ∧ ∀ i, i < n → w.rangeAt b (o + i * 4) (itemL (nthI xs i)) := h.2 hn
set_option maxRecDepth 100000 in
theorem Items.nil (w : World) (A : Option Addr) : Items w A 0 [] := ⟨rfl, fun h => absurd h (by omega)⟩
set_option maxRecDepth 100000 in
/-- The load of a whole item out of a row. -/
theorem load_item {ops : Array Oper} {rest : List Oper} {op : Oper} {a : Act} {w : World} {Q : Exit → Act → World → Prop} (hgd : op.guard = none) (x : Operand) (ho : op.op = .load 23 x)
    (b o : Nat) (hx : a.eval x = .pointer (some ⟨b, o, none⟩)) {y : It} (hc : w.rangeAt b o (itemL y))
    (h : wpList Try.prog ops Q rest (a.put op.dst (.agg #[.int .i64 y.s, .int .i64 y.t, .int .i64 y.q, .int .i64 y.v])) w) : wpList Try.prog ops Q (op :: rest) a w :=
  wpList_load_mid hgd 23 x ho b o hx _ _ hc Try.underlying23 rfl Try.sizeItem (by simpa [itemL] using h)

set_option maxRecDepth 100000 in
theorem Try.infoItem : (Try.prog.info? 23).map (fun i => (i.zero, i.size, i.bytes)) = some (some (.agg #[.int .i64 0, .int .i64 0, .int .i64 0, .int .i64 0]), 4, 32) := by kernel_rfl
set_option maxRecDepth 100000 in
theorem flat_len (xs : List It) : (xs.flatMap itemL).length = xs.length * 4 := by
  induction xs with
  | nil => rfl
  | cons y r ih => rw [List.flatMap_cons, List.length_append, ih, List.length_cons]; simp [itemL]; omega
set_option maxRecDepth 100000 in
theorem flat_at (ys : List It) : ∀ i, i < ys.length → ∀ j v, (itemL (nthI ys i))[j]? = some v → (ys.flatMap itemL)[i * 4 + j]? = some v := by
  induction ys with
  | nil => intro i hi; simp at hi
  | cons y r ih =>
    intro i hi j v hv
    have hl : (itemL y).length = 4 := rfl
    rw [List.flatMap_cons]
    cases i with
    | zero =>
      have hy : nthI (y :: r) 0 = y := rfl
      rw [hy] at hv
      have hj : j < 4 := by have := (List.getElem?_eq_some_iff.1 hv).1; rwa [hl] at this
      rw [List.getElem?_append_left (by rw [hl]; omega)]
      simpa using hv
    | succ i =>
      have hy : nthI (y :: r) (i + 1) = nthI r i := by simp [nthI]
      rw [hy] at hv
      rw [List.getElem?_append_right (by rw [hl]; omega), hl, show (i + 1) * 4 + j - 4 = i * 4 + j by omega]
      exact ih i (by simpa using hi) j v hv
/-- v is a row of items that the call owns, from block base on. -/
def OwnIt (w : World) (base : Nat) (v : Value) (xs : List It) : Prop := w.ownsRow base 23 4 v xs.length (xs.flatMap itemL)
set_option maxRecDepth 100000 in
theorem OwnIt.nil (w : World) (base : Nat) : OwnIt w base (.slice none 0 0) [] := World.ownsRow_nil _ _ _ _
set_option maxRecDepth 100000 in
theorem OwnIt.form {w : World} {base : Nat} {v : Value} {xs : List It} (h : OwnIt w base v xs) : ∃ A c, v = .slice A xs.length c ∧ (∀ ad, A = some ad → base ≤ ad.block) := by
  rcases h.2 with ⟨e, h0⟩ | ⟨g, cap, cur, e, hg, _, hc1, hc2, _⟩
  · exact ⟨none, 0, by rw [e, h0], fun ad h => by cases h⟩
  · exact ⟨some ⟨g, 0, none⟩, cap, e, fun ad h => by injection h with h; subst h; exact hg⟩
set_option maxRecDepth 100000 in
theorem OwnIt.items {w : World} {base : Nat} {A : Option Addr} {n c : Nat} {xs : List It} (h : OwnIt w base (.slice A n c) xs) : Items w A n xs := by
  rcases h.2 with ⟨e, h0⟩ | ⟨g, cap, cur, e, hg, hh, hn, hc, hs, ht⟩
  · injection e with e1 e2 e3
    subst e2
    exact ⟨h0, fun h => absurd h (by omega)⟩
  · injection e with e1 e2 e3
    subst e1; subst e2; subst e3
    refine ⟨rfl, fun hpos => ⟨g, 0, rfl, fun i hi j v hv => ?_⟩⟩
    have hl : (itemL (nthI xs i)).length = 4 := rfl
    have hj : j < 4 := by have := (List.getElem?_eq_some_iff.1 hv).1; rwa [hl] at this
    rw [show 0 + i * 4 + j = i * 4 + j by omega, World.ownsRow.cellAt h _ (by omega)]
    exact flat_at xs i hi j v hv
set_option maxRecDepth 100000 in
theorem OwnIt.below {w w' : World} {base : Nat} {v : Value} {xs : List It} (h : OwnIt w base v xs) (hb : Below w.heap.size w w') : OwnIt w' base v xs :=
  World.ownsRow.kept h (row := none) ⟨hb.os, hb.tape, hb.output, hb.size, fun k hk _ => hb.block k hk⟩ (by
    cases e : v.ownBlock with
    | none => exact .inl rfl
    | some k => exact .inr (by simp))

end Go.Proofs.Ytjgjbhbpndjnnaa

namespace Go.Proofs.Ytjgjbhbpndjnnaa
open Go.RowKit

theorem lit2_run (a b : Ac) (A B : Option Addr) (k c l d : Nat) (w : World) :
    (Instr.buildSlice 24 2 #[(0, .agg (accC a A k c)), (1, .agg (accC b B l d))]).run Try.prog w = .ok (.slice (some ⟨w.heap.size, 0, none⟩) 2 2) (w.alloc (.cells (accC a A k c ++ accC b B l d) 29)) := by kernel_rfl

/-- '[]T{a, b}' in a walk. -/
theorem lit2 {ops : Array Oper} {rest : List Oper} {op : Oper} {p : Act} {w : World} {Q : Exit → Act → World → Prop} (hgd : op.guard = none) (x y : Operand) (ho : op.op = .buildSlice 24 2 #[(0, x), (1, y)])
    {a b : Ac} {A B : Option Addr} {k c l d : Nat} (hx : p.eval x = .agg (accC a A k c)) (hy : p.eval y = .agg (accC b B l d))
    (h : ∀ w', Below w.heap.size w w' → Has w' w.heap.size 29 (accC a A k c ++ accC b B l d) → wpList Try.prog ops Q rest (p.put op.dst (.slice (some ⟨w.heap.size, 0, none⟩) 2 2)) w') : wpList Try.prog ops Q (op :: rest) p w :=
  wpList_plain hgd fun _ hK => by
    unfold Oper.wp execOp
    simp only [ho, List.map_toArray, List.map_cons, List.map_nil, hx, hy, Sem.run_bind, lit2_run, Result.andThen_ok]
    exact hK _ _ (h _ ((Below.refl _ _).alloc (Nat.le_refl _) _) (Has.made _ _ _))

theorem lit1_run (a : Ac) (A : Option Addr) (k c : Nat) (w : World) :
    (Instr.buildSlice 24 1 #[(0, .agg (accC a A k c))]).run Try.prog w = .ok (.slice (some ⟨w.heap.size, 0, none⟩) 1 1) (w.alloc (.cells (accC a A k c) 29)) := by kernel_rfl
/-- '[]T{a}' in a walk. -/
theorem lit1 {ops : Array Oper} {rest : List Oper} {op : Oper} {p : Act} {w : World} {Q : Exit → Act → World → Prop} (hgd : op.guard = none) (x : Operand) (ho : op.op = .buildSlice 24 1 #[(0, x)])
    {a : Ac} {A : Option Addr} {k c : Nat} (hx : p.eval x = .agg (accC a A k c))
    (h : ∀ w', Below w.heap.size w w' → Has w' w.heap.size 29 (accC a A k c) → wpList Try.prog ops Q rest (p.put op.dst (.slice (some ⟨w.heap.size, 0, none⟩) 1 1)) w') : wpList Try.prog ops Q (op :: rest) p w :=
  wpList_plain hgd fun _ hK => by
    unfold Oper.wp execOp
    simp only [ho, List.map_toArray, List.map_cons, List.map_nil, hx, Sem.run_bind, lit1_run, Result.andThen_ok]
    exact hK _ _ (h _ ((Below.refl _ _).alloc (Nat.le_refl _) _) (Has.made _ _ _))

theorem lit4_run (a : Ac) (A : Option Addr) (k c : Nat) (w : World) :
    (Instr.buildSlice 24 4 #[(0, .agg (accC a A k c)), (1, .agg (accC a A k c)), (2, .agg (accC a A k c)), (3, .agg (accC a A k c))]).run Try.prog w = .ok (.slice (some ⟨w.heap.size, 0, none⟩) 4 4) (w.alloc (.cells (accC a A k c ++ accC a A k c ++ accC a A k c ++ accC a A k c) 29)) := by kernel_rfl
/-- '[]T{a, a, a, a}' in a walk. -/
theorem lit4 {ops : Array Oper} {rest : List Oper} {op : Oper} {p : Act} {w : World} {Q : Exit → Act → World → Prop} (hgd : op.guard = none) (x y z u : Operand) (ho : op.op = .buildSlice 24 4 #[(0, x), (1, y), (2, z), (3, u)])
    {a : Ac} {A : Option Addr} {k c : Nat} (hx : p.eval x = .agg (accC a A k c)) (hy : p.eval y = .agg (accC a A k c)) (hz : p.eval z = .agg (accC a A k c)) (hu : p.eval u = .agg (accC a A k c))
    (h : ∀ w', Below w.heap.size w w' → Has w' w.heap.size 29 (accC a A k c ++ accC a A k c ++ accC a A k c ++ accC a A k c) → wpList Try.prog ops Q rest (p.put op.dst (.slice (some ⟨w.heap.size, 0, none⟩) 4 4)) w') : wpList Try.prog ops Q (op :: rest) p w :=
  wpList_plain hgd fun _ hK => by
    unfold Oper.wp execOp
    simp only [ho, List.map_toArray, List.map_cons, List.map_nil, hx, hy, hz, hu, Sem.run_bind, lit4_run, Result.andThen_ok]
    exact hK _ _ (h _ ((Below.refl _ _).alloc (Nat.le_refl _) _) (Has.made _ _ _))

end Go.Proofs.Ytjgjbhbpndjnnaa

namespace Go.Proofs.Ytjgjbhbpndjnnaa
open Go.RowKit

/-- A variable that holds an aggregate: block g the cells, block y the buckets. -/
structure V (w : World) (g y : Nat) (a : Ac) : Prop where
  cells : Has w g 29 (accC a (some ⟨y, 0, none⟩) a.h.length a.h.length)
  hist : Has w y 3 (ints a.h)
theorem V.below {w w' : World} {g y : Nat} {a : Ac} (h : V w g y a) (hb : Below w.heap.size w w') : V w' g y a := ⟨h.cells.below hb h.cells.lt, h.hist.below hb h.hist.lt⟩
theorem V.alloc {w : World} {g y : Nat} {a : Ac} (h : V w g y a) (o : Obj) : V (w.alloc o) g y a := ⟨h.cells.alloc o, h.hist.alloc o⟩
theorem V.new {w : World} {y : Nat} {a : Ac} (h : Has w y 3 (ints a.h)) : V (w.alloc (.cells (accC a (some ⟨y, 0, none⟩) a.h.length a.h.length) 29)) w.heap.size y a := ⟨Has.made _ _ _, h.alloc _⟩
theorem ints_of_has {w : World} {y : Nat} {xs : List Int} {n : Nat} (h : Has w y 3 (ints xs)) (hn : xs.length = n) : Ints w (some ⟨y, 0, none⟩) n xs :=
  ⟨hn, fun _ => ⟨y, 0, rfl, fun k hk => by rw [Nat.zero_add, h.cell, ints_get _ (by omega)]⟩⟩
theorem V.ints {w : World} {g y : Nat} {a : Ac} (h : V w g y a) : Ints w (some ⟨y, 0, none⟩) a.h.length a.h := ints_of_has h.hist rfl
theorem has_below {w w' : World} {g : Nat} {t : TypeId} {cs : Array Value} (h : Has w g t cs) (hb : Below w.heap.size w w') : Has w' g t cs := h.below hb h.lt


theorem nthA_zero (a : Ac) (r : List Ac) : nthA (a :: r) 0 = a := rfl
/-- Two aggregates in a new row. -/
theorem accs_two {w : World} {g : Nat} {a b : Ac} {A B : Option Addr} {k c l d : Nat} {cs : Array Value} (h : Has w g 29 cs) (e : cs = accC a A k c ++ accC b B l d) (ha : Ints w A k a.h) (hb : Ints w B l b.h) (h1 : k ≤ c ∧ c ≤ maxLen) (h2 : l ≤ d ∧ d ≤ maxLen) :
    Accs w (some ⟨g, 0, none⟩) 2 [a, b] := by
  refine ⟨rfl, fun _ => ⟨g, 0, rfl, fun i hi => ?_⟩⟩
  subst e
  match i, hi with
  | 0, _ =>
    refine ⟨A, k, c, fun j v hv => ?_, ha, h1⟩
    rw [h.cell]
    have hj : j < 13 := by have := (List.getElem?_eq_some_iff.1 hv).1; rwa [nthA_zero, accC_len] at this
    rw [show 0 + 0 * 13 + j = j by omega, Array.getElem?_append_left (by simpa [accC] using hj)]
    simpa [nthA] using hv
  | 1, _ =>
    refine ⟨B, l, d, fun j v hv => ?_, hb, h2⟩
    rw [h.cell]
    have hs : (accC a A k c).size = 13 := rfl
    rw [show 0 + 1 * 13 + j = 13 + j by omega, Array.getElem?_append_right (by omega), hs, show 13 + j - 13 = j by omega]
    simpa [nthA] using hv


end Go.Proofs.Ytjgjbhbpndjnnaa

namespace Go.Proofs.Ytjgjbhbpndjnnaa
open Go.RowKit

/-- The load of a whole aggregate behind a guard that lets it by. -/
theorem load_hasG {ops : Array Oper} {rest : List Oper} {op : Oper} {a : Act} {w : World} {Q : Exit → Act → World → Prop} (hw : Region.wanted op (yielded ops a.tmps) = true) (x : Operand) (ho : op.op = .load 29 x)
    (g : Nat) (hx : a.eval x = .pointer (some ⟨g, 0, none⟩)) {ac : Ac} {A : Option Addr} {k c : Nat} (hc : Has w g 29 (accC ac A k c))
    (h : wpList Try.prog ops Q rest (a.put op.dst (.agg (accC ac A k c))) w) : wpList Try.prog ops Q (op :: rest) a w :=
  wpList_step fun _ hK => by
    rw [if_pos hw]
    exact wp_load_row 29 x ho g hx 29 _ (0, 0) _ hc Try.underlying29 rfl Try.sizeAcc (hK _ _ h)

end Go.Proofs.Ytjgjbhbpndjnnaa
