/-
  Words for queries in a row, and for a config, in memory. No program's own steps here.
-/
import Derived.Test.YtecdeplcoggjkaaAdP
import Derived.Test.YtecdeplcoggjkaaRcI0
import Derived.Laws.Rows
import Derived.Laws.Tables
import Derived.Deep.WholeRow
namespace Go.Proofs.Ytecdeplcoggjkaa
open Go.RowKit

theorem Try.qsize : (Try.prog.info? 42).map (·.size) = some 6 := by kernel_rfl
theorem Try.csize : (Try.prog.info? 24).map (·.size) = some 5 := by kernel_rfl
theorem quC_6 (q : Qu) (B : Option Addr) (m d : Nat) : (quC q B m d).toList.length = 6 := rfl
theorem quC_one (q : Qu) (B : Option Addr) (m d : Nat) : (quC q B m d).all Value.oneCell' = true := by simp [quC, Value.oneCell']
@[go_sem] theorem quC_0 (q : Qu) (B : Option Addr) (m d : Nat) : (quC q B m d)[0]? = some (.int .i64 q.kind) := rfl
@[go_sem] theorem quC_1 (q : Qu) (B : Option Addr) (m d : Nat) : (quC q B m d)[1]? = some (.int .i64 q.agg) := rfl
@[go_sem] theorem quC_2 (q : Qu) (B : Option Addr) (m d : Nat) : (quC q B m d)[2]? = some (.int .i64 q.size) := rfl
@[go_sem] theorem quC_3 (q : Qu) (B : Option Addr) (m d : Nat) : (quC q B m d)[3]? = some (.int .i64 q.slide) := rfl
@[go_sem] theorem quC_4 (q : Qu) (B : Option Addr) (m d : Nat) : (quC q B m d)[4]? = some (.slice B m d) := rfl
@[go_sem] theorem quC_5 (q : Qu) (B : Option Addr) (m d : Nat) : (quC q B m d)[5]? = some (.int .i64 q.rank) := rfl

/-- At offset o of block b lies a query: q, whose bounds are 'B, m, d'. -/
def QuAt (w : World) (b o : Nat) (q : Qu) (B : Option Addr) (m d : Nat) : Prop := w.rangeAt b o (quC q B m d).toList ∧ Ints w B m q.bs ∧ m ≤ maxLen
/-- The slice value '.slice A n _' reads as the queries qs. -/
def Qus (w : World) (A : Option Addr) (n : Nat) (qs : List Qu) : Prop :=
  qs.length = n ∧ (0 < n → ∃ b o : Nat, A = some ⟨b, o, none⟩ ∧ ∀ i, i < n → ∃ B m d, QuAt w b (o + i * 6) (nthQ qs i) B m d)
section
variable {w w' : World}
theorem QuAt.lt {b o : Nat} {q : Qu} {B : Option Addr} {m d : Nat} (h : QuAt w b o q B m d) : b < w.heap.size := block_lt_of_cell (h.1 0 _ rfl)
theorem QuAt.below {b o : Nat} {q : Qu} {B : Option Addr} {m d : Nat} (h : QuAt w b o q B m d) (hb : Below w.heap.size w w') : QuAt w' b o q B m d :=
  ⟨fun j v hv => (hb.cell h.lt).trans (h.1 j v hv), h.2.1.below hb, h.2.2⟩
theorem Qus.below {A : Option Addr} {n : Nat} {qs : List Qu} (h : Qus w A n qs) (hb : Below w.heap.size w w') : Qus w' A n qs :=
  ⟨h.1, fun hn => by
    obtain ⟨b, o, e, hi⟩ := h.2 hn
    exact ⟨b, o, e, fun i hlt => by obtain ⟨B, m, d, hx⟩ := hi i hlt; exact ⟨B, m, d, hx.below hb⟩⟩⟩
theorem Qus.nil (w : World) (A : Option Addr) : Qus w A 0 [] := ⟨rfl, fun h => absurd h (by omega)⟩
end

section
variable {ops : Array Oper} {rest : List Oper} {op : Oper} {a : Act} {w : World} {Q : Exit → Act → World → Prop}
/-- The load of a whole query out of a row. -/
theorem load_qu (hgd : op.guard = none) (x : Operand) (ho : op.op = .load 42 x) (b o : Nat) (hx : a.eval x = .pointer (some ⟨b, o, none⟩)) {q : Qu} {B : Option Addr} {m d : Nat} (hc : QuAt w b o q B m d)
    (h : wpList Try.prog ops Q rest (a.put op.dst (.agg (quC q B m d))) w) : wpList Try.prog ops Q (op :: rest) a w :=
  wpList_load_mid hgd 42 x ho b o hx _ _ hc.1 Try.underlying42 rfl Try.qsize (by simpa using h)
/-- The load of a whole query out of a variable. -/
theorem load_quV (hgd : op.guard = none) (x : Operand) (ho : op.op = .load 42 x) (g : Nat) (hx : a.eval x = .pointer (some ⟨g, 0, none⟩)) {q : Qu} {B : Option Addr} {m d : Nat} (hc : Has w g 42 (quC q B m d))
    (h : wpList Try.prog ops Q rest (a.put op.dst (.agg (quC q B m d))) w) : wpList Try.prog ops Q (op :: rest) a w :=
  wpList_load_row hgd 42 x ho g hx 42 _ (0, 0) _ hc Try.underlying42 rfl Try.qsize h
/-- The store of a whole query into a variable that was made last. -/
theorem store_quN (hgd : op.guard = none) (x y : Operand) (ho : op.op = .store 42 x y)
    {old : Array Value} {q : Qu} {B : Option Addr} {m d : Nat} (hx : a.eval x = .pointer (some ⟨w.heap.size, 0, none⟩)) (hy : a.eval y = .agg (quC q B m d)) (hold : old.size = 6)
    (h : ∀ w', Below w.heap.size w w' → w.heap.size < w'.heap.size → Has w' w.heap.size 42 (quC q B m d) → wpList Try.prog ops Q rest (a.put op.dst undef) w') : wpList Try.prog ops Q (op :: rest) a (w.alloc (.cells old 42)) :=
  wpList_store_row hgd 42 x y ho w.heap.size _ hx hy 42 old (Has.made _ _ _) Try.qsize hold (quC_one _ _ _ _) (by rw [World.setRow_alloc_new]; exact h _ ((Below.refl _ _).alloc (Nat.le_refl _) _) (by simp) (Has.made _ _ _))
end

end Go.Proofs.Ytecdeplcoggjkaa
