/-
  What the calls of layer 5 hand out.
-/
import Derived.Test.YtkbocjmdbfddhaaWOf
import Derived.Test.YtkbocjmdbfddhaaSlP
namespace Go.Proofs.Ytkbocjmdbfddhaa
open Go.RowKit

/-- The call hands out no number, with the layer's refusal. -/
def NoUnit (w : World) (e : Ending) (w' : World) : Prop := e = .returned (.tuple #[.int .i64 0, .int .i64 500]) ∧ Below w.heap.size w w'
def OutUnit (u : Int) (w : World) (e : Ending) (w' : World) : Prop := e = .returned (.tuple #[.int .i64 u, .int .i64 0]) ∧ Below w.heap.size w w'
def NoAt (w : World) (e : Ending) (w' : World) : Prop := e = .returned (.tuple #[.agg #[.int .i64 0, .int .i64 0], .int .i64 500]) ∧ Below w.heap.size w w'
def OutAt (s u : Int) (w : World) (e : Ending) (w' : World) : Prop := e = .returned (.tuple #[.agg #[.int .i64 s, .int .i64 (s + u)], .int .i64 0]) ∧ Below w.heap.size w w'
def NoCut (w : World) (e : Ending) (w' : World) : Prop := e = .returned (.tuple #[.slice none 0 0, .int .i64 500]) ∧ Below w.heap.size w w'


/-- A whole span is laid into a row that holds one. -/
theorem store_span {ops : Array Oper} {rest : List Oper} {op : Oper} {a : Act} {w : World} {Q : Exit → Act → World → Prop} (hgd : op.guard = none) (x y : Operand) (ho : op.op = .store 38 x y)
    (g : Nat) {s e : Int} {old : Array Value} (hx : a.eval x = .pointer (some ⟨g, 0, none⟩)) (hy : a.eval y = .agg #[.int .i64 s, .int .i64 e]) (hg : Has w g 38 old) (hold : old.size = 2)
    (h : wpList Try.prog ops Q rest (a.put op.dst undef) (w.setRow g #[.int .i64 s, .int .i64 e])) : wpList Try.prog ops Q (op :: rest) a w :=
  wpList_store_row hgd 38 x y ho g _ hx hy 38 old hg Try.sizeSpan hold (by simp [Value.oneCell']) h
/-- What a call hands out whose span lies in a row of its own. -/
theorem ret_span {fn : Func} {p u : Tmp} (h : fn.results = #[.cell p 38, .tmp u]) (tmps : Array Value) (w : World) (g : Nat) (s e : Int)
    (hp : tmps.getD p undef = .pointer (some ⟨g, 0, none⟩)) (hg : Has w g 38 #[.int .i64 s, .int .i64 e]) :
    (results fn tmps).run Try.prog w = .ok (.tuple #[.agg #[.int .i64 s, .int .i64 e], tmps.getD u undef]) w :=
  ret_row h tmps w g 38 _ _ hp hg Try.underlying38 rfl (by exact Try.sizeSpan)

end Go.Proofs.Ytkbocjmdbfddhaa
