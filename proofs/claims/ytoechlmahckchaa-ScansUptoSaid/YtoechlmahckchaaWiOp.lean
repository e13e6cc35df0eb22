/-
  Words for an operation in memory: its cells, its load, its store, its return.
-/
import Derived.Test.YtoechlmahckchaaMem
import Derived.Test.YtoechlmahckchaaProg
import Derived.Test.YtoechlmahckchaaG11e
import Derived.Deep.MidRow
namespace Go.Proofs.Ytoechlmahckchaa
open Go.RowKit

theorem Try.sizeOp : (Try.prog.info? 49).map (·.size) = some 5 := by kernel_rfl
section
variable {ops : Array Oper} {rest : List Oper} {op : Oper} {a : Act} {w : World} {Q : Exit → Act → World → Prop}
/-- The load of a whole operation out of a variable. -/
theorem load_op (hw : Region.wanted op (yielded ops a.tmps) = true) (x : Operand) (ho : op.op = .load 49 x)
    (g : Nat) (hx : a.eval x = .pointer (some ⟨g, 0, none⟩)) {kd so se ti va : Int} (hc : Has w g 49 #[.int .i64 kd, .int .i64 so, .int .i64 se, .int .i64 ti, .int .i64 va])
    (h : wpList Try.prog ops Q rest (a.put op.dst (.agg #[.int .i64 kd, .int .i64 so, .int .i64 se, .int .i64 ti, .int .i64 va])) w) : wpList Try.prog ops Q (op :: rest) a w :=
  wpList_step fun _ hK => by
    rw [if_pos hw]
    exact wp_load_row 49 x ho g hx 49 _ (0, 0) _ hc Try.underlying49 rfl Try.sizeOp (hK _ _ h)
/-- The store of a whole operation into a variable. -/
theorem store_op (hgd : op.guard = none) (x y : Operand) (ho : op.op = .store 49 x y)
    (g : Nat) {kd so se ti va : Int} {old : Array Value} (hx : a.eval x = .pointer (some ⟨g, 0, none⟩)) (hy : a.eval y = .agg #[.int .i64 kd, .int .i64 so, .int .i64 se, .int .i64 ti, .int .i64 va]) (hg : Has w g 49 old) (hold : old.size = 5)
    (h : wpList Try.prog ops Q rest (a.put op.dst undef) (w.setRow g #[.int .i64 kd, .int .i64 so, .int .i64 se, .int .i64 ti, .int .i64 va])) : wpList Try.prog ops Q (op :: rest) a w :=
  wpList_store_row hgd 49 x y ho g _ hx hy 49 old hg Try.sizeOp hold (by simp [Value.oneCell']) h
end
/-- What a call hands out whose operation lies in a row of its own. -/
theorem ret_op {fn : Func} {p u : Tmp} (h : fn.results = #[.cell p 49, .tmp u]) (tmps : Array Value) (w : World) (g : Nat) (kd so se ti va : Int)
    (hp : tmps.getD p undef = .pointer (some ⟨g, 0, none⟩)) (hg : Has w g 49 #[.int .i64 kd, .int .i64 so, .int .i64 se, .int .i64 ti, .int .i64 va]) :
    (results fn tmps).run Try.prog w = .ok (.tuple #[.agg #[.int .i64 kd, .int .i64 so, .int .i64 se, .int .i64 ti, .int .i64 va], tmps.getD u undef]) w :=
  ret_row h tmps w g 49 _ _ hp hg Try.underlying49 rfl (by exact Try.sizeOp)

end Go.Proofs.Ytoechlmahckchaa
