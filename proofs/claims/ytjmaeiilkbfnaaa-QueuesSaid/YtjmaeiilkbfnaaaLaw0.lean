/-
  Small words that the laws' walks share.
-/
import Derived.Test.YtjmaeiilkbfnaaaVars
namespace Go.Proofs.Ytjmaeiilkbfnaaa
open Go.RowKit

/-- The load of a whole aggregate behind a guard that lets it by. -/
theorem load_hasG {ops : Array Oper} {rest : List Oper} {op : Oper} {a : Act} {w : World} {Q : Exit → Act → World → Prop} (hw : Region.wanted op (yielded ops a.tmps) = true) (x : Operand) (ho : op.op = .load 29 x)
    (g : Nat) (hx : a.eval x = .pointer (some ⟨g, 0, none⟩)) {ac : Ac} {A : Option Addr} {k c : Nat} (hc : Has w g 29 (accC ac A k c))
    (h : wpList Try.prog ops Q rest (a.put op.dst (.agg (accC ac A k c))) w) : wpList Try.prog ops Q (op :: rest) a w :=
  wpList_step fun _ hK => by
    rw [if_pos hw]
    exact wp_load_row 29 x ho g hx 29 _ (0, 0) _ hc Try.underlying29 rfl Try.sizeAcc (hK _ _ h)

end Go.Proofs.Ytjmaeiilkbfnaaa
