/-
  Small words that the laws' walks share.
-/
import Derived.Test.YtdoflmphkalicaaVars
namespace Go.Proofs.Ytdoflmphkalicaa
open Go.RowKit

/-- The load of a whole aggregate behind a guard that lets it by. -/
theorem load_hasG {ops : Array Oper} {rest : List Oper} {op : Oper} {a : Act} {w : World} {Q : Exit → Act → World → Prop} (hw : Region.wanted op (yielded ops a.tmps) = true) (x : Operand) (ho : op.op = .load 49 x)
    (g : Nat) (hx : a.eval x = .pointer (some ⟨g, 0, none⟩)) {ac : Ac} {A : Option Addr} {k c : Nat} (hc : Has w g 49 (accC ac A k c))
    (h : wpList Try.prog ops Q rest (a.put op.dst (.agg (accC ac A k c))) w) : wpList Try.prog ops Q (op :: rest) a w :=
  wpList_step fun _ hK => by
    rw [if_pos hw]
    exact wp_load_row 49 x ho g hx 49 _ (0, 0) _ hc Try.underlying49 rfl Try.sizeAcc (hK _ _ h)

end Go.Proofs.Ytdoflmphkalicaa
