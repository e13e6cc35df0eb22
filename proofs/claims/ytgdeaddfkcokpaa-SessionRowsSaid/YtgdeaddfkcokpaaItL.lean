/-
  An item's cells.
-/
import Derived.Test.YtgdeaddfkcokpaaRow
namespace Go.Proofs.Ytgdeaddfkcokpaa
open Go.RowKit

def itemL (x : It) : List Value := [.int .i64 x.s, .int .i64 x.t, .int .i64 x.q, .int .i64 x.v]
theorem range_item {w : World} {g : Nat} {x : It} (h : Has w g 23 #[.int .i64 x.s, .int .i64 x.t, .int .i64 x.q, .int .i64 x.v]) : w.rangeAt g 0 (itemL x) := fun j v hj => by
  rw [h.cell]
  match j, hj with
  | 0, hj => exact hj
  | 1, hj => exact hj
  | 2, hj => exact hj
  | 3, hj => exact hj
  | j + 4, hj => simp [itemL] at hj

end Go.Proofs.Ytgdeaddfkcokpaa
