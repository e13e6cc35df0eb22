/-
  Words for a record in memory: its cells, its load, its store, its return.
-/
import Derived.Test.YtdbcmcdmipehgaaMem
import Derived.Test.YtdbcmcdmipehgaaProg
import Derived.Test.YtdbcmcdmipehgaaRcP
import Derived.Deep.MidRow
namespace Go.Proofs.Ytdbcmcdmipehgaa
open Go.RowKit

/-- A record's cells, its Hist being '.slice A n c'. -/
def recC (r : Rc) (A : Option Addr) (n c : Nat) : Array Value := #[.int .i64 r.kd, .int .i64 r.qu, .int .i64 r.sr, .int .i64 r.st, .int .i64 r.en, .int .i64 r.va, .bool r.ov, .slice A n c, .int .i64 r.se, .int .i64 r.ti, .int .i64 r.sq, .int .i64 r.bd]
theorem recC_zero : recC zeroR none 0 0 = #[.int .i64 0, .int .i64 0, .int .i64 0, .int .i64 0, .int .i64 0, .int .i64 0, .bool false, .slice none 0 0, .int .i64 0, .int .i64 0, .int .i64 0, .int .i64 0] := rfl
theorem recC_size (r : Rc) (A : Option Addr) (n c : Nat) : (recC r A n c).size = 12 := rfl
theorem recC_one (r : Rc) (A : Option Addr) (n c : Nat) : (recC r A n c).all (fun x => x.oneCell') = true := by simp [recC, Value.oneCell']
theorem recC_7 (r : Rc) (A : Option Addr) (n c : Nat) : (recC r A n c)[7]? = some (.slice A n c) := rfl

theorem Try.sizeRec : (Try.prog.info? 30).map (·.size) = some 12 := by kernel_rfl
section
variable {ops : Array Oper} {rest : List Oper} {op : Oper} {a : Act} {w : World} {Q : Exit → Act → World → Prop} {r : Rc} {A : Option Addr} {n c : Nat}
/-- The load of a whole record out of a variable. -/
theorem load_rec (hw : Region.wanted op (yielded ops a.tmps) = true) (x : Operand) (ho : op.op = .load 30 x)
    (g : Nat) (hx : a.eval x = .pointer (some ⟨g, 0, none⟩)) (hc : Has w g 30 (recC r A n c))
    (h : wpList Try.prog ops Q rest (a.put op.dst (.agg (recC r A n c))) w) : wpList Try.prog ops Q (op :: rest) a w :=
  wpList_step fun _ hK => by
    rw [if_pos hw]
    exact wp_load_row 30 x ho g hx 30 _ (0, 0) _ hc Try.underlying30 rfl Try.sizeRec (hK _ _ h)
/-- The store of a whole record into a variable. -/
theorem store_rec (hgd : op.guard = none) (x y : Operand) (ho : op.op = .store 30 x y)
    (g : Nat) {old : Array Value} (hx : a.eval x = .pointer (some ⟨g, 0, none⟩)) (hy : a.eval y = .agg (recC r A n c)) (hg : Has w g 30 old) (hold : old.size = 12)
    (h : wpList Try.prog ops Q rest (a.put op.dst undef) (w.setRow g (recC r A n c))) : wpList Try.prog ops Q (op :: rest) a w :=
  wpList_store_row hgd 30 x y ho g _ hx hy 30 old hg Try.sizeRec hold (recC_one _ _ _ _) h
/-- The store of a whole record into a variable that was made last. -/
theorem store_recN (hgd : op.guard = none) (x y : Operand) (ho : op.op = .store 30 x y)
    {old : Array Value} (hx : a.eval x = .pointer (some ⟨w.heap.size, 0, none⟩)) (hy : a.eval y = .agg (recC r A n c)) (hold : old.size = 12)
    (h : ∀ w', Below w.heap.size w w' → w'.heap.size = w.heap.size + 1 → Has w' w.heap.size 30 (recC r A n c) → wpList Try.prog ops Q rest (a.put op.dst undef) w') : wpList Try.prog ops Q (op :: rest) a (w.alloc (.cells old 30)) :=
  wpList_store_row hgd 30 x y ho w.heap.size _ hx hy 30 old (Has.made _ _ _) Try.sizeRec hold (recC_one _ _ _ _) (by
    exact h _ (below_row ((Below.refl _ _).alloc (Nat.le_refl _) _) (Nat.le_refl _) _) (by simp) ((Has.made _ _ _).row _))
end
/-- What a call hands out whose record lies in a row of its own. -/
theorem ret_rec {fn : Func} {p u : Tmp} (h : fn.results = #[.cell p 30, .tmp u]) (tmps : Array Value) (w : World) (g : Nat) (r : Rc) (A : Option Addr) (n c : Nat)
    (hp : tmps.getD p undef = .pointer (some ⟨g, 0, none⟩)) (hg : Has w g 30 (recC r A n c)) :
    (results fn tmps).run Try.prog w = .ok (.tuple #[.agg (recC r A n c), tmps.getD u undef]) w :=
  ret_row h tmps w g 30 _ _ hp hg Try.underlying30 rfl (by exact Try.sizeRec)

end Go.Proofs.Ytdbcmcdmipehgaa
