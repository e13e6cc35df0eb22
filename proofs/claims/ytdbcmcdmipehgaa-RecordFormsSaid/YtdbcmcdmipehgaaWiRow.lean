/-
  Rows of bytes once more: what another row keeps when one grows; 'append(s, t...)' that says what stays.
-/
import Derived.Test.YtdbcmcdmipehgaaVRow
import Derived.Test.YtdbcmcdmipehgaaMem
import Derived.Lib.AppendStr
namespace Go.Proofs.Ytdbcmcdmipehgaa
open Go.RowKit

/-- A block of another type is no row of bytes. -/
theorem OwnB.apart {w : World} {base : Nat} {v : Value} {l : List UInt8} (h : OwnB w base v l) {k : Nat} {t : TypeId} {cs : Array Value} (hh : Has w k t cs) (ht : t ≠ 5) : v.ownBlock ≠ some k := by
  rcases h.2 with ⟨e, _⟩ | ⟨g, cap, cur, e, hg, hr, _⟩
  · rw [e]; simp [Value.ownBlock]
  · rw [e]
    intro hk
    obtain rfl : g = k := by simpa [Value.ownBlock] using hk
    unfold Has at hh
    rw [hr] at hh
    simp only [Option.some.injEq, Obj.cells.injEq] at hh
    exact ht hh.2.1.symm
theorem grown_has {w w' : World} {row : Option Nat} (hg : w.grownBy w' row) {k : Nat} {t : TypeId} {cs : Array Value} (hh : Has w k t cs) (hne : row ≠ some k) : Has w' k t cs :=
  (hg.block k hh.lt (fun e => hne e.symm)).trans hh
theorem below_grown {w w' : World} {v : Value} {base : Nat} {l : List UInt8} (h : OwnB w base v l) (hg : w.grownBy w' v.ownBlock) (hb : base ≤ w.heap.size) : Below base w w' :=
  ⟨hg.os, hg.tape, hg.output, hg.size, fun k hk => hg.block k (by omega) (fun e => by
    have := World.ownsRow.lt h k e.symm
    omega)⟩

/-- 's = append(s, t...)' in a walk, t a string; every other block stays. -/
theorem app_strG {ops : Array Oper} {rest : List Oper} {op : Oper} {p : Act} {w : World} {Q : Exit → Act → World → Prop} (hgd : op.guard = none) (s x : Operand)
    (ho : op.op = .call { callee := .builtin .append, args := #[s, x], argTypes := #[49, 9] })
    {base : Nat} {v : Value} {l : List UInt8} {t : ByteArray} (hs : p.eval s = v) (hown : OwnB w base v l) (hx : p.eval x = .string t)
    (hn : l.length + t.size ≤ 140737488355328) (hbase : base ≤ w.heap.size)
    (h : ∀ A m c w', OwnB w' base (.slice A m c) (l ++ t.data.toList) → w.grownBy w' v.ownBlock → wpList Try.prog ops Q rest (p.put op.dst (.slice A m c)) w') : wpList Try.prog ops Q (op :: rest) p w := by
  obtain ⟨i0, hi, hz, hs0, hy0⟩ := info_parts Try.vinfoByte
  refine Lib.wpList_append_own_string w hgd s x 49 9 ho base 5 i0 Try.underlying49 Try.underlying9 hi hz hs0 hy0 v l.length (bytL l) hs hown t hx
    (by unfold maxLen; omega) hn hbase (fun v' w' h1 h2 _ => ?_)
  have h4 : OwnB w' base v' (l ++ t.data.toList) := by unfold OwnB bytL; simpa [bytL, Lib.strCells] using h1
  obtain ⟨A, c, rfl, _⟩ := h4.form
  exact h _ _ _ w' h4 h2

end Go.Proofs.Ytdbcmcdmipehgaa
