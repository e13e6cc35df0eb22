/-
  A row of bytes that a call appends to and hands out as a string.
  Rows of bytes once more: what another row keeps when one grows; 'append(s, t...)' that says what stays.
-/
import Derived.Test.YtoechlmahckchaaProg
import Derived.WalkKit
import Derived.Below
import Derived.OwnWalk
import Derived.Deep.MidRow
import Derived.Laws.IdiomStrings
import Derived.Test.YtoechlmahckchaaMem
import Derived.Lib.AppendStr
namespace Go.Proofs.Ytoechlmahckchaa
open Go.RowKit

theorem Try.vinfoByte : (Try.prog.info? 5).map (fun i => (i.zero, i.size, i.bytes)) = some (some (.int .u8 0), 1, 1) := by kernel_rfl
/-- Bytes, as cells. -/
def bytL (l : List UInt8) : List Value := l.map fun b => Value.int .u8 b.toNat
/-- v is a row of bytes that the call owns, from block base on. -/
def OwnB (w : World) (base : Nat) (v : Value) (l : List UInt8) : Prop := w.ownsRow base 5 1 v l.length (bytL l)
theorem OwnB.nil (w : World) (base : Nat) : OwnB w base (.slice none 0 0) [] := World.ownsRow_nil _ _ _ _
theorem OwnB.form {w : World} {base : Nat} {v : Value} {l : List UInt8} (h : OwnB w base v l) : ∃ A c, v = .slice A l.length c ∧ l.length ≤ c ∧ c ≤ maxLen := by
  rcases h.2 with ⟨e, h0⟩ | ⟨g, cap, cur, e, hg, _, hc1, hc2, _⟩
  · exact ⟨none, 0, by rw [e, h0], by omega, Nat.zero_le _⟩
  · exact ⟨some ⟨g, 0, none⟩, cap, e, hc1, hc2⟩
theorem OwnB.below {w w' : World} {base : Nat} {v : Value} {l : List UInt8} (h : OwnB w base v l) (hb : Below w.heap.size w w') : OwnB w' base v l :=
  World.ownsRow.kept h (row := none) ⟨hb.os, hb.tape, hb.output, hb.size, fun k hk _ => hb.block k hk⟩ (by
    cases e : v.ownBlock with
    | none => exact .inl rfl
    | some k => exact .inr (by simp))

set_option maxRecDepth 100000 in
/-- 's = append(s, y)' in a walk, y laid into a new row of one first. -/
theorem app_byte {ops : Array Oper} {rest : List Oper} {op : Oper} {p : Act} {w : World} {Q : Exit → Act → World → Prop} (hgd : op.guard = none) (s x : Operand)
    (ho : op.op = .call { callee := .builtin .append, args := #[s, x], argTypes := #[70, 70] })
    {base g : Nat} {v : Value} {l : List UInt8} {y : Int} (b : UInt8) (hs : p.eval s = v) (hown : OwnB w base v l) (hx : p.eval x = .slice (some ⟨g, 0, none⟩) 1 1) (hg : w.cell? ⟨g, 0, none⟩ = some (.int .u8 y)) (hy : y = b.toNat)
    (hn : l.length ≤ 8192) (hbase : base ≤ w.heap.size)
    (h : ∀ A c w', OwnB w' base (.slice A (l.length + 1) c) (l ++ [b]) → Below base w w' → wpList Try.prog ops Q rest (p.put op.dst (.slice A (l.length + 1) c)) w') : wpList Try.prog ops Q (op :: rest) p w := by
  obtain ⟨i0, hi, hz, hs0, hy0⟩ := info_parts Try.vinfoByte
  subst hy
  refine wpList_append_own w hgd s x 70 ho base 5 i0 _ 1 1 Try.underlying70 hi hz hs0 hy0 rfl (by omega) v l.length (bytL l) hs hown ⟨g, 0, none⟩ 1 1 [.int .u8 b.toNat] hx rfl
    (fun j u hu => ?_) (fun u hu => ?_) (by unfold maxLen; omega) (by omega) hbase (fun v' w' h1 h2 _ => ?_)
  · cases j with
    | zero => rw [Addr.add_mid]; simp at hu; rw [← hu]; exact hg
    | succ j => simp at hu
  · obtain rfl : u = .int .u8 b.toNat := by simpa using hu
    rfl
  · have h3 : OwnB w' base v' (l ++ [b]) := by unfold OwnB bytL; simpa [bytL] using h1
    obtain ⟨A, c, rfl, _⟩ := h3.form
    have e : (l ++ [b]).length = l.length + 1 := by simp
    rw [e] at h3 ⊢
    refine h A c w' h3 ⟨h2.os, h2.tape, h2.output, h2.size, fun k hk => h2.block k (by omega) (fun e => ?_)⟩
    have := World.ownsRow.lt hown k e.symm
    omega

set_option maxRecDepth 100000 in
/-- 'string(s)' of such a row. -/
theorem conv_byte {ops : Array Oper} {rest : List Oper} {op : Oper} {p : Act} {w : World} {Q : Exit → Act → World → Prop} (hgd : op.guard = none) (x : Operand)
    (ho : op.op = .convert 70 9 x)
    {base n c : Nat} {A : Option Addr} {l : List UInt8} (hx : p.eval x = .slice A n c) (hown : OwnB w base (.slice A n c) l) (hl : l ≠ [])
    (h : wpList Try.prog ops Q rest (p.put op.dst (.string ⟨l.toArray⟩)) w) : wpList Try.prog ops Q (op :: rest) p w := by
  refine wpList_plain hgd fun K hK' => ?_
  obtain ⟨ad, hrun⟩ : ∃ a : Unit, (convert 70 9 (.slice A n c)).run Try.prog w = .ok (.string ⟨l.toArray⟩) w := by
    refine ⟨(), ?_⟩
    rcases hown.2 with ⟨e, h0⟩ | ⟨g, cap, cur, e, hg, hh, hn, hc, hs, ht⟩
    · exact absurd (List.eq_nil_of_length_eq_zero h0) hl
    · injection e with e1 e2 e3
      subst e1; subst e2; subst e3
      refine run_convert_bytes_back w _ _ 5 _ _ l Try.underlying70 Try.underlying5 Try.underlying9 (fun j hj => ?_)
      rw [Addr.add_mid, Nat.zero_add, World.ownsRow.cellAt hown j (by omega)]
      simp [bytL, hj]
  unfold Oper.wp
  simp [execOp, ho, hx, hrun, Result.andThen]
  exact hK' _ _ h

end Go.Proofs.Ytoechlmahckchaa

namespace Go.Proofs.Ytoechlmahckchaa
open Go.RowKit

/-- A block of another type is no row of bytes. -/
theorem OwnB.apart {w : World} {base : Nat} {v : Value} {l : List UInt8} (h : OwnB w base v l) {k : Nat} {t : TypeId} {cs : Array Value} (hh : Has w k t cs) (ht : t ≠ 5) : v.ownBlock ≠ some k := by
  rcases h.2 with ⟨e, _⟩ | ⟨g, cap, cur, e, hg, hr, _⟩
  · rw [e]; simp [Value.ownBlock]
  · rw [e]
    intro hk
    obtain rfl : g = k := by simpa [Value.ownBlock] using hk
    unfold Has at hh
    rw [hr] at hh
    simp only [Option.some.injEq, Obj.cells.injEq] at hh
    exact ht hh.2.1.symm
theorem grown_has {w w' : World} {row : Option Nat} (hg : w.grownBy w' row) {k : Nat} {t : TypeId} {cs : Array Value} (hh : Has w k t cs) (hne : row ≠ some k) : Has w' k t cs :=
  (hg.block k hh.lt (fun e => hne e.symm)).trans hh
theorem below_grown {w w' : World} {v : Value} {base : Nat} {l : List UInt8} (h : OwnB w base v l) (hg : w.grownBy w' v.ownBlock) (hb : base ≤ w.heap.size) : Below base w w' :=
  ⟨hg.os, hg.tape, hg.output, hg.size, fun k hk => hg.block k (by omega) (fun e => by
    have := World.ownsRow.lt h k e.symm
    omega)⟩

/-- 's = append(s, t...)' in a walk, t a string; every other block stays. -/
theorem app_strG {ops : Array Oper} {rest : List Oper} {op : Oper} {p : Act} {w : World} {Q : Exit → Act → World → Prop} (hgd : op.guard = none) (s x : Operand)
    (ho : op.op = .call { callee := .builtin .append, args := #[s, x], argTypes := #[70, 9] })
    {base : Nat} {v : Value} {l : List UInt8} {t : ByteArray} (hs : p.eval s = v) (hown : OwnB w base v l) (hx : p.eval x = .string t)
    (hn : l.length + t.size ≤ 140737488355328) (hbase : base ≤ w.heap.size)
    (h : ∀ A m c w', OwnB w' base (.slice A m c) (l ++ t.data.toList) → w.grownBy w' v.ownBlock → wpList Try.prog ops Q rest (p.put op.dst (.slice A m c)) w') : wpList Try.prog ops Q (op :: rest) p w := by
  obtain ⟨i0, hi, hz, hs0, hy0⟩ := info_parts Try.vinfoByte
  refine Lib.wpList_append_own_string w hgd s x 70 9 ho base 5 i0 Try.underlying70 Try.underlying9 hi hz hs0 hy0 v l.length (bytL l) hs hown t hx
    (by unfold maxLen; omega) hn hbase (fun v' w' h1 h2 _ => ?_)
  have h4 : OwnB w' base v' (l ++ t.data.toList) := by unfold OwnB bytL; simpa [bytL, Lib.strCells] using h1
  obtain ⟨A, c, rfl, _⟩ := h4.form
  exact h _ _ _ w' h4 h2

end Go.Proofs.Ytoechlmahckchaa
