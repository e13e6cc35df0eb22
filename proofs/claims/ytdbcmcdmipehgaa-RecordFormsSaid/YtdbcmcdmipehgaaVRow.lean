/-
  A row of bytes that a call appends to and hands out as a string.
-/
import Derived.Test.YtdbcmcdmipehgaaProg
import Derived.WalkKit
import Derived.Below
import Derived.OwnWalk
import Derived.Deep.MidRow
import Derived.Laws.IdiomStrings
namespace Go.Proofs.Ytdbcmcdmipehgaa
open Go.RowKit

theorem Try.vinfoByte : (Try.prog.info? 5).map (fun i => (i.zero, i.size, i.bytes)) = some (some (.int .u8 0), 1, 1) := by kernel_rfl
/-- Bytes, as cells. -/
def bytL (l : List UInt8) : List Value := l.map fun b => Value.int .u8 b.toNat
/-- v is a row of bytes that the call owns, from block base on. -/
def OwnB (w : World) (base : Nat) (v : Value) (l : List UInt8) : Prop := w.ownsRow base 5 1 v l.length (bytL l)
theorem OwnB.nil (w : World) (base : Nat) : OwnB w base (.slice none 0 0) [] := World.ownsRow_nil _ _ _ _
theorem OwnB.form {w : World} {base : Nat} {v : Value} {l : List UInt8} (h : OwnB w base v l) : ∃ A c, v = .slice A l.length c ∧ l.length ≤ c ∧ c ≤ maxLen := by
  rcases h.2 with ⟨e, h0⟩ | ⟨g, cap, cur, e, hg, _, hc1, hc2, _⟩
  · exact ⟨none, 0, by rw [e, h0], by omega, Nat.zero_le _⟩
  · exact ⟨some ⟨g, 0, none⟩, cap, e, hc1, hc2⟩
theorem OwnB.below {w w' : World} {base : Nat} {v : Value} {l : List UInt8} (h : OwnB w base v l) (hb : Below w.heap.size w w') : OwnB w' base v l :=
  World.ownsRow.kept h (row := none) ⟨hb.os, hb.tape, hb.output, hb.size, fun k hk _ => hb.block k hk⟩ (by
    cases e : v.ownBlock with
    | none => exact .inl rfl
    | some k => exact .inr (by simp))

/-- 's = append(s, y)' in a walk, y laid into a new row of one first. -/
theorem app_byte {ops : Array Oper} {rest : List Oper} {op : Oper} {p : Act} {w : World} {Q : Exit → Act → World → Prop} (hgd : op.guard = none) (s x : Operand)
    (ho : op.op = .call { callee := .builtin .append, args := #[s, x], argTypes := #[49, 49] })
    {base g : Nat} {v : Value} {l : List UInt8} {y : Int} (b : UInt8) (hs : p.eval s = v) (hown : OwnB w base v l) (hx : p.eval x = .slice (some ⟨g, 0, none⟩) 1 1) (hg : w.cell? ⟨g, 0, none⟩ = some (.int .u8 y)) (hy : y = b.toNat)
    (hn : l.length ≤ 8192) (hbase : base ≤ w.heap.size)
    (h : ∀ A c w', OwnB w' base (.slice A (l.length + 1) c) (l ++ [b]) → Below base w w' → wpList Try.prog ops Q rest (p.put op.dst (.slice A (l.length + 1) c)) w') : wpList Try.prog ops Q (op :: rest) p w := by
  obtain ⟨i0, hi, hz, hs0, hy0⟩ := info_parts Try.vinfoByte
  subst hy
  refine wpList_append_own w hgd s x 49 ho base 5 i0 _ 1 1 Try.underlying49 hi hz hs0 hy0 rfl (by omega) v l.length (bytL l) hs hown ⟨g, 0, none⟩ 1 1 [.int .u8 b.toNat] hx rfl
    (fun j u hu => ?_) (fun u hu => ?_) (by unfold maxLen; omega) (by omega) hbase (fun v' w' h1 h2 _ => ?_)
  · cases j with
    | zero => rw [Addr.add_mid]; simp at hu; rw [← hu]; exact hg
    | succ j => simp at hu
  · obtain rfl : u = .int .u8 b.toNat := by simpa using hu
    rfl
  · have h3 : OwnB w' base v' (l ++ [b]) := by unfold OwnB bytL; simpa [bytL] using h1
    obtain ⟨A, c, rfl, _⟩ := h3.form
    have e : (l ++ [b]).length = l.length + 1 := by simp
    rw [e] at h3 ⊢
    refine h A c w' h3 ⟨h2.os, h2.tape, h2.output, h2.size, fun k hk => h2.block k (by omega) (fun e => ?_)⟩
    have := World.ownsRow.lt hown k e.symm
    omega

/-- 'string(s)' of such a row. -/
theorem conv_byte {ops : Array Oper} {rest : List Oper} {op : Oper} {p : Act} {w : World} {Q : Exit → Act → World → Prop} (hgd : op.guard = none) (x : Operand)
    (ho : op.op = .convert 49 9 x)
    {base n c : Nat} {A : Option Addr} {l : List UInt8} (hx : p.eval x = .slice A n c) (hown : OwnB w base (.slice A n c) l) (hl : l ≠ [])
    (h : wpList Try.prog ops Q rest (p.put op.dst (.string ⟨l.toArray⟩)) w) : wpList Try.prog ops Q (op :: rest) p w := by
  refine wpList_plain hgd fun K hK' => ?_
  obtain ⟨ad, hrun⟩ : ∃ a : Unit, (convert 49 9 (.slice A n c)).run Try.prog w = .ok (.string ⟨l.toArray⟩) w := by
    refine ⟨(), ?_⟩
    rcases hown.2 with ⟨e, h0⟩ | ⟨g, cap, cur, e, hg, hh, hn, hc, hs, ht⟩
    · exact absurd (List.eq_nil_of_length_eq_zero h0) hl
    · injection e with e1 e2 e3
      subst e1; subst e2; subst e3
      refine run_convert_bytes_back w _ _ 5 _ _ l Try.underlying49 Try.underlying5 Try.underlying9 (fun j hj => ?_)
      rw [Addr.add_mid, Nat.zero_add, World.ownsRow.cellAt hown j (by omega)]
      simp [bytL, hj]
  unfold Oper.wp
  simp [execOp, ho, hx, hrun, Result.andThen]
  exact hK' _ _ h

end Go.Proofs.Ytdbcmcdmipehgaa
