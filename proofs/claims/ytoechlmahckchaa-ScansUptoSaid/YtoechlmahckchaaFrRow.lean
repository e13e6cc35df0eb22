/-
  Arms for rows of bytes: a string appended, two bytes appended; 'string' of a part of a row.
-/
import Derived.Test.YtoechlmahckchaaG11f
import Derived.Lib.AppendStr
namespace Go.Proofs.Ytoechlmahckchaa
open Go.RowKit

theorem strCells_byt (s : ByteArray) : Lib.strCells s = bytL s.data.toList := rfl

/-- A row that is not empty lies at the head of a block. -/
theorem OwnB.at {w : World} {base : Nat} {v : Value} {l : List UInt8} (h : OwnB w base v l) (hl : l ≠ []) :
    ∃ g c, v = .slice (some ⟨g, 0, none⟩) l.length c ∧ base ≤ g ∧ g < w.heap.size ∧ l.length ≤ c ∧ c ≤ maxLen ∧ ∀ j (hj : j < l.length), w.cell? ⟨g, j, none⟩ = some (.int .u8 l[j].toNat) := by
  rcases h.2 with ⟨_, h0⟩ | ⟨g, cap, cur, e, hg, hh, hc1, hc2, _⟩
  · exact absurd (List.eq_nil_of_length_eq_zero h0) hl
  · refine ⟨g, cap, e, hg, ?_, hc1, hc2, fun j hj => ?_⟩
    · exact (Array.getElem?_eq_some_iff.1 hh).1
    · rw [e] at h
      rw [World.ownsRow.cellAt h j (by omega)]
      simp [bytL, hj]

set_option maxRecDepth 100000 in
/-- 's = append(s, t...)' in a walk, t a string. -/
theorem app_str {ops : Array Oper} {rest : List Oper} {op : Oper} {p : Act} {w : World} {Q : Exit → Act → World → Prop} (hgd : op.guard = none) (s x : Operand)
    (ho : op.op = .call { callee := .builtin .append, args := #[s, x], argTypes := #[70, 9] })
    {base : Nat} {v : Value} {l : List UInt8} {t : ByteArray} (hs : p.eval s = v) (hown : OwnB w base v l) (hx : p.eval x = .string t) (hl : l ≠ [])
    (hn : l.length + t.size ≤ 140737488355328) (hbase : base ≤ w.heap.size)
    (h : ∀ g c w', OwnB w' base (.slice (some ⟨g, 0, none⟩) (l.length + t.size) c) (l ++ t.data.toList) → Below base w w' → wpList Try.prog ops Q rest (p.put op.dst (.slice (some ⟨g, 0, none⟩) (l.length + t.size) c)) w') : wpList Try.prog ops Q (op :: rest) p w := by
  obtain ⟨i0, hi, hz, hs0, hy0⟩ := info_parts Try.vinfoByte
  refine Lib.wpList_append_own_string w hgd s x 70 9 ho base 5 i0 Try.underlying70 Try.underlying9 hi hz hs0 hy0 v l.length (bytL l) hs hown t hx
    (by unfold maxLen; omega) hn hbase (fun v' w' h1 h2 _ => ?_)
  have h3 : OwnB w' base v' (l ++ t.data.toList) := by unfold OwnB bytL; simpa [bytL, Lib.strCells] using h1
  obtain ⟨g, c, rfl, _⟩ := h3.at (by simp [hl])
  have e : (l ++ t.data.toList).length = l.length + t.size := by simp
  rw [e] at h3 ⊢
  refine h g c w' h3 ⟨h2.os, h2.tape, h2.output, h2.size, fun k hk => h2.block k (by omega) (fun e => ?_)⟩
  have := World.ownsRow.lt hown k e.symm
  omega

set_option maxRecDepth 100000 in
/-- 's = append(s, y, z)' in a walk: the two lie in a new row. -/
theorem app_two {ops : Array Oper} {rest : List Oper} {op : Oper} {p : Act} {w : World} {Q : Exit → Act → World → Prop} (hgd : op.guard = none) (s x : Operand)
    (ho : op.op = .call { callee := .builtin .append, args := #[s, x], argTypes := #[70, 70] })
    {base g : Nat} {v : Value} {l : List UInt8} {y z : Int} (b c : UInt8) (hs : p.eval s = v) (hown : OwnB w base v l) (hx : p.eval x = .slice (some ⟨g, 0, none⟩) 2 2)
    (hg : w.cell? ⟨g, 0, none⟩ = some (.int .u8 y)) (hg1 : w.cell? ⟨g, 1, none⟩ = some (.int .u8 z)) (hy : y = b.toNat) (hz : z = c.toNat)
    (hn : l.length ≤ 140737488351232) (hbase : base ≤ w.heap.size)
    (h : ∀ g c' w', OwnB w' base (.slice (some ⟨g, 0, none⟩) (l.length + 2) c') (l ++ [b, c]) → Below base w w' → wpList Try.prog ops Q rest (p.put op.dst (.slice (some ⟨g, 0, none⟩) (l.length + 2) c')) w') : wpList Try.prog ops Q (op :: rest) p w := by
  obtain ⟨i0, hi, hzz, hs0, hy0⟩ := info_parts Try.vinfoByte
  subst hy; subst hz
  refine wpList_append_own w hgd s x 70 ho base 5 i0 _ 1 1 Try.underlying70 hi hzz hs0 hy0 rfl (by omega) v l.length (bytL l) hs hown ⟨g, 0, none⟩ 2 2 [.int .u8 b.toNat, .int .u8 c.toNat] hx rfl
    (fun j u hu => ?_) (fun u hu => ?_) (by unfold maxLen; omega) (by omega) hbase (fun v' w' h1 h2 _ => ?_)
  · match j with
    | 0 => rw [Addr.add_mid]; simp at hu; rw [← hu]; exact hg
    | 1 => rw [Addr.add_mid]; simp at hu; rw [← hu]; exact hg1
    | j + 2 => simp at hu
  · have : u = .int .u8 b.toNat ∨ u = .int .u8 c.toNat := by simpa using hu
    rcases this with rfl | rfl <;> rfl
  · have h3 : OwnB w' base v' (l ++ [b, c]) := by unfold OwnB bytL; simpa [bytL] using h1
    obtain ⟨g', c', rfl, _⟩ := h3.at (by simp)
    have e : (l ++ [b, c]).length = l.length + 2 := by simp
    rw [e] at h3 ⊢
    refine h g' c' w' h3 ⟨h2.os, h2.tape, h2.output, h2.size, fun k hk => h2.block k (by omega) (fun e => ?_)⟩
    have := World.ownsRow.lt hown k e.symm
    omega

set_option maxRecDepth 100000 in
/-- 'string(b)' where b's cells are these bytes. -/
theorem conv_at {ops : Array Oper} {rest : List Oper} {op : Oper} {p : Act} {w : World} {Q : Exit → Act → World → Prop} (hgd : op.guard = none) (x : Operand)
    (ho : op.op = .convert 70 9 x)
    {n c : Nat} {ad : Addr} {l : List UInt8} (hx : p.eval x = .slice (some ad) n c) (hn : n = l.length) (hc : ∀ j (hj : j < l.length), w.cell? (ad.add j) = some (.int .u8 l[j].toNat))
    (h : wpList Try.prog ops Q rest (p.put op.dst (.string ⟨l.toArray⟩)) w) : wpList Try.prog ops Q (op :: rest) p w := by
  subst hn
  refine wpList_plain hgd fun K hK' => ?_
  have hrun := run_convert_bytes_back w 70 9 5 ad c l Try.underlying70 Try.underlying5 Try.underlying9 hc
  unfold Oper.wp
  simp [execOp, ho, hx, hrun, Result.andThen]
  exact hK' _ _ h

end Go.Proofs.Ytoechlmahckchaa
