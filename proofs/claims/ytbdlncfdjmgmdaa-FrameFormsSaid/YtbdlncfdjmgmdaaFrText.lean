/-
  '[]byte(s)': a row of its own, that is written; 'string' of it.
-/
import Derived.Test.YtbdlncfdjmgmdaaFrRow
import Derived.BigQuiet
import Derived.Deep.QuietTactic
namespace Go.Proofs.Ytbdlncfdjmgmdaa
open Go.RowKit

/-- Block g begins with these bytes, and they may be written. -/
structure RowT (w : World) (g : Nat) (l : List UInt8) : Prop where
  cell : ∀ j (hj : j < l.length), w.cell? ⟨g, j, none⟩ = some (.int .u8 l[j].toNat)
  free : ∀ j, j < l.length → w.frozen? ⟨g, j, none⟩ = false

theorem RowT.set {w : World} {g : Nat} {l : List UInt8} (h : RowT w g l) {k : Nat} (hk : k < l.length) (b : UInt8) : RowT (w.setCell ⟨g, k, none⟩ (.int .u8 b.toNat)) g (l.set k b) where
  cell j hj := by
    rw [List.length_set] at hj
    by_cases e : k = j
    · subst e
      rw [World.cell?_setCell_same _ _ _ (h.cell k hk), List.getElem_set_self]
    · rw [World.cell?_setCell_other _ _ _ _ (fun h => e (Addr.mk.inj h).2.1), h.cell j hj, List.getElem_set_ne e]
  free j hj := by
    rw [List.length_set] at hj
    rw [World.frozen?_setCell]
    exact h.free j hj
theorem RowT.drewN {w : World} {g : Nat} {l : List UInt8} (h : RowT w g l) (n : Nat) : RowT (w.drewN n) g l := ⟨h.cell, h.free⟩

theorem RowT.conv {w : World} {g : Nat} {l : List UInt8} (h : RowT w g l) (c : Nat) : (convert 36 9 (.slice (some ⟨g, 0, none⟩) l.length c)).run Try.prog w = .ok (.string ⟨l.toArray⟩) w :=
  run_convert_bytes_back w 36 9 5 ⟨g, 0, none⟩ c l Try.underlying36 Try.underlying5 Try.underlying9 (fun j hj => by rw [Addr.add_mid, Nat.zero_add]; exact h.cell j hj)

theorem list_size' (s : ByteArray) : s.data.toList.length = s.size := by simp
/-- '[]byte(s)' in a walk. -/
theorem conv_to {ops : Array Oper} {rest : List Oper} {op : Oper} {p : Act} {w : World} {Q : Exit → Act → World → Prop} (hgd : op.guard = none) (x : Operand)
    (ho : op.op = .convert 9 36 x) {s : ByteArray} (hx : p.eval x = .string s)
    (h : ∀ g c w', w.heap.size ≤ g → s.size ≤ c → RowT w' g s.data.toList → Below w.heap.size w w' → wpList Try.prog ops Q rest (p.put op.dst (.slice (some ⟨g, 0, none⟩) s.size c)) w') : wpList Try.prog ops Q (op :: rest) p w := by
  refine wpList_plain hgd fun K hK' => ?_
  have hrun := run_bytes_of_string (P := Try.prog) w 9 36 5 s Try.underlying9 Try.underlying36 Try.underlying5
  have hcap : s.size ≤ grownCap w s.size 0 5 := grownCap_ge _ _ _ _
  generalize grownCap w s.size 0 5 = c at hrun hcap
  unfold Oper.wp
  simp [execOp, ho, hx, hrun, Result.andThen]
  have hn : (w.drew.alloc (.cells (bytesRow s c) 5 ((bytesRow s c).size, (bytesRow s c).size + 1))).heap[w.heap.size]? = some (.cells (bytesRow s c) 5 ((bytesRow s c).size, (bytesRow s c).size + 1)) := heap_alloc_new w.drew _
  have hsz : s.size ≤ (bytesRow s c).size := by
    simp [bytesRow]
  refine hK' _ _ (h w.heap.size c _ (Nat.le_refl _) hcap ⟨fun j hj => ?_, fun j hj => ?_⟩ ((Below.drew (Below.refl _ w)).alloc (Nat.le_refl _) _))
  · unfold World.cell?
    rw [hn]
    have hj' : j < s.size := by simpa using hj
    simp [bytesRow, Array.getElem?_append, hj']
  · rw [list_size'] at hj
    unfold World.frozen?
    rw [hn]
    simp
    omega

end Go.Proofs.Ytbdlncfdjmgmdaa
