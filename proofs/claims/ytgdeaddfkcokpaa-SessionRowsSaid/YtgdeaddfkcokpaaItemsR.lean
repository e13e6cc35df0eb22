/-
  Rows of items as they lie in memory.
-/
import Derived.Test.YtgdeaddfkcokpaaItL
import Derived.Test.YtgdeaddfkcokpaaSame
import Derived.Test.YtgdeaddfkcokpaaOneP
namespace Go.Proofs.Ytgdeaddfkcokpaa
open Go.RowKit

/-- The slice value '.slice A n _' reads as the items xs. -/
def Items (w : World) (A : Option Addr) (n : Nat) (xs : List It) : Prop :=
  xs.length = n ∧ (0 < n → ∃ b o : Nat, A = some ⟨b, o, none⟩ ∧ ∀ i, i < n → w.rangeAt b (o + i * 4) (itemL (nthI xs i)))
theorem rangeAt_keep {w w' : World} {b o : Nat} {l : List Value} (h : w.rangeAt b o l) (hl : 0 < l.length) (hk : ∀ p : Addr, p.block < w.heap.size → w'.cell? p = w.cell? p) : w'.rangeAt b o l := fun j v hv => by
  have h0 := h 0 (l[0]) (by simp)
  have hb : b < w.heap.size := block_lt_of_cell h0
  exact (hk ⟨b, o + j, none⟩ hb).trans (h j v hv)
theorem Items.keep {w w' : World} {A : Option Addr} {n : Nat} {xs : List It} (h : Items w A n xs) (hk : ∀ p : Addr, p.block < w.heap.size → w'.cell? p = w.cell? p) : Items w' A n xs :=
  ⟨h.1, fun hn => by
    obtain ⟨b, o, e, hi⟩ := h.2 hn
    exact ⟨b, o, e, fun i hlt => rangeAt_keep (hi i hlt) (by simp [itemL]) hk⟩⟩
theorem Items.below {w w' : World} {A : Option Addr} {n : Nat} {xs : List It} (h : Items w A n xs) (hb : Below w.heap.size w w') : Items w' A n xs := h.keep fun _ hp => hb.cell hp
theorem Items.at_ {w : World} {A : Option Addr} {n : Nat} {xs : List It} (h : Items w A n xs) (hn : 0 < n) : ∃ b o : Nat, A = some ⟨b, o, none⟩ ∧ ∀ i, i < n → w.rangeAt b (o + i * 4) (itemL (nthI xs i)) := h.2 hn
theorem Items.nil (w : World) (A : Option Addr) : Items w A 0 [] := ⟨rfl, fun h => absurd h (by omega)⟩
/-- The load of a whole item out of a row. -/
theorem load_item {ops : Array Oper} {rest : List Oper} {op : Oper} {a : Act} {w : World} {Q : Exit → Act → World → Prop} (hgd : op.guard = none) (x : Operand) (ho : op.op = .load 23 x)
    (b o : Nat) (hx : a.eval x = .pointer (some ⟨b, o, none⟩)) {y : It} (hc : w.rangeAt b o (itemL y))
    (h : wpList Try.prog ops Q rest (a.put op.dst (.agg #[.int .i64 y.s, .int .i64 y.t, .int .i64 y.q, .int .i64 y.v])) w) : wpList Try.prog ops Q (op :: rest) a w :=
  wpList_load_mid hgd 23 x ho b o hx _ _ hc Try.underlying23 rfl Try.sizeItem (by simpa [itemL] using h)

end Go.Proofs.Ytgdeaddfkcokpaa
