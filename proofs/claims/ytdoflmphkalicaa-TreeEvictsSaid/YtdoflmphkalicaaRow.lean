/-
  A slice of aggregates that reads as a list; whole aggregates loaded and stored at once.
-/
import Derived.Test.YtdoflmphkalicaaAdd
import Derived.Deep.MidRow
namespace Go.Proofs.Ytdoflmphkalicaa
open Go.RowKit

def nthA (xs : List Ac) (i : Nat) : Ac := xs.getD i zeroAc
/-- At offset o of block b lies an aggregate: a, whose buckets are 'A, k, c'. -/
def AccAt (w : World) (b o : Nat) (a : Ac) (A : Option Addr) (k c : Nat) : Prop := w.rangeAt b o (accC a A k c).toList ∧ Ints w A k a.h ∧ k ≤ c ∧ c ≤ maxLen
/-- The slice value '.slice A n _' reads as the aggregates xs. -/
def Accs (w : World) (A : Option Addr) (n : Nat) (xs : List Ac) : Prop :=
  xs.length = n ∧ (0 < n → ∃ b o : Nat, A = some ⟨b, o, none⟩ ∧ ∀ i, i < n → ∃ B k c, AccAt w b (o + i * 13) (nthA xs i) B k c)

@[go_sem] theorem accC_0 (a : Ac) (A : Option Addr) (k c : Nat) : (accC a A k c)[0]? = some (.int .i64 a.n) := rfl
@[go_sem] theorem accC_1 (a : Ac) (A : Option Addr) (k c : Nat) : (accC a A k c)[1]? = some (.int .i64 a.s) := rfl
@[go_sem] theorem accC_2 (a : Ac) (A : Option Addr) (k c : Nat) : (accC a A k c)[2]? = some (.int .i64 a.mn) := rfl
@[go_sem] theorem accC_3 (a : Ac) (A : Option Addr) (k c : Nat) : (accC a A k c)[3]? = some (.int .i64 a.mx) := rfl
@[go_sem] theorem accC_4 (a : Ac) (A : Option Addr) (k c : Nat) : (accC a A k c)[4]? = some (.int .i64 a.f.s) := rfl
@[go_sem] theorem accC_5 (a : Ac) (A : Option Addr) (k c : Nat) : (accC a A k c)[5]? = some (.int .i64 a.f.t) := rfl
@[go_sem] theorem accC_6 (a : Ac) (A : Option Addr) (k c : Nat) : (accC a A k c)[6]? = some (.int .i64 a.f.q) := rfl
@[go_sem] theorem accC_7 (a : Ac) (A : Option Addr) (k c : Nat) : (accC a A k c)[7]? = some (.int .i64 a.f.v) := rfl
@[go_sem] theorem accC_8 (a : Ac) (A : Option Addr) (k c : Nat) : (accC a A k c)[8]? = some (.int .i64 a.l.s) := rfl
@[go_sem] theorem accC_9 (a : Ac) (A : Option Addr) (k c : Nat) : (accC a A k c)[9]? = some (.int .i64 a.l.t) := rfl
@[go_sem] theorem accC_10 (a : Ac) (A : Option Addr) (k c : Nat) : (accC a A k c)[10]? = some (.int .i64 a.l.q) := rfl
@[go_sem] theorem accC_11 (a : Ac) (A : Option Addr) (k c : Nat) : (accC a A k c)[11]? = some (.int .i64 a.l.v) := rfl
@[go_sem] theorem accC_12 (a : Ac) (A : Option Addr) (k c : Nat) : (accC a A k c)[12]? = some (.slice A k c) := rfl
theorem accC_list (a : Ac) (A : Option Addr) (k c : Nat) : (accC a A k c).toList = [.int .i64 a.n, .int .i64 a.s, .int .i64 a.mn, .int .i64 a.mx, .int .i64 a.f.s, .int .i64 a.f.t, .int .i64 a.f.q, .int .i64 a.f.v, .int .i64 a.l.s, .int .i64 a.l.t, .int .i64 a.l.q, .int .i64 a.l.v, .slice A k c] := rfl
theorem accC_len (a : Ac) (A : Option Addr) (k c : Nat) : (accC a A k c).toList.length = 13 := rfl
theorem AccAt.cell {w : World} {b o : Nat} {a : Ac} {A : Option Addr} {k c : Nat} (h : AccAt w b o a A k c) : w.cell? ⟨b, o, none⟩ = some (.int .i64 a.n) := h.1 0 _ rfl
theorem AccAt.lt {w : World} {b o : Nat} {a : Ac} {A : Option Addr} {k c : Nat} (h : AccAt w b o a A k c) : b < w.heap.size := block_lt_of_cell h.cell
theorem AccAt.keep {w w' : World} {b o : Nat} {a : Ac} {A : Option Addr} {k c : Nat} (h : AccAt w b o a A k c) (hk : ∀ p : Addr, p.block < w.heap.size → w'.cell? p = w.cell? p) : AccAt w' b o a A k c :=
  ⟨fun j v hv => (hk _ h.lt).trans (h.1 j v hv), h.2.1.keep hk, h.2.2⟩
theorem Accs.keep {w w' : World} {A : Option Addr} {n : Nat} {xs : List Ac} (h : Accs w A n xs) (hk : ∀ p : Addr, p.block < w.heap.size → w'.cell? p = w.cell? p) : Accs w' A n xs :=
  ⟨h.1, fun hn => by
    obtain ⟨b, o, e, hi⟩ := h.2 hn
    exact ⟨b, o, e, fun i hlt => by obtain ⟨B, k, c, hx⟩ := hi i hlt; exact ⟨B, k, c, hx.keep hk⟩⟩⟩
theorem Accs.below {w w' : World} {A : Option Addr} {n : Nat} {xs : List Ac} (h : Accs w A n xs) (hb : Below w.heap.size w w') : Accs w' A n xs := h.keep fun _ hp => hb.cell hp
theorem Accs.drewN {w : World} {A : Option Addr} {n : Nat} {xs : List Ac} (h : Accs w A n xs) (k : Nat) : Accs (w.drewN k) A n xs := h
theorem Accs.at_ {w : World} {A : Option Addr} {n : Nat} {xs : List Ac} (h : Accs w A n xs) (hn : 0 < n) : ∃ b o : Nat, A = some ⟨b, o, none⟩ ∧ ∀ i, i < n → ∃ B k c, AccAt w b (o + i * 13) (nthA xs i) B k c := h.2 hn
theorem Accs.nil (w : World) (A : Option Addr) : Accs w A 0 [] := ⟨rfl, fun h => absurd h (by omega)⟩
theorem drop_nthA {xs : List Ac} {j : Nat} (h : j < xs.length) : xs.drop j = nthA xs j :: xs.drop (j + 1) := by
  rw [List.drop_eq_getElem_cons h]
  simp [nthA, h]

/-- The load of a whole aggregate out of a row. -/
theorem load_acc {ops : Array Oper} {rest : List Oper} {op : Oper} {a : Act} {w : World} {Q : Exit → Act → World → Prop} (hgd : op.guard = none) (x : Operand) (ho : op.op = .load 49 x)
    (b o : Nat) (hx : a.eval x = .pointer (some ⟨b, o, none⟩)) {ac : Ac} {A : Option Addr} {k c : Nat} (hc : AccAt w b o ac A k c)
    (h : wpList Try.prog ops Q rest (a.put op.dst (.agg (accC ac A k c))) w) : wpList Try.prog ops Q (op :: rest) a w :=
  wpList_load_mid hgd 49 x ho b o hx _ _ hc.1 Try.underlying49 rfl Try.sizeAcc (by simpa using h)
/-- The load of a whole aggregate out of a variable. -/
theorem load_has {ops : Array Oper} {rest : List Oper} {op : Oper} {a : Act} {w : World} {Q : Exit → Act → World → Prop} (hgd : op.guard = none) (x : Operand) (ho : op.op = .load 49 x)
    (g : Nat) (hx : a.eval x = .pointer (some ⟨g, 0, none⟩)) {ac : Ac} {A : Option Addr} {k c : Nat} (hc : Has w g 49 (accC ac A k c))
    (h : wpList Try.prog ops Q rest (a.put op.dst (.agg (accC ac A k c))) w) : wpList Try.prog ops Q (op :: rest) a w :=
  wpList_load_row hgd 49 x ho g hx 49 _ (0, 0) _ hc Try.underlying49 rfl Try.sizeAcc h
/-- The store of a whole aggregate into a variable that was made last. -/
theorem store_made {ops : Array Oper} {rest : List Oper} {op : Oper} {a : Act} {w : World} {Q : Exit → Act → World → Prop} (hgd : op.guard = none) (x y : Operand) (ho : op.op = .store 49 x y)
    {old : Array Value} {ac : Ac} {A : Option Addr} {k c : Nat} (hx : a.eval x = .pointer (some ⟨w.heap.size, 0, none⟩)) (hy : a.eval y = .agg (accC ac A k c)) (hold : old.size = 13)
    (h : wpList Try.prog ops Q rest (a.put op.dst undef) (w.alloc (.cells (accC ac A k c) 49))) : wpList Try.prog ops Q (op :: rest) a (w.alloc (.cells old 49)) :=
  wpList_store_row hgd 49 x y ho w.heap.size _ hx hy 49 old (Has.made _ _ _) Try.sizeAcc hold (accC_one _ _ _ _) (by rw [World.setRow_alloc_new]; exact h)
/-- The same, of the world nothing said but what the rest needs. -/
theorem store_new {ops : Array Oper} {rest : List Oper} {op : Oper} {a : Act} {w : World} {Q : Exit → Act → World → Prop} (hgd : op.guard = none) (x y : Operand) (ho : op.op = .store 49 x y)
    {old : Array Value} {ac : Ac} {A : Option Addr} {k c : Nat} (hx : a.eval x = .pointer (some ⟨w.heap.size, 0, none⟩)) (hy : a.eval y = .agg (accC ac A k c)) (hold : old.size = 13)
    (h : ∀ w', Below w.heap.size w w' → Has w' w.heap.size 49 (accC ac A k c) → wpList Try.prog ops Q rest (a.put op.dst undef) w') : wpList Try.prog ops Q (op :: rest) a (w.alloc (.cells old 49)) :=
  store_made hgd x y ho hx hy hold (h _ ((Below.refl _ _).alloc (Nat.le_refl _) _) (Has.made _ _ _))
/-- The store of a whole aggregate into a variable. -/
theorem store_has {ops : Array Oper} {rest : List Oper} {op : Oper} {a : Act} {w : World} {Q : Exit → Act → World → Prop} (hgd : op.guard = none) (x y : Operand) (ho : op.op = .store 49 x y)
    (g : Nat) {old : Array Value} {ac : Ac} {A : Option Addr} {k c : Nat} (hx : a.eval x = .pointer (some ⟨g, 0, none⟩)) (hy : a.eval y = .agg (accC ac A k c)) (hg : Has w g 49 old) (hold : old.size = 13)
    (h : wpList Try.prog ops Q rest (a.put op.dst undef) (w.setRow g (accC ac A k c))) : wpList Try.prog ops Q (op :: rest) a w :=
  wpList_store_row hgd 49 x y ho g _ hx hy 49 old hg Try.sizeAcc hold (accC_one _ _ _ _) h

/-! What Join asks of its arguments, and what it gives. -/
def togB (m : Int) : Int → List Ac → Bool
  | _, [] => true
  | s, a :: r => fitB a m && if a.n = 0 then togB m s r else if 0 ≤ s ∧ a.f.s ≠ s then false else togB m a.f.s r
def totalA (xs : List Ac) : Int := isum (xs.map (·.n))
def joinStep (o a : Ac) : Ac := if a.n = 0 then o else addAc o a
def joinAc (bs : List Int) (xs : List Ac) : Ac := xs.foldl joinStep ⟨0, 0, 0, 0, zeroIt, zeroIt, List.replicate (bs.length + 1) 0⟩
end Go.Proofs.Ytdoflmphkalicaa
