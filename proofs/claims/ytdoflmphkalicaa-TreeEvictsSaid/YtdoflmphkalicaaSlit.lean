/-
  Slices of aggregates written out: []T{a}, []T{a, b}, []T{a, b, c, d}.
-/
import Derived.Test.YtdoflmphkalicaaJoinOk
import Derived.Test.YtdoflmphkalicaaIt0
namespace Go.Proofs.Ytdoflmphkalicaa
open Go.RowKit

theorem lit2_run (a b : Ac) (A B : Option Addr) (k c l d : Nat) (w : World) :
    (Instr.buildSlice 65 2 #[(0, .agg (accC a A k c)), (1, .agg (accC b B l d))]).run Try.prog w = .ok (.slice (some ⟨w.heap.size, 0, none⟩) 2 2) (w.alloc (.cells (accC a A k c ++ accC b B l d) 49)) := by kernel_rfl

/-- '[]T{a, b}' in a walk. -/
theorem lit2 {ops : Array Oper} {rest : List Oper} {op : Oper} {p : Act} {w : World} {Q : Exit → Act → World → Prop} (hgd : op.guard = none) (x y : Operand) (ho : op.op = .buildSlice 65 2 #[(0, x), (1, y)])
    {a b : Ac} {A B : Option Addr} {k c l d : Nat} (hx : p.eval x = .agg (accC a A k c)) (hy : p.eval y = .agg (accC b B l d))
    (h : ∀ w', Below w.heap.size w w' → Has w' w.heap.size 49 (accC a A k c ++ accC b B l d) → wpList Try.prog ops Q rest (p.put op.dst (.slice (some ⟨w.heap.size, 0, none⟩) 2 2)) w') : wpList Try.prog ops Q (op :: rest) p w :=
  wpList_plain hgd fun _ hK => by
    unfold Oper.wp execOp
    simp only [ho, List.map_toArray, List.map_cons, List.map_nil, hx, hy, Sem.run_bind, lit2_run, Result.andThen_ok]
    exact hK _ _ (h _ ((Below.refl _ _).alloc (Nat.le_refl _) _) (Has.made _ _ _))

theorem lit1_run (a : Ac) (A : Option Addr) (k c : Nat) (w : World) :
    (Instr.buildSlice 65 1 #[(0, .agg (accC a A k c))]).run Try.prog w = .ok (.slice (some ⟨w.heap.size, 0, none⟩) 1 1) (w.alloc (.cells (accC a A k c) 49)) := by kernel_rfl
/-- '[]T{a}' in a walk. -/
theorem lit1 {ops : Array Oper} {rest : List Oper} {op : Oper} {p : Act} {w : World} {Q : Exit → Act → World → Prop} (hgd : op.guard = none) (x : Operand) (ho : op.op = .buildSlice 65 1 #[(0, x)])
    {a : Ac} {A : Option Addr} {k c : Nat} (hx : p.eval x = .agg (accC a A k c))
    (h : ∀ w', Below w.heap.size w w' → Has w' w.heap.size 49 (accC a A k c) → wpList Try.prog ops Q rest (p.put op.dst (.slice (some ⟨w.heap.size, 0, none⟩) 1 1)) w') : wpList Try.prog ops Q (op :: rest) p w :=
  wpList_plain hgd fun _ hK => by
    unfold Oper.wp execOp
    simp only [ho, List.map_toArray, List.map_cons, List.map_nil, hx, Sem.run_bind, lit1_run, Result.andThen_ok]
    exact hK _ _ (h _ ((Below.refl _ _).alloc (Nat.le_refl _) _) (Has.made _ _ _))

theorem lit4_run (a : Ac) (A : Option Addr) (k c : Nat) (w : World) :
    (Instr.buildSlice 65 4 #[(0, .agg (accC a A k c)), (1, .agg (accC a A k c)), (2, .agg (accC a A k c)), (3, .agg (accC a A k c))]).run Try.prog w = .ok (.slice (some ⟨w.heap.size, 0, none⟩) 4 4) (w.alloc (.cells (accC a A k c ++ accC a A k c ++ accC a A k c ++ accC a A k c) 49)) := by kernel_rfl
/-- '[]T{a, a, a, a}' in a walk. -/
theorem lit4 {ops : Array Oper} {rest : List Oper} {op : Oper} {p : Act} {w : World} {Q : Exit → Act → World → Prop} (hgd : op.guard = none) (x y z u : Operand) (ho : op.op = .buildSlice 65 4 #[(0, x), (1, y), (2, z), (3, u)])
    {a : Ac} {A : Option Addr} {k c : Nat} (hx : p.eval x = .agg (accC a A k c)) (hy : p.eval y = .agg (accC a A k c)) (hz : p.eval z = .agg (accC a A k c)) (hu : p.eval u = .agg (accC a A k c))
    (h : ∀ w', Below w.heap.size w w' → Has w' w.heap.size 49 (accC a A k c ++ accC a A k c ++ accC a A k c ++ accC a A k c) → wpList Try.prog ops Q rest (p.put op.dst (.slice (some ⟨w.heap.size, 0, none⟩) 4 4)) w') : wpList Try.prog ops Q (op :: rest) p w :=
  wpList_plain hgd fun _ hK => by
    unfold Oper.wp execOp
    simp only [ho, List.map_toArray, List.map_cons, List.map_nil, hx, hy, hz, hu, Sem.run_bind, lit4_run, Result.andThen_ok]
    exact hK _ _ (h _ ((Below.refl _ _).alloc (Nat.le_refl _) _) (Has.made _ _ _))

end Go.Proofs.Ytdoflmphkalicaa
