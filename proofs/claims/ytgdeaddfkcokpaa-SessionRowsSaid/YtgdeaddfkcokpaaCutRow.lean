/-
  Parts of a row of aggregates, cut in a walk: 'xs[:k]', 'xs[k:]'.
-/
import Derived.Test.YtgdeaddfkcokpaaOwnRow
import Derived.Laws.Slices
namespace Go.Proofs.Ytgdeaddfkcokpaa
open Go.RowKit

theorem size_row (w : World) : (sizeOf (Try.prog.elem 24)).run Try.prog w = .ok 13 w := by kernel_rfl
theorem elem_row : Try.prog.underlying 24 = some (.slice (Try.prog.elem 24)) := by kernel_rfl
theorem add_zero_addr (D : Option Addr) (s : Nat) : D.map (·.add (0 * s)) = D := by
  cases D with
  | none => rfl
  | some a => cases a; simp [Addr.add]

theorem cut_to {ops : Array Oper} {rest : List Oper} {op : Oper} {p : Act} {w : World} {Q : Exit → Act → World → Prop} (hgd : op.guard = none) (x y : Operand) (ho : op.op = .slice 24 x none (some y) none)
    {D : Option Addr} {n e u : Nat} (hx : p.eval x = .slice D n e) (hy : p.eval y = .int .i64 (u : Int)) (hu : u ≤ e)
    (h : wpList Try.prog ops Q rest (p.put op.dst (.slice D u e)) w) : wpList Try.prog ops Q (op :: rest) p w :=
  wpList_plain hgd fun _ hK => by
    have hs : (Instr.sliceAt 24 (.slice D n e) none (some (.int .i64 (u : Int))) none).run Try.prog w = .ok (.slice D u e) w := by
      rw [run_sliceAt_slice w _ _ _ _ _ elem_row, run_slice_h w _ D n e elem_row .i64 (u : Int) (by omega) (by omega), size_row]
      simp only [Result.andThen_ok, sliced, add_zero_addr, ite_self, Int.toNat_natCast, Nat.sub_zero]
    unfold Oper.wp execOp
    simp only [ho, Option.map_some, Option.map_none, hx, hy, Sem.run_bind, hs, Result.andThen_ok]
    exact hK _ _ h

theorem cut_from {ops : Array Oper} {rest : List Oper} {op : Oper} {p : Act} {w : World} {Q : Exit → Act → World → Prop} (hgd : op.guard = none) (x y : Operand) (ho : op.op = .slice 24 x (some y) none none)
    {D : Option Addr} {n e u : Nat} {xs : List Ac} (hx : p.eval x = .slice D n e) (hy : p.eval y = .int .i64 (u : Int)) (hu : u ≤ n) (hn : n ≤ e) (hr : Accs w D n xs)
    (h : ∀ D', Accs w D' (n - u) (xs.drop u) → wpList Try.prog ops Q rest (p.put op.dst (.slice D' (n - u) (e - u))) w) : wpList Try.prog ops Q (op :: rest) p w :=
  wpList_plain hgd fun _ hK => by
    have hs : (Instr.sliceAt 24 (.slice D n e) (some (.int .i64 (u : Int))) none none).run Try.prog w = .ok (.slice (if e = u then D else D.map (·.add (u * 13))) (n - u) (e - u)) w := by
      rw [run_sliceAt_slice w _ _ _ _ _ elem_row, run_slice_l w _ D n e elem_row .i64 (u : Int) (by omega) (by omega), size_row]
      simp only [Result.andThen_ok, sliced, Int.toNat_natCast]
    have ha : Accs w (if e = u then D else D.map (·.add (u * 13))) (n - u) (xs.drop u) := by
      by_cases hlt : u < n
      · obtain ⟨b, o, rfl, _⟩ := hr.at_ (by omega)
        rw [if_neg (by omega)]
        have he : (Option.map (fun x => Addr.add x (u * 13)) (some (⟨b, o, none⟩ : Addr))) = some ⟨b, o + u * 13, none⟩ := by simp [Addr.add]
        rw [he]
        exact Accs.drop hr hu
      · have : n - u = 0 := by omega
        rw [this, List.drop_of_length_le (by rw [hr.1]; omega)]
        exact Accs.nil _ _
    unfold Oper.wp execOp
    simp only [ho, Option.map_some, Option.map_none, hx, hy, Sem.run_bind, hs, Result.andThen_ok]
    exact hK _ _ (h _ ha)

end Go.Proofs.Ytgdeaddfkcokpaa
