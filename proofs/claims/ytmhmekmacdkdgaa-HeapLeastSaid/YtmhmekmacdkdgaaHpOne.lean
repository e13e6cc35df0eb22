/-
  A row of one item that a region lays out, and its push.
-/
import Derived.Test.YtmhmekmacdkdgaaHpItem
import Derived.Test.YtmhmekmacdkdgaaHpFmP
namespace Go.Proofs.Ytmhmekmacdkdgaa
open Go.RowKit

def row1B (B : Nat) (x : It) : Fact := fun v w => ∃ e, v = .slice (some ⟨e, 0, none⟩) 1 1 ∧ B ≤ e ∧ Has w e 34 (itemL x).toArray
theorem row1B_mono (B : Nat) (x : It) : Mono (row1B B x) := fun _ _ _ hb ⟨e, he, h1, h⟩ => ⟨e, he, h1, h.below hb h.lt⟩
theorem rf_oneB {D : List (Option Tmp)} {Φ : Fact} {o : Oper} {a : Act} {w : World} (hw : Region.wanted o (yieldD D a.tmps) = true) {t : Tmp} (hd : o.dst = some t) (x : Operand) (ho : o.op = .buildSlice 22 1 #[(0, x)]) (y : It) {B : Nat} (hx : a.eval x = .agg #[.int .i64 y.s, .int .i64 y.t, .int .i64 y.q, .int .i64 y.v]) (hB : B ≤ w.heap.size) (h : ∀ v w', row1B B y v w' → Φ v w') : StepD Try.prog D Φ o a w := by
  have e : (Instr.buildSlice 22 1 #[(0, .agg #[.int .i64 y.s, .int .i64 y.t, .int .i64 y.q, .int .i64 y.v])]).run Try.prog w = .ok (.slice (some ⟨w.heap.size, 0, none⟩) 1 1) (w.alloc (.cells (itemL y).toArray 34)) := by kernel_rfl
  refine step_val hw hd (.slice (some ⟨w.heap.size, 0, none⟩) 1 1) (w.alloc (.cells (itemL y).toArray 34)) ?_ ((Below.refl _ w).alloc (Nat.le_refl _) _) (h _ _ ⟨_, rfl, hB, Has.made _ _ _⟩)
  unfold execOp
  rw [ho]
  generalize a.eval = ev at hx ⊢
  simp only [List.map_toArray, List.map_cons, List.map_nil, hx, Sem.run_bind, e, Result.andThen_ok]
  rfl

theorem push1_eq {m : Int} {xs : List It} {z : It} (hz : itemB z = true) (hl : (xs.length : Int) < m) : pushN m xs [z] = 0 ∧ pushL m xs [z] = ins z xs := by
  have hg : goodAll [z] = true := by unfold goodAll; simp [hz]
  unfold pushN pushL
  rw [hg, if_pos rfl, if_pos rfl, if_neg (by simp; omega), if_neg (by simp; omega)]
  exact ⟨rfl, rfl⟩
section
variable {w0 w w' : World} {bs : List Nat} {g : Nat} {m : Int} {xs : List It}
/-- A push of one item that was just laid out. -/
theorem HpK.push1 (h : HpK w0 bs g m xs w) (hb : Below w.heap.size w w') {e : Nat} {z : It} (he : w.heap.size ≤ e) (hh : Has w' e 34 (itemL z).toArray) (hz : itemB z = true) (hl : (xs.length : Int) < m) (hm : m ≤ 8192) :
    Calls Try.prog 15 #[.pointer (some ⟨g, 0, none⟩), .slice (some ⟨e, 0, none⟩) 1 1] w' fun e w2 => e = .returned (.int .i64 0) ∧ HpK w0 bs g m (ins z xs) w2 ∧ ∀ k, (k ∈ bs ∨ k < w0.heap.size) → w2.heap[k]? = w'.heap[k]? := by
  have h1 := h.since hb he hh.lt
  obtain ⟨e1, e2⟩ := push1_eq hz hl
  refine (h1.push (some ⟨e, 0, none⟩) 1 1 [z] (Items.one hh) (fun ad _ e => by injection e with e; subst e; exact .inl (List.mem_cons_self ..)) (by omega) (by omega) (by omega)).mono fun r w2 h2 => ?_
  rw [e1, e2] at h2
  exact ⟨h2.1, h2.2.1.less (fun b hb => List.mem_cons_of_mem _ hb), fun k hk => h2.2.2 k (hk.imp (fun h => List.mem_cons_of_mem _ h) id)⟩
end

end Go.Proofs.Ytmhmekmacdkdgaa
