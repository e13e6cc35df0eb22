import Derived.Test.YtbpaepkcchpmbaaGreatG6
import Derived.Test.YtbpaepkcchpmbaaGreatG0
import Derived.Test.YtbpaepkcchpmbaaGreatG5
import Derived.Test.YtbpaepkcchpmbaaGreatG1
import Derived.Test.YtbpaepkcchpmbaaGreatG7
import Derived.Laws.AppendOwnNone
import Derived.OwnWalk
namespace Go.Proofs.YtbpaepkcchpmbaaGreat
open Go.RowKit
section
variable {D : List (Option Tmp)} {Φ : Fact} {o : Oper} {a : Act} {w : World}
theorem step_load (hw : Region.wanted o (yieldD D a.tmps) = true) {t : Tmp} (hd : o.dst = some t) (x : Operand) (ho : o.op = .load 144 x) (g : Nat) (hx : a.eval x = .pointer (some ⟨g, 0, none⟩)) {c : Ac} {A : Option Addr} {k m : Nat} (hc : Has w g 144 (accC c A k m))
    (h : Φ (.agg (accC c A k m)) w) : StepD Tryz.prog D Φ o a w := by
  intro Q
  rw [if_pos hw]
  exact wp_load_row 144 x ho g hx 144 _ (0, 0) _ hc Tryz.underlying144 rfl Tryz.sizeAcc ⟨_, rfl, (fun hn => by rw [hd] at hn; cases hn), Below.refl _ _, h⟩
end
end Go.Proofs.YtbpaepkcchpmbaaGreat
namespace Go.Proofs.YtbpaepkcchpmbaaGreat
open Go.RowKit
end Go.Proofs.YtbpaepkcchpmbaaGreat
namespace Go.Proofs.YtbpaepkcchpmbaaGreat
open Go.RowKit
section
variable {D : List (Option Tmp)} {Φ : Fact} {o : Oper} {a : Act} {w : World}
theorem step_faddr (hw : Region.wanted o (yieldD D a.tmps) = true) {t : Tmp} (hd : o.dst = some t) (T : TypeId) (x : Operand) (f : Nat) (ho : o.op = .fieldAddr T x f) (g i j : Nat) (hx : a.eval x = .pointer (some ⟨g, i, none⟩))
    (hrun : ∀ w : World, (Instr.fieldAt T (.pointer (some ⟨g, i, none⟩)) f).run Tryz.prog w = .ok (.pointer (some ⟨g, j, none⟩)) w) (h : Φ (.pointer (some ⟨g, j, none⟩)) w) : StepD Tryz.prog D Φ o a w := by
  refine step_val hw hd _ _ ?_ (Below.refl _ _) h
  unfold execOp
  rw [ho]
  simp only [hx, Sem.run_bind, hrun, Result.andThen_ok]
  rfl
theorem loadi_run (g k : Nat) (n : Int) (w : World) (h : w.cell? ⟨g, k, none⟩ = some (.int .i64 n)) : (Instr.loadAt 3 (.pointer (some ⟨g, k, none⟩))).run Tryz.prog w = .ok (.int .i64 n) w := by simp [go_sem, h, Instr.loadAt]
theorem step_loadi (hw : Region.wanted o (yieldD D a.tmps) = true) {t : Tmp} (hd : o.dst = some t) (x : Operand) (ho : o.op = .load 3 x) (g k : Nat) (hx : a.eval x = .pointer (some ⟨g, k, none⟩)) (n : Int)
    (hc : w.cell? ⟨g, k, none⟩ = some (.int .i64 n)) (h : Φ (.int .i64 n) w) : StepD Tryz.prog D Φ o a w := by
  refine step_val hw hd _ _ ?_ (Below.refl _ _) h
  unfold execOp
  rw [ho]
  simp only [hx, Sem.run_bind, loadi_run g k n w hc, Result.andThen_ok]
  rfl
abbrev itemV (x : It) : Value := .agg #[.int .i64 x.s, .int .i64 x.t, .int .i64 x.q, .int .i64 x.v]
end
end Go.Proofs.YtbpaepkcchpmbaaGreat
namespace Go.Proofs.YtbpaepkcchpmbaaGreat
open Go.RowKit
section
variable {D : List (Option Tmp)} {Φ : Fact} {o : Oper} {a : Act} {w : World}
end
end Go.Proofs.YtbpaepkcchpmbaaGreat
namespace Go.Proofs.YtbpaepkcchpmbaaGreat
open Go.RowKit
set_option maxRecDepth 100000 in
theorem app_intsA {ops : Array Oper} {rest : List Oper} {op : Oper} {p : Act} {w : World} {Q : Exit → Act → World → Prop} (hgd : op.guard = none) (s x : Operand)
    (ho : op.op = .call { callee := .builtin .append, args := #[s, x], argTypes := #[57, 57] })
    {base n c : Nat} {A : Option Addr} {v : Value} {ys : List Int} (hs : p.eval s = v) (hown : OwnI w base v []) (hx : p.eval x = .slice A n c) (hy : Ints w A n ys) (hnil : A = none → c = 0)
    (hn : n * 8 ≤ 140737488351232) (hbase : base ≤ w.heap.size)
    (h : ∀ A' c' w', OwnI w' base (.slice A' n c') ys → Below base w w' → wpList Tryz.prog ops Q rest (p.put op.dst (.slice A' n c')) w') : wpList Tryz.prog ops Q (op :: rest) p w := by
  obtain ⟨i0, hi, hz, hs0, hy0⟩ := info_parts Tryz.infoInt
  have hl := hy.1
  cases A with
  | none =>
    have hn0 : n = 0 := by
      rcases Nat.eq_zero_or_pos n with h0 | h0
      · exact h0
      · obtain ⟨b, o, e, _⟩ := hy.at_ h0
        cases e
    subst hn0
    have hc := hnil rfl
    subst hc
    obtain rfl : ys = [] := List.eq_nil_of_length_eq_zero hl
    obtain ⟨A', c', e, _⟩ := hown.form
    subst e
    exact wpList_append_own_none hgd s x 57 ho base 3 i0 1 Tryz.underlying57 hi _ 0 [] hs hown hx (h A' c' w hown (Below.refl _ _))
  | some ad =>
    refine wpList_append_own w hgd s x 57 ho base 3 i0 _ 1 8 Tryz.underlying57 hi hz hs0 hy0 rfl (by omega) v 0 [] hs hown ad n c (intL ys) hx (by simp [intL, hl])
      (fun j u hu => ?_) (fun u hu => ?_) (by unfold maxLen; omega) (by omega) hbase (fun v' w' h1 h2 _ => ?_)
    · have hj : j < n := by have := (List.getElem?_eq_some_iff.1 hu).1; simpa [intL, hl] using this
      obtain ⟨b, o, e, hc⟩ := hy.at_ (k := 0) (by omega)
      injection e with e
      subst e
      rw [Addr.add_mid, hc j hj, ← hu]
      simp [intL, nth, hl, hj]
    · obtain ⟨z, _, rfl⟩ := List.mem_map.1 hu
      rfl
    · have h3 : OwnI w' base v' ys := by unfold OwnI; rw [hl]; simpa using h1
      obtain ⟨A, c', rfl, _⟩ := h3.form
      rw [hl] at h3 ⊢
      refine h A c' w' h3 ⟨h2.os, h2.tape, h2.output, h2.size, fun k hk => h2.block k (by omega) (fun e => ?_)⟩
      have := World.ownsRow.lt hown k e.symm
      omega
end Go.Proofs.YtbpaepkcchpmbaaGreat
namespace Go.Proofs.YtbpaepkcchpmbaaGreat
open Go.RowKit
def rowC (ps : List (Ac × Nat)) : List Value := ps.flatMap fun p => (accC p.1 (some ⟨p.2, 0, none⟩) p.1.h.length p.1.h.length).toList
structure Own (w : World) (base : Nat) (v : Value) (ps : List (Ac × Nat)) : Prop where
  row : w.ownsRow base 144 13 v ps.length (rowC ps)
  hist : ∀ p, p ∈ ps → Has w p.2 3 (ints p.1.h)
end Go.Proofs.YtbpaepkcchpmbaaGreat
