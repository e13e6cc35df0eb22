/-
  Single operations of a region whose facts are shown one by one (XAny): picks, guards that are shut, addresses, loads, tests, lengths, extracts, calls. (What gen/rf.py writes leans on this.)
-/
import Derived.Test.YtjgjbhbpndjnnaaG2
import Derived.Test.YtjgjbhbpndjnnaaProg
import Derived.Deep.MidRow
namespace Go.Proofs.Ytjgjbhbpndjnnaa
open Go.RowKit

section
variable {P : Program} {D : List (Option Tmp)} {Φ : Fact} {o : Oper} {a : Act} {w : World}
theorem rf_slot {t : Nat} {v : Value} (hv : a.tmps.getD t undef = v) (hne : v ≠ undef) : a.tmps[t]? = some v := by
  rw [Array.getD_eq_getD_getElem?] at hv
  cases h : a.tmps[t]? with
  | none => rw [h] at hv; exact absurd hv.symm hne
  | some x => rw [h] at hv; rw [← hv]; rfl
theorem rf_open {i t : Nat} (b : Bool) (hg : o.guard = some (i, b)) (hd : (D[i]?).join = some t) (hv : a.tmps.getD t undef = .bool b) : Region.wanted o (yieldD D a.tmps) = true := by
  have h2 := rf_slot hv (by simp [undef])
  unfold Region.wanted
  rw [hg]
  simp [yieldD, hd, h2]
theorem rf_shut {i t : Nat} (b : Bool) (hg : o.guard = some (i, b)) (hd : (D[i]?).join = some t) (hv : a.tmps.getD t undef = .bool (!b)) (h : Φ undef w) : StepD P D Φ o a w := by
  have h2 := rf_slot hv (by simp [undef])
  have h3 : Region.wanted o (yieldD D a.tmps) = false := by
    unfold Region.wanted
    rw [hg]
    cases b <;> simp [yieldD, hd, h2]
  intro Q
  rw [h3]
  exact h
/-- A guard that was itself left out. -/
theorem rf_shutu {i t : Nat} (b : Bool) (hg : o.guard = some (i, b)) (hd : (D[i]?).join = some t) (hv : a.tmps.getD t undef = undef) (h : Φ undef w) : StepD P D Φ o a w := by
  have h3 : Region.wanted o (yieldD D a.tmps) = false := by
    unfold Region.wanted
    rw [hg]
    cases ht : a.tmps[t]? with
    | none => simp [yieldD, hd, ht]
    | some x =>
      have hx : x = undef := by rw [Array.getD_eq_getD_getElem?, ht] at hv; exact hv
      subst hx
      simp [yieldD, hd, ht, undef]
  intro Q
  rw [h3]
  exact h
theorem rf_pick (hw : Region.wanted o (yieldD D a.tmps) = true) {t : Tmp} (hd : o.dst = some t) (c x y : Operand) (ho : o.op = .pick c x y) (b : Bool) (hc : a.eval c = .bool b) (h : Φ (if b then a.eval x else a.eval y) w) : StepD P D Φ o a w :=
  step_val hw hd _ _ (by unfold execOp; rw [ho]; simp only [hc]; cases b <;> rfl) (Below.refl _ _) h
theorem rf_extract (hw : Region.wanted o (yieldD D a.tmps) = true) {t : Tmp} (hd : o.dst = some t) (x : Operand) (i : Nat) (ho : o.op = .extract x i) (vs : Array Value) (v : Value) (hx : a.eval x = .tuple vs) (hv : vs[i]? = some v) (h : Φ v w) : StepD P D Φ o a w :=
  step_val hw hd v w (by unfold execOp; rw [ho]; generalize a.eval = ev at hx ⊢; simp [hx, hv, go_sem]) (Below.refl _ _) h
theorem rf_len (hw : Region.wanted o (yieldD D a.tmps) = true) {t : Tmp} (hd : o.dst = some t) (x : Operand) (ty : TypeId) (ho : o.op = .call { callee := .builtin .len, args := #[x], argTypes := #[ty] }) (hu : P.underlying ty = some (.slice (P.elem ty))) (A : Option Addr) (n c : Nat) (hx : a.eval x = .slice A n c) (h : Φ (.int .i64 n) w) : StepD P D Φ o a w :=
  step_val hw hd _ w (by unfold execOp; rw [ho]; generalize a.eval = ev at hx ⊢; simp [hx, run_len_slice w ty _ A n c hu, go_sem]) (Below.refl _ _) h
theorem rf_faddr (hw : Region.wanted o (yieldD D a.tmps) = true) {t : Tmp} (hd : o.dst = some t) (T : TypeId) (x : Operand) (f : Nat) (ho : o.op = .fieldAddr T x f) (g i k j : Nat) (hx : a.eval x = .pointer (some ⟨g, i, none⟩)) (hj : j = i + k)
    (hrun : ∀ (i : Nat) (w : World), (Instr.fieldAt T (.pointer (some ⟨g, i, none⟩)) f).run P w = .ok (.pointer (some ⟨g, i + k, none⟩)) w) (h : Φ (.pointer (some ⟨g, j, none⟩)) w) : StepD P D Φ o a w := by
  subst hj
  refine step_val hw hd _ _ ?_ (Below.refl _ _) h
  unfold execOp
  rw [ho]
  simp only [hx, Sem.run_bind, hrun, Result.andThen_ok]
  rfl
theorem rf_loadi_run (g k : Nat) (n : Int) (w : World) (h : w.cell? ⟨g, k, none⟩ = some (.int .i64 n)) : (Instr.loadAt 3 (.pointer (some ⟨g, k, none⟩))).run Try.prog w = .ok (.int .i64 n) w := by simp [go_sem, h, Instr.loadAt]
theorem rf_loadi (hw : Region.wanted o (yieldD D a.tmps) = true) {t : Tmp} (hd : o.dst = some t) (x : Operand) (ho : o.op = .load 3 x) (g k : Nat) (hx : a.eval x = .pointer (some ⟨g, k, none⟩)) (n : Int)
    (hc : w.cell? ⟨g, k, none⟩ = some (.int .i64 n)) (h : Φ (.int .i64 n) w) : StepD Try.prog D Φ o a w := by
  refine step_val hw hd _ _ ?_ (Below.refl _ _) h
  unfold execOp
  rw [ho]
  simp only [hx, Sem.run_bind, rf_loadi_run g k n w hc, Result.andThen_ok]
  rfl
/-- The address of an element. -/
theorem rf_index (hw : Region.wanted o (yieldD D a.tmps) = true) {t : Tmp} (hd : o.dst = some t) (ty : TypeId) (x i : Operand) (ho : o.op = .indexAddr ty x i) (hu : P.underlying ty = some (.slice (P.elem ty))) (s : Nat) (hs : ∀ w : World, (sizeOf (P.elem ty)).run P w = .ok s w)
    (b f n c k : Nat) (z : Int) (hx : a.eval x = .slice (some ⟨b, f, none⟩) n c) (hi : a.eval i = .int .i64 z) (hz : z = (k : Int)) (hk : k < n) (h : Φ (.pointer (some ⟨b, f + k * s, none⟩)) w) : StepD P D Φ o a w :=
  step_val hw hd _ w (by
    subst hz
    unfold execOp
    rw [ho]
    have e := run_indexAt_slice (P := P) w ty ⟨b, f, none⟩ n c .i64 (k : Int) hu
    rw [if_pos ⟨by omega, by omega⟩, hs] at e
    simp only [hx, hi, Sem.run_bind, e, Result.andThen_ok]
    simp [Addr.add, go_sem]) (Below.refl _ _) h
/-- A whole struct out of memory. -/
theorem rf_loadS (hw : Region.wanted o (yieldD D a.tmps) = true) {t : Tmp} (hd : o.dst = some t) (T : TypeId) (x : Operand) (ho : o.op = .load T x) (g k : Nat) (hx : a.eval x = .pointer (some ⟨g, k, none⟩)) (cs : List Value)
    (hc : w.rangeAt g k cs) {d : TypeDesc} (hu : P.underlying T = some d) (hd2 : d.isRow = true) (hi : (P.info? T).map (·.size) = some cs.length) (h : Φ (.agg cs.toArray) w) : StepD P D Φ o a w := by
  intro Q
  rw [if_pos hw]
  exact wp_load_mid T x ho g k hx cs _ hc hu hd2 hi ⟨_, rfl, (fun hn => by rw [hd] at hn; cases hn), Below.refl _ _, h⟩
theorem rf_call_run {f : FuncId} {fn : Func} (hf : P.funcs[f]? = some fn) (hname : (fn.name == "runtime.NumGoroutine") = false) (hb : fn.body.isSome = true) (args : Array Operand) (tys : Array TypeId) (ho : o.op = .call { callee := .value (.func f), args := args, argTypes := tys }) : (execOp a.eval o).run P w = .ok (.enter f (args.map a.eval)) w := by
  have h1 : fn.name ≠ "runtime.NumGoroutine" := by simpa using hname
  obtain ⟨c, hc⟩ := Option.isSome_iff_exists.1 hb
  unfold execOp
  rw [ho]
  simp [resolve, Act.eval, callFunc, hf, h1, hc, go_sem]
/-! Tests and sums of integers. -/
theorem rf_in (x : Int) (h1 : -9223372036854775808 ≤ x) (h2 : x ≤ 9223372036854775807) : IntKind.i64.wrap x = x := by simp [IntKind.wrap, IntKind.bits, IntKind.signed]; omega
theorem rf_eql (hw : Region.wanted o (yieldD D a.tmps) = true) {t : Tmp} (hd : o.dst = some t) (x y : Operand) (ho : o.op = .binOp .eql 3 x y 3) (p q : Int) (hx : a.eval x = .int .i64 p) (hy : a.eval y = .int .i64 q) (b : Bool) (hb : (p == q) = b) (h : Φ (.bool b) w) : StepD Try.prog D Φ o a w :=
  step_val hw hd _ w (by subst hb; unfold execOp; rw [ho]; generalize a.eval = ev at hx hy ⊢; simp [hx, hy, go_sem]) (Below.refl _ _) h
theorem rf_neq (hw : Region.wanted o (yieldD D a.tmps) = true) {t : Tmp} (hd : o.dst = some t) (x y : Operand) (ho : o.op = .binOp .neq 3 x y 3) (p q : Int) (hx : a.eval x = .int .i64 p) (hy : a.eval y = .int .i64 q) (b : Bool) (hb : (p != q) = b) (h : Φ (.bool b) w) : StepD Try.prog D Φ o a w :=
  step_val hw hd _ w (by subst hb; unfold execOp; rw [ho]; generalize a.eval = ev at hx hy ⊢; simp [hx, hy, go_sem]) (Below.refl _ _) h
theorem rf_lss (hw : Region.wanted o (yieldD D a.tmps) = true) {t : Tmp} (hd : o.dst = some t) (x y : Operand) (ho : o.op = .binOp .lss 3 x y 3) (p q : Int) (hx : a.eval x = .int .i64 p) (hy : a.eval y = .int .i64 q) (b : Bool) (hb : (decide (p < q)) = b) (h : Φ (.bool b) w) : StepD Try.prog D Φ o a w :=
  step_val hw hd _ w (by subst hb; unfold execOp; rw [ho]; generalize a.eval = ev at hx hy ⊢; simp [hx, hy, go_sem]) (Below.refl _ _) h
theorem rf_leq (hw : Region.wanted o (yieldD D a.tmps) = true) {t : Tmp} (hd : o.dst = some t) (x y : Operand) (ho : o.op = .binOp .leq 3 x y 3) (p q : Int) (hx : a.eval x = .int .i64 p) (hy : a.eval y = .int .i64 q) (b : Bool) (hb : (decide (p ≤ q)) = b) (h : Φ (.bool b) w) : StepD Try.prog D Φ o a w :=
  step_val hw hd _ w (by subst hb; unfold execOp; rw [ho]; generalize a.eval = ev at hx hy ⊢; simp [hx, hy, go_sem]) (Below.refl _ _) h
theorem rf_gtr (hw : Region.wanted o (yieldD D a.tmps) = true) {t : Tmp} (hd : o.dst = some t) (x y : Operand) (ho : o.op = .binOp .gtr 3 x y 3) (p q : Int) (hx : a.eval x = .int .i64 p) (hy : a.eval y = .int .i64 q) (b : Bool) (hb : (decide (q < p)) = b) (h : Φ (.bool b) w) : StepD Try.prog D Φ o a w :=
  step_val hw hd _ w (by subst hb; unfold execOp; rw [ho]; generalize a.eval = ev at hx hy ⊢; simp [hx, hy, go_sem]) (Below.refl _ _) h
theorem rf_geq (hw : Region.wanted o (yieldD D a.tmps) = true) {t : Tmp} (hd : o.dst = some t) (x y : Operand) (ho : o.op = .binOp .geq 3 x y 3) (p q : Int) (hx : a.eval x = .int .i64 p) (hy : a.eval y = .int .i64 q) (b : Bool) (hb : (decide (q ≤ p)) = b) (h : Φ (.bool b) w) : StepD Try.prog D Φ o a w :=
  step_val hw hd _ w (by subst hb; unfold execOp; rw [ho]; generalize a.eval = ev at hx hy ⊢; simp [hx, hy, go_sem]) (Below.refl _ _) h
theorem rf_add (hw : Region.wanted o (yieldD D a.tmps) = true) {t : Tmp} (hd : o.dst = some t) (x y : Operand) (ho : o.op = .binOp .add 3 x y 3) (p q : Int) (hx : a.eval x = .int .i64 p) (hy : a.eval y = .int .i64 q) (h1 : -9223372036854775808 ≤ p + q) (h2 : p + q ≤ 9223372036854775807) (h : Φ (.int .i64 (p + q)) w) : StepD Try.prog D Φ o a w :=
  step_val hw hd _ w (by unfold execOp; rw [ho]; generalize a.eval = ev at hx hy ⊢; simp [hx, hy, go_sem]; exact rf_in _ h1 h2) (Below.refl _ _) h
theorem rf_sub (hw : Region.wanted o (yieldD D a.tmps) = true) {t : Tmp} (hd : o.dst = some t) (x y : Operand) (ho : o.op = .binOp .sub 3 x y 3) (p q : Int) (hx : a.eval x = .int .i64 p) (hy : a.eval y = .int .i64 q) (h1 : -9223372036854775808 ≤ p - q) (h2 : p - q ≤ 9223372036854775807) (h : Φ (.int .i64 (p - q)) w) : StepD Try.prog D Φ o a w :=
  step_val hw hd _ w (by unfold execOp; rw [ho]; generalize a.eval = ev at hx hy ⊢; simp [hx, hy, go_sem]; exact rf_in _ h1 h2) (Below.refl _ _) h
theorem rf_mul (hw : Region.wanted o (yieldD D a.tmps) = true) {t : Tmp} (hd : o.dst = some t) (x y : Operand) (ho : o.op = .binOp .mul 3 x y 3) (p q : Int) (hx : a.eval x = .int .i64 p) (hy : a.eval y = .int .i64 q) (h1 : -9223372036854775808 ≤ p * q) (h2 : p * q ≤ 9223372036854775807) (h : Φ (.int .i64 (p * q)) w) : StepD Try.prog D Φ o a w :=
  step_val hw hd _ w (by unfold execOp; rw [ho]; generalize a.eval = ev at hx hy ⊢; simp [hx, hy, go_sem]; exact rf_in _ h1 h2) (Below.refl _ _) h
theorem rf_rem (hw : Region.wanted o (yieldD D a.tmps) = true) {t : Tmp} (hd : o.dst = some t) (x y : Operand) (ho : o.op = .binOp .rem 3 x y 3) (p q : Int) (hx : a.eval x = .int .i64 p) (hy : a.eval y = .int .i64 q) (hq : 0 < q) (h : Φ (.int .i64 (p.tmod q)) w) : StepD Try.prog D Φ o a w :=
  step_val hw hd _ w (by unfold execOp; rw [ho]; generalize a.eval = ev at hx hy ⊢; have h0 : q ≠ 0 := by omega
                         simp [hx, hy, h0, go_sem]) (Below.refl _ _) h
/-- A cell that was there. -/
theorem rf_cell {w0 w : World} (hB : Below w0.heap.size w0 w) {p : Addr} {v : Value} (h : w0.cell? p = some v) : w.cell? p = some v := (hB.cell (block_lt_of_cell h)).trans h
theorem rf_two {g k : Nat} {x y : Value} (h1 : w.cell? ⟨g, k, none⟩ = some x) (h2 : w.cell? ⟨g, k + 1, none⟩ = some y) : w.rangeAt g k [x, y] := fun j v hj => by
  match j, hj with
  | 0, hj => rw [Nat.add_zero, h1]; simpa using hj
  | 1, hj => rw [h2]; simpa using hj
  | j + 2, hj => simp at hj
/-- A whole row reads from its first cell on. -/
theorem rf_range {g : Nat} {T : TypeId} {cs : Array Value} (h : Has w g T cs) : w.rangeAt g 0 cs.toList := fun j v hj => by
  rw [h.cell, Nat.zero_add]; simpa using hj
end

end Go.Proofs.Ytjgjbhbpndjnnaa
