/-
  Single operations of a region whose facts are shown one by one (XAny): picks, guards that are shut, addresses, loads, tests, lengths, extracts, calls. (What gen/rf.py writes leans on this.)
  Single operations of a region whose facts are shown one by one: a nil check, loads of values of one cell (a slice of integers, a map).
  'x & (2^p - 1)' is the rest by 2^p. No program here.
  x & k, x >> k and sums, an element's address: as operations of a drawn region.
  Plain facts on what is known of one item, and of some items, one behind the other. No program here.
-/
import Derived.Test.YtjgjbhbpndjnnaaG14
import Derived.Test.YtjgjbhbpndjnnaaProg
import Derived.Deep.MidRow
import Derived.Laws.BitsLemmas
import Derived.WalkKit
import Derived.Test.YtjgjbhbpndjnnaaG7
namespace Go.Proofs.Ytjgjbhbpndjnnaa
open Go.RowKit

section
variable {P : Program} {D : List (Option Tmp)} {Φ : Fact} {o : Oper} {a : Act} {w : World}
theorem rf_slot {t : Nat} {v : Value} (hv : a.tmps.getD t undef = v) (hne : v ≠ undef) : a.tmps[t]? = some v := by
  rw [Array.getD_eq_getD_getElem?] at hv
  cases h : a.tmps[t]? with
  | none => rw [h] at hv; exact absurd hv.symm hne
  | some x => rw [h] at hv; rw [← hv]; rfl
theorem rf_open {i t : Nat} (b : Bool) (hg : o.guard = some (i, b)) (hd : (D[i]?).join = some t) (hv : a.tmps.getD t undef = .bool b) : Region.wanted o (yieldD D a.tmps) = true := by
  have h2 := rf_slot hv (by simp [undef])
  unfold Region.wanted
  rw [hg]
  simp [yieldD, hd, h2]
theorem rf_shut {i t : Nat} (b : Bool) (hg : o.guard = some (i, b)) (hd : (D[i]?).join = some t) (hv : a.tmps.getD t undef = .bool (!b)) (h : Φ undef w) : StepD P D Φ o a w := by
  have h2 := rf_slot hv (by simp [undef])
  have h3 : Region.wanted o (yieldD D a.tmps) = false := by
    unfold Region.wanted
    rw [hg]
    cases b <;> simp [yieldD, hd, h2]
  intro Q
  rw [h3]
  exact h
/-- A guard that was itself left out. -/
theorem rf_shutu {i t : Nat} (b : Bool) (hg : o.guard = some (i, b)) (hd : (D[i]?).join = some t) (hv : a.tmps.getD t undef = undef) (h : Φ undef w) : StepD P D Φ o a w := by
  have h3 : Region.wanted o (yieldD D a.tmps) = false := by
    unfold Region.wanted
    rw [hg]
    cases ht : a.tmps[t]? with
    | none => simp [yieldD, hd, ht]
    | some x =>
      have hx : x = undef := by rw [Array.getD_eq_getD_getElem?, ht] at hv; exact hv
      subst hx
      simp [yieldD, hd, ht, undef]
  intro Q
  rw [h3]
  exact h
theorem rf_pick (hw : Region.wanted o (yieldD D a.tmps) = true) {t : Tmp} (hd : o.dst = some t) (c x y : Operand) (ho : o.op = .pick c x y) (b : Bool) (hc : a.eval c = .bool b) (h : Φ (if b then a.eval x else a.eval y) w) : StepD P D Φ o a w :=
  step_val hw hd _ _ (by unfold execOp; rw [ho]; simp only [hc]; cases b <;> rfl) (Below.refl _ _) h
theorem rf_extract (hw : Region.wanted o (yieldD D a.tmps) = true) {t : Tmp} (hd : o.dst = some t) (x : Operand) (i : Nat) (ho : o.op = .extract x i) (vs : Array Value) (v : Value) (hx : a.eval x = .tuple vs) (hv : vs[i]? = some v) (h : Φ v w) : StepD P D Φ o a w :=
  step_val hw hd v w (by unfold execOp; rw [ho]; generalize a.eval = ev at hx ⊢; simp [hx, hv, go_sem]) (Below.refl _ _) h
theorem rf_len (hw : Region.wanted o (yieldD D a.tmps) = true) {t : Tmp} (hd : o.dst = some t) (x : Operand) (ty : TypeId) (ho : o.op = .call { callee := .builtin .len, args := #[x], argTypes := #[ty] }) (hu : P.underlying ty = some (.slice (P.elem ty))) (A : Option Addr) (n c : Nat) (hx : a.eval x = .slice A n c) (h : Φ (.int .i64 n) w) : StepD P D Φ o a w :=
  step_val hw hd _ w (by unfold execOp; rw [ho]; generalize a.eval = ev at hx ⊢; simp [hx, run_len_slice w ty _ A n c hu, go_sem]) (Below.refl _ _) h
theorem rf_faddr (hw : Region.wanted o (yieldD D a.tmps) = true) {t : Tmp} (hd : o.dst = some t) (T : TypeId) (x : Operand) (f : Nat) (ho : o.op = .fieldAddr T x f) (g i k j : Nat) (hx : a.eval x = .pointer (some ⟨g, i, none⟩)) (hj : j = i + k)
    (hrun : ∀ (i : Nat) (w : World), (Instr.fieldAt T (.pointer (some ⟨g, i, none⟩)) f).run P w = .ok (.pointer (some ⟨g, i + k, none⟩)) w) (h : Φ (.pointer (some ⟨g, j, none⟩)) w) : StepD P D Φ o a w := by
  subst hj
  refine step_val hw hd _ _ ?_ (Below.refl _ _) h
  unfold execOp
  rw [ho]
  simp only [hx, Sem.run_bind, hrun, Result.andThen_ok]
  rfl
theorem rf_loadi_run (g k : Nat) (n : Int) (w : World) (h : w.cell? ⟨g, k, none⟩ = some (.int .i64 n)) : (Instr.loadAt 3 (.pointer (some ⟨g, k, none⟩))).run Try.prog w = .ok (.int .i64 n) w := by simp [go_sem, h, Instr.loadAt]
theorem rf_loadi (hw : Region.wanted o (yieldD D a.tmps) = true) {t : Tmp} (hd : o.dst = some t) (x : Operand) (ho : o.op = .load 3 x) (g k : Nat) (hx : a.eval x = .pointer (some ⟨g, k, none⟩)) (n : Int)
    (hc : w.cell? ⟨g, k, none⟩ = some (.int .i64 n)) (h : Φ (.int .i64 n) w) : StepD Try.prog D Φ o a w := by
  refine step_val hw hd _ _ ?_ (Below.refl _ _) h
  unfold execOp
  rw [ho]
  simp only [hx, Sem.run_bind, rf_loadi_run g k n w hc, Result.andThen_ok]
  rfl
/-- The address of an element. -/
theorem rf_index (hw : Region.wanted o (yieldD D a.tmps) = true) {t : Tmp} (hd : o.dst = some t) (ty : TypeId) (x i : Operand) (ho : o.op = .indexAddr ty x i) (hu : P.underlying ty = some (.slice (P.elem ty))) (s : Nat) (hs : ∀ w : World, (sizeOf (P.elem ty)).run P w = .ok s w)
    (b f n c k : Nat) (z : Int) (hx : a.eval x = .slice (some ⟨b, f, none⟩) n c) (hi : a.eval i = .int .i64 z) (hz : z = (k : Int)) (hk : k < n) (h : Φ (.pointer (some ⟨b, f + k * s, none⟩)) w) : StepD P D Φ o a w :=
  step_val hw hd _ w (by
    subst hz
    unfold execOp
    rw [ho]
    have e := run_indexAt_slice (P := P) w ty ⟨b, f, none⟩ n c .i64 (k : Int) hu
    rw [if_pos ⟨by omega, by omega⟩, hs] at e
    simp only [hx, hi, Sem.run_bind, e, Result.andThen_ok]
    simp [Addr.add, go_sem]) (Below.refl _ _) h
/-- A whole struct out of memory. -/
theorem rf_loadS (hw : Region.wanted o (yieldD D a.tmps) = true) {t : Tmp} (hd : o.dst = some t) (T : TypeId) (x : Operand) (ho : o.op = .load T x) (g k : Nat) (hx : a.eval x = .pointer (some ⟨g, k, none⟩)) (cs : List Value)
    (hc : w.rangeAt g k cs) {d : TypeDesc} (hu : P.underlying T = some d) (hd2 : d.isRow = true) (hi : (P.info? T).map (·.size) = some cs.length) (h : Φ (.agg cs.toArray) w) : StepD P D Φ o a w := by
  intro Q
  rw [if_pos hw]
  exact wp_load_mid T x ho g k hx cs _ hc hu hd2 hi ⟨_, rfl, (fun hn => by rw [hd] at hn; cases hn), Below.refl _ _, h⟩
theorem rf_call_run {f : FuncId} {fn : Func} (hf : P.funcs[f]? = some fn) (hname : (fn.name == "runtime.NumGoroutine") = false) (hb : fn.body.isSome = true) (args : Array Operand) (tys : Array TypeId) (ho : o.op = .call { callee := .value (.func f), args := args, argTypes := tys }) : (execOp a.eval o).run P w = .ok (.enter f (args.map a.eval)) w := by
  have h1 : fn.name ≠ "runtime.NumGoroutine" := by simpa using hname
  obtain ⟨c, hc⟩ := Option.isSome_iff_exists.1 hb
  unfold execOp
  rw [ho]
  simp [resolve, Act.eval, callFunc, hf, h1, hc, go_sem]
/-! Tests and sums of integers. -/
theorem rf_in (x : Int) (h1 : -9223372036854775808 ≤ x) (h2 : x ≤ 9223372036854775807) : IntKind.i64.wrap x = x := by simp [IntKind.wrap, IntKind.bits, IntKind.signed]; omega
theorem rf_eql (hw : Region.wanted o (yieldD D a.tmps) = true) {t : Tmp} (hd : o.dst = some t) (x y : Operand) (ho : o.op = .binOp .eql 3 x y 3) (p q : Int) (hx : a.eval x = .int .i64 p) (hy : a.eval y = .int .i64 q) (b : Bool) (hb : (p == q) = b) (h : Φ (.bool b) w) : StepD Try.prog D Φ o a w :=
  step_val hw hd _ w (by subst hb; unfold execOp; rw [ho]; generalize a.eval = ev at hx hy ⊢; simp [hx, hy, go_sem]) (Below.refl _ _) h
theorem rf_neq (hw : Region.wanted o (yieldD D a.tmps) = true) {t : Tmp} (hd : o.dst = some t) (x y : Operand) (ho : o.op = .binOp .neq 3 x y 3) (p q : Int) (hx : a.eval x = .int .i64 p) (hy : a.eval y = .int .i64 q) (b : Bool) (hb : (p != q) = b) (h : Φ (.bool b) w) : StepD Try.prog D Φ o a w :=
  step_val hw hd _ w (by subst hb; unfold execOp; rw [ho]; generalize a.eval = ev at hx hy ⊢; simp [hx, hy, go_sem]) (Below.refl _ _) h
theorem rf_lss (hw : Region.wanted o (yieldD D a.tmps) = true) {t : Tmp} (hd : o.dst = some t) (x y : Operand) (ho : o.op = .binOp .lss 3 x y 3) (p q : Int) (hx : a.eval x = .int .i64 p) (hy : a.eval y = .int .i64 q) (b : Bool) (hb : (decide (p < q)) = b) (h : Φ (.bool b) w) : StepD Try.prog D Φ o a w :=
  step_val hw hd _ w (by subst hb; unfold execOp; rw [ho]; generalize a.eval = ev at hx hy ⊢; simp [hx, hy, go_sem]) (Below.refl _ _) h
theorem rf_leq (hw : Region.wanted o (yieldD D a.tmps) = true) {t : Tmp} (hd : o.dst = some t) (x y : Operand) (ho : o.op = .binOp .leq 3 x y 3) (p q : Int) (hx : a.eval x = .int .i64 p) (hy : a.eval y = .int .i64 q) (b : Bool) (hb : (decide (p ≤ q)) = b) (h : Φ (.bool b) w) : StepD Try.prog D Φ o a w :=
  step_val hw hd _ w (by subst hb; unfold execOp; rw [ho]; generalize a.eval = ev at hx hy ⊢; simp [hx, hy, go_sem]) (Below.refl _ _) h
theorem rf_gtr (hw : Region.wanted o (yieldD D a.tmps) = true) {t : Tmp} (hd : o.dst = some t) (x y : Operand) (ho : o.op = .binOp .gtr 3 x y 3) (p q : Int) (hx : a.eval x = .int .i64 p) (hy : a.eval y = .int .i64 q) (b : Bool) (hb : (decide (q < p)) = b) (h : Φ (.bool b) w) : StepD Try.prog D Φ o a w :=
  step_val hw hd _ w (by subst hb; unfold execOp; rw [ho]; generalize a.eval = ev at hx hy ⊢; simp [hx, hy, go_sem]) (Below.refl _ _) h
theorem rf_geq (hw : Region.wanted o (yieldD D a.tmps) = true) {t : Tmp} (hd : o.dst = some t) (x y : Operand) (ho : o.op = .binOp .geq 3 x y 3) (p q : Int) (hx : a.eval x = .int .i64 p) (hy : a.eval y = .int .i64 q) (b : Bool) (hb : (decide (q ≤ p)) = b) (h : Φ (.bool b) w) : StepD Try.prog D Φ o a w :=
  step_val hw hd _ w (by subst hb; unfold execOp; rw [ho]; generalize a.eval = ev at hx hy ⊢; simp [hx, hy, go_sem]) (Below.refl _ _) h
theorem rf_add (hw : Region.wanted o (yieldD D a.tmps) = true) {t : Tmp} (hd : o.dst = some t) (x y : Operand) (ho : o.op = .binOp .add 3 x y 3) (p q : Int) (hx : a.eval x = .int .i64 p) (hy : a.eval y = .int .i64 q) (h1 : -9223372036854775808 ≤ p + q) (h2 : p + q ≤ 9223372036854775807) (h : Φ (.int .i64 (p + q)) w) : StepD Try.prog D Φ o a w :=
  step_val hw hd _ w (by unfold execOp; rw [ho]; generalize a.eval = ev at hx hy ⊢; simp [hx, hy, go_sem]; exact rf_in _ h1 h2) (Below.refl _ _) h
theorem rf_sub (hw : Region.wanted o (yieldD D a.tmps) = true) {t : Tmp} (hd : o.dst = some t) (x y : Operand) (ho : o.op = .binOp .sub 3 x y 3) (p q : Int) (hx : a.eval x = .int .i64 p) (hy : a.eval y = .int .i64 q) (h1 : -9223372036854775808 ≤ p - q) (h2 : p - q ≤ 9223372036854775807) (h : Φ (.int .i64 (p - q)) w) : StepD Try.prog D Φ o a w :=
  step_val hw hd _ w (by unfold execOp; rw [ho]; generalize a.eval = ev at hx hy ⊢; simp [hx, hy, go_sem]; exact rf_in _ h1 h2) (Below.refl _ _) h
theorem rf_mul (hw : Region.wanted o (yieldD D a.tmps) = true) {t : Tmp} (hd : o.dst = some t) (x y : Operand) (ho : o.op = .binOp .mul 3 x y 3) (p q : Int) (hx : a.eval x = .int .i64 p) (hy : a.eval y = .int .i64 q) (h1 : -9223372036854775808 ≤ p * q) (h2 : p * q ≤ 9223372036854775807) (h : Φ (.int .i64 (p * q)) w) : StepD Try.prog D Φ o a w :=
  step_val hw hd _ w (by unfold execOp; rw [ho]; generalize a.eval = ev at hx hy ⊢; simp [hx, hy, go_sem]; exact rf_in _ h1 h2) (Below.refl _ _) h
theorem rf_rem (hw : Region.wanted o (yieldD D a.tmps) = true) {t : Tmp} (hd : o.dst = some t) (x y : Operand) (ho : o.op = .binOp .rem 3 x y 3) (p q : Int) (hx : a.eval x = .int .i64 p) (hy : a.eval y = .int .i64 q) (hq : 0 < q) (h : Φ (.int .i64 (p.tmod q)) w) : StepD Try.prog D Φ o a w :=
  step_val hw hd _ w (by unfold execOp; rw [ho]; generalize a.eval = ev at hx hy ⊢; have h0 : q ≠ 0 := by omega
                         simp [hx, hy, h0, go_sem]) (Below.refl _ _) h
/-- A cell that was there. -/
theorem rf_cell {w0 w : World} (hB : Below w0.heap.size w0 w) {p : Addr} {v : Value} (h : w0.cell? p = some v) : w.cell? p = some v := (hB.cell (block_lt_of_cell h)).trans h
theorem rf_two {g k : Nat} {x y : Value} (h1 : w.cell? ⟨g, k, none⟩ = some x) (h2 : w.cell? ⟨g, k + 1, none⟩ = some y) : w.rangeAt g k [x, y] := fun j v hj => by
  match j, hj with
  | 0, hj => rw [Nat.add_zero, h1]; simpa using hj
  | 1, hj => rw [h2]; simpa using hj
  | j + 2, hj => simp at hj
/-- A whole row reads from its first cell on. -/
theorem rf_range {g : Nat} {T : TypeId} {cs : Array Value} (h : Has w g T cs) : w.rangeAt g 0 cs.toList := fun j v hj => by
  rw [h.cell, Nat.zero_add]; simpa using hj
end

end Go.Proofs.Ytjgjbhbpndjnnaa

namespace Go.Proofs.Ytjgjbhbpndjnnaa
open Go.RowKit

section
variable {P : Program} {D : List (Option Tmp)} {Φ : Fact} {o : Oper} {a : Act} {w : World}
theorem rf_nilck (hw : Region.wanted o (yieldD D a.tmps) = true) {t : Tmp} (hd : o.dst = some t) (x : Operand) (ho : o.op = .nilCheck x) (ad : Addr) (hx : a.eval x = .pointer (some ad)) (h : Φ (.pointer (some ad)) w) : StepD P D Φ o a w :=
  step_val hw hd _ w (by unfold execOp; rw [ho]; generalize a.eval = ev at hx ⊢; simp [hx, go_sem]) (Below.refl _ _) h
theorem rf_load1 (hw : Region.wanted o (yieldD D a.tmps) = true) {t : Tmp} (hd : o.dst = some t) (T : TypeId) (x : Operand) (ho : o.op = .load T x) (g k : Nat) (hx : a.eval x = .pointer (some ⟨g, k, none⟩)) {v : Value}
    (hrun : (Instr.loadAt T (.pointer (some ⟨g, k, none⟩))).run P w = .ok v w) (h : Φ v w) : StepD P D Φ o a w := by
  refine step_val hw hd _ _ ?_ (Below.refl _ _) h
  unfold execOp
  rw [ho]
  simp only [hx, Sem.run_bind, hrun, Result.andThen_ok]
  rfl
end
theorem run_ldI {g k : Nat} {A : Option Addr} {m c : Nat} {w : World} (h : w.cell? ⟨g, k, none⟩ = some (.slice A m c)) : (Instr.loadAt 25 (.pointer (some ⟨g, k, none⟩))).run Try.prog w = .ok (.slice A m c) w := by simp [go_sem, h, Instr.loadAt]

end Go.Proofs.Ytjgjbhbpndjnnaa

namespace Go.Proofs.Ytjgjbhbpndjnnaa

theorem mask_of (n : Int) (p : Nat) (q : Int) (hp : p ≤ 62) (h : (BitVec.ofInt 64 q).toNat = 2 ^ p - 1) : bits .and .i64 n q = n % ((2 ^ p : Nat) : Int) := by
  have e : (BitVec.ofInt 64 n &&& BitVec.ofInt 64 q).toNat = (n % ((2 ^ 64 : Nat) : Int)).toNat % 2 ^ p := by
    rw [BitVec.toNat_and, BitVec.toNat_ofInt, h, Nat.and_two_pow_sub_one_eq_mod]
  show IntKind.i64.wrap ((BitVec.ofInt 64 n &&& BitVec.ofInt 64 q).toNat : Nat) = _
  rw [e, IntKind.wrap_i64]
  have hd : (2 ^ p : Nat) ∣ 2 ^ 64 := Nat.pow_dvd_pow 2 (by omega)
  have hlt : (n % ((2 ^ 64 : Nat) : Int)).toNat % 2 ^ p < 2 ^ 62 + 1 := by
    have h1 := Nat.mod_lt (n % ((2 ^ 64 : Nat) : Int)).toNat (Nat.pow_pos (n := p) (show 0 < 2 by decide))
    have h2 : 2 ^ p ≤ 2 ^ 62 := Nat.pow_le_pow_right (by decide) hp
    omega
  have hn : 0 ≤ n % ((2 ^ 64 : Nat) : Int) := Int.emod_nonneg _ (by decide)
  have h3 : (((n % ((2 ^ 64 : Nat) : Int)).toNat % 2 ^ p : Nat) : Int) = n % ((2 ^ p : Nat) : Int) := by
    rw [Int.natCast_emod, Int.toNat_of_nonneg hn]
    exact Int.emod_emod_of_dvd n (Int.natCast_dvd_natCast.2 hd)
  rw [← h3]
  omega
theorem mask3 (n : Int) : bits .and .i64 n 3 = n % 4 := mask_of n 2 3 (by decide) (by decide)
theorem mask7 (n : Int) : bits .and .i64 n 7 = n % 8 := mask_of n 3 7 (by decide) (by decide)
theorem mask255 (n : Int) : bits .and .i64 n 255 = n % 256 := mask_of n 8 255 (by decide) (by decide)
theorem mask1023 (n : Int) : bits .and .i64 n 1023 = n % 1024 := mask_of n 10 1023 (by decide) (by decide)

end Go.Proofs.Ytjgjbhbpndjnnaa

namespace Go.Proofs.Ytjgjbhbpndjnnaa
open Go.RowKit

set_option maxRecDepth 100000 in
theorem mask1 (n : Int) : bits .and .i64 n 1 = n % 2 := mask_of n 1 1 (by decide) (by decide)
set_option maxRecDepth 100000 in
theorem mask31 (n : Int) : bits .and .i64 n 31 = n % 32 := mask_of n 5 31 (by decide) (by decide)
set_option maxRecDepth 100000 in
theorem mask127 (n : Int) : bits .and .i64 n 127 = n % 128 := mask_of n 7 127 (by decide) (by decide)
section
variable {D : List (Option Tmp)} {Φ : Fact} {o : Oper} {a : Act} {w : World}
set_option maxRecDepth 100000 in
theorem rf_and (hw : Region.wanted o (yieldD D a.tmps) = true) {t : Tmp} (hd : o.dst = some t) (x y : Operand) (ho : o.op = .binOp .and 3 x y 3) (p q r : Int) (hx : a.eval x = .int .i64 p) (hy : a.eval y = .int .i64 q) (hr : bits .and .i64 p q = r) (h : Φ (.int .i64 r) w) : StepD Try.prog D Φ o a w := by
  refine step_val hw hd _ _ ?_ (Below.refl _ _) h
  unfold execOp
  rw [ho]
  simp only [hx, hy]
  simp [go_sem, hr]
set_option maxRecDepth 100000 in
theorem rf_shr1 (hw : Region.wanted o (yieldD D a.tmps) = true) {t : Tmp} (hd : o.dst = some t) (x y : Operand) (ho : o.op = .binOp .shr 3 x y 69) (m : Int) (hx : a.eval x = .int .i64 m) (hy : a.eval y = .int .u64 1)
    (h : Φ (.int .i64 (m / 2)) w) : StepD Try.prog D Φ o a w := by
  refine step_val hw hd _ _ ?_ (Below.refl _ _) h
  unfold execOp
  rw [ho]
  simp only [hx, hy]
  simp [go_sem]
set_option maxRecDepth 100000 in
theorem rf_shr2 (hw : Region.wanted o (yieldD D a.tmps) = true) {t : Tmp} (hd : o.dst = some t) (x y : Operand) (ho : o.op = .binOp .shr 3 x y 69) (m : Int) (hx : a.eval x = .int .i64 m) (hy : a.eval y = .int .u64 2)
    (h : Φ (.int .i64 (m / 4)) w) : StepD Try.prog D Φ o a w := by
  refine step_val hw hd _ _ ?_ (Below.refl _ _) h
  unfold execOp
  rw [ho]
  simp only [hx, hy]
  simp [go_sem]
set_option maxRecDepth 100000 in
theorem rf_shr7 (hw : Region.wanted o (yieldD D a.tmps) = true) {t : Tmp} (hd : o.dst = some t) (x y : Operand) (ho : o.op = .binOp .shr 3 x y 69) (m : Int) (hx : a.eval x = .int .i64 m) (hy : a.eval y = .int .u64 7)
    (h : Φ (.int .i64 (m / 128)) w) : StepD Try.prog D Φ o a w := by
  refine step_val hw hd _ _ ?_ (Below.refl _ _) h
  unfold execOp
  rw [ho]
  simp only [hx, hy]
  simp [go_sem]
set_option maxRecDepth 100000 in
theorem rf_addr (hw : Region.wanted o (yieldD D a.tmps) = true) {t : Tmp} (hd : o.dst = some t) (x y : Operand) (ho : o.op = .binOp .add 3 x y 3) (p q r : Int) (hx : a.eval x = .int .i64 p) (hy : a.eval y = .int .i64 q) (hr : p + q = r) (h1 : -9223372036854775808 ≤ r) (h2 : r ≤ 9223372036854775807) (h : Φ (.int .i64 r) w) : StepD Try.prog D Φ o a w := by
  subst hr
  exact rf_add hw hd x y ho p q hx hy h1 h2 h
set_option maxRecDepth 100000 in
theorem rf_subq (hw : Region.wanted o (yieldD D a.tmps) = true) {t : Tmp} (hd : o.dst = some t) (x y : Operand) (ho : o.op = .binOp .sub 3 x y 3) (p q r : Int) (hx : a.eval x = .int .i64 p) (hy : a.eval y = .int .i64 q) (hr : p - q = r) (h1 : -9223372036854775808 ≤ r) (h2 : r ≤ 9223372036854775807) (h : Φ (.int .i64 r) w) : StepD Try.prog D Φ o a w := by
  subst hr
  exact rf_sub hw hd x y ho p q hx hy h1 h2 h
set_option maxRecDepth 100000 in
theorem rf_indexN (hw : Region.wanted o (yieldD D a.tmps) = true) {t : Tmp} (hd : o.dst = some t) (x i : Operand) (ho : o.op = .indexAddr 25 x i)
    (b f n c k : Nat) (z : Int) (hx : a.eval x = .slice (some ⟨b, f, none⟩) n c) (hi : a.eval i = .int .i64 z) (hz : z = (k : Int)) (hk : k < n) (h : Φ (.pointer (some ⟨b, f + k, none⟩)) w) : StepD Try.prog D Φ o a w :=
  rf_index (s := 1) hw hd 25 x i ho Try.underlying25 (fun _ => by kernel_rfl) b f n c k z hx hi hz hk (by rw [Nat.mul_one]; exact h)
end

end Go.Proofs.Ytjgjbhbpndjnnaa

namespace Go.Proofs.Ytjgjbhbpndjnnaa
open Go.RowKit

theorem one_hlen (x : It) (bs : List Int) : (oneAc x bs).h.length = bs.length + 1 := by simp [oneAc]
theorem add_start (bs : List Int) (X : Ac) (h : X.h.length = bs.length + 1) : addAc (startJ bs) X = X := by
  obtain ⟨n, s, mn, mx, f, l, hh⟩ := X
  simp only [addAc, startJ, Int.zero_add, if_true, Ac.mk.injEq, true_and]
  refine nth_ext (by simpa using h.symm) fun i hi => ?_
  have hi' : i < bs.length + 1 := by simpa using hi
  rw [nth_range_map _ _ (by simpa using hi')]
  have e : nth (List.replicate (bs.length + 1) 0) i = 0 := by simp [nth, hi']
  rw [e]; simp
theorem isum_one (n : Nat) {k : Nat} (hk : k < n) : isum ((List.replicate n 0).set k 1) = 1 := by
  have h0 : ∀ n : Nat, isum (List.replicate n 0) = 0 := fun n => by induction n with
    | zero => rfl
    | succ n ih => simp only [List.replicate_succ, isum, ih]; rfl
  induction n generalizing k with
  | zero => omega
  | succ n ih =>
    cases k with
    | zero => simp only [List.replicate_succ, List.set_cons_zero, isum, h0]; rfl
    | succ k =>
      have := ih (k := k) (by omega)
      simp only [List.replicate_succ, List.set_cons_succ, isum, this]; rfl
theorem one_fit {x : It} {bs : List Int} (hx : itemB x = true) : fitB (oneAc x bs) (bs.length + 1) = true := by
  have hk : bkt bs x.v < bs.length + 1 := by have := bkt_le bs x.v; omega
  have hr : ∀ i, i < bs.length + 1 → 0 ≤ nth ((List.replicate (bs.length + 1) 0).set (bkt bs x.v) 1) i ∧ nth ((List.replicate (bs.length + 1) 0).set (bkt bs x.v) 1) i ≤ 8192 := fun i hi => by
    by_cases e : bkt bs x.v = i
    · subst e
      have e2 : nth ((List.replicate (bs.length + 1) 0).set (bkt bs x.v) 1) (bkt bs x.v) = 1 := by simp [nth, hi]
      omega
    · have e2 : nth ((List.replicate (bs.length + 1) 0).set (bkt bs x.v) 1) i = 0 := by simp [nth, e, hi]
      omega
  have hv := itemB_iff.1 hx
  have e1 : wi (oneAc x bs).n 0 8192 = true := wi_mk (by simp only [oneAc]; omega)
  have e2 : histB (oneAc x bs) (bs.length + 1) = true := decide_eq_true ⟨by simp [oneAc], fun i hi => hr i (by simpa [oneAc] using hi), isum_one _ hk⟩
  have e3 : endsB (oneAc x bs) = true := decide_eq_true ⟨hx, hx, rfl, by simp [oneAc, beforeB]⟩
  have e4 : valsB (oneAc x bs) = true := decide_eq_true (by simp only [oneAc]; omega)
  have e5 : ¬ (oneAc x bs).n = 0 := by simp only [oneAc]; decide
  unfold fitB
  rw [e1, e2, e3, e4, if_neg e5]
  rfl
theorem start_fit (bs : List Int) : fitB (startJ bs) (bs.length + 1) = true := by
  have hr : ∀ i, i < bs.length + 1 → nth (List.replicate (bs.length + 1) 0) i = 0 := fun i hi => by simp [nth, hi]
  have h0 : ∀ n : Nat, isum (List.replicate n 0) = 0 := fun n => by induction n with
    | zero => rfl
    | succ n ih => simp only [List.replicate_succ, isum, ih]; rfl
  have e2 : histB (startJ bs) (bs.length + 1) = true := decide_eq_true ⟨by simp [startJ], fun i hi => by
    have := hr i (by simpa [startJ] using hi)
    simp only [startJ]; omega, h0 _⟩
  have e3 : zeroB (startJ bs) = true := decide_eq_true (by simp [startJ, zeroIt])
  have e1 : wi (startJ bs).n 0 8192 = true := wi_mk (by simp only [startJ]; omega)
  have e5 : (startJ bs).n = 0 := rfl
  unfold fitB
  rw [e1, e2, if_pos e5, e3]
  rfl
theorem start_hlen (bs : List Int) : (startJ bs).h.length = bs.length + 1 := by simp [startJ]
theorem one_Fit {x : It} {bs : List Int} (hx : itemB x = true) : Fit (bs.length + 1) (oneAc x bs) := by
  have := one_fit (bs := bs) hx
  exact fit_of (m := bs.length + 1) this

/-! Some items, one behind the other. -/
def ones (bs : List Int) (xs : List It) : List Ac := xs.map (oneAc · bs)
theorem ones_len (bs : List Int) (xs : List It) : (ones bs xs).length = xs.length := by simp [ones]
theorem ones_at (bs : List Int) (xs : List It) {i : Nat} (h : i < xs.length) : nthA (ones bs xs) i = oneAc (nthI xs i) bs := by
  simp [nthA, ones, nthI, h]
theorem isum_rep (n : Nat) : isum (List.replicate n 1) = n := by
  induction n with
  | zero => rfl
  | succ n ih => simp only [List.replicate_succ, isum, ih]; omega
theorem ones_ns (bs : List Int) (xs : List It) : (ones bs xs).map (·.n) = List.replicate xs.length 1 := by
  apply List.ext_getElem
  · simp [ones]
  · intro i h1 h2
    simp [ones, oneAc]
theorem ones_total (bs : List Int) (xs : List It) : totalA (ones bs xs) = xs.length := by
  unfold totalA; rw [ones_ns, isum_rep]
def foldTo (bs : List Int) (xs : List It) (j : Nat) : Ac := joinTo (bs.length + 1) (ones bs xs) j
def foldA (bs : List Int) (xs : List It) : Ac := joinAc bs (ones bs xs)
theorem foldTo_n (bs : List Int) (xs : List It) {j : Nat} (h : j ≤ xs.length) : (foldTo bs xs j).n = j := by
  unfold foldTo
  rw [joinTo_n (by rw [ones_len]; exact h), List.map_take, ones_ns, List.take_replicate, isum_rep]
  omega
theorem foldTo_zero (bs : List Int) (xs : List It) : foldTo bs xs 0 = startJ bs := rfl
theorem foldTo_succ (bs : List Int) (xs : List It) {j : Nat} (h : j < xs.length) : foldTo bs xs (j + 1) = addAc (foldTo bs xs j) (oneAc (nthI xs j) bs) := by
  unfold foldTo
  rw [joinTo_succ (by rw [ones_len]; exact h), ones_at bs xs h]
  have : ¬ (oneAc (nthI xs j) bs).n = 0 := by simp only [oneAc]; decide
  simp only [joinStep, this, if_false]
theorem foldTo_one (bs : List Int) (xs : List It) (h : 0 < xs.length) : foldTo bs xs 1 = oneAc (nthI xs 0) bs := by
  rw [foldTo_succ bs xs h, foldTo_zero, add_start]
  exact one_hlen _ _
theorem foldTo_fit (bs : List Int) (xs : List It) (hx : ∀ i, i < xs.length → itemB (nthI xs i) = true) (hn : xs.length ≤ 8192) {j : Nat} (h : j ≤ xs.length) : Fit (bs.length + 1) (foldTo bs xs j) :=
  joinTo_fit (fun i hi => by rw [ones_len] at hi; rw [ones_at bs xs hi]; exact one_Fit (hx i hi)) (by rw [ones_total]; omega) (by rw [ones_len]; exact h)
theorem foldTo_all (bs : List Int) (xs : List It) {j : Nat} (h : xs.length ≤ j) : foldTo bs xs j = foldA bs xs := joinTo_all (by rw [ones_len]; exact h)

end Go.Proofs.Ytjgjbhbpndjnnaa
