/-
  Single operations of a region whose facts are shown one by one (XAny): picks, guards that are shut, addresses, loads, tests, lengths, extracts, calls. (What gen/rf.py writes leans on this.)
  Walk of the leaf rules.Within; answers that are one. (Out of XLeaf.)
  Walks: rules.Bounds, the reference's BoundsMay.
  Walks of the leaves: rules.Item, cmp.Compare, the reference's within.
  Walks: cmp.Or at two values, rules.Compare.
-/
import Derived.Test.YtbpaepkcchpmbaaGreatG1
import Derived.Test.YtbpaepkcchpmbaaGreatProg
import Derived.Deep.MidRow
import Derived.Test.YtbpaepkcchpmbaaGreatG0
import Derived.WalkKit
import Derived.WalkSpells
import Derived.WalkLawsBesides
import Derived.BigQuiet
import Derived.Lib.Hide
import Derived.Deep.QuietTactic
import Derived.StillTailTactics
import Derived.Deep.RegionHeld3
namespace Go.Proofs.YtbpaepkcchpmbaaGreat
open Go.RowKit

section
variable {P : Program} {D : List (Option Tmp)} {Φ : Fact} {o : Oper} {a : Act} {w : World}
theorem rf_slot {t : Nat} {v : Value} (hv : a.tmps.getD t undef = v) (hne : v ≠ undef) : a.tmps[t]? = some v := by
  rw [Array.getD_eq_getD_getElem?] at hv
  cases h : a.tmps[t]? with
  | none => rw [h] at hv; exact absurd hv.symm hne
  | some x => rw [h] at hv; rw [← hv]; rfl
theorem rf_open {i t : Nat} (b : Bool) (hg : o.guard = some (i, b)) (hd : (D[i]?).join = some t) (hv : a.tmps.getD t undef = .bool b) : Region.wanted o (yieldD D a.tmps) = true := by
  have h2 := rf_slot hv (by simp [undef])
  unfold Region.wanted
  rw [hg]
  simp [yieldD, hd, h2]
theorem rf_shut {i t : Nat} (b : Bool) (hg : o.guard = some (i, b)) (hd : (D[i]?).join = some t) (hv : a.tmps.getD t undef = .bool (!b)) (h : Φ undef w) : StepD P D Φ o a w := by
  have h2 := rf_slot hv (by simp [undef])
  have h3 : Region.wanted o (yieldD D a.tmps) = false := by
    unfold Region.wanted
    rw [hg]
    cases b <;> simp [yieldD, hd, h2]
  intro Q
  rw [h3]
  exact h
/-- A guard that was itself left out. -/
theorem rf_shutu {i t : Nat} (b : Bool) (hg : o.guard = some (i, b)) (hd : (D[i]?).join = some t) (hv : a.tmps.getD t undef = undef) (h : Φ undef w) : StepD P D Φ o a w := by
  have h3 : Region.wanted o (yieldD D a.tmps) = false := by
    unfold Region.wanted
    rw [hg]
    cases ht : a.tmps[t]? with
    | none => simp [yieldD, hd, ht]
    | some x =>
      have hx : x = undef := by rw [Array.getD_eq_getD_getElem?, ht] at hv; exact hv
      subst hx
      simp [yieldD, hd, ht, undef]
  intro Q
  rw [h3]
  exact h
theorem rf_pick (hw : Region.wanted o (yieldD D a.tmps) = true) {t : Tmp} (hd : o.dst = some t) (c x y : Operand) (ho : o.op = .pick c x y) (b : Bool) (hc : a.eval c = .bool b) (h : Φ (if b then a.eval x else a.eval y) w) : StepD P D Φ o a w :=
  step_val hw hd _ _ (by unfold execOp; rw [ho]; simp only [hc]; cases b <;> rfl) (Below.refl _ _) h
theorem rf_extract (hw : Region.wanted o (yieldD D a.tmps) = true) {t : Tmp} (hd : o.dst = some t) (x : Operand) (i : Nat) (ho : o.op = .extract x i) (vs : Array Value) (v : Value) (hx : a.eval x = .tuple vs) (hv : vs[i]? = some v) (h : Φ v w) : StepD P D Φ o a w :=
  step_val hw hd v w (by unfold execOp; rw [ho]; generalize a.eval = ev at hx ⊢; simp [hx, hv, go_sem]) (Below.refl _ _) h
theorem rf_len (hw : Region.wanted o (yieldD D a.tmps) = true) {t : Tmp} (hd : o.dst = some t) (x : Operand) (ty : TypeId) (ho : o.op = .call { callee := .builtin .len, args := #[x], argTypes := #[ty] }) (hu : P.underlying ty = some (.slice (P.elem ty))) (A : Option Addr) (n c : Nat) (hx : a.eval x = .slice A n c) (h : Φ (.int .i64 n) w) : StepD P D Φ o a w :=
  step_val hw hd _ w (by unfold execOp; rw [ho]; generalize a.eval = ev at hx ⊢; simp [hx, run_len_slice w ty _ A n c hu, go_sem]) (Below.refl _ _) h
theorem rf_faddr (hw : Region.wanted o (yieldD D a.tmps) = true) {t : Tmp} (hd : o.dst = some t) (T : TypeId) (x : Operand) (f : Nat) (ho : o.op = .fieldAddr T x f) (g i k j : Nat) (hx : a.eval x = .pointer (some ⟨g, i, none⟩)) (hj : j = i + k)
    (hrun : ∀ (i : Nat) (w : World), (Instr.fieldAt T (.pointer (some ⟨g, i, none⟩)) f).run P w = .ok (.pointer (some ⟨g, i + k, none⟩)) w) (h : Φ (.pointer (some ⟨g, j, none⟩)) w) : StepD P D Φ o a w := by
  subst hj
  refine step_val hw hd _ _ ?_ (Below.refl _ _) h
  unfold execOp
  rw [ho]
  simp only [hx, Sem.run_bind, hrun, Result.andThen_ok]
  rfl
theorem rf_loadi_run (g k : Nat) (n : Int) (w : World) (h : w.cell? ⟨g, k, none⟩ = some (.int .i64 n)) : (Instr.loadAt 3 (.pointer (some ⟨g, k, none⟩))).run Tryz.prog w = .ok (.int .i64 n) w := by simp [go_sem, h, Instr.loadAt]
theorem rf_loadi (hw : Region.wanted o (yieldD D a.tmps) = true) {t : Tmp} (hd : o.dst = some t) (x : Operand) (ho : o.op = .load 3 x) (g k : Nat) (hx : a.eval x = .pointer (some ⟨g, k, none⟩)) (n : Int)
    (hc : w.cell? ⟨g, k, none⟩ = some (.int .i64 n)) (h : Φ (.int .i64 n) w) : StepD Tryz.prog D Φ o a w := by
  refine step_val hw hd _ _ ?_ (Below.refl _ _) h
  unfold execOp
  rw [ho]
  simp only [hx, Sem.run_bind, rf_loadi_run g k n w hc, Result.andThen_ok]
  rfl
/-- The address of an element. -/
theorem rf_index (hw : Region.wanted o (yieldD D a.tmps) = true) {t : Tmp} (hd : o.dst = some t) (ty : TypeId) (x i : Operand) (ho : o.op = .indexAddr ty x i) (hu : P.underlying ty = some (.slice (P.elem ty))) (s : Nat) (hs : ∀ w : World, (sizeOf (P.elem ty)).run P w = .ok s w)
    (b f n c k : Nat) (z : Int) (hx : a.eval x = .slice (some ⟨b, f, none⟩) n c) (hi : a.eval i = .int .i64 z) (hz : z = (k : Int)) (hk : k < n) (h : Φ (.pointer (some ⟨b, f + k * s, none⟩)) w) : StepD P D Φ o a w :=
  step_val hw hd _ w (by
    subst hz
    unfold execOp
    rw [ho]
    have e := run_indexAt_slice (P := P) w ty ⟨b, f, none⟩ n c .i64 (k : Int) hu
    rw [if_pos ⟨by omega, by omega⟩, hs] at e
    simp only [hx, hi, Sem.run_bind, e, Result.andThen_ok]
    simp [Addr.add, go_sem]) (Below.refl _ _) h
/-- A whole struct out of memory. -/
theorem rf_loadS (hw : Region.wanted o (yieldD D a.tmps) = true) {t : Tmp} (hd : o.dst = some t) (T : TypeId) (x : Operand) (ho : o.op = .load T x) (g k : Nat) (hx : a.eval x = .pointer (some ⟨g, k, none⟩)) (cs : List Value)
    (hc : w.rangeAt g k cs) {d : TypeDesc} (hu : P.underlying T = some d) (hd2 : d.isRow = true) (hi : (P.info? T).map (·.size) = some cs.length) (h : Φ (.agg cs.toArray) w) : StepD P D Φ o a w := by
  intro Q
  rw [if_pos hw]
  exact wp_load_mid T x ho g k hx cs _ hc hu hd2 hi ⟨_, rfl, (fun hn => by rw [hd] at hn; cases hn), Below.refl _ _, h⟩
theorem rf_call_run {f : FuncId} {fn : Func} (hf : P.funcs[f]? = some fn) (hname : (fn.name == "runtime.NumGoroutine") = false) (hb : fn.body.isSome = true) (args : Array Operand) (tys : Array TypeId) (ho : o.op = .call { callee := .value (.func f), args := args, argTypes := tys }) : (execOp a.eval o).run P w = .ok (.enter f (args.map a.eval)) w := by
  have h1 : fn.name ≠ "runtime.NumGoroutine" := by simpa using hname
  obtain ⟨c, hc⟩ := Option.isSome_iff_exists.1 hb
  unfold execOp
  rw [ho]
  simp [resolve, Act.eval, callFunc, hf, h1, hc, go_sem]
/-! Tests and sums of integers. -/
theorem rf_in (x : Int) (h1 : -9223372036854775808 ≤ x) (h2 : x ≤ 9223372036854775807) : IntKind.i64.wrap x = x := by simp [IntKind.wrap, IntKind.bits, IntKind.signed]; omega
theorem rf_eql (hw : Region.wanted o (yieldD D a.tmps) = true) {t : Tmp} (hd : o.dst = some t) (x y : Operand) (ho : o.op = .binOp .eql 3 x y 3) (p q : Int) (hx : a.eval x = .int .i64 p) (hy : a.eval y = .int .i64 q) (b : Bool) (hb : (p == q) = b) (h : Φ (.bool b) w) : StepD Tryz.prog D Φ o a w :=
  step_val hw hd _ w (by subst hb; unfold execOp; rw [ho]; generalize a.eval = ev at hx hy ⊢; simp [hx, hy, go_sem]) (Below.refl _ _) h
theorem rf_neq (hw : Region.wanted o (yieldD D a.tmps) = true) {t : Tmp} (hd : o.dst = some t) (x y : Operand) (ho : o.op = .binOp .neq 3 x y 3) (p q : Int) (hx : a.eval x = .int .i64 p) (hy : a.eval y = .int .i64 q) (b : Bool) (hb : (p != q) = b) (h : Φ (.bool b) w) : StepD Tryz.prog D Φ o a w :=
  step_val hw hd _ w (by subst hb; unfold execOp; rw [ho]; generalize a.eval = ev at hx hy ⊢; simp [hx, hy, go_sem]) (Below.refl _ _) h
theorem rf_lss (hw : Region.wanted o (yieldD D a.tmps) = true) {t : Tmp} (hd : o.dst = some t) (x y : Operand) (ho : o.op = .binOp .lss 3 x y 3) (p q : Int) (hx : a.eval x = .int .i64 p) (hy : a.eval y = .int .i64 q) (b : Bool) (hb : (decide (p < q)) = b) (h : Φ (.bool b) w) : StepD Tryz.prog D Φ o a w :=
  step_val hw hd _ w (by subst hb; unfold execOp; rw [ho]; generalize a.eval = ev at hx hy ⊢; simp [hx, hy, go_sem]) (Below.refl _ _) h
theorem rf_leq (hw : Region.wanted o (yieldD D a.tmps) = true) {t : Tmp} (hd : o.dst = some t) (x y : Operand) (ho : o.op = .binOp .leq 3 x y 3) (p q : Int) (hx : a.eval x = .int .i64 p) (hy : a.eval y = .int .i64 q) (b : Bool) (hb : (decide (p ≤ q)) = b) (h : Φ (.bool b) w) : StepD Tryz.prog D Φ o a w :=
  step_val hw hd _ w (by subst hb; unfold execOp; rw [ho]; generalize a.eval = ev at hx hy ⊢; simp [hx, hy, go_sem]) (Below.refl _ _) h
theorem rf_gtr (hw : Region.wanted o (yieldD D a.tmps) = true) {t : Tmp} (hd : o.dst = some t) (x y : Operand) (ho : o.op = .binOp .gtr 3 x y 3) (p q : Int) (hx : a.eval x = .int .i64 p) (hy : a.eval y = .int .i64 q) (b : Bool) (hb : (decide (q < p)) = b) (h : Φ (.bool b) w) : StepD Tryz.prog D Φ o a w :=
  step_val hw hd _ w (by subst hb; unfold execOp; rw [ho]; generalize a.eval = ev at hx hy ⊢; simp [hx, hy, go_sem]) (Below.refl _ _) h
theorem rf_geq (hw : Region.wanted o (yieldD D a.tmps) = true) {t : Tmp} (hd : o.dst = some t) (x y : Operand) (ho : o.op = .binOp .geq 3 x y 3) (p q : Int) (hx : a.eval x = .int .i64 p) (hy : a.eval y = .int .i64 q) (b : Bool) (hb : (decide (q ≤ p)) = b) (h : Φ (.bool b) w) : StepD Tryz.prog D Φ o a w :=
  step_val hw hd _ w (by subst hb; unfold execOp; rw [ho]; generalize a.eval = ev at hx hy ⊢; simp [hx, hy, go_sem]) (Below.refl _ _) h
theorem rf_add (hw : Region.wanted o (yieldD D a.tmps) = true) {t : Tmp} (hd : o.dst = some t) (x y : Operand) (ho : o.op = .binOp .add 3 x y 3) (p q : Int) (hx : a.eval x = .int .i64 p) (hy : a.eval y = .int .i64 q) (h1 : -9223372036854775808 ≤ p + q) (h2 : p + q ≤ 9223372036854775807) (h : Φ (.int .i64 (p + q)) w) : StepD Tryz.prog D Φ o a w :=
  step_val hw hd _ w (by unfold execOp; rw [ho]; generalize a.eval = ev at hx hy ⊢; simp [hx, hy, go_sem]; exact rf_in _ h1 h2) (Below.refl _ _) h
theorem rf_sub (hw : Region.wanted o (yieldD D a.tmps) = true) {t : Tmp} (hd : o.dst = some t) (x y : Operand) (ho : o.op = .binOp .sub 3 x y 3) (p q : Int) (hx : a.eval x = .int .i64 p) (hy : a.eval y = .int .i64 q) (h1 : -9223372036854775808 ≤ p - q) (h2 : p - q ≤ 9223372036854775807) (h : Φ (.int .i64 (p - q)) w) : StepD Tryz.prog D Φ o a w :=
  step_val hw hd _ w (by unfold execOp; rw [ho]; generalize a.eval = ev at hx hy ⊢; simp [hx, hy, go_sem]; exact rf_in _ h1 h2) (Below.refl _ _) h
theorem rf_mul (hw : Region.wanted o (yieldD D a.tmps) = true) {t : Tmp} (hd : o.dst = some t) (x y : Operand) (ho : o.op = .binOp .mul 3 x y 3) (p q : Int) (hx : a.eval x = .int .i64 p) (hy : a.eval y = .int .i64 q) (h1 : -9223372036854775808 ≤ p * q) (h2 : p * q ≤ 9223372036854775807) (h : Φ (.int .i64 (p * q)) w) : StepD Tryz.prog D Φ o a w :=
  step_val hw hd _ w (by unfold execOp; rw [ho]; generalize a.eval = ev at hx hy ⊢; simp [hx, hy, go_sem]; exact rf_in _ h1 h2) (Below.refl _ _) h
theorem rf_rem (hw : Region.wanted o (yieldD D a.tmps) = true) {t : Tmp} (hd : o.dst = some t) (x y : Operand) (ho : o.op = .binOp .rem 3 x y 3) (p q : Int) (hx : a.eval x = .int .i64 p) (hy : a.eval y = .int .i64 q) (hq : 0 < q) (h : Φ (.int .i64 (p.tmod q)) w) : StepD Tryz.prog D Φ o a w :=
  step_val hw hd _ w (by unfold execOp; rw [ho]; generalize a.eval = ev at hx hy ⊢; have h0 : q ≠ 0 := by omega
                         simp [hx, hy, h0, go_sem]) (Below.refl _ _) h
/-- A cell that was there. -/
theorem rf_cell {w0 w : World} (hB : Below w0.heap.size w0 w) {p : Addr} {v : Value} (h : w0.cell? p = some v) : w.cell? p = some v := (hB.cell (block_lt_of_cell h)).trans h
theorem rf_two {g k : Nat} {x y : Value} (h1 : w.cell? ⟨g, k, none⟩ = some x) (h2 : w.cell? ⟨g, k + 1, none⟩ = some y) : w.rangeAt g k [x, y] := fun j v hj => by
  match j, hj with
  | 0, hj => rw [Nat.add_zero, h1]; simpa using hj
  | 1, hj => rw [h2]; simpa using hj
  | j + 2, hj => simp at hj
/-- A whole row reads from its first cell on. -/
theorem rf_range {g : Nat} {T : TypeId} {cs : Array Value} (h : Has w g T cs) : w.rangeAt g 0 cs.toList := fun j v hj => by
  rw [h.cell, Nat.zero_add]; simpa using hj
end

end Go.Proofs.YtbpaepkcchpmbaaGreat

namespace Go.Proofs.YtbpaepkcchpmbaaGreat
open Go.RowKit

theorem ret_int {k : IntKind} {a b : Int} (h : a = b) : Ending.returned (.int k a) = .returned (.int k b) := by rw [h]
theorem ret_bool {a b : Bool} (h : a = b) : Ending.returned (.bool a) = .returned (.bool b) := by rw [h]

set_option maxRecDepth 100000 in
set_option maxHeartbeats 400000 in
theorem within_any (n lo hi : Int) (w : World) :
    Calls Tryz.prog 75 #[.int .i64 n, .int .i64 lo, .int .i64 hi] w fun e w' => e = .returned (.bool (wi n lo hi)) ∧ w = w' := by
  by_cases h1 : lo ≤ n
  · by_cases h2 : n ≤ hi
    · rw [wi_mk ⟨h1, h2⟩]
      go_enter Tryz.func75, Tryz.ntmps75
      go_wp2
      go_ret
      exact ⟨rfl, rfl⟩
    · rw [wi_false (by omega)]
      go_enter Tryz.func75, Tryz.ntmps75
      go_wp2
      go_ret
      exact ⟨rfl, rfl⟩
  · rw [wi_false (by omega)]
    go_enter Tryz.func75, Tryz.ntmps75
    go_wp2
    go_ret
    exact ⟨rfl, rfl⟩

end Go.Proofs.YtbpaepkcchpmbaaGreat

namespace Go.Proofs.YtbpaepkcchpmbaaGreat
open Go.RowKit

set_option maxRecDepth 100000 in
set_option maxHeartbeats 1000000 in
theorem bounds_any (A : Option Addr) (n c : Nat) (bs : List Int) (w : World) (hr : Ints w A n bs) (hn : n ≤ maxLen) :
    Calls Tryz.prog 204 #[.slice A n c] w fun e w' => e = .returned (.bool (boundsB bs)) ∧ ∃ k, w' = w.drewN k := by
  have hlen := hr.1
  unfold maxLen at hn
  by_cases h8 : 8 < n
  · have hb : boundsB bs = false := boundsB_false (by rw [hlen]; omega)
    rw [hb]
    clear hb
    have HL := Lib.hid hlen; clear hlen
    go_enter Tryz.func204, Tryz.ntmps204
    go_wp2
    go_ret
    exact ⟨rfl, 0, rfl⟩
  · have HL := Lib.hid hlen; clear hlen
    go_enter Tryz.func204, Tryz.ntmps204
    go_wp2
    go_loop [11] (fun i => ∃ k : Nat, k ≤ n ∧ i = .int .i64 k ∧ ∀ i, i < k → inV (nth bs i) = true) (fun i => n - (intOf i).toNat)
    case atStart => exact ⟨0, Nat.zero_le _, rfl, fun i hi => absurd hi (Nat.not_lt_zero _)⟩
    case round =>
      obtain ⟨k, hk, rfl, hall⟩ := hrel
      have HA := Lib.hid hall; clear hall
      by_cases hlt : k < n
      · obtain ⟨b, o, rfl, hc⟩ := hr.at_ hlt
        have hcell := hc k hlt
        clear hc
        cases hv : wi (nth bs k) (-1099511627776) 1099511627776
        · go_wp2_with (go_at_call 75; refine (within_any _ _ _ _).mono ?_; rintro e w' ⟨rfl, rfl⟩)
          go_ret
          exact ⟨ret_bool (boundsB_false (fun h => by have := h.2.1 k (by rw [HL.out]; exact hlt); unfold inV at this; rw [hv] at this; cases this)).symm, 0, rfl⟩
        · go_wp2_with (go_at_call 75; refine (within_any _ _ _ _).mono ?_; rintro e w' ⟨rfl, rfl⟩)
          go_round
          case rel => exact ⟨k + 1, by omega, by go_num, fun i hi => by rcases Nat.lt_succ_iff_lt_or_eq.1 hi with h | rfl <;> first | exact HA.out i h | exact hv⟩
          case measure => simp [intOf]; omega
      · have hkn : k = n := by omega
        subst hkn
        go_wp2
        go_loopw [22] (fun i wr => ∃ j : Nat, j ≤ k - 1 ∧ i = .int .i64 j ∧ (∀ i, i < j → nth bs i < nth bs (i + 1)) ∧ ∃ m, wr = w.drewN m) (fun i _ => k - (intOf i).toNat)
        case atStart => exact ⟨0, Nat.zero_le _, rfl, fun i hi => absurd hi (Nat.not_lt_zero _), 0, rfl⟩
        case round =>
          obtain ⟨j, hj, rfl, hall, m, rfl⟩ := hrel
          have HB := Lib.hid hall; clear hall
          by_cases hlt : (j : Int) < (k : Int) - 1
          · obtain ⟨b, o, rfl, hc⟩ := hr.at_ (k := 0) (by omega)
            have hc0 := hc j (by omega)
            have hc1 := hc (j + 1) (by omega)
            clear hc
            have hjk : (j : Int) < (k : Int) := by omega
            have hjk1 : (j : Int) + 1 < (k : Int) := by omega
            by_cases hord : nth bs (j + 1) ≤ nth bs j
            · have q1 : IntKind.i64.wrap ((j : Int) + 1) = (j : Int) + 1 := IntWalk.i64_in _ (by omega)
              have q2 : 0 ≤ (j : Int) + 1 := by omega
              have q3 : ((j : Int) + 1).toNat = j + 1 := by omega
              go_wp2
              go_quiet (fail)
              clear q1 q2 q3
              go_wp2
              go_ret
              exact ⟨ret_bool (boundsB_false (fun h => by have := h.2.2 j (by rw [HL.out]; omega); omega)).symm, m + nq, by first | rfl | rw [World.drewN_drewN]⟩
            · have q1 : IntKind.i64.wrap ((j : Int) + 1) = (j : Int) + 1 := IntWalk.i64_in _ (by omega)
              have q2 : 0 ≤ (j : Int) + 1 := by omega
              have q3 : ((j : Int) + 1).toNat = j + 1 := by omega
              go_wp2
              go_quiet (fail)
              clear q1 q2 q3
              go_wp2
              go_roundw
              case rel => exact ⟨j + 1, by omega, by go_num, fun i hi => by rcases Nat.lt_succ_iff_lt_or_eq.1 hi with h | rfl <;> first | exact HB.out i h | omega, m + nq, by first | rfl | rw [World.drewN_drewN]⟩
              case measure => simp [intOf]; omega
          · go_wp2
            go_ret
            exact ⟨ret_bool (boundsB_mk ⟨by rw [HL.out]; omega, fun i hi => HA.out i (by rw [HL.out] at hi; exact hi), fun i hi => HB.out i (by rw [HL.out] at hi; omega)⟩).symm, m, rfl⟩

end Go.Proofs.YtbpaepkcchpmbaaGreat

namespace Go.Proofs.YtbpaepkcchpmbaaGreat
open Go.RowKit

set_option maxRecDepth 100000 in
set_option maxHeartbeats 400000 in
theorem cmp_any (a b : Int) (w : World) :
    Calls Tryz.prog 117 #[.int .i64 a, .int .i64 b] w fun e w' => e = .returned (.int .i64 (cmpI a b)) ∧ w = w' := by
  unfold cmpI
  by_cases h1 : a < b
  · rw [if_pos h1]
    go_enter Tryz.func117, Tryz.ntmps117
    go_wp2
    go_ret
    exact ⟨rfl, rfl⟩
  · rw [if_neg h1]
    by_cases h2 : b < a
    · rw [if_pos h2]
      go_enter Tryz.func117, Tryz.ntmps117
      go_wp2
      go_ret
      exact ⟨rfl, rfl⟩
    · rw [if_neg h2]
      go_enter Tryz.func117, Tryz.ntmps117
      go_wp2
      go_ret
      exact ⟨rfl, rfl⟩

set_option maxRecDepth 100000 in
set_option maxHeartbeats 400000 in
theorem item_any (x : It) (w : World) :
    Calls Tryz.prog 102 #[.agg #[.int .i64 x.s, .int .i64 x.t, .int .i64 x.q, .int .i64 x.v]] w fun e w' => e = .returned (.bool (itemB x)) ∧ Below w.heap.size w w' := by
  unfold itemB
  cases h1 : wi x.s 0 1048575
  · go_enter Tryz.func102, Tryz.ntmps102
    go_wp2_with (go_at_call 75; refine (within_any _ _ _ _).mono ?_; rintro e w' ⟨rfl, rfl⟩)
    go_ret
    exact ⟨rfl, (Below.refl _ _).alloc (Nat.le_refl _) _⟩
  · cases h2 : wi x.t (-1099511627776) 1099511627776
    · go_enter Tryz.func102, Tryz.ntmps102
      go_wp2_with (go_at_call 75; refine (within_any _ _ _ _).mono ?_; rintro e w' ⟨rfl, rfl⟩)
      go_ret
      exact ⟨rfl, (Below.refl _ _).alloc (Nat.le_refl _) _⟩
    · cases h3 : wi x.q 1 1073741823
      · go_enter Tryz.func102, Tryz.ntmps102
        go_wp2_with (go_at_call 75; refine (within_any _ _ _ _).mono ?_; rintro e w' ⟨rfl, rfl⟩)
        go_ret
        exact ⟨rfl, (Below.refl _ _).alloc (Nat.le_refl _) _⟩
      · cases h4 : wi x.v (-1099511627776) 1099511627776
        all_goals
          go_enter Tryz.func102, Tryz.ntmps102
          go_wp2_with (go_at_call 75; refine (within_any _ _ _ _).mono ?_; rintro e w' ⟨rfl, rfl⟩)
          go_ret
          exact ⟨rfl, (Below.refl _ _).alloc (Nat.le_refl _) _⟩

end Go.Proofs.YtbpaepkcchpmbaaGreat

namespace Go.Proofs.YtbpaepkcchpmbaaGreat
open Go.RowKit

def orI (a b : Int) : Int := if a = 0 then b else a

set_option maxRecDepth 100000 in
set_option maxHeartbeats 400000 in
theorem or_any (a b : Int) (g : Nat) (w : World) (h0 : w.cell? ⟨g, 0, none⟩ = some (.int .i64 a)) (h1 : w.cell? ⟨g, 1, none⟩ = some (.int .i64 b)) :
    Calls Tryz.prog 116 #[.slice (some ⟨g, 0, none⟩) 2 2] w fun e w' => e = .returned (.int .i64 (orI a b)) ∧ w = w' := by
  unfold orI
  by_cases ha : a = 0
  · subst ha
    rw [if_pos rfl]
    by_cases hb : b = 0
    · subst hb
      go_enter Tryz.func116, Tryz.ntmps116
      go_wp2
      refine wp_loop_rounds 3 ?_; rw [rounds_succ]
      go_wp2
      rw [rounds_succ]
      go_wp2
      rw [rounds_succ]
      go_wp2
      go_ret
      exact ⟨rfl, rfl⟩
    · go_enter Tryz.func116, Tryz.ntmps116
      go_wp2
      refine wp_loop_rounds 2 ?_; rw [rounds_succ]
      go_wp2
      rw [rounds_succ]
      go_wp2
      go_ret
      exact ⟨rfl, rfl⟩
  · rw [if_neg ha]
    go_enter Tryz.func116, Tryz.ntmps116
    go_wp2
    refine wp_loop_rounds 1 ?_; rw [rounds_succ]
    go_wp2
    go_ret
    exact ⟨rfl, rfl⟩

theorem cmpT_or (x y : It) : orI (cmpI x.t y.t) (cmpI x.q y.q) = cmpT x y := by
  unfold orI cmpT; rfl

set_option maxRecDepth 100000 in
set_option maxHeartbeats 400000 in
theorem compare_any (x y : It) (w : World) :
    Calls Tryz.prog 91 #[.agg #[.int .i64 x.s, .int .i64 x.t, .int .i64 x.q, .int .i64 x.v], .agg #[.int .i64 y.s, .int .i64 y.t, .int .i64 y.q, .int .i64 y.v]] w
      fun e w' => e = .returned (.int .i64 (cmpT x y)) ∧ Below w.heap.size w w' := by
  go_enter Tryz.func91, Tryz.ntmps91
  go_wp2
  go_region_held3 (fun w' => w'.cell? ⟨w.heap.size, 1, none⟩ = some (.int .i64 x.t) ∧ w'.cell? ⟨w.heap.size, 2, none⟩ = some (.int .i64 x.q) ∧ w'.cell? ⟨w.heap.size + 1, 1, none⟩ = some (.int .i64 y.t) ∧ w'.cell? ⟨w.heap.size + 1, 2, none⟩ = some (.int .i64 y.q)) (simp [go_sem, World.cell?_alloc_past])
    (first
      | (go_at_call 117; refine (cmp_any _ _ _).mono ?_; rintro e w' ⟨rfl, rfl⟩)
      | (go_at_call 116; refine (or_any (cmpI x.t y.t) (cmpI x.q y.q) _ _ (by simp [go_sem]) (by simp [go_sem])).mono ?_; rintro e w' ⟨rfl, rfl⟩))
  go_wp2
  go_ret
  exact ⟨by rw [cmpT_or]; rfl, by repeat (first | exact Below.refl _ _ | refine Below.drew ?_ | refine Below.alloc ?_ (by simp <;> omega) _)⟩

end Go.Proofs.YtbpaepkcchpmbaaGreat
