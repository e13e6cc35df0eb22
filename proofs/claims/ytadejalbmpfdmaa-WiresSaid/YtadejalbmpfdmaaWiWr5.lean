/-
  Wires' drawn end: its facts, one by one (written by gen/wiwires.py).
-/
import Derived.Test.YtadejalbmpfdmaaRf
import Derived.Test.YtadejalbmpfdmaaWiAwake
namespace Go.Proofs.Ytadejalbmpfdmaa
open Go.RowKit

section
variable {D : List (Option Tmp)} {Φ : Fact} {o : Oper} {a : Act} {w : World}
theorem rf_eqlS (hw : Region.wanted o (yieldD D a.tmps) = true) {t : Tmp} (hd : o.dst = some t) (x y : Operand) (ho : o.op = .binOp .eql 9 x y 9) (p : ByteArray) (hx : a.eval x = .string p) (hy : a.eval y = .string p) (h : Φ (.bool true) w) : StepD Try.prog D Φ o a w :=
  step_val hw hd _ w (by unfold execOp; rw [ho]; generalize a.eval = ev at hx hy ⊢; simp [hx, hy, go_sem]) (Below.refl _ _) h
theorem rf_eqlB (hw : Region.wanted o (yieldD D a.tmps) = true) {t : Tmp} (hd : o.dst = some t) (x y : Operand) (ho : o.op = .binOp .eql 4 x y 4) (p : Bool) (hx : a.eval x = .bool p) (hy : a.eval y = .bool p) (h : Φ (.bool true) w) : StepD Try.prog D Φ o a w :=
  step_val hw hd _ w (by unfold execOp; rw [ho]; generalize a.eval = ev at hx hy ⊢; simp [hx, hy, go_sem]) (Below.refl _ _) h
theorem rf_eqlO (hw : Region.wanted o (yieldD D a.tmps) = true) {t : Tmp} (hd : o.dst = some t) (x y : Operand) (ho : o.op = .binOp .eql 23 x y 23) (k1 k2 k3 k4 k5 : Int) (hx : a.eval x = .agg #[.int .i64 k1, .int .i64 k2, .int .i64 k3, .int .i64 k4, .int .i64 k5]) (hy : a.eval y = .agg #[.int .i64 k1, .int .i64 k2, .int .i64 k3, .int .i64 k4, .int .i64 k5]) (h : Φ (.bool true) w) : StepD Try.prog D Φ o a w :=
  step_val hw hd _ w (by unfold execOp; rw [ho]; generalize a.eval = ev at hx hy ⊢; simp [hx, hy, go_sem]) (Below.refl _ _) h
end

def ws5D : List (Option Tmp) := [some 33, some 34, some 35, some 36, some 37, some 38, some 39, some 40, some 41, some 42, some 43, some 44, some 45, some 46, some 47, some 48, some 49, some 50, some 51, some 52, some 53, some 54, some 55, some 56, some 57, some 58, some 59, some 60, some 61, some 62, some 4]
def ws5F (kd so se ti va k1 k2 k3 k4 k5 z y : Int) (p : ByteArray) (v : Bool) (_g _g1 _g2 : Nat) : List Fact := [isV (.string p), isV (.string p), isV (.bool true), isV (.bool true), isV (.int .i64 z), isV (.int .i64 z), isV (.int .i64 z), isV (.bool true), isV (.bool true), isV (.bool true), isV (.agg #[.int .i64 k1, .int .i64 k2, .int .i64 k3, .int .i64 k4, .int .i64 k5]), isV (.agg #[.int .i64 k1, .int .i64 k2, .int .i64 k3, .int .i64 k4, .int .i64 k5]), isV (.bool true), isV (.bool true), isV (.bool true), isV (.int .i64 y), isV (.int .i64 y), isV (.int .i64 y), isV (.bool true), isV (.bool true), isV (.bool true), isV (.agg #[.int .i64 kd, .int .i64 so, .int .i64 se, .int .i64 ti, .int .i64 va]), isV (.bool v), isV (.agg #[.int .i64 kd, .int .i64 so, .int .i64 se, .int .i64 ti, .int .i64 va]), isV (.bool v), isV (.bool true), isV (.bool true), isV (.bool true), isV (.bool true), isV (.bool true), isV (.bool true)]
theorem ws5F_mono (kd so se ti va k1 k2 k3 k4 k5 z y : Int) (p : ByteArray) (v : Bool) (g g1 g2 : Nat) : ∀ φ ∈ ws5F kd so se ti va k1 k2 k3 k4 k5 z y p v g g1 g2, Mono φ := by
  unfold ws5F
  repeat (first | exact monos_nil | (refine monos_cons (mono_isV _) ?_))
structure ws5S (kd so se ti va k1 k2 k3 k4 k5 z y : Int) (p : ByteArray) (v : Bool) (g g1 g2 : Nat) (a0 : Act) (w0 : World) : Prop where
  size : a0.tmps.size = 63
  v2 : a0.tmps.getD 2 undef = .pointer (some ⟨g, 0, none⟩)
  v5 : a0.tmps.getD 5 undef = .string p
  v6 : a0.tmps.getD 6 undef = .int .i64 z
  v7 : a0.tmps.getD 7 undef = .string p
  v8 : a0.tmps.getD 8 undef = .int .i64 z
  v9 : a0.tmps.getD 9 undef = .pointer (some ⟨g1, 0, none⟩)
  v10 : a0.tmps.getD 10 undef = .int .i64 y
  v11 : a0.tmps.getD 11 undef = .pointer (some ⟨g2, 0, none⟩)
  v12 : a0.tmps.getD 12 undef = .int .i64 y
  box : Has w0 g 23 #[.int .i64 kd, .int .i64 so, .int .i64 se, .int .i64 ti, .int .i64 va]
  b1 : Has w0 g1 23 #[.int .i64 k1, .int .i64 k2, .int .i64 k3, .int .i64 k4, .int .i64 k5]
  b2 : Has w0 g2 23 #[.int .i64 k1, .int .i64 k2, .int .i64 k3, .int .i64 k4, .int .i64 k5]
  may : ∀ W : World, Calls Try.prog 12 #[.agg #[.int .i64 kd, .int .i64 so, .int .i64 se, .int .i64 ti, .int .i64 va]] W fun e w' => e = .returned (.bool v) ∧ Below W.heap.size W w'
  rmay : ∀ W : World, Calls Try.prog 13 #[.agg #[.int .i64 kd, .int .i64 so, .int .i64 se, .int .i64 ti, .int .i64 va]] W fun e w' => e = .returned (.bool v) ∧ Below W.heap.size W w'
section
variable {kd so se ti va k1 k2 k3 k4 k5 z y : Int} {p : ByteArray} {v : Bool} {g g1 g2 : Nat} {a0 : Act} {w0 : World} (S : ws5S kd so se ti va k1 k2 k3 k4 k5 z y p v g g1 g2 a0 w0)
include S
set_option maxRecDepth 100000 in
set_option maxHeartbeats 8000000 in
theorem ws5_ok : AllOps (fun j o => ∀ (a : Act) (w : World), Below w0.heap.size w0 w → FrD ws5D a0 a → needs ws5D (ws5F kd so se ti va k1 k2 k3 k4 k5 z y p v g g1 g2) a w o.after.toList → StepD Try.prog ws5D (factAt (ws5F kd so se ti va k1 k2 k3 k4 k5 z y p v g g1 g2) j) o a w) 0 (opsOf 5 Try.f3) := by
  simp only [opsOf, Try.f3, opsAt, Option.bind, Option.or, Option.getD, reduceCtorEq, if_true, if_false, Nat.reduceEqDiff]
  refine ⟨?_, ?_⟩
  · intro _a _w _hB hF _hd
    exact step_move (guard_none rfl) rfl _ rfl ((hF.other 5 rfl).trans S.v5)
  refine ⟨?_, ?_⟩
  · intro _a _w _hB hF _hd
    exact step_move (guard_none rfl) rfl _ rfl ((hF.other 7 rfl).trans S.v7)
  refine ⟨?_, ?_⟩
  · intro a _w _hB _hF hd
    have h33 : a.tmps.getD 33 undef = .string p := hd.1 rfl
    have h34 : a.tmps.getD 34 undef = .string p := hd.2.1 rfl
    exact rf_eqlS (guard_none rfl) rfl _ _ rfl _ h33 h34 rfl
  refine ⟨?_, ?_⟩
  · intro a _w _hB _hF hd
    have h35 : a.tmps.getD 35 undef = .bool true := hd.1 rfl
    exact step_move (guard_none rfl) rfl _ rfl h35
  refine ⟨?_, ?_⟩
  · intro a _w _hB hF hd
    have h36 : a.tmps.getD 36 undef = .bool true := hd.1 rfl
    exact step_move (rf_open true rfl rfl h36) rfl _ rfl ((hF.other 6 rfl).trans S.v6)
  refine ⟨?_, ?_⟩
  · intro a _w _hB _hF hd
    have h36 : a.tmps.getD 36 undef = .bool true := hd.2.1 rfl
    have h37 : a.tmps.getD 37 undef = .int .i64 z := hd.1 rfl
    refine step_call (rf_open true rfl rfl h36) rfl _ _ (rf_call_run Try.func11 (by kernel_rfl) (by kernel_rfl) _ _ rfl) ?_
    simp only [List.map_toArray, List.map_cons, List.map_nil, Act.eval, h37]
    exact (num_any _ _).mono (by rintro e w1 ⟨rfl, rfl⟩; exact ⟨_, rfl, Below.refl _ _, rfl⟩)
  refine ⟨?_, ?_⟩
  · intro a _w _hB hF hd
    have h36 : a.tmps.getD 36 undef = .bool true := hd.1 rfl
    exact step_move (rf_open true rfl rfl h36) rfl _ rfl ((hF.other 8 rfl).trans S.v8)
  refine ⟨?_, ?_⟩
  · intro a _w _hB _hF hd
    have h36 : a.tmps.getD 36 undef = .bool true := hd.2.2.1 rfl
    have h38 : a.tmps.getD 38 undef = .int .i64 z := hd.1 rfl
    have h39 : a.tmps.getD 39 undef = .int .i64 z := hd.2.1 rfl
    exact rf_eql (rf_open true rfl rfl h36) rfl _ _ rfl _ _ h38 h39 true (by simp) rfl
  refine ⟨?_, ?_⟩
  · intro a _w _hB _hF hd
    have h36 : a.tmps.getD 36 undef = .bool true := hd.1 rfl
    have h40 : a.tmps.getD 40 undef = .bool true := hd.2.1 rfl
    exact rf_pick (guard_none rfl) rfl _ _ _ rfl true h36 h40
  refine ⟨?_, ?_⟩
  · intro a _w _hB _hF hd
    have h41 : a.tmps.getD 41 undef = .bool true := hd.1 rfl
    exact step_move (guard_none rfl) rfl _ rfl h41
  refine ⟨?_, ?_⟩
  · intro a _w hB hF hd
    have h42 : a.tmps.getD 42 undef = .bool true := hd.1 rfl
    exact rf_loadS (rf_open true rfl rfl h42) rfl _ _ rfl _ _ ((hF.other 9 rfl).trans S.v9) _ (rf_range (S.b1.below hB S.b1.lt)) Try.underlying23 rfl (by kernel_rfl) rfl
  refine ⟨?_, ?_⟩
  · intro a _w hB hF hd
    have h42 : a.tmps.getD 42 undef = .bool true := hd.1 rfl
    exact rf_loadS (rf_open true rfl rfl h42) rfl _ _ rfl _ _ ((hF.other 11 rfl).trans S.v11) _ (rf_range (S.b2.below hB S.b2.lt)) Try.underlying23 rfl (by kernel_rfl) rfl
  refine ⟨?_, ?_⟩
  · intro a _w _hB _hF hd
    have h42 : a.tmps.getD 42 undef = .bool true := hd.2.2.1 rfl
    have h43 : a.tmps.getD 43 undef = .agg #[.int .i64 k1, .int .i64 k2, .int .i64 k3, .int .i64 k4, .int .i64 k5] := hd.1 rfl
    have h44 : a.tmps.getD 44 undef = .agg #[.int .i64 k1, .int .i64 k2, .int .i64 k3, .int .i64 k4, .int .i64 k5] := hd.2.1 rfl
    exact rf_eqlO (rf_open true rfl rfl h42) rfl _ _ rfl _ _ _ _ _ h43 h44 rfl
  refine ⟨?_, ?_⟩
  · intro a _w _hB _hF hd
    have h42 : a.tmps.getD 42 undef = .bool true := hd.1 rfl
    have h45 : a.tmps.getD 45 undef = .bool true := hd.2.1 rfl
    exact rf_pick (guard_none rfl) rfl _ _ _ rfl true h42 h45
  refine ⟨?_, ?_⟩
  · intro a _w _hB _hF hd
    have h46 : a.tmps.getD 46 undef = .bool true := hd.1 rfl
    exact step_move (guard_none rfl) rfl _ rfl h46
  refine ⟨?_, ?_⟩
  · intro a _w _hB hF hd
    have h47 : a.tmps.getD 47 undef = .bool true := hd.1 rfl
    exact step_move (rf_open true rfl rfl h47) rfl _ rfl ((hF.other 10 rfl).trans S.v10)
  refine ⟨?_, ?_⟩
  · intro a _w _hB _hF hd
    have h47 : a.tmps.getD 47 undef = .bool true := hd.2.1 rfl
    have h48 : a.tmps.getD 48 undef = .int .i64 y := hd.1 rfl
    refine step_call (rf_open true rfl rfl h47) rfl _ _ (rf_call_run Try.func11 (by kernel_rfl) (by kernel_rfl) _ _ rfl) ?_
    simp only [List.map_toArray, List.map_cons, List.map_nil, Act.eval, h48]
    exact (num_any _ _).mono (by rintro e w1 ⟨rfl, rfl⟩; exact ⟨_, rfl, Below.refl _ _, rfl⟩)
  refine ⟨?_, ?_⟩
  · intro a _w _hB hF hd
    have h47 : a.tmps.getD 47 undef = .bool true := hd.1 rfl
    exact step_move (rf_open true rfl rfl h47) rfl _ rfl ((hF.other 12 rfl).trans S.v12)
  refine ⟨?_, ?_⟩
  · intro a _w _hB _hF hd
    have h47 : a.tmps.getD 47 undef = .bool true := hd.2.2.1 rfl
    have h49 : a.tmps.getD 49 undef = .int .i64 y := hd.1 rfl
    have h50 : a.tmps.getD 50 undef = .int .i64 y := hd.2.1 rfl
    exact rf_eql (rf_open true rfl rfl h47) rfl _ _ rfl _ _ h49 h50 true (by simp) rfl
  refine ⟨?_, ?_⟩
  · intro a _w _hB _hF hd
    have h47 : a.tmps.getD 47 undef = .bool true := hd.1 rfl
    have h51 : a.tmps.getD 51 undef = .bool true := hd.2.1 rfl
    exact rf_pick (guard_none rfl) rfl _ _ _ rfl true h47 h51
  refine ⟨?_, ?_⟩
  · intro a _w _hB _hF hd
    have h52 : a.tmps.getD 52 undef = .bool true := hd.1 rfl
    exact step_move (guard_none rfl) rfl _ rfl h52
  refine ⟨?_, ?_⟩
  · intro a _w hB hF hd
    have h53 : a.tmps.getD 53 undef = .bool true := hd.1 rfl
    exact rf_loadS (rf_open true rfl rfl h53) rfl _ _ rfl _ _ ((hF.other 2 rfl).trans S.v2) _ (rf_range (S.box.below hB S.box.lt)) Try.underlying23 rfl (by kernel_rfl) rfl
  refine ⟨?_, ?_⟩
  · intro a _w _hB _hF hd
    have h53 : a.tmps.getD 53 undef = .bool true := hd.2.1 rfl
    have h54 : a.tmps.getD 54 undef = .agg #[.int .i64 kd, .int .i64 so, .int .i64 se, .int .i64 ti, .int .i64 va] := hd.1 rfl
    refine step_call (rf_open true rfl rfl h53) rfl _ _ (rf_call_run Try.func12 (by kernel_rfl) (by kernel_rfl) _ _ rfl) ?_
    simp only [List.map_toArray, List.map_cons, List.map_nil, Act.eval, h54]
    exact (S.may _).mono (by rintro e w1 ⟨rfl, hb⟩; exact ⟨_, rfl, hb, rfl⟩)
  refine ⟨?_, ?_⟩
  · intro a _w hB hF hd
    have h53 : a.tmps.getD 53 undef = .bool true := hd.1 rfl
    exact rf_loadS (rf_open true rfl rfl h53) rfl _ _ rfl _ _ ((hF.other 2 rfl).trans S.v2) _ (rf_range (S.box.below hB S.box.lt)) Try.underlying23 rfl (by kernel_rfl) rfl
  refine ⟨?_, ?_⟩
  · intro a _w _hB _hF hd
    have h53 : a.tmps.getD 53 undef = .bool true := hd.2.2.1 rfl
    have h56 : a.tmps.getD 56 undef = .agg #[.int .i64 kd, .int .i64 so, .int .i64 se, .int .i64 ti, .int .i64 va] := hd.1 rfl
    refine step_call (rf_open true rfl rfl h53) rfl _ _ (rf_call_run Try.func13 (by kernel_rfl) (by kernel_rfl) _ _ rfl) ?_
    simp only [List.map_toArray, List.map_cons, List.map_nil, Act.eval, h56]
    exact (S.rmay _).mono (by rintro e w1 ⟨rfl, hb⟩; exact ⟨_, rfl, hb, rfl⟩)
  refine ⟨?_, ?_⟩
  · intro a _w _hB _hF hd
    have h53 : a.tmps.getD 53 undef = .bool true := hd.2.2.1 rfl
    have h55 : a.tmps.getD 55 undef = .bool v := hd.1 rfl
    have h57 : a.tmps.getD 57 undef = .bool v := hd.2.1 rfl
    exact rf_eqlB (rf_open true rfl rfl h53) rfl _ _ rfl _ h55 h57 rfl
  refine ⟨?_, ?_⟩
  · intro a _w _hB _hF hd
    have h53 : a.tmps.getD 53 undef = .bool true := hd.1 rfl
    have h58 : a.tmps.getD 58 undef = .bool true := hd.2.1 rfl
    exact rf_pick (guard_none rfl) rfl _ _ _ rfl true h53 h58
  refine ⟨?_, ?_⟩
  · intro a _w _hB _hF hd
    have h59 : a.tmps.getD 59 undef = .bool true := hd.1 rfl
    exact step_move (guard_none rfl) rfl _ rfl h59
  refine ⟨?_, ?_⟩
  · intro a _w _hB _hF hd
    have h60 : a.tmps.getD 60 undef = .bool true := hd.1 rfl
    refine step_call (rf_open true rfl rfl h60) rfl _ _ (rf_call_run Try.func14 (by kernel_rfl) (by kernel_rfl) _ _ rfl) ?_
    simp only [List.map_toArray, List.map_nil]
    exact (awake_any _).mono (by rintro e w1 ⟨rfl, hb⟩; exact ⟨_, rfl, hb, rfl⟩)
  refine ⟨?_, ?_⟩
  · intro a _w _hB _hF hd
    have h60 : a.tmps.getD 60 undef = .bool true := hd.1 rfl
    have h61 : a.tmps.getD 61 undef = .bool true := hd.2.1 rfl
    exact rf_pick (guard_none rfl) rfl _ _ _ rfl true h60 h61
  refine ⟨?_, ?_⟩
  · intro a _w _hB _hF hd
    have h62 : a.tmps.getD 62 undef = .bool true := hd.1 rfl
    exact step_assign (guard_none rfl) rfl _ rfl h62
  trivial
theorem ws5_any {Q : Exit → Act → World → Prop} {l : List Oper} (hl : opsOf 5 Try.f3 = l) (hend : ∀ w : World, Below w0.heap.size w0 w → Q .normal (putAll a0 [(33, .string p), (34, .string p), (35, .bool true), (36, .bool true), (37, .int .i64 z), (38, .int .i64 z), (39, .int .i64 z), (40, .bool true), (41, .bool true), (42, .bool true), (43, .agg #[.int .i64 k1, .int .i64 k2, .int .i64 k3, .int .i64 k4, .int .i64 k5]), (44, .agg #[.int .i64 k1, .int .i64 k2, .int .i64 k3, .int .i64 k4, .int .i64 k5]), (45, .bool true), (46, .bool true), (47, .bool true), (48, .int .i64 y), (49, .int .i64 y), (50, .int .i64 y), (51, .bool true), (52, .bool true), (53, .bool true), (54, .agg #[.int .i64 kd, .int .i64 so, .int .i64 se, .int .i64 ti, .int .i64 va]), (55, .bool v), (56, .agg #[.int .i64 kd, .int .i64 so, .int .i64 se, .int .i64 ti, .int .i64 va]), (57, .bool v), (58, .bool true), (59, .bool true), (60, .bool true), (61, .bool true), (62, .bool true), (4, .bool true)]) w) :
    (Code.region 5 l.toArray true).wp Try.prog Q a0 w0 := by
  subst hl
  refine region_facts2 (ws5F kd so se ti va k1 k2 k3 k4 k5 z y p v g g1 g2) ws5D 63 S.size rfl (by kernel_rfl) (by kernel_rfl) (ws5F_mono _ _ _ _ _ _ _ _ _ _ _ _ _ _ _ _ _) (ws5_ok S) fun a w hB hF h => ?_
  have hv : valsAre a [(33, .string p), (34, .string p), (35, .bool true), (36, .bool true), (37, .int .i64 z), (38, .int .i64 z), (39, .int .i64 z), (40, .bool true), (41, .bool true), (42, .bool true), (43, .agg #[.int .i64 k1, .int .i64 k2, .int .i64 k3, .int .i64 k4, .int .i64 k5]), (44, .agg #[.int .i64 k1, .int .i64 k2, .int .i64 k3, .int .i64 k4, .int .i64 k5]), (45, .bool true), (46, .bool true), (47, .bool true), (48, .int .i64 y), (49, .int .i64 y), (50, .int .i64 y), (51, .bool true), (52, .bool true), (53, .bool true), (54, .agg #[.int .i64 kd, .int .i64 so, .int .i64 se, .int .i64 ti, .int .i64 va]), (55, .bool v), (56, .agg #[.int .i64 kd, .int .i64 so, .int .i64 se, .int .i64 ti, .int .i64 va]), (57, .bool v), (58, .bool true), (59, .bool true), (60, .bool true), (61, .bool true), (62, .bool true), (4, .bool true)] := by
    refine ⟨?_, ?_, ?_, ?_, ?_, ?_, ?_, ?_, ?_, ?_, ?_, ?_, ?_, ?_, ?_, ?_, ?_, ?_, ?_, ?_, ?_, ?_, ?_, ?_, ?_, ?_, ?_, ?_, ?_, ?_, ?_, trivial⟩
    · exact h 0 (some 33) rfl
    · exact h 1 (some 34) rfl
    · exact h 2 (some 35) rfl
    · exact h 3 (some 36) rfl
    · exact h 4 (some 37) rfl
    · exact h 5 (some 38) rfl
    · exact h 6 (some 39) rfl
    · exact h 7 (some 40) rfl
    · exact h 8 (some 41) rfl
    · exact h 9 (some 42) rfl
    · exact h 10 (some 43) rfl
    · exact h 11 (some 44) rfl
    · exact h 12 (some 45) rfl
    · exact h 13 (some 46) rfl
    · exact h 14 (some 47) rfl
    · exact h 15 (some 48) rfl
    · exact h 16 (some 49) rfl
    · exact h 17 (some 50) rfl
    · exact h 18 (some 51) rfl
    · exact h 19 (some 52) rfl
    · exact h 20 (some 53) rfl
    · exact h 21 (some 54) rfl
    · exact h 22 (some 55) rfl
    · exact h 23 (some 56) rfl
    · exact h 24 (some 57) rfl
    · exact h 25 (some 58) rfl
    · exact h 26 (some 59) rfl
    · exact h 27 (some 60) rfl
    · exact h 28 (some 61) rfl
    · exact h 29 (some 62) rfl
    · exact h 30 (some 4) rfl
  rw [frame_is hF _ hv (by rfl) (by rfl)]
  exact hend w hB
end

end Go.Proofs.Ytadejalbmpfdmaa
