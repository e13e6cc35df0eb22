/-
  WireBack's drawn region, of an operation and of none: its facts, one by one (written by gen/wibk.py).
-/
import Derived.Test.YtadejalbmpfdmaaRf
import Derived.Test.YtadejalbmpfdmaaWiUnW
import Derived.Laws.Closers25b
namespace Go.Proofs.Ytadejalbmpfdmaa
open Go.RowKit

section
variable {D : List (Option Tmp)} {Φ : Fact} {o : Oper} {a : Act} {w : World}
theorem rf_neqB (hw : Region.wanted o (yieldD D a.tmps) = true) {t : Tmp} (hd : o.dst = some t) (x y : Operand) (ho : o.op = .binOp .neq 4 x y 4) (p : Bool) (hx : a.eval x = .bool p) (hy : a.eval y = .bool p) (h : Φ (.bool false) w) : StepD Try.prog D Φ o a w :=
  step_val hw hd _ w (by unfold execOp; rw [ho]; generalize a.eval = ev at hx hy ⊢; simp [hx, hy, go_sem]) (Below.refl _ _) h
theorem rf_lenS (hw : Region.wanted o (yieldD D a.tmps) = true) {t : Tmp} (hd : o.dst = some t) (x : Operand) (ho : o.op = .call { callee := .builtin .len, args := #[x], argTypes := #[9] }) (p : ByteArray) (hx : a.eval x = .string p) (h : Φ (.int .i64 p.size) w) : StepD Try.prog D Φ o a w :=
  step_val hw hd _ w (by unfold execOp; rw [ho]; generalize a.eval = ev at hx ⊢; simp [hx, go_sem]) (Below.refl _ _) h
theorem empty_ne {p : ByteArray} (hp : 0 < p.size) : p.toList.isEmpty = false := by
  cases e : p.toList with
  | nil =>
    rw [toList_nil_iff_emptyBytes] at e
    subst e
    exact absurd hp (by decide)
  | cons => rfl
theorem rf_eqlE (hw : Region.wanted o (yieldD D a.tmps) = true) {t : Tmp} (hd : o.dst = some t) (x : Operand) (ho : o.op = .binOp .eql 9 x (.const (.string ⟨#[]⟩)) 9) (p : ByteArray) (hx : a.eval x = .string p) (hp : 0 < p.size) (h : Φ (.bool false) w) : StepD Try.prog D Φ o a w :=
  step_val hw hd _ w (by
    unfold execOp
    rw [ho]
    have hk : a.eval (.const (.string ⟨#[]⟩)) = .string ⟨#[]⟩ := rfl
    have he := empty_ne hp
    generalize a.eval = ev at hx hk ⊢
    simp [hx, hk, he, go_sem]) (Below.refl _ _) h
end

def bk4D : List (Option Tmp) := [some 24, some 25, some 26, some 27, some 28, some 29, some 30, some 31, some 32, some 33, some 34, some 35, some 36, some 37, some 38, some 39, some 40, some 41, some 42, some 43]
def bk4F (kd so se ti va : Int) (p : ByteArray) (_g : Nat) : List Fact := [isV (.int .i64 0), isV (.int .i64 0), isV (.bool true), isV (.agg #[.int .i64 kd, .int .i64 so, .int .i64 se, .int .i64 ti, .int .i64 va]), isV (.bool true), isV (.bool false), isV (.bool false), isV (.int .i64 0), isV (.int .i64 0), isV (.bool true), isV (.bool true), isV (.string p), isV (.bool false), isV (.bool false), isV (.string p), isV (.int .i64 p.size), isV (.bool false), isV (.bool false), isV (.bool false), isV (.bool false)]
theorem bk4F_mono (kd so se ti va : Int) (p : ByteArray) (g : Nat) : ∀ φ ∈ bk4F kd so se ti va p g, Mono φ := by
  unfold bk4F
  repeat (first | exact monos_nil | (refine monos_cons (mono_isV _) ?_))
structure bk4S (kd so se ti va : Int) (p : ByteArray) (g : Nat) (a0 : Act) (w0 : World) : Prop where
  size : a0.tmps.size = 102
  v3 : a0.tmps.getD 3 undef = .pointer (some ⟨g, 0, none⟩)
  v7 : a0.tmps.getD 7 undef = .string p
  v8 : a0.tmps.getD 8 undef = .int .i64 0
  box : Has w0 g 23 #[.int .i64 kd, .int .i64 so, .int .i64 se, .int .i64 ti, .int .i64 va]
  n : 0 < p.size ∧ p.size ≤ 60
  may : ∀ W : World, Calls Try.prog 12 #[.agg #[.int .i64 kd, .int .i64 so, .int .i64 se, .int .i64 ti, .int .i64 va]] W fun e w' => e = .returned (.bool true) ∧ Below W.heap.size W w'
section
variable {kd so se ti va : Int} {p : ByteArray} {g : Nat} {a0 : Act} {w0 : World} (S : bk4S kd so se ti va p g a0 w0)
include S
set_option maxRecDepth 100000 in
set_option maxHeartbeats 8000000 in
theorem bk4_ok : AllOps (fun j o => ∀ (a : Act) (w : World), Below w0.heap.size w0 w → FrD bk4D a0 a → needs bk4D (bk4F kd so se ti va p g) a w o.after.toList → StepD Try.prog bk4D (factAt (bk4F kd so se ti va p g) j) o a w) 0 (opsOf 4 Try.f4) := by
  simp only [opsOf, Try.f4, opsAt, Option.bind, Option.or, Option.getD, reduceCtorEq, if_true, if_false, Nat.reduceEqDiff]
  refine ⟨?_, ?_⟩
  · intro _a _w _hB hF _hd
    exact step_move (guard_none rfl) rfl _ rfl ((hF.other 8 rfl).trans S.v8)
  refine ⟨?_, ?_⟩
  · intro a _w _hB _hF hd
    have h24 : a.tmps.getD 24 undef = .int .i64 0 := hd.1 rfl
    refine step_call (guard_none rfl) rfl _ _ (rf_call_run Try.func11 (by kernel_rfl) (by kernel_rfl) _ _ rfl) ?_
    simp only [List.map_toArray, List.map_cons, List.map_nil, Act.eval, h24]
    exact (num_any _ _).mono (by rintro e w1 ⟨rfl, rfl⟩; exact ⟨_, rfl, Below.refl _ _, rfl⟩)
  refine ⟨?_, ?_⟩
  · intro a _w _hB _hF hd
    have h25 : a.tmps.getD 25 undef = .int .i64 0 := hd.1 rfl
    exact rf_eql (guard_none rfl) rfl _ _ rfl _ _ h25 rfl true rfl rfl
  refine ⟨?_, ?_⟩
  · intro _a _w hB hF _hd
    exact rf_loadS (guard_none rfl) rfl _ _ rfl _ _ ((hF.other 3 rfl).trans S.v3) _ (rf_range (S.box.below hB S.box.lt)) Try.underlying23 rfl (by kernel_rfl) rfl
  refine ⟨?_, ?_⟩
  · intro a _w _hB _hF hd
    have h27 : a.tmps.getD 27 undef = .agg #[.int .i64 kd, .int .i64 so, .int .i64 se, .int .i64 ti, .int .i64 va] := hd.1 rfl
    refine step_call (guard_none rfl) rfl _ _ (rf_call_run Try.func12 (by kernel_rfl) (by kernel_rfl) _ _ rfl) ?_
    simp only [List.map_toArray, List.map_cons, List.map_nil, Act.eval, h27]
    exact (S.may _).mono (by rintro e w1 ⟨rfl, hb⟩; exact ⟨_, rfl, hb, rfl⟩)
  refine ⟨?_, ?_⟩
  · intro a _w _hB _hF hd
    have h26 : a.tmps.getD 26 undef = .bool true := hd.1 rfl
    have h28 : a.tmps.getD 28 undef = .bool true := hd.2.1 rfl
    exact rf_neqB (guard_none rfl) rfl _ _ rfl _ h26 h28 rfl
  refine ⟨?_, ?_⟩
  · intro a _w _hB _hF hd
    have h29 : a.tmps.getD 29 undef = .bool false := hd.1 rfl
    exact step_move (guard_none rfl) rfl _ rfl h29
  refine ⟨?_, ?_⟩
  · intro a _w _hB hF hd
    have h30 : a.tmps.getD 30 undef = .bool false := hd.1 rfl
    exact step_move (rf_open false rfl rfl h30) rfl _ rfl ((hF.other 8 rfl).trans S.v8)
  refine ⟨?_, ?_⟩
  · intro a _w _hB _hF hd
    have h30 : a.tmps.getD 30 undef = .bool false := hd.2.1 rfl
    have h31 : a.tmps.getD 31 undef = .int .i64 0 := hd.1 rfl
    refine step_call (rf_open false rfl rfl h30) rfl _ _ (rf_call_run Try.func11 (by kernel_rfl) (by kernel_rfl) _ _ rfl) ?_
    simp only [List.map_toArray, List.map_cons, List.map_nil, Act.eval, h31]
    exact (num_any _ _).mono (by rintro e w1 ⟨rfl, rfl⟩; exact ⟨_, rfl, Below.refl _ _, rfl⟩)
  refine ⟨?_, ?_⟩
  · intro a _w _hB _hF hd
    have h30 : a.tmps.getD 30 undef = .bool false := hd.2.1 rfl
    have h32 : a.tmps.getD 32 undef = .int .i64 0 := hd.1 rfl
    exact rf_eql (rf_open false rfl rfl h30) rfl _ _ rfl _ _ h32 rfl true rfl rfl
  refine ⟨?_, ?_⟩
  · intro a _w _hB _hF hd
    have h30 : a.tmps.getD 30 undef = .bool false := hd.2.2.1 rfl
    have h33 : a.tmps.getD 33 undef = .bool true := hd.1 rfl
    exact step_move (rf_open false rfl rfl h30) rfl _ rfl h33
  refine ⟨?_, ?_⟩
  · intro a _w _hB hF hd
    have h34 : a.tmps.getD 34 undef = .bool true := hd.1 rfl
    exact step_move (rf_open true rfl rfl h34) rfl _ rfl ((hF.other 7 rfl).trans S.v7)
  refine ⟨?_, ?_⟩
  · intro a _w _hB _hF hd
    have h34 : a.tmps.getD 34 undef = .bool true := hd.2.1 rfl
    have h35 : a.tmps.getD 35 undef = .string p := hd.1 rfl
    exact rf_eqlE (rf_open true rfl rfl h34) rfl _ rfl _ h35 (by have := S.n; omega) rfl
  refine ⟨?_, ?_⟩
  · intro a _w _hB _hF hd
    have h34 : a.tmps.getD 34 undef = .bool true := hd.2.1 rfl
    have h36 : a.tmps.getD 36 undef = .bool false := hd.1 rfl
    exact step_move (rf_open true rfl rfl h34) rfl _ rfl h36
  refine ⟨?_, ?_⟩
  · intro a _w _hB hF hd
    have h37 : a.tmps.getD 37 undef = .bool false := hd.1 rfl
    exact step_move (rf_open false rfl rfl h37) rfl _ rfl ((hF.other 7 rfl).trans S.v7)
  refine ⟨?_, ?_⟩
  · intro a _w _hB _hF hd
    have h37 : a.tmps.getD 37 undef = .bool false := hd.2.1 rfl
    have h38 : a.tmps.getD 38 undef = .string p := hd.1 rfl
    exact rf_lenS (rf_open false rfl rfl h37) rfl _ rfl _ h38 rfl
  refine ⟨?_, ?_⟩
  · intro a _w _hB _hF hd
    have h37 : a.tmps.getD 37 undef = .bool false := hd.2.1 rfl
    have h39 : a.tmps.getD 39 undef = .int .i64 p.size := hd.1 rfl
    exact rf_gtr (rf_open false rfl rfl h37) rfl _ _ rfl _ _ h39 rfl false (decide_eq_false (by have := S.n; omega)) rfl
  refine ⟨?_, ?_⟩
  · intro a _w _hB _hF hd
    have h34 : a.tmps.getD 34 undef = .bool true := hd.2.2.1 rfl
    have h37 : a.tmps.getD 37 undef = .bool false := hd.1 rfl
    have h40 : a.tmps.getD 40 undef = .bool false := hd.2.1 rfl
    exact rf_pick (rf_open true rfl rfl h34) rfl _ _ _ rfl false h37 h40
  refine ⟨?_, ?_⟩
  · intro a _w _hB _hF hd
    have h30 : a.tmps.getD 30 undef = .bool false := hd.2.2.1 rfl
    have h34 : a.tmps.getD 34 undef = .bool true := hd.1 rfl
    have h41 : a.tmps.getD 41 undef = .bool false := hd.2.1 rfl
    exact rf_pick (rf_open false rfl rfl h30) rfl _ _ _ rfl true h34 h41
  refine ⟨?_, ?_⟩
  · intro a _w _hB _hF hd
    have h30 : a.tmps.getD 30 undef = .bool false := hd.1 rfl
    have h42 : a.tmps.getD 42 undef = .bool false := hd.2.1 rfl
    exact rf_pick (guard_none rfl) rfl _ _ _ rfl false h30 h42
  trivial
theorem bk4_any {Q : Exit → Act → World → Prop} {l : List Oper} (hl : opsOf 4 Try.f4 = l) (hend : ∀ w : World, Below w0.heap.size w0 w → Q .normal (putAll a0 [(24, .int .i64 0), (25, .int .i64 0), (26, .bool true), (27, .agg #[.int .i64 kd, .int .i64 so, .int .i64 se, .int .i64 ti, .int .i64 va]), (28, .bool true), (29, .bool false), (30, .bool false), (31, .int .i64 0), (32, .int .i64 0), (33, .bool true), (34, .bool true), (35, .string p), (36, .bool false), (37, .bool false), (38, .string p), (39, .int .i64 p.size), (40, .bool false), (41, .bool false), (42, .bool false), (43, .bool false)]) w) :
    (Code.region 4 l.toArray true).wp Try.prog Q a0 w0 := by
  subst hl
  refine region_facts2 (bk4F kd so se ti va p g) bk4D 102 S.size rfl (by kernel_rfl) (by kernel_rfl) (bk4F_mono _ _ _ _ _ _ _) (bk4_ok S) fun a w hB hF h => ?_
  have hv : valsAre a [(24, .int .i64 0), (25, .int .i64 0), (26, .bool true), (27, .agg #[.int .i64 kd, .int .i64 so, .int .i64 se, .int .i64 ti, .int .i64 va]), (28, .bool true), (29, .bool false), (30, .bool false), (31, .int .i64 0), (32, .int .i64 0), (33, .bool true), (34, .bool true), (35, .string p), (36, .bool false), (37, .bool false), (38, .string p), (39, .int .i64 p.size), (40, .bool false), (41, .bool false), (42, .bool false), (43, .bool false)] := by
    refine ⟨?_, ?_, ?_, ?_, ?_, ?_, ?_, ?_, ?_, ?_, ?_, ?_, ?_, ?_, ?_, ?_, ?_, ?_, ?_, ?_, trivial⟩
    · exact h 0 (some 24) rfl
    · exact h 1 (some 25) rfl
    · exact h 2 (some 26) rfl
    · exact h 3 (some 27) rfl
    · exact h 4 (some 28) rfl
    · exact h 5 (some 29) rfl
    · exact h 6 (some 30) rfl
    · exact h 7 (some 31) rfl
    · exact h 8 (some 32) rfl
    · exact h 9 (some 33) rfl
    · exact h 10 (some 34) rfl
    · exact h 11 (some 35) rfl
    · exact h 12 (some 36) rfl
    · exact h 13 (some 37) rfl
    · exact h 14 (some 38) rfl
    · exact h 15 (some 39) rfl
    · exact h 16 (some 40) rfl
    · exact h 17 (some 41) rfl
    · exact h 18 (some 42) rfl
    · exact h 19 (some 43) rfl
  rw [frame_is hF _ hv (by rfl) (by rfl)]
  exact hend w hB
end

def bn4D : List (Option Tmp) := [some 24, some 25, some 26, some 27, some 28, some 29, some 30, some 31, some 32, some 33, some 34, some 35, some 36, some 37, some 38, some 39, some 40, some 41, some 42, some 43]
def bn4F (kd so se ti va : Int) (_p : ByteArray) (_g : Nat) : List Fact := [isV (.int .i64 900), isV (.int .i64 900), isV (.bool false), isV (.agg #[.int .i64 kd, .int .i64 so, .int .i64 se, .int .i64 ti, .int .i64 va]), isV (.bool false), isV (.bool false), isV (.bool false), isV (.int .i64 900), isV (.int .i64 900), isV (.bool false), isV (.bool false), isV (undef), isV (undef), isV (undef), isV (undef), isV (undef), isV (undef), isV (undef), isV (.bool false), isV (.bool false)]
theorem bn4F_mono (kd so se ti va : Int) (p : ByteArray) (g : Nat) : ∀ φ ∈ bn4F kd so se ti va p g, Mono φ := by
  unfold bn4F
  repeat (first | exact monos_nil | (refine monos_cons (mono_isV _) ?_))
structure bn4S (kd so se ti va : Int) (p : ByteArray) (g : Nat) (a0 : Act) (w0 : World) : Prop where
  size : a0.tmps.size = 102
  v3 : a0.tmps.getD 3 undef = .pointer (some ⟨g, 0, none⟩)
  v8 : a0.tmps.getD 8 undef = .int .i64 900
  box : Has w0 g 23 #[.int .i64 kd, .int .i64 so, .int .i64 se, .int .i64 ti, .int .i64 va]
  may : ∀ W : World, Calls Try.prog 12 #[.agg #[.int .i64 kd, .int .i64 so, .int .i64 se, .int .i64 ti, .int .i64 va]] W fun e w' => e = .returned (.bool false) ∧ Below W.heap.size W w'
section
variable {kd so se ti va : Int} {p : ByteArray} {g : Nat} {a0 : Act} {w0 : World} (S : bn4S kd so se ti va p g a0 w0)
include S
set_option maxRecDepth 100000 in
set_option maxHeartbeats 8000000 in
theorem bn4_ok : AllOps (fun j o => ∀ (a : Act) (w : World), Below w0.heap.size w0 w → FrD bn4D a0 a → needs bn4D (bn4F kd so se ti va p g) a w o.after.toList → StepD Try.prog bn4D (factAt (bn4F kd so se ti va p g) j) o a w) 0 (opsOf 4 Try.f4) := by
  simp only [opsOf, Try.f4, opsAt, Option.bind, Option.or, Option.getD, reduceCtorEq, if_true, if_false, Nat.reduceEqDiff]
  refine ⟨?_, ?_⟩
  · intro _a _w _hB hF _hd
    exact step_move (guard_none rfl) rfl _ rfl ((hF.other 8 rfl).trans S.v8)
  refine ⟨?_, ?_⟩
  · intro a _w _hB _hF hd
    have h24 : a.tmps.getD 24 undef = .int .i64 900 := hd.1 rfl
    refine step_call (guard_none rfl) rfl _ _ (rf_call_run Try.func11 (by kernel_rfl) (by kernel_rfl) _ _ rfl) ?_
    simp only [List.map_toArray, List.map_cons, List.map_nil, Act.eval, h24]
    exact (num_any _ _).mono (by rintro e w1 ⟨rfl, rfl⟩; exact ⟨_, rfl, Below.refl _ _, rfl⟩)
  refine ⟨?_, ?_⟩
  · intro a _w _hB _hF hd
    have h25 : a.tmps.getD 25 undef = .int .i64 900 := hd.1 rfl
    exact rf_eql (guard_none rfl) rfl _ _ rfl _ _ h25 rfl false rfl rfl
  refine ⟨?_, ?_⟩
  · intro _a _w hB hF _hd
    exact rf_loadS (guard_none rfl) rfl _ _ rfl _ _ ((hF.other 3 rfl).trans S.v3) _ (rf_range (S.box.below hB S.box.lt)) Try.underlying23 rfl (by kernel_rfl) rfl
  refine ⟨?_, ?_⟩
  · intro a _w _hB _hF hd
    have h27 : a.tmps.getD 27 undef = .agg #[.int .i64 kd, .int .i64 so, .int .i64 se, .int .i64 ti, .int .i64 va] := hd.1 rfl
    refine step_call (guard_none rfl) rfl _ _ (rf_call_run Try.func12 (by kernel_rfl) (by kernel_rfl) _ _ rfl) ?_
    simp only [List.map_toArray, List.map_cons, List.map_nil, Act.eval, h27]
    exact (S.may _).mono (by rintro e w1 ⟨rfl, hb⟩; exact ⟨_, rfl, hb, rfl⟩)
  refine ⟨?_, ?_⟩
  · intro a _w _hB _hF hd
    have h26 : a.tmps.getD 26 undef = .bool false := hd.1 rfl
    have h28 : a.tmps.getD 28 undef = .bool false := hd.2.1 rfl
    exact rf_neqB (guard_none rfl) rfl _ _ rfl _ h26 h28 rfl
  refine ⟨?_, ?_⟩
  · intro a _w _hB _hF hd
    have h29 : a.tmps.getD 29 undef = .bool false := hd.1 rfl
    exact step_move (guard_none rfl) rfl _ rfl h29
  refine ⟨?_, ?_⟩
  · intro a _w _hB hF hd
    have h30 : a.tmps.getD 30 undef = .bool false := hd.1 rfl
    exact step_move (rf_open false rfl rfl h30) rfl _ rfl ((hF.other 8 rfl).trans S.v8)
  refine ⟨?_, ?_⟩
  · intro a _w _hB _hF hd
    have h30 : a.tmps.getD 30 undef = .bool false := hd.2.1 rfl
    have h31 : a.tmps.getD 31 undef = .int .i64 900 := hd.1 rfl
    refine step_call (rf_open false rfl rfl h30) rfl _ _ (rf_call_run Try.func11 (by kernel_rfl) (by kernel_rfl) _ _ rfl) ?_
    simp only [List.map_toArray, List.map_cons, List.map_nil, Act.eval, h31]
    exact (num_any _ _).mono (by rintro e w1 ⟨rfl, rfl⟩; exact ⟨_, rfl, Below.refl _ _, rfl⟩)
  refine ⟨?_, ?_⟩
  · intro a _w _hB _hF hd
    have h30 : a.tmps.getD 30 undef = .bool false := hd.2.1 rfl
    have h32 : a.tmps.getD 32 undef = .int .i64 900 := hd.1 rfl
    exact rf_eql (rf_open false rfl rfl h30) rfl _ _ rfl _ _ h32 rfl false rfl rfl
  refine ⟨?_, ?_⟩
  · intro a _w _hB _hF hd
    have h30 : a.tmps.getD 30 undef = .bool false := hd.2.2.1 rfl
    have h33 : a.tmps.getD 33 undef = .bool false := hd.1 rfl
    exact step_move (rf_open false rfl rfl h30) rfl _ rfl h33
  refine ⟨?_, ?_⟩
  · intro a _w _hB _hF hd
    have h34 : a.tmps.getD 34 undef = .bool false := hd.1 rfl
    exact rf_shut true rfl rfl h34 rfl
  refine ⟨?_, ?_⟩
  · intro a _w _hB _hF hd
    have h34 : a.tmps.getD 34 undef = .bool false := hd.2.1 rfl
    exact rf_shut true rfl rfl h34 rfl
  refine ⟨?_, ?_⟩
  · intro a _w _hB _hF hd
    have h34 : a.tmps.getD 34 undef = .bool false := hd.2.1 rfl
    exact rf_shut true rfl rfl h34 rfl
  refine ⟨?_, ?_⟩
  · intro a _w _hB _hF hd
    have h37 : a.tmps.getD 37 undef = undef := hd.1 rfl
    exact rf_shutu false rfl rfl h37 rfl
  refine ⟨?_, ?_⟩
  · intro a _w _hB _hF hd
    have h37 : a.tmps.getD 37 undef = undef := hd.2.1 rfl
    exact rf_shutu false rfl rfl h37 rfl
  refine ⟨?_, ?_⟩
  · intro a _w _hB _hF hd
    have h37 : a.tmps.getD 37 undef = undef := hd.2.1 rfl
    exact rf_shutu false rfl rfl h37 rfl
  refine ⟨?_, ?_⟩
  · intro a _w _hB _hF hd
    have h34 : a.tmps.getD 34 undef = .bool false := hd.2.2.1 rfl
    exact rf_shut true rfl rfl h34 rfl
  refine ⟨?_, ?_⟩
  · intro a _w _hB _hF hd
    have h30 : a.tmps.getD 30 undef = .bool false := hd.2.2.1 rfl
    have h34 : a.tmps.getD 34 undef = .bool false := hd.1 rfl
    exact rf_pick (rf_open false rfl rfl h30) rfl _ _ _ rfl false h34 rfl
  refine ⟨?_, ?_⟩
  · intro a _w _hB _hF hd
    have h30 : a.tmps.getD 30 undef = .bool false := hd.1 rfl
    have h42 : a.tmps.getD 42 undef = .bool false := hd.2.1 rfl
    exact rf_pick (guard_none rfl) rfl _ _ _ rfl false h30 h42
  trivial
theorem bn4_any {Q : Exit → Act → World → Prop} {l : List Oper} (hl : opsOf 4 Try.f4 = l) (hend : ∀ w : World, Below w0.heap.size w0 w → Q .normal (putAll a0 [(24, .int .i64 900), (25, .int .i64 900), (26, .bool false), (27, .agg #[.int .i64 kd, .int .i64 so, .int .i64 se, .int .i64 ti, .int .i64 va]), (28, .bool false), (29, .bool false), (30, .bool false), (31, .int .i64 900), (32, .int .i64 900), (33, .bool false), (34, .bool false), (35, undef), (36, undef), (37, undef), (38, undef), (39, undef), (40, undef), (41, undef), (42, .bool false), (43, .bool false)]) w) :
    (Code.region 4 l.toArray true).wp Try.prog Q a0 w0 := by
  subst hl
  refine region_facts2 (bn4F kd so se ti va p g) bn4D 102 S.size rfl (by kernel_rfl) (by kernel_rfl) (bn4F_mono _ _ _ _ _ _ _) (bn4_ok S) fun a w hB hF h => ?_
  have hv : valsAre a [(24, .int .i64 900), (25, .int .i64 900), (26, .bool false), (27, .agg #[.int .i64 kd, .int .i64 so, .int .i64 se, .int .i64 ti, .int .i64 va]), (28, .bool false), (29, .bool false), (30, .bool false), (31, .int .i64 900), (32, .int .i64 900), (33, .bool false), (34, .bool false), (35, undef), (36, undef), (37, undef), (38, undef), (39, undef), (40, undef), (41, undef), (42, .bool false), (43, .bool false)] := by
    refine ⟨?_, ?_, ?_, ?_, ?_, ?_, ?_, ?_, ?_, ?_, ?_, ?_, ?_, ?_, ?_, ?_, ?_, ?_, ?_, ?_, trivial⟩
    · exact h 0 (some 24) rfl
    · exact h 1 (some 25) rfl
    · exact h 2 (some 26) rfl
    · exact h 3 (some 27) rfl
    · exact h 4 (some 28) rfl
    · exact h 5 (some 29) rfl
    · exact h 6 (some 30) rfl
    · exact h 7 (some 31) rfl
    · exact h 8 (some 32) rfl
    · exact h 9 (some 33) rfl
    · exact h 10 (some 34) rfl
    · exact h 11 (some 35) rfl
    · exact h 12 (some 36) rfl
    · exact h 13 (some 37) rfl
    · exact h 14 (some 38) rfl
    · exact h 15 (some 39) rfl
    · exact h 16 (some 40) rfl
    · exact h 17 (some 41) rfl
    · exact h 18 (some 42) rfl
    · exact h 19 (some 43) rfl
  rw [frame_is hF _ hv (by rfl) (by rfl)]
  exact hend w hB
end

end Go.Proofs.Ytadejalbmpfdmaa
