/-
  Walk: awake, its last region: what the answer is put together of, in any order.
-/
import Derived.Test.YtjmaeiilkbfnaaaVars
import Derived.Test.YtjmaeiilkbfnaaaQ2
namespace Go.Proofs.Ytjmaeiilkbfnaaa
open Go.RowKit

def acZ : Ac := ⟨2, -2, -7, 5, ⟨1, 3, 9, -7⟩, ⟨1, 4, 2, 5⟩, [1, 1, 0]⟩
def acU : Ac := ⟨0, 0, 0, 0, zeroIt, zeroIt, [0, 0, 0]⟩
/-- A new row of three numbers. -/
def sliceF (l : List Int) : Fact := fun v w => ∃ g, v = .slice (some ⟨g, 0, none⟩) 3 3 ∧ Has w g 3 (ints l)
/-- An aggregate with its own row. -/
def aggF (c : Ac) : Fact := fun v w => ∃ g, v = .agg (accC c (some ⟨g, 0, none⟩) 3 3) ∧ Has w g 3 (ints c.h)
theorem mono_slice (l : List Int) : Mono (sliceF l) := fun _ _ _ hb ⟨g, e, h⟩ => ⟨g, e, has_below h hb⟩
theorem mono_agg (c : Ac) : Mono (aggF c) := fun _ _ _ hb ⟨g, e, h⟩ => ⟨g, e, has_below h hb⟩

section
variable {D : List (Option Tmp)} {Φ : Fact} {o : Oper} {a : Act} {w : World}
theorem step_load (hw : Region.wanted o (yieldD D a.tmps) = true) {t : Tmp} (hd : o.dst = some t) (x : Operand) (ho : o.op = .load 29 x) (g : Nat) (hx : a.eval x = .pointer (some ⟨g, 0, none⟩)) {c : Ac} {A : Option Addr} {k m : Nat} (hc : Has w g 29 (accC c A k m))
    (h : Φ (.agg (accC c A k m)) w) : StepD Try.prog D Φ o a w := by
  intro Q
  rw [if_pos hw]
  exact wp_load_row 29 x ho g hx 29 _ (0, 0) _ hc Try.underlying29 rfl Try.sizeAcc ⟨_, rfl, (fun hn => by rw [hd] at hn; cases hn), Below.refl _ _, h⟩
theorem step_eql (hw : Region.wanted o (yieldD D a.tmps) = true) {t : Tmp} (hd : o.dst = some t) (x y : Operand) (ho : o.op = .binOp .eql 3 x y 3) (n : Int) (hx : a.eval x = .int .i64 n) (hy : a.eval y = .int .i64 n) (h : Φ (.bool true) w) : StepD Try.prog D Φ o a w :=
  step_val hw hd _ _ (by unfold execOp; rw [ho]; simp only [hx, hy]; simp [go_sem]) (Below.refl _ _) h
theorem lit3_run (x y z : Int) (w : World) : (Instr.buildSlice 25 3 #[(0, .int .i64 x), (1, .int .i64 y), (2, .int .i64 z)]).run Try.prog w = .ok (.slice (some ⟨w.heap.size, 0, none⟩) 3 3) (w.alloc (.cells (ints [x, y, z]) 3)) := by kernel_rfl
theorem step_lit (hw : Region.wanted o (yieldD D a.tmps) = true) {t : Tmp} (hd : o.dst = some t) (x y z : Int) (ho : o.op = .buildSlice 25 3 #[(0, .const (.int .i64 x)), (1, .const (.int .i64 y)), (2, .const (.int .i64 z))])
    (h : ∀ w', Below w.heap.size w w' → sliceF [x, y, z] (.slice (some ⟨w.heap.size, 0, none⟩) 3 3) w' → Φ (.slice (some ⟨w.heap.size, 0, none⟩) 3 3) w') : StepD Try.prog D Φ o a w := by
  have hb : Below w.heap.size w (w.alloc (.cells (ints [x, y, z]) 3)) := (Below.refl _ _).alloc (Nat.le_refl _) _
  refine step_val hw hd _ _ ?_ hb (h _ hb ⟨_, rfl, Has.made _ _ _⟩)
  unfold execOp
  rw [ho]
  simp only [List.map_toArray, List.map_cons, List.map_nil, Act.eval, Sem.run_bind, lit3_run, Result.andThen_ok]
  rfl
theorem buildZ_run (g : Nat) (w : World) : (Instr.build 29 #[(0, .int .i64 2), (1, .int .i64 (-2)), (2, .int .i64 (-7)), (3, .int .i64 5), (4, (.agg #[.int .i64 (1), .int .i64 (3), .int .i64 (9), .int .i64 (-7)])), (5, (.agg #[.int .i64 (1), .int .i64 (4), .int .i64 (2), .int .i64 (5)])), (6, .slice (some ⟨g, 0, none⟩) 3 3)]).run Try.prog w = .ok (.agg (accC acZ (some ⟨g, 0, none⟩) 3 3)) w := by kernel_rfl
theorem buildU_run (g : Nat) (w : World) : (Instr.build 29 #[(6, .slice (some ⟨g, 0, none⟩) 3 3)]).run Try.prog w = .ok (.agg (accC acU (some ⟨g, 0, none⟩) 3 3)) w := by kernel_rfl
theorem call_run {f : FuncId} {fn : Func} (hf : Try.prog.funcs[f]? = some fn) (hname : (fn.name == "runtime.NumGoroutine") = false) (hb : fn.body.isSome = true) (args : Array Operand) (tys : Array TypeId) (ho : o.op = .call { callee := .value (.func f), args := args, argTypes := tys }) : (execOp a.eval o).run Try.prog w = .ok (.enter f (args.map a.eval)) w := by
  have h1 : fn.name ≠ "runtime.NumGoroutine" := by simpa using hname
  obtain ⟨c, hc⟩ := Option.isSome_iff_exists.1 hb
  unfold execOp
  rw [ho]
  simp [resolve, Act.eval, callFunc, hf, h1, hc, go_sem]
end

def endD : List (Option Tmp) := [some 62, some 63, some 64, some 65, some 66, some 67, some 68, some 69, some 70, some 71, some 72, some 73, some 74, some 75, some 76, some 77, some 78, some 79, some 80, some 81, some 82, some 83, some 84, some 85, some 86, some 87, some 88, some 89, some 90, some 91, some 92, some 93, some 94, some 95, some 96, some 97, some 98, some 99, some 100, some 101, some 102, some 103, some 104, some 105, some 106, some 107, some 108, some 109, some 110, some 111, some 112, some 113, some 114, some 115, some 116, some 117, some 118, some 0]
def endF (b yZ yU : Nat) : List Fact := [isV (.agg (accC acZ (some ⟨yZ, 0, none⟩) 3 3)),
  isV (.agg #[.int .i64 (1), .int .i64 (3), .int .i64 (9), .int .i64 (-7)]),
  isV (.agg #[.int .i64 (1), .int .i64 (4), .int .i64 (2), .int .i64 (5)]),
  sliceF [1, 1, 0],
  aggF acZ,
  isV (.bool true),
  isV (.bool true),
  isV (.int .i64 0),
  isV (.int .i64 0),
  isV (.bool true),
  isV (.bool true),
  isV (.bool true),
  isV (.int .i64 0),
  isV (.int .i64 0),
  isV (.bool true),
  isV (.bool true),
  isV (.bool true),
  isV (.int .i64 0),
  isV (.int .i64 0),
  isV (.bool true),
  isV (.bool true),
  isV (.bool true),
  isV (.int .i64 100),
  isV (.int .i64 100),
  isV (.bool true),
  isV (.bool true),
  isV (.bool true),
  isV (.agg (accC acU (some ⟨yU, 0, none⟩) 3 3)),
  sliceF [0, 0, 0],
  aggF acU,
  isV (.bool true),
  isV (.bool true),
  isV (.bool true),
  isV (.int .i64 0),
  isV (.int .i64 0),
  isV (.bool true),
  isV (.bool true),
  isV (.bool true),
  isV (.int .i64 0),
  isV (.int .i64 0),
  isV (.bool true),
  isV (.bool true),
  isV (.bool true),
  isV (.int .i64 100),
  isV (.int .i64 100),
  isV (.bool true),
  isV (.bool true),
  isV (.bool true),
  isV (.agg (accC acZ (some ⟨yZ, 0, none⟩) 3 3)),
  isV (.slice (some ⟨b, 0, none⟩) 2 2),
  isV (.bool true),
  isV (.bool true),
  isV (.bool true),
  isV (.agg (accC acZ (some ⟨yZ, 0, none⟩) 3 3)),
  isV (.bool false),
  isV (.bool true),
  isV (.bool true),
  isV (.bool true)]
theorem endF_mono (b yZ yU : Nat) : ∀ f ∈ endF b yZ yU, Mono f := by
  unfold endF
  repeat (first | exact monos_nil | (refine monos_cons (mono_isV _) ?_) | (refine monos_cons (mono_slice _) ?_) | (refine monos_cons (mono_agg _) ?_))

structure EndStart (b yZ yU gZ gU : Nat) (a0 : Act) (w0 : World) : Prop where
  size : a0.tmps.size = 119
  z : V w0 gZ yZ acZ
  u : V w0 gU yU acU
  hb : Has w0 b 3 (ints [0, 5])
  v1 : a0.tmps.getD 1 undef = .slice (some ⟨b, 0, none⟩) 2 2
  v3 : a0.tmps.getD 3 undef = (.int .i64 0)
  v5 : a0.tmps.getD 5 undef = (.int .i64 0)
  v6 : a0.tmps.getD 6 undef = .pointer (some ⟨gZ, 0, none⟩)
  v7 : a0.tmps.getD 7 undef = (.int .i64 0)
  v9 : a0.tmps.getD 9 undef = (.int .i64 100)
  v10 : a0.tmps.getD 10 undef = .pointer (some ⟨gU, 0, none⟩)
  v11 : a0.tmps.getD 11 undef = (.int .i64 0)
  v13 : a0.tmps.getD 13 undef = (.int .i64 0)
  v15 : a0.tmps.getD 15 undef = (.int .i64 100)
theorem accZ_b : accB acZ [0, 5] = true := by decide +kernel
theorem accZ_n : accB acZ [] = false := by decide +kernel
section
variable {b yZ yU gZ gU : Nat} {a0 : Act} {w0 : World} (S : EndStart b yZ yU gZ gU a0 w0)
include S

set_option maxRecDepth 100000 in
set_option maxHeartbeats 8000000 in
theorem end_facts : AllOps (fun j o => ∀ (a : Act) (w : World), Below w0.heap.size w0 w → FrD endD a0 a → needs endD (endF b yZ yU) a w o.after.toList → StepD Try.prog endD (factAt (endF b yZ yU) j) o a w) 0 (opsOf 9 Try.f20) := by
  simp only [opsOf, Try.f20, opsAt, Option.bind, Option.or, Option.getD, reduceCtorEq, if_true, if_false, Nat.reduceEqDiff]
  refine ⟨?_, ?_⟩
  · intro a w hB hF hd
    have hv := (hF.other 6 rfl).trans S.v6
    exact step_load (guard_none rfl) rfl _ rfl gZ hv (S.z.cells.below hB S.z.cells.lt) rfl
  refine ⟨?_, ?_⟩
  · intro a w hB hF hd
    refine step_call (guard_none rfl) rfl _ _ (call_run Try.func51 (by kernel_rfl) (by kernel_rfl) _ _ rfl) ?_
    simp only [List.map_toArray, List.map_cons, List.map_nil, Act.eval]
    exact (mkItem_any _ _ _ _ _).mono (by rintro e w1 ⟨rfl, hb⟩; exact ⟨_, rfl, hb, rfl⟩)
  refine ⟨?_, ?_⟩
  · intro a w hB hF hd
    refine step_call (guard_none rfl) rfl _ _ (call_run Try.func51 (by kernel_rfl) (by kernel_rfl) _ _ rfl) ?_
    simp only [List.map_toArray, List.map_cons, List.map_nil, Act.eval]
    exact (mkItem_any _ _ _ _ _).mono (by rintro e w1 ⟨rfl, hb⟩; exact ⟨_, rfl, hb, rfl⟩)
  refine ⟨?_, ?_⟩
  · intro a w hB hF hd
    exact step_lit (guard_none rfl) rfl _ _ _ rfl (fun _ _ h => h)
  refine ⟨?_, ?_⟩
  · intro a w hB hF hd
    have h1 : a.tmps.getD 63 undef = (.agg #[.int .i64 (1), .int .i64 (3), .int .i64 (9), .int .i64 (-7)]) := hd.1 rfl
    have h2 : a.tmps.getD 64 undef = (.agg #[.int .i64 (1), .int .i64 (4), .int .i64 (2), .int .i64 (5)]) := hd.2.1 rfl
    have h3 : (sliceF [1, 1, 0]) (a.tmps.getD 65 undef) w := hd.2.2.1 rfl
    obtain ⟨g, e3, h3⟩ := h3
    refine step_val (guard_none rfl) rfl _ w ?_ (Below.refl _ _) ⟨g, rfl, h3⟩
    unfold execOp
    simp only [List.map_toArray, List.map_cons, List.map_nil, Act.eval, h1, h2, e3, Sem.run_bind, buildZ_run, Result.andThen_ok]
    rfl
  refine ⟨?_, ?_⟩
  · intro a w hB hF hd
    have h0 : a.tmps.getD 62 undef = (.agg (accC acZ (some ⟨yZ, 0, none⟩) 3 3)) := hd.1 rfl
    have h4 : (aggF acZ) (a.tmps.getD 66 undef) w := hd.2.1 rfl
    obtain ⟨g, e, hh⟩ := h4
    refine step_call (guard_none rfl) rfl _ _ (call_run Try.func13 (by kernel_rfl) (by kernel_rfl) _ _ rfl) ?_
    simp only [List.map_toArray, List.map_cons, List.map_nil, Act.eval, h0, e]
    exact (sameAcc_true acZ _ _ 3 3 3 _ (ints_of_has (has_below S.z.hist hB) rfl) (ints_of_has hh rfl) (by unfold maxLen; omega)).mono (by rintro e w1 ⟨rfl, hb⟩; exact ⟨_, rfl, hb, rfl⟩)
  refine ⟨?_, ?_⟩
  · intro a w hB hF hd
    have h5 : a.tmps.getD 67 undef = (.bool true) := hd.1 rfl
    exact step_move (guard_none rfl) rfl _ rfl h5
  refine ⟨?_, ?_⟩
  · intro a w hB hF hd
    have h6 : a.tmps.getD 68 undef = (.bool true) := hd.1 rfl
    exact step_move (guard_true rfl rfl h6) rfl _ rfl ((hF.other 3 rfl).trans S.v3)
  refine ⟨?_, ?_⟩
  · intro a w hB hF hd
    have h7 : a.tmps.getD 69 undef = (.int .i64 0) := hd.1 rfl
    have h6 : a.tmps.getD 68 undef = (.bool true) := hd.2.1 rfl
    refine step_call (guard_true rfl rfl h6) rfl _ _ (call_run Try.func14 (by kernel_rfl) (by kernel_rfl) _ _ rfl) ?_
    simp only [List.map_toArray, List.map_cons, List.map_nil, Act.eval, h7]
    exact (num_any _ _).mono (by rintro e w1 ⟨rfl, rfl⟩; exact ⟨_, rfl, Below.refl _ _, rfl⟩)
  refine ⟨?_, ?_⟩
  · intro a w hB hF hd
    have h8 : a.tmps.getD 70 undef = (.int .i64 0) := hd.1 rfl
    have h6 : a.tmps.getD 68 undef = (.bool true) := hd.2.1 rfl
    exact step_eql (guard_true rfl rfl h6) rfl _ _ rfl 0 h8 rfl rfl
  refine ⟨?_, ?_⟩
  · intro a w hB hF hd
    have h6 : a.tmps.getD 68 undef = (.bool true) := hd.1 rfl
    have h9 : a.tmps.getD 71 undef = (.bool true) := hd.2.1 rfl
    exact step_pick (guard_none rfl) rfl _ _ _ rfl h6 h9
  refine ⟨?_, ?_⟩
  · intro a w hB hF hd
    have h10 : a.tmps.getD 72 undef = (.bool true) := hd.1 rfl
    exact step_move (guard_none rfl) rfl _ rfl h10
  refine ⟨?_, ?_⟩
  · intro a w hB hF hd
    have h11 : a.tmps.getD 73 undef = (.bool true) := hd.1 rfl
    exact step_move (guard_true rfl rfl h11) rfl _ rfl ((hF.other 5 rfl).trans S.v5)
  refine ⟨?_, ?_⟩
  · intro a w hB hF hd
    have h12 : a.tmps.getD 74 undef = (.int .i64 0) := hd.1 rfl
    have h11 : a.tmps.getD 73 undef = (.bool true) := hd.2.1 rfl
    refine step_call (guard_true rfl rfl h11) rfl _ _ (call_run Try.func14 (by kernel_rfl) (by kernel_rfl) _ _ rfl) ?_
    simp only [List.map_toArray, List.map_cons, List.map_nil, Act.eval, h12]
    exact (num_any _ _).mono (by rintro e w1 ⟨rfl, rfl⟩; exact ⟨_, rfl, Below.refl _ _, rfl⟩)
  refine ⟨?_, ?_⟩
  · intro a w hB hF hd
    have h13 : a.tmps.getD 75 undef = (.int .i64 0) := hd.1 rfl
    have h11 : a.tmps.getD 73 undef = (.bool true) := hd.2.1 rfl
    exact step_eql (guard_true rfl rfl h11) rfl _ _ rfl 0 h13 rfl rfl
  refine ⟨?_, ?_⟩
  · intro a w hB hF hd
    have h11 : a.tmps.getD 73 undef = (.bool true) := hd.1 rfl
    have h14 : a.tmps.getD 76 undef = (.bool true) := hd.2.1 rfl
    exact step_pick (guard_none rfl) rfl _ _ _ rfl h11 h14
  refine ⟨?_, ?_⟩
  · intro a w hB hF hd
    have h15 : a.tmps.getD 77 undef = (.bool true) := hd.1 rfl
    exact step_move (guard_none rfl) rfl _ rfl h15
  refine ⟨?_, ?_⟩
  · intro a w hB hF hd
    have h16 : a.tmps.getD 78 undef = (.bool true) := hd.1 rfl
    exact step_move (guard_true rfl rfl h16) rfl _ rfl ((hF.other 7 rfl).trans S.v7)
  refine ⟨?_, ?_⟩
  · intro a w hB hF hd
    have h17 : a.tmps.getD 79 undef = (.int .i64 0) := hd.1 rfl
    have h16 : a.tmps.getD 78 undef = (.bool true) := hd.2.1 rfl
    refine step_call (guard_true rfl rfl h16) rfl _ _ (call_run Try.func14 (by kernel_rfl) (by kernel_rfl) _ _ rfl) ?_
    simp only [List.map_toArray, List.map_cons, List.map_nil, Act.eval, h17]
    exact (num_any _ _).mono (by rintro e w1 ⟨rfl, rfl⟩; exact ⟨_, rfl, Below.refl _ _, rfl⟩)
  refine ⟨?_, ?_⟩
  · intro a w hB hF hd
    have h18 : a.tmps.getD 80 undef = (.int .i64 0) := hd.1 rfl
    have h16 : a.tmps.getD 78 undef = (.bool true) := hd.2.1 rfl
    exact step_eql (guard_true rfl rfl h16) rfl _ _ rfl 0 h18 rfl rfl
  refine ⟨?_, ?_⟩
  · intro a w hB hF hd
    have h16 : a.tmps.getD 78 undef = (.bool true) := hd.1 rfl
    have h19 : a.tmps.getD 81 undef = (.bool true) := hd.2.1 rfl
    exact step_pick (guard_none rfl) rfl _ _ _ rfl h16 h19
  refine ⟨?_, ?_⟩
  · intro a w hB hF hd
    have h20 : a.tmps.getD 82 undef = (.bool true) := hd.1 rfl
    exact step_move (guard_none rfl) rfl _ rfl h20
  refine ⟨?_, ?_⟩
  · intro a w hB hF hd
    have h21 : a.tmps.getD 83 undef = (.bool true) := hd.1 rfl
    exact step_move (guard_true rfl rfl h21) rfl _ rfl ((hF.other 9 rfl).trans S.v9)
  refine ⟨?_, ?_⟩
  · intro a w hB hF hd
    have h22 : a.tmps.getD 84 undef = (.int .i64 100) := hd.1 rfl
    have h21 : a.tmps.getD 83 undef = (.bool true) := hd.2.1 rfl
    refine step_call (guard_true rfl rfl h21) rfl _ _ (call_run Try.func14 (by kernel_rfl) (by kernel_rfl) _ _ rfl) ?_
    simp only [List.map_toArray, List.map_cons, List.map_nil, Act.eval, h22]
    exact (num_any _ _).mono (by rintro e w1 ⟨rfl, rfl⟩; exact ⟨_, rfl, Below.refl _ _, rfl⟩)
  refine ⟨?_, ?_⟩
  · intro a w hB hF hd
    have h23 : a.tmps.getD 85 undef = (.int .i64 100) := hd.1 rfl
    have h21 : a.tmps.getD 83 undef = (.bool true) := hd.2.1 rfl
    exact step_eql (guard_true rfl rfl h21) rfl _ _ rfl 100 h23 rfl rfl
  refine ⟨?_, ?_⟩
  · intro a w hB hF hd
    have h21 : a.tmps.getD 83 undef = (.bool true) := hd.1 rfl
    have h24 : a.tmps.getD 86 undef = (.bool true) := hd.2.1 rfl
    exact step_pick (guard_none rfl) rfl _ _ _ rfl h21 h24
  refine ⟨?_, ?_⟩
  · intro a w hB hF hd
    have h25 : a.tmps.getD 87 undef = (.bool true) := hd.1 rfl
    exact step_move (guard_none rfl) rfl _ rfl h25
  refine ⟨?_, ?_⟩
  · intro a w hB hF hd
    have h26 : a.tmps.getD 88 undef = (.bool true) := hd.1 rfl
    have hv := (hF.other 10 rfl).trans S.v10
    exact step_load (guard_true rfl rfl h26) rfl _ rfl gU hv (S.u.cells.below hB S.u.cells.lt) rfl
  refine ⟨?_, ?_⟩
  · intro a w hB hF hd
    have h26 : a.tmps.getD 88 undef = (.bool true) := hd.1 rfl
    exact step_lit (guard_true rfl rfl h26) rfl _ _ _ rfl (fun _ _ h => h)
  refine ⟨?_, ?_⟩
  · intro a w hB hF hd
    have h28 : (sliceF [0, 0, 0]) (a.tmps.getD 90 undef) w := hd.1 rfl
    have h26 : a.tmps.getD 88 undef = (.bool true) := hd.2.1 rfl
    obtain ⟨g, e3, h3⟩ := h28
    refine step_val (guard_true rfl rfl h26) rfl _ w ?_ (Below.refl _ _) ⟨g, rfl, h3⟩
    unfold execOp
    simp only [List.map_toArray, List.map_cons, List.map_nil, Act.eval, e3, Sem.run_bind, buildU_run, Result.andThen_ok]
    rfl
  refine ⟨?_, ?_⟩
  · intro a w hB hF hd
    have h27 : a.tmps.getD 89 undef = (.agg (accC acU (some ⟨yU, 0, none⟩) 3 3)) := hd.1 rfl
    have h29 : (aggF acU) (a.tmps.getD 91 undef) w := hd.2.1 rfl
    have h26 : a.tmps.getD 88 undef = (.bool true) := hd.2.2.1 rfl
    obtain ⟨g, e, hh⟩ := h29
    refine step_call (guard_true rfl rfl h26) rfl _ _ (call_run Try.func13 (by kernel_rfl) (by kernel_rfl) _ _ rfl) ?_
    simp only [List.map_toArray, List.map_cons, List.map_nil, Act.eval, h27, e]
    exact (sameAcc_true acU _ _ 3 3 3 _ (ints_of_has (has_below S.u.hist hB) rfl) (ints_of_has hh rfl) (by unfold maxLen; omega)).mono (by rintro e w1 ⟨rfl, hb⟩; exact ⟨_, rfl, hb, rfl⟩)
  refine ⟨?_, ?_⟩
  · intro a w hB hF hd
    have h26 : a.tmps.getD 88 undef = (.bool true) := hd.1 rfl
    have h30 : a.tmps.getD 92 undef = (.bool true) := hd.2.1 rfl
    exact step_pick (guard_none rfl) rfl _ _ _ rfl h26 h30
  refine ⟨?_, ?_⟩
  · intro a w hB hF hd
    have h31 : a.tmps.getD 93 undef = (.bool true) := hd.1 rfl
    exact step_move (guard_none rfl) rfl _ rfl h31
  refine ⟨?_, ?_⟩
  · intro a w hB hF hd
    have h32 : a.tmps.getD 94 undef = (.bool true) := hd.1 rfl
    exact step_move (guard_true rfl rfl h32) rfl _ rfl ((hF.other 11 rfl).trans S.v11)
  refine ⟨?_, ?_⟩
  · intro a w hB hF hd
    have h33 : a.tmps.getD 95 undef = (.int .i64 0) := hd.1 rfl
    have h32 : a.tmps.getD 94 undef = (.bool true) := hd.2.1 rfl
    refine step_call (guard_true rfl rfl h32) rfl _ _ (call_run Try.func14 (by kernel_rfl) (by kernel_rfl) _ _ rfl) ?_
    simp only [List.map_toArray, List.map_cons, List.map_nil, Act.eval, h33]
    exact (num_any _ _).mono (by rintro e w1 ⟨rfl, rfl⟩; exact ⟨_, rfl, Below.refl _ _, rfl⟩)
  refine ⟨?_, ?_⟩
  · intro a w hB hF hd
    have h34 : a.tmps.getD 96 undef = (.int .i64 0) := hd.1 rfl
    have h32 : a.tmps.getD 94 undef = (.bool true) := hd.2.1 rfl
    exact step_eql (guard_true rfl rfl h32) rfl _ _ rfl 0 h34 rfl rfl
  refine ⟨?_, ?_⟩
  · intro a w hB hF hd
    have h32 : a.tmps.getD 94 undef = (.bool true) := hd.1 rfl
    have h35 : a.tmps.getD 97 undef = (.bool true) := hd.2.1 rfl
    exact step_pick (guard_none rfl) rfl _ _ _ rfl h32 h35
  refine ⟨?_, ?_⟩
  · intro a w hB hF hd
    have h36 : a.tmps.getD 98 undef = (.bool true) := hd.1 rfl
    exact step_move (guard_none rfl) rfl _ rfl h36
  refine ⟨?_, ?_⟩
  · intro a w hB hF hd
    have h37 : a.tmps.getD 99 undef = (.bool true) := hd.1 rfl
    exact step_move (guard_true rfl rfl h37) rfl _ rfl ((hF.other 13 rfl).trans S.v13)
  refine ⟨?_, ?_⟩
  · intro a w hB hF hd
    have h38 : a.tmps.getD 100 undef = (.int .i64 0) := hd.1 rfl
    have h37 : a.tmps.getD 99 undef = (.bool true) := hd.2.1 rfl
    refine step_call (guard_true rfl rfl h37) rfl _ _ (call_run Try.func14 (by kernel_rfl) (by kernel_rfl) _ _ rfl) ?_
    simp only [List.map_toArray, List.map_cons, List.map_nil, Act.eval, h38]
    exact (num_any _ _).mono (by rintro e w1 ⟨rfl, rfl⟩; exact ⟨_, rfl, Below.refl _ _, rfl⟩)
  refine ⟨?_, ?_⟩
  · intro a w hB hF hd
    have h39 : a.tmps.getD 101 undef = (.int .i64 0) := hd.1 rfl
    have h37 : a.tmps.getD 99 undef = (.bool true) := hd.2.1 rfl
    exact step_eql (guard_true rfl rfl h37) rfl _ _ rfl 0 h39 rfl rfl
  refine ⟨?_, ?_⟩
  · intro a w hB hF hd
    have h37 : a.tmps.getD 99 undef = (.bool true) := hd.1 rfl
    have h40 : a.tmps.getD 102 undef = (.bool true) := hd.2.1 rfl
    exact step_pick (guard_none rfl) rfl _ _ _ rfl h37 h40
  refine ⟨?_, ?_⟩
  · intro a w hB hF hd
    have h41 : a.tmps.getD 103 undef = (.bool true) := hd.1 rfl
    exact step_move (guard_none rfl) rfl _ rfl h41
  refine ⟨?_, ?_⟩
  · intro a w hB hF hd
    have h42 : a.tmps.getD 104 undef = (.bool true) := hd.1 rfl
    exact step_move (guard_true rfl rfl h42) rfl _ rfl ((hF.other 15 rfl).trans S.v15)
  refine ⟨?_, ?_⟩
  · intro a w hB hF hd
    have h43 : a.tmps.getD 105 undef = (.int .i64 100) := hd.1 rfl
    have h42 : a.tmps.getD 104 undef = (.bool true) := hd.2.1 rfl
    refine step_call (guard_true rfl rfl h42) rfl _ _ (call_run Try.func14 (by kernel_rfl) (by kernel_rfl) _ _ rfl) ?_
    simp only [List.map_toArray, List.map_cons, List.map_nil, Act.eval, h43]
    exact (num_any _ _).mono (by rintro e w1 ⟨rfl, rfl⟩; exact ⟨_, rfl, Below.refl _ _, rfl⟩)
  refine ⟨?_, ?_⟩
  · intro a w hB hF hd
    have h44 : a.tmps.getD 106 undef = (.int .i64 100) := hd.1 rfl
    have h42 : a.tmps.getD 104 undef = (.bool true) := hd.2.1 rfl
    exact step_eql (guard_true rfl rfl h42) rfl _ _ rfl 100 h44 rfl rfl
  refine ⟨?_, ?_⟩
  · intro a w hB hF hd
    have h42 : a.tmps.getD 104 undef = (.bool true) := hd.1 rfl
    have h45 : a.tmps.getD 107 undef = (.bool true) := hd.2.1 rfl
    exact step_pick (guard_none rfl) rfl _ _ _ rfl h42 h45
  refine ⟨?_, ?_⟩
  · intro a w hB hF hd
    have h46 : a.tmps.getD 108 undef = (.bool true) := hd.1 rfl
    exact step_move (guard_none rfl) rfl _ rfl h46
  refine ⟨?_, ?_⟩
  · intro a w hB hF hd
    have h47 : a.tmps.getD 109 undef = (.bool true) := hd.1 rfl
    have hv := (hF.other 6 rfl).trans S.v6
    exact step_load (guard_true rfl rfl h47) rfl _ rfl gZ hv (S.z.cells.below hB S.z.cells.lt) rfl
  refine ⟨?_, ?_⟩
  · intro a w hB hF hd
    have h47 : a.tmps.getD 109 undef = (.bool true) := hd.1 rfl
    exact step_move (guard_true rfl rfl h47) rfl _ rfl ((hF.other 1 rfl).trans S.v1)
  refine ⟨?_, ?_⟩
  · intro a w hB hF hd
    have h48 : a.tmps.getD 110 undef = (.agg (accC acZ (some ⟨yZ, 0, none⟩) 3 3)) := hd.1 rfl
    have h49 : a.tmps.getD 111 undef = (.slice (some ⟨b, 0, none⟩) 2 2) := hd.2.1 rfl
    have h47 : a.tmps.getD 109 undef = (.bool true) := hd.2.2.1 rfl
    refine step_call (guard_true rfl rfl h47) rfl _ _ (call_run Try.func15 (by kernel_rfl) (by kernel_rfl) _ _ rfl) ?_
    simp only [List.map_toArray, List.map_cons, List.map_nil, Act.eval, h48, h49]
    exact (may_any acZ _ 3 3 _ 2 2 [0, 5] _ (ints_of_has (has_below S.z.hist hB) rfl) (ints_of_has (has_below S.hb hB) rfl) (by unfold maxLen; omega) (by unfold maxLen; omega)).mono (by rintro e w1 ⟨rfl, hb⟩; exact ⟨_, rfl, hb, congrArg Value.bool accZ_b⟩)
  refine ⟨?_, ?_⟩
  · intro a w hB hF hd
    have h47 : a.tmps.getD 109 undef = (.bool true) := hd.1 rfl
    have h50 : a.tmps.getD 112 undef = (.bool true) := hd.2.1 rfl
    exact step_pick (guard_none rfl) rfl _ _ _ rfl h47 h50
  refine ⟨?_, ?_⟩
  · intro a w hB hF hd
    have h51 : a.tmps.getD 113 undef = (.bool true) := hd.1 rfl
    exact step_move (guard_none rfl) rfl _ rfl h51
  refine ⟨?_, ?_⟩
  · intro a w hB hF hd
    have h52 : a.tmps.getD 114 undef = (.bool true) := hd.1 rfl
    have hv := (hF.other 6 rfl).trans S.v6
    exact step_load (guard_true rfl rfl h52) rfl _ rfl gZ hv (S.z.cells.below hB S.z.cells.lt) rfl
  refine ⟨?_, ?_⟩
  · intro a w hB hF hd
    have h53 : a.tmps.getD 115 undef = (.agg (accC acZ (some ⟨yZ, 0, none⟩) 3 3)) := hd.1 rfl
    have h52 : a.tmps.getD 114 undef = (.bool true) := hd.2.1 rfl
    refine step_call (guard_true rfl rfl h52) rfl _ _ (call_run Try.func15 (by kernel_rfl) (by kernel_rfl) _ _ rfl) ?_
    simp only [List.map_toArray, List.map_cons, List.map_nil, Act.eval, h53]
    exact (may_any acZ _ 3 3 none 0 0 [] _ (ints_of_has (has_below S.z.hist hB) rfl) Ints.nil (by unfold maxLen; omega) (by unfold maxLen; omega)).mono (by rintro e w1 ⟨rfl, hb⟩; exact ⟨_, rfl, hb, congrArg Value.bool accZ_n⟩)
  refine ⟨?_, ?_⟩
  · intro a w hB hF hd
    have h54 : a.tmps.getD 116 undef = (.bool false) := hd.1 rfl
    have h52 : a.tmps.getD 114 undef = (.bool true) := hd.2.1 rfl
    exact step_not (guard_true rfl rfl h52) rfl _ _ rfl h54 rfl
  refine ⟨?_, ?_⟩
  · intro a w hB hF hd
    have h52 : a.tmps.getD 114 undef = (.bool true) := hd.1 rfl
    have h55 : a.tmps.getD 117 undef = (.bool true) := hd.2.1 rfl
    exact step_pick (guard_none rfl) rfl _ _ _ rfl h52 h55
  refine ⟨?_, ?_⟩
  · intro a w hB hF hd
    have h56 : a.tmps.getD 118 undef = (.bool true) := hd.1 rfl
    exact step_assign (guard_none rfl) rfl _ rfl h56
  trivial

theorem end_any {Q : Exit → Act → World → Prop} (hend : ∀ (a : Act) (w : World), Below w0.heap.size w0 w → a.defers = a0.defers → a.tmps.getD 0 undef = .bool true → Q .normal a w) :
    (Code.region 9 (opsOf 9 Try.f20).toArray true).wp Try.prog Q a0 w0 :=
  region_facts (endF b yZ yU) endD 119 S.size rfl (by kernel_rfl) (by kernel_rfl) (endF_mono _ _ _) (end_facts S) fun a w hB hF h => hend a w hB hF.defers (h 57 (some 0) rfl)
end

end Go.Proofs.Ytjmaeiilkbfnaaa
