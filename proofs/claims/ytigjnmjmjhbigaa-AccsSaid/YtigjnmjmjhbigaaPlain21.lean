/-
  Walk: LowPlain: what is told is held against what a plain walk found.
-/
import Derived.Test.YtigjnmjmjhbigaaOver
import Derived.Test.YtigjnmjmjhbigaaStep2
namespace Go.Proofs.Ytigjnmjmjhbigaa
open Go.RowKit

section
variable {D : List (Option Tmp)} {Φ : Fact} {o : Oper} {a : Act} {w : World}
theorem guard_false {i t : Nat} (hg : o.guard = some (i, false)) (hd : (D[i]?).join = some t) (hv : a.tmps.getD t undef = .bool false) : Region.wanted o (yieldD D a.tmps) = true := by
  have h2 : a.tmps[t]? = some (.bool false) := by
    rw [Array.getD_eq_getD_getElem?] at hv
    cases h : a.tmps[t]? with
    | none => rw [h] at hv; simp [undef] at hv
    | some x => rw [h] at hv; simpa using hv
  unfold Region.wanted
  rw [hg]
  simp [yieldD, hd, h2]
theorem step_pick_no {P : Program} (hw : Region.wanted o (yieldD D a.tmps) = true) {t : Tmp} (hd : o.dst = some t) (c x y : Operand) (ho : o.op = .pick c x y) (hc : a.eval c = .bool false) (h : Φ (a.eval y) w) : StepD P D Φ o a w :=
  step_val hw hd _ _ (by unfold execOp; rw [ho]; simp only [hc]; rfl) (Below.refl _ _) h
theorem step_neq (hw : Region.wanted o (yieldD D a.tmps) = true) {t : Tmp} (hd : o.dst = some t) (x y : Operand) (ho : o.op = .binOp .neq 3 x y 3) (n : Int) (hx : a.eval x = .int .i64 n) (hy : a.eval y = .int .i64 n) (h : Φ (.bool false) w) : StepD Try.prog D Φ o a w :=
  step_val hw hd _ _ (by unfold execOp; rw [ho]; simp only [hx, hy]; simp [go_sem]) (Below.refl _ _) h
theorem step_loadO (hw : Region.wanted o (yieldD D a.tmps) = true) {t : Tmp} (hd : o.dst = some t) (x : Operand) (ho : o.op = .load 49 x) (g : Nat) (hx : a.eval x = .pointer (some ⟨g, 0, none⟩)) {v : Int} {b : Bool} {A : Option Addr} {n c : Nat}
    (hc : Has w g 49 (outC v b A n c)) (h : Φ (.agg (outC v b A n c)) w) : StepD Try.prog D Φ o a w := by
  intro Q
  rw [if_pos hw]
  exact wp_load_row 49 x ho g hx 49 _ (0, 0) _ hc Try.underlying49 rfl Try.sizeOut ⟨_, rfl, (fun hn => by rw [hd] at hn; cases hn), Below.refl _ _, h⟩
theorem buildO_run (v : Int) (w : World) : (Instr.build 49 #[(0, .int .i64 v)]).run Try.prog w = .ok (.agg (outC v false none 0 0)) w := by kernel_rfl
theorem step_buildO (hw : Region.wanted o (yieldD D a.tmps) = true) {t : Tmp} (hd : o.dst = some t) (x : Operand) (ho : o.op = .build 49 #[(0, x)]) (v : Int) (hx : a.eval x = .int .i64 v) (h : Φ (.agg (outC v false none 0 0)) w) : StepD Try.prog D Φ o a w := by
  refine step_val hw hd _ _ ?_ (Below.refl _ _) h
  unfold execOp
  rw [ho]
  simp only [List.map_toArray, List.map_cons, List.map_nil, hx, Sem.run_bind, buildO_run, Result.andThen_ok]
  rfl
end

section
variable (gw gO j : Nat) (v : Int) (A : Option Addr) (c : Nat)
def pl21F : List Fact := [isV (.int .i64 0), isV (.int .i64 0), isV (.bool false), isV (.bool false), isV (.agg (outC v false A 0 c)), isV (.slice (some ⟨gw, 0, none⟩) 6 6), isV (.int .i64 j), isV (.pointer (some ⟨gw, 0 + j, none⟩)), isV (.int .i64 v), isV (.agg (outC v false none 0 0)), isV (.bool true), isV (.bool false), isV (.bool false)]
def pl21D : List (Option Tmp) := [some 83, some 84, some 85, some 86, some 87, some 88, some 89, some 90, some 91, some 92, some 93, some 94, some 95]
theorem pl21F_mono : ∀ f ∈ pl21F gw j v A c, Mono f := by
  unfold pl21F
  repeat (first | exact monos_nil | (refine monos_cons (mono_isV _) ?_))
structure Pl21 (a0 : Act) (w0 : World) : Prop where
  size : a0.tmps.size = 96
  v10 : a0.tmps.getD 10 undef = .slice (some ⟨gw, 0, none⟩) 6 6
  v11 : a0.tmps.getD 11 undef = .int .i64 j
  v12 : a0.tmps.getD 12 undef = .pointer (some ⟨gO, 0, none⟩)
  v13 : a0.tmps.getD 13 undef = .int .i64 0
  cO : Has w0 gO 49 (outC v false A 0 c)
  cw : w0.cell? ⟨gw, 0 + j, none⟩ = some (.int .i64 v)
  lt : j < 6
end
section
variable {gw gO j : Nat} {v : Int} {A : Option Addr} {c : Nat} {a0 : Act} {w0 : World} (S : Pl21 gw gO j v A c a0 w0)
include S
set_option maxRecDepth 100000 in
set_option maxHeartbeats 4000000 in
theorem pl21_ok : AllOps (fun i o => ∀ (a : Act) (w : World), Below w0.heap.size w0 w → FrD pl21D a0 a → needs pl21D (pl21F gw j v A c) a w o.after.toList → StepD Try.prog pl21D (factAt (pl21F gw j v A c) i) o a w) 0 (opsOf 21 Try.f4) := by
  simp only [opsOf, Try.f4, opsAt, Option.bind, Option.or, Option.getD, reduceCtorEq, if_true, if_false, Nat.reduceEqDiff]
  refine ⟨?_, ?_⟩
  · intro a w hB hF hd
    exact step_move (guard_none rfl) rfl _ rfl ((hF.other 13 rfl).trans S.v13)
  refine ⟨?_, ?_⟩
  · intro a w hB hF hd
    have h0 : a.tmps.getD 83 undef = .int .i64 0 := hd.1 rfl
    refine step_call (guard_none rfl) rfl _ _ (call_run Try.func19 (by kernel_rfl) (by kernel_rfl) _ _ rfl) ?_
    simp only [List.map_toArray, List.map_cons, List.map_nil, Act.eval, h0]
    exact (num_any _ _).mono (by rintro e w1 ⟨rfl, rfl⟩; exact ⟨_, rfl, Below.refl _ _, rfl⟩)
  refine ⟨?_, ?_⟩
  · intro a w hB hF hd
    have h0 : a.tmps.getD 84 undef = .int .i64 0 := hd.1 rfl
    exact step_neq (guard_none rfl) rfl _ _ rfl 0 h0 rfl rfl
  refine ⟨?_, ?_⟩
  · intro a w hB hF hd
    have h0 : a.tmps.getD 85 undef = .bool false := hd.1 rfl
    exact step_move (guard_none rfl) rfl _ rfl h0
  refine ⟨?_, ?_⟩
  · intro a w hB hF hd
    have g : a.tmps.getD 86 undef = .bool false := hd.1 rfl
    exact step_loadO (guard_false rfl rfl g) rfl _ rfl gO ((hF.other 12 rfl).trans S.v12) (S.cO.below hB S.cO.lt) rfl
  refine ⟨?_, ?_⟩
  · intro a w hB hF hd
    have g : a.tmps.getD 86 undef = .bool false := hd.1 rfl
    exact step_move (guard_false rfl rfl g) rfl _ rfl ((hF.other 10 rfl).trans S.v10)
  refine ⟨?_, ?_⟩
  · intro a w hB hF hd
    have g : a.tmps.getD 86 undef = .bool false := hd.1 rfl
    exact step_move (guard_false rfl rfl g) rfl _ rfl ((hF.other 11 rfl).trans S.v11)
  refine ⟨?_, ?_⟩
  · intro a w hB hF hd
    have h0 : a.tmps.getD 88 undef = .slice (some ⟨gw, 0, none⟩) 6 6 := hd.1 rfl
    have h1 : a.tmps.getD 89 undef = .int .i64 j := hd.2.1 rfl
    have g : a.tmps.getD 86 undef = .bool false := hd.2.2.1 rfl
    exact step_iaddr (guard_false rfl rfl g) rfl _ _ rfl gw 0 6 6 j h0 h1 S.lt rfl
  refine ⟨?_, ?_⟩
  · intro a w hB hF hd
    have h0 : a.tmps.getD 90 undef = .pointer (some ⟨gw, 0 + j, none⟩) := hd.1 rfl
    have g : a.tmps.getD 86 undef = .bool false := hd.2.1 rfl
    exact step_loadi (guard_false rfl rfl g) rfl _ rfl _ _ h0 _ ((hB.cell (block_lt_of_cell S.cw)).trans S.cw) rfl
  refine ⟨?_, ?_⟩
  · intro a w hB hF hd
    have h0 : a.tmps.getD 91 undef = .int .i64 v := hd.1 rfl
    have g : a.tmps.getD 86 undef = .bool false := hd.2.1 rfl
    exact step_buildO (guard_false rfl rfl g) rfl _ rfl v h0 rfl
  refine ⟨?_, ?_⟩
  · intro a w hB hF hd
    have h0 : a.tmps.getD 87 undef = .agg (outC v false A 0 c) := hd.1 rfl
    have h1 : a.tmps.getD 92 undef = .agg (outC v false none 0 0) := hd.2.1 rfl
    have g : a.tmps.getD 86 undef = .bool false := hd.2.2.2.1 rfl
    refine step_call (guard_false rfl rfl g) rfl _ _ (call_run Try.func30 (by kernel_rfl) (by kernel_rfl) _ _ rfl) ?_
    simp only [List.map_toArray, List.map_cons, List.map_nil, Act.eval, h0, h1]
    exact (sameOut_true v false [] A none 0 c 0 _ Ints.nil Ints.nil (Nat.zero_le _)).mono (by rintro e w1 ⟨rfl, hb⟩; exact ⟨_, rfl, hb, rfl⟩)
  refine ⟨?_, ?_⟩
  · intro a w hB hF hd
    have h0 : a.tmps.getD 93 undef = .bool true := hd.1 rfl
    have g : a.tmps.getD 86 undef = .bool false := hd.2.1 rfl
    exact step_not (guard_false rfl rfl g) rfl _ _ rfl h0 rfl
  refine ⟨?_, ?_⟩
  · intro a w hB hF hd
    have h0 : a.tmps.getD 86 undef = .bool false := hd.1 rfl
    have h1 : a.tmps.getD 94 undef = .bool false := hd.2.1 rfl
    exact step_pick_no (guard_none rfl) rfl _ _ _ rfl h0 h1
  trivial
theorem pl21_any {Q : Exit → Act → World → Prop} {l : List Oper} (hl : opsOf 21 Try.f4 = l)
    (hend : ∀ (w : World), Below w0.heap.size w0 w → Q .normal (putAll a0 [(83, .int .i64 0), (84, .int .i64 0), (85, .bool false), (86, .bool false), (87, .agg (outC v false A 0 c)), (88, .slice (some ⟨gw, 0, none⟩) 6 6), (89, .int .i64 j), (90, .pointer (some ⟨gw, 0 + j, none⟩)), (91, .int .i64 v), (92, .agg (outC v false none 0 0)), (93, .bool true), (94, .bool false), (95, .bool false)]) w) :
    (Code.region 21 l.toArray true).wp Try.prog Q a0 w0 := by
  subst hl
  refine region_facts (pl21F gw j v A c) pl21D 96 S.size rfl (by kernel_rfl) (by kernel_rfl) (pl21F_mono _ _ _ _ _) (pl21_ok S) fun a w hB hF h => ?_
  rw [frame_is hF [(83, .int .i64 0), (84, .int .i64 0), (85, .bool false), (86, .bool false), (87, .agg (outC v false A 0 c)), (88, .slice (some ⟨gw, 0, none⟩) 6 6), (89, .int .i64 j), (90, .pointer (some ⟨gw, 0 + j, none⟩)), (91, .int .i64 v), (92, .agg (outC v false none 0 0)), (93, .bool true), (94, .bool false), (95, .bool false)]
    ⟨h 0 (some 83) rfl, h 1 (some 84) rfl, h 2 (some 85) rfl, h 3 (some 86) rfl, h 4 (some 87) rfl, h 5 (some 88) rfl, h 6 (some 89) rfl, h 7 (some 90) rfl, h 8 (some 91) rfl, h 9 (some 92) rfl, h 10 (some 93) rfl, h 11 (some 94) rfl, h 12 (some 95) rfl, trivial⟩ (by rfl) (by rfl)]
  exact hend w hB
end

end Go.Proofs.Ytigjnmjmjhbigaa
