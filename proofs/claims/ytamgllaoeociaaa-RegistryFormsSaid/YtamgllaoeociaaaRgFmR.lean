/-
  RegistryForms' end (written by gen/rgends.py).
-/
import Derived.Test.YtamgllaoeociaaaGRows
import Derived.Test.YtamgllaoeociaaaRgProg
namespace Go.Proofs.Ytamgllaoeociaaa
open Go.RowKit

theorem rf_neg {D : List (Option Tmp)} {Φ : Fact} {o : Oper} {a : Act} {w : World} (hw : Region.wanted o (yieldD D a.tmps) = true) {t : Tmp} (hd : o.dst = some t) (x : Operand) (ho : o.op = .unOp .neg 3 x) (p : Int) (hx : a.eval x = .int .i64 p) (h1 : -1000000 ≤ p ∧ p ≤ 1000000) (h : Φ (.int .i64 (-p)) w) : StepD Try.prog D Φ o a w :=
  step_val hw hd _ w (by unfold execOp; rw [ho]; have e := rf_in (-p) (by omega) (by omega); generalize a.eval = ev at hx ⊢; simp [hx, go_sem, e]) (Below.refl _ _) h

def gf10D : List (Option Tmp) := [some 51, some 52, some 53, some 54, some 55, some 56, some 57, some 58, some 59, some 60, some 61, some 62, some 63, some 64, some 65, some 66, some 67, some 68, some 69, some 70, some 71, some 72, some 73, some 74, some 75, some 76, some 77, some 78, some 79, some 80, some 81, some 82, some 83, some 84, some 85, some 86, some 2]
def gf10F (_gs : List Nat) (g : Nat) (d : Int) : List Fact := [isV (.int .i64 1200), isV (.int .i64 1200), isV (.bool true), isV (.bool true), isV (.int .i64 1200), isV (.int .i64 1200), isV (.bool true), isV (.bool true), isV (.bool true), isV (.int .i64 1200), isV (.int .i64 1200), isV (.bool true), isV (.bool true), isV (.bool true), isV (.int .i64 1200), isV (.int .i64 1200), isV (.bool true), isV (.bool true), isV (.bool true), isV (.int .i64 0), isV (.int .i64 0), isV (.bool true), isV (.bool true), isV (.bool true), isV (.pointer (some ⟨g, 0, none⟩)), rowN 1 [1048575], rowN 1 [1048575], isV (.bool true), isV (.bool true), isV (.bool true), isV (.pointer (some ⟨g, 0, none⟩)), isV (.int .i64 d), isV (.int .i64 ((-d))), isV (.bool false), isV (.bool true), isV (.bool true), isV (.bool true)]
theorem gf10F_mono (gs : List Nat) (g : Nat) (d : Int) : ∀ φ ∈ gf10F gs g d, Mono φ := by
  unfold gf10F
  repeat (first | exact monos_nil | (refine monos_cons (mono_isV _) ?_) | (refine monos_cons (rowN_mono _ _) ?_))
structure gf10S (gs : List Nat) (g : Nat) (d : Int) (a0 : Act) (w0 : World) : Prop where
  size : a0.tmps.size = 87
  v3 : a0.tmps.getD 3 undef = .int .i64 d
  v5 : a0.tmps.getD 5 undef = .int .i64 1200
  v7 : a0.tmps.getD 7 undef = .int .i64 1200
  v8 : a0.tmps.getD 8 undef = .pointer (some ⟨g, 0, none⟩)
  v10 : a0.tmps.getD 10 undef = .int .i64 1200
  v11 : a0.tmps.getD 11 undef = .int .i64 1200
  v12 : a0.tmps.getD 12 undef = .int .i64 0
  rg : Reg w0 gs g 64 [1048575]
  d1 : 1 ≤ d
  d2 : d ≤ 1024
section
variable {gs : List Nat} {g : Nat} {d : Int} {a0 : Act} {w0 : World} (S : gf10S gs g d a0 w0)
include S
set_option maxRecDepth 100000 in
set_option maxHeartbeats 8000000 in
theorem gf10_ok : AllOps (fun j o => ∀ (a : Act) (w : World), Below w0.heap.size w0 w → FrD gf10D a0 a → needs gf10D (gf10F gs g d) a w o.after.toList → StepD Try.prog gf10D (factAt (gf10F gs g d) j) o a w) 0 (opsOf 10 Try.f5) := by
  simp only [opsOf, Try.f5, opsAt, Option.bind, Option.or, Option.getD, reduceCtorEq, if_true, if_false, Nat.reduceEqDiff]
  refine ⟨?_, ?_⟩
  · intro _a _w _hB hF _hd
    exact step_move (guard_none rfl) rfl _ rfl ((hF.other 5 rfl).trans S.v5)
  refine ⟨?_, ?_⟩
  · intro a _w _hB _hF hd
    have h51 : a.tmps.getD 51 undef = .int .i64 1200 := hd.1 rfl
    refine step_call (guard_none rfl) rfl _ _ (rf_call_run Try.func8 (by kernel_rfl) (by kernel_rfl) _ _ rfl) ?_
    simp only [List.map_toArray, List.map_cons, List.map_nil, Act.eval, h51]
    exact (gnum_any _ _).mono (by rintro e w1 ⟨rfl, rfl⟩; exact ⟨_, rfl, Below.refl _ _, rfl⟩)
  refine ⟨?_, ?_⟩
  · intro a _w _hB _hF hd
    have h52 : a.tmps.getD 52 undef = .int .i64 1200 := hd.1 rfl
    exact rf_eql (guard_none rfl) rfl _ _ rfl _ _ h52 rfl true rfl rfl
  refine ⟨?_, ?_⟩
  · intro a _w _hB _hF hd
    have h53 : a.tmps.getD 53 undef = .bool true := hd.1 rfl
    exact step_move (guard_none rfl) rfl _ rfl h53
  refine ⟨?_, ?_⟩
  · intro a _w _hB hF hd
    have h54 : a.tmps.getD 54 undef = .bool true := hd.1 rfl
    exact step_move (rf_open true rfl rfl h54) rfl _ rfl ((hF.other 7 rfl).trans S.v7)
  refine ⟨?_, ?_⟩
  · intro a _w _hB _hF hd
    have h54 : a.tmps.getD 54 undef = .bool true := hd.2.1 rfl
    have h55 : a.tmps.getD 55 undef = .int .i64 1200 := hd.1 rfl
    refine step_call (rf_open true rfl rfl h54) rfl _ _ (rf_call_run Try.func8 (by kernel_rfl) (by kernel_rfl) _ _ rfl) ?_
    simp only [List.map_toArray, List.map_cons, List.map_nil, Act.eval, h55]
    exact (gnum_any _ _).mono (by rintro e w1 ⟨rfl, rfl⟩; exact ⟨_, rfl, Below.refl _ _, rfl⟩)
  refine ⟨?_, ?_⟩
  · intro a _w _hB _hF hd
    have h54 : a.tmps.getD 54 undef = .bool true := hd.2.1 rfl
    have h56 : a.tmps.getD 56 undef = .int .i64 1200 := hd.1 rfl
    exact rf_eql (rf_open true rfl rfl h54) rfl _ _ rfl _ _ h56 rfl true rfl rfl
  refine ⟨?_, ?_⟩
  · intro a _w _hB _hF hd
    have h54 : a.tmps.getD 54 undef = .bool true := hd.1 rfl
    have h57 : a.tmps.getD 57 undef = .bool true := hd.2.1 rfl
    exact rf_pick (guard_none rfl) rfl _ _ _ rfl true h54 h57
  refine ⟨?_, ?_⟩
  · intro a _w _hB _hF hd
    have h58 : a.tmps.getD 58 undef = .bool true := hd.1 rfl
    exact step_move (guard_none rfl) rfl _ rfl h58
  refine ⟨?_, ?_⟩
  · intro a _w _hB hF hd
    have h59 : a.tmps.getD 59 undef = .bool true := hd.1 rfl
    exact step_move (rf_open true rfl rfl h59) rfl _ rfl ((hF.other 10 rfl).trans S.v10)
  refine ⟨?_, ?_⟩
  · intro a _w _hB _hF hd
    have h59 : a.tmps.getD 59 undef = .bool true := hd.2.1 rfl
    have h60 : a.tmps.getD 60 undef = .int .i64 1200 := hd.1 rfl
    refine step_call (rf_open true rfl rfl h59) rfl _ _ (rf_call_run Try.func8 (by kernel_rfl) (by kernel_rfl) _ _ rfl) ?_
    simp only [List.map_toArray, List.map_cons, List.map_nil, Act.eval, h60]
    exact (gnum_any _ _).mono (by rintro e w1 ⟨rfl, rfl⟩; exact ⟨_, rfl, Below.refl _ _, rfl⟩)
  refine ⟨?_, ?_⟩
  · intro a _w _hB _hF hd
    have h59 : a.tmps.getD 59 undef = .bool true := hd.2.1 rfl
    have h61 : a.tmps.getD 61 undef = .int .i64 1200 := hd.1 rfl
    exact rf_eql (rf_open true rfl rfl h59) rfl _ _ rfl _ _ h61 rfl true rfl rfl
  refine ⟨?_, ?_⟩
  · intro a _w _hB _hF hd
    have h59 : a.tmps.getD 59 undef = .bool true := hd.1 rfl
    have h62 : a.tmps.getD 62 undef = .bool true := hd.2.1 rfl
    exact rf_pick (guard_none rfl) rfl _ _ _ rfl true h59 h62
  refine ⟨?_, ?_⟩
  · intro a _w _hB _hF hd
    have h63 : a.tmps.getD 63 undef = .bool true := hd.1 rfl
    exact step_move (guard_none rfl) rfl _ rfl h63
  refine ⟨?_, ?_⟩
  · intro a _w _hB hF hd
    have h64 : a.tmps.getD 64 undef = .bool true := hd.1 rfl
    exact step_move (rf_open true rfl rfl h64) rfl _ rfl ((hF.other 11 rfl).trans S.v11)
  refine ⟨?_, ?_⟩
  · intro a _w _hB _hF hd
    have h64 : a.tmps.getD 64 undef = .bool true := hd.2.1 rfl
    have h65 : a.tmps.getD 65 undef = .int .i64 1200 := hd.1 rfl
    refine step_call (rf_open true rfl rfl h64) rfl _ _ (rf_call_run Try.func8 (by kernel_rfl) (by kernel_rfl) _ _ rfl) ?_
    simp only [List.map_toArray, List.map_cons, List.map_nil, Act.eval, h65]
    exact (gnum_any _ _).mono (by rintro e w1 ⟨rfl, rfl⟩; exact ⟨_, rfl, Below.refl _ _, rfl⟩)
  refine ⟨?_, ?_⟩
  · intro a _w _hB _hF hd
    have h64 : a.tmps.getD 64 undef = .bool true := hd.2.1 rfl
    have h66 : a.tmps.getD 66 undef = .int .i64 1200 := hd.1 rfl
    exact rf_eql (rf_open true rfl rfl h64) rfl _ _ rfl _ _ h66 rfl true rfl rfl
  refine ⟨?_, ?_⟩
  · intro a _w _hB _hF hd
    have h64 : a.tmps.getD 64 undef = .bool true := hd.1 rfl
    have h67 : a.tmps.getD 67 undef = .bool true := hd.2.1 rfl
    exact rf_pick (guard_none rfl) rfl _ _ _ rfl true h64 h67
  refine ⟨?_, ?_⟩
  · intro a _w _hB _hF hd
    have h68 : a.tmps.getD 68 undef = .bool true := hd.1 rfl
    exact step_move (guard_none rfl) rfl _ rfl h68
  refine ⟨?_, ?_⟩
  · intro a _w _hB hF hd
    have h69 : a.tmps.getD 69 undef = .bool true := hd.1 rfl
    exact step_move (rf_open true rfl rfl h69) rfl _ rfl ((hF.other 12 rfl).trans S.v12)
  refine ⟨?_, ?_⟩
  · intro a _w _hB _hF hd
    have h69 : a.tmps.getD 69 undef = .bool true := hd.2.1 rfl
    have h70 : a.tmps.getD 70 undef = .int .i64 0 := hd.1 rfl
    refine step_call (rf_open true rfl rfl h69) rfl _ _ (rf_call_run Try.func8 (by kernel_rfl) (by kernel_rfl) _ _ rfl) ?_
    simp only [List.map_toArray, List.map_cons, List.map_nil, Act.eval, h70]
    exact (gnum_any _ _).mono (by rintro e w1 ⟨rfl, rfl⟩; exact ⟨_, rfl, Below.refl _ _, rfl⟩)
  refine ⟨?_, ?_⟩
  · intro a _w _hB _hF hd
    have h69 : a.tmps.getD 69 undef = .bool true := hd.2.1 rfl
    have h71 : a.tmps.getD 71 undef = .int .i64 0 := hd.1 rfl
    exact rf_eql (rf_open true rfl rfl h69) rfl _ _ rfl _ _ h71 rfl true rfl rfl
  refine ⟨?_, ?_⟩
  · intro a _w _hB _hF hd
    have h69 : a.tmps.getD 69 undef = .bool true := hd.1 rfl
    have h72 : a.tmps.getD 72 undef = .bool true := hd.2.1 rfl
    exact rf_pick (guard_none rfl) rfl _ _ _ rfl true h69 h72
  refine ⟨?_, ?_⟩
  · intro a _w _hB _hF hd
    have h73 : a.tmps.getD 73 undef = .bool true := hd.1 rfl
    exact step_move (guard_none rfl) rfl _ rfl h73
  refine ⟨?_, ?_⟩
  · intro a _w _hB hF hd
    have h74 : a.tmps.getD 74 undef = .bool true := hd.1 rfl
    exact step_move (rf_open true rfl rfl h74) rfl _ rfl ((hF.other 8 rfl).trans S.v8)
  refine ⟨?_, ?_⟩
  · intro a w hB _hF hd
    have h74 : a.tmps.getD 74 undef = .bool true := hd.2.1 rfl
    have h75 : a.tmps.getD 75 undef = .pointer (some ⟨g, 0, none⟩) := hd.1 rfl
    refine step_call (rf_open true rfl rfl h74) rfl _ _ (rf_call_run Try.func14 (by kernel_rfl) (by kernel_rfl) _ _ rfl) ?_
    simp only [List.map_toArray, List.map_cons, List.map_nil, Act.eval, h75]
    exact (gids_any gs g 64 [1048575] w (S.rg.below hB) (by decide)).mono (by rintro e w1 ⟨A, c, rfl, ho, hb⟩; exact ⟨_, rfl, hb, A, c, rfl, ho.ints⟩)
  refine ⟨?_, ?_⟩
  · intro a _w _hB _hF hd
    have h74 : a.tmps.getD 74 undef = .bool true := hd.1 rfl
    exact rf_list1I (rf_open true rfl rfl h74) rfl _ rfl 1048575 rfl (fun _ _ h => h)
  refine ⟨?_, ?_⟩
  · intro a w _hB _hF hd
    have h74 : a.tmps.getD 74 undef = .bool true := hd.2.2.2.1 rfl
    obtain ⟨A76, c76, h76, p76⟩ : rowN 1 [1048575] (a.tmps.getD 76 undef) w := hd.1 rfl
    obtain ⟨A77, c77, h77, p77⟩ : rowN 1 [1048575] (a.tmps.getD 77 undef) w := hd.2.1 rfl
    refine step_call (rf_open true rfl rfl h74) rfl _ _ (rf_call_run Try.func15 (by kernel_rfl) (by kernel_rfl) _ _ rfl) ?_
    simp only [List.map_toArray, List.map_cons, List.map_nil, Act.eval, h76, h77]
    exact (sameInts_true _ _ 1 _ _ [1048575] _ p76 p77 (by unfold maxLen; omega)).mono (by rintro e w1 ⟨rfl, k, rfl⟩; exact ⟨_, rfl, below_drewN (Below.refl _ _) _, rfl⟩)
  refine ⟨?_, ?_⟩
  · intro a _w _hB _hF hd
    have h74 : a.tmps.getD 74 undef = .bool true := hd.1 rfl
    have h78 : a.tmps.getD 78 undef = .bool true := hd.2.1 rfl
    exact rf_pick (guard_none rfl) rfl _ _ _ rfl true h74 h78
  refine ⟨?_, ?_⟩
  · intro a _w _hB _hF hd
    have h79 : a.tmps.getD 79 undef = .bool true := hd.1 rfl
    exact step_move (guard_none rfl) rfl _ rfl h79
  refine ⟨?_, ?_⟩
  · intro a _w _hB hF hd
    have h80 : a.tmps.getD 80 undef = .bool true := hd.1 rfl
    exact step_move (rf_open true rfl rfl h80) rfl _ rfl ((hF.other 8 rfl).trans S.v8)
  refine ⟨?_, ?_⟩
  · intro a _w _hB hF hd
    have h80 : a.tmps.getD 80 undef = .bool true := hd.1 rfl
    exact step_move (rf_open true rfl rfl h80) rfl _ rfl ((hF.other 3 rfl).trans S.v3)
  refine ⟨?_, ?_⟩
  · intro a _w _hB _hF hd
    have h80 : a.tmps.getD 80 undef = .bool true := hd.2.1 rfl
    have h82 : a.tmps.getD 82 undef = .int .i64 d := hd.1 rfl
    exact rf_neg (rf_open true rfl rfl h80) rfl _ rfl d h82 (by have := S.d1; have := S.d2; omega) rfl
  refine ⟨?_, ?_⟩
  · intro a w hB _hF hd
    have h80 : a.tmps.getD 80 undef = .bool true := hd.2.2.1 rfl
    have h81 : a.tmps.getD 81 undef = .pointer (some ⟨g, 0, none⟩) := hd.1 rfl
    have h83 : a.tmps.getD 83 undef = .int .i64 ((-d)) := hd.2.1 rfl
    refine step_call (rf_open true rfl rfl h80) rfl _ _ (rf_call_run Try.func12 (by kernel_rfl) (by kernel_rfl) _ _ rfl) ?_
    simp only [List.map_toArray, List.map_cons, List.map_nil, Act.eval, h81, h83]
    exact ((show Calls Try.prog 12 _ w fun e w' => e = .returned (.bool false) ∧ w = w' from by have := ghas_any gs g 64 [1048575] (-d) w (S.rg.below hB) (WalkArith.wf_i64 (by have := S.d1; have := S.d2; omega)); rwa [show decide ((-d : Int) ∈ [1048575]) = false by (have := S.d1; have := S.d2; simp; omega)] at this)).mono (by rintro e w1 ⟨rfl, rfl⟩; exact ⟨_, rfl, Below.refl _ _, rfl⟩)
  refine ⟨?_, ?_⟩
  · intro a _w _hB _hF hd
    have h80 : a.tmps.getD 80 undef = .bool true := hd.2.1 rfl
    have h84 : a.tmps.getD 84 undef = .bool false := hd.1 rfl
    exact step_not (rf_open true rfl rfl h80) rfl _ _ rfl h84 rfl
  refine ⟨?_, ?_⟩
  · intro a _w _hB _hF hd
    have h80 : a.tmps.getD 80 undef = .bool true := hd.1 rfl
    have h85 : a.tmps.getD 85 undef = .bool true := hd.2.1 rfl
    exact rf_pick (guard_none rfl) rfl _ _ _ rfl true h80 h85
  refine ⟨?_, ?_⟩
  · intro a _w _hB _hF hd
    have h86 : a.tmps.getD 86 undef = .bool true := hd.1 rfl
    exact step_assign (guard_none rfl) rfl _ rfl h86
  trivial
theorem gf10_any {Q : Exit → Act → World → Prop} {l : List Oper} (hl : opsOf 10 Try.f5 = l) (hend : ∀ (A76 : Option Addr) (c76 : Nat), ∀ (A77 : Option Addr) (c77 : Nat), ∀ w : World, Below w0.heap.size w0 w → Ints w A76 1 [1048575] → Ints w A77 1 [1048575] → Q .normal (putAll a0 [(51, .int .i64 1200), (52, .int .i64 1200), (53, .bool true), (54, .bool true), (55, .int .i64 1200), (56, .int .i64 1200), (57, .bool true), (58, .bool true), (59, .bool true), (60, .int .i64 1200), (61, .int .i64 1200), (62, .bool true), (63, .bool true), (64, .bool true), (65, .int .i64 1200), (66, .int .i64 1200), (67, .bool true), (68, .bool true), (69, .bool true), (70, .int .i64 0), (71, .int .i64 0), (72, .bool true), (73, .bool true), (74, .bool true), (75, .pointer (some ⟨g, 0, none⟩)), (76, .slice A76 1 c76), (77, .slice A77 1 c77), (78, .bool true), (79, .bool true), (80, .bool true), (81, .pointer (some ⟨g, 0, none⟩)), (82, .int .i64 d), (83, .int .i64 ((-d))), (84, .bool false), (85, .bool true), (86, .bool true), (2, .bool true)]) w) :
    (Code.region 10 l.toArray false).wp Try.prog Q a0 w0 := by
  subst hl
  refine region_facts (gf10F gs g d) gf10D 87 S.size rfl (by kernel_rfl) (by kernel_rfl) (gf10F_mono _ _ _) (gf10_ok S) fun a w hB hF h => ?_
  obtain ⟨A76, c76, h76, p76⟩ : rowN 1 [1048575] (a.tmps.getD 76 undef) w := h 25 (some 76) rfl
  obtain ⟨A77, c77, h77, p77⟩ : rowN 1 [1048575] (a.tmps.getD 77 undef) w := h 26 (some 77) rfl
  have hv : valsAre a [(51, .int .i64 1200), (52, .int .i64 1200), (53, .bool true), (54, .bool true), (55, .int .i64 1200), (56, .int .i64 1200), (57, .bool true), (58, .bool true), (59, .bool true), (60, .int .i64 1200), (61, .int .i64 1200), (62, .bool true), (63, .bool true), (64, .bool true), (65, .int .i64 1200), (66, .int .i64 1200), (67, .bool true), (68, .bool true), (69, .bool true), (70, .int .i64 0), (71, .int .i64 0), (72, .bool true), (73, .bool true), (74, .bool true), (75, .pointer (some ⟨g, 0, none⟩)), (76, .slice A76 1 c76), (77, .slice A77 1 c77), (78, .bool true), (79, .bool true), (80, .bool true), (81, .pointer (some ⟨g, 0, none⟩)), (82, .int .i64 d), (83, .int .i64 ((-d))), (84, .bool false), (85, .bool true), (86, .bool true), (2, .bool true)] := by
    refine ⟨?_, ?_, ?_, ?_, ?_, ?_, ?_, ?_, ?_, ?_, ?_, ?_, ?_, ?_, ?_, ?_, ?_, ?_, ?_, ?_, ?_, ?_, ?_, ?_, ?_, ?_, ?_, ?_, ?_, ?_, ?_, ?_, ?_, ?_, ?_, ?_, ?_, trivial⟩
    · exact h 0 (some 51) rfl
    · exact h 1 (some 52) rfl
    · exact h 2 (some 53) rfl
    · exact h 3 (some 54) rfl
    · exact h 4 (some 55) rfl
    · exact h 5 (some 56) rfl
    · exact h 6 (some 57) rfl
    · exact h 7 (some 58) rfl
    · exact h 8 (some 59) rfl
    · exact h 9 (some 60) rfl
    · exact h 10 (some 61) rfl
    · exact h 11 (some 62) rfl
    · exact h 12 (some 63) rfl
    · exact h 13 (some 64) rfl
    · exact h 14 (some 65) rfl
    · exact h 15 (some 66) rfl
    · exact h 16 (some 67) rfl
    · exact h 17 (some 68) rfl
    · exact h 18 (some 69) rfl
    · exact h 19 (some 70) rfl
    · exact h 20 (some 71) rfl
    · exact h 21 (some 72) rfl
    · exact h 22 (some 73) rfl
    · exact h 23 (some 74) rfl
    · exact h 24 (some 75) rfl
    · exact h76
    · exact h77
    · exact h 27 (some 78) rfl
    · exact h 28 (some 79) rfl
    · exact h 29 (some 80) rfl
    · exact h 30 (some 81) rfl
    · exact h 31 (some 82) rfl
    · exact h 32 (some 83) rfl
    · exact h 33 (some 84) rfl
    · exact h 34 (some 85) rfl
    · exact h 35 (some 86) rfl
    · exact h 36 (some 2) rfl
  rw [frame_is hF _ hv (by rfl) (by rfl)]
  exact hend A76 c76 A77 c77 w hB p76 p77
end

end Go.Proofs.Ytamgllaoeociaaa
