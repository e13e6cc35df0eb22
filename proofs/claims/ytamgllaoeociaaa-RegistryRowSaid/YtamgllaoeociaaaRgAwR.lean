/-
  The registries' first look: its end (written by gen/rgends.py).
-/
import Derived.Test.YtamgllaoeociaaaGRows
import Derived.Test.YtamgllaoeociaaaRgProg
namespace Go.Proofs.Ytamgllaoeociaaa
open Go.RowKit

def ga6D : List (Option Tmp) := [some 35, some 36, some 37, some 38, some 39, some 40, some 41, some 42, some 43, some 44, some 45, some 46, some 47, some 48, some 49, some 50, some 51, some 52, some 53, some 54, some 55, some 56, some 57, some 58, some 59, some 60, some 61, some 62, some 63, some 64, some 65, some 66, some 67, some 68, some 69, some 70, some 71, some 72, some 73, some 74, some 75, some 76, some 77, some 0]
def ga6F (_gs : List Nat) (g : Nat) : List Fact := [isV (.int .i64 1200), isV (.int .i64 1200), isV (.bool true), isV (.bool true), isV (.int .i64 0), isV (.int .i64 0), isV (.bool true), isV (.bool true), isV (.bool true), isV (.int .i64 0), isV (.int .i64 0), isV (.bool true), isV (.bool true), isV (.bool true), isV (.int .i64 0), isV (.int .i64 0), isV (.bool true), isV (.bool true), isV (.bool true), isV (.int .i64 1201), isV (.int .i64 1201), isV (.bool true), isV (.bool true), isV (.bool true), isV (.int .i64 1200), isV (.int .i64 1200), isV (.bool true), isV (.bool true), isV (.bool true), isV (.pointer (some ⟨g, 0, none⟩)), rowN 2 [5, 3], rowN 2 [5, 3], isV (.bool true), isV (.bool true), isV (.bool true), isV (.pointer (some ⟨g, 0, none⟩)), isV (.bool true), isV (.bool true), isV (.bool true), isV (.pointer (some ⟨g, 0, none⟩)), isV (.bool false), isV (.bool true), isV (.bool true), isV (.bool true)]
theorem ga6F_mono (gs : List Nat) (g : Nat) : ∀ φ ∈ ga6F gs g, Mono φ := by
  unfold ga6F
  repeat (first | exact monos_nil | (refine monos_cons (mono_isV _) ?_) | (refine monos_cons (rowN_mono _ _) ?_))
structure ga6S (gs : List Nat) (g : Nat) (a0 : Act) (w0 : World) : Prop where
  size : a0.tmps.size = 78
  v1 : a0.tmps.getD 1 undef = .pointer (some ⟨g, 0, none⟩)
  v4 : a0.tmps.getD 4 undef = .int .i64 1200
  v5 : a0.tmps.getD 5 undef = .int .i64 0
  v6 : a0.tmps.getD 6 undef = .int .i64 0
  v7 : a0.tmps.getD 7 undef = .int .i64 0
  v8 : a0.tmps.getD 8 undef = .int .i64 1201
  v9 : a0.tmps.getD 9 undef = .int .i64 1200
  rg : Reg w0 gs g 2 [5, 3]
section
variable {gs : List Nat} {g : Nat} {a0 : Act} {w0 : World} (S : ga6S gs g a0 w0)
include S
set_option maxRecDepth 100000 in
set_option maxHeartbeats 8000000 in
theorem ga6_ok : AllOps (fun j o => ∀ (a : Act) (w : World), Below w0.heap.size w0 w → FrD ga6D a0 a → needs ga6D (ga6F gs g) a w o.after.toList → StepD Try.prog ga6D (factAt (ga6F gs g) j) o a w) 0 (opsOf 6 Try.f9) := by
  simp only [opsOf, Try.f9, opsAt, Option.bind, Option.or, Option.getD, reduceCtorEq, if_true, if_false, Nat.reduceEqDiff]
  refine ⟨?_, ?_⟩
  · intro _a _w _hB hF _hd
    exact step_move (guard_none rfl) rfl _ rfl ((hF.other 4 rfl).trans S.v4)
  refine ⟨?_, ?_⟩
  · intro a _w _hB _hF hd
    have h35 : a.tmps.getD 35 undef = .int .i64 1200 := hd.1 rfl
    refine step_call (guard_none rfl) rfl _ _ (rf_call_run Try.func8 (by kernel_rfl) (by kernel_rfl) _ _ rfl) ?_
    simp only [List.map_toArray, List.map_cons, List.map_nil, Act.eval, h35]
    exact (gnum_any _ _).mono (by rintro e w1 ⟨rfl, rfl⟩; exact ⟨_, rfl, Below.refl _ _, rfl⟩)
  refine ⟨?_, ?_⟩
  · intro a _w _hB _hF hd
    have h36 : a.tmps.getD 36 undef = .int .i64 1200 := hd.1 rfl
    exact rf_eql (guard_none rfl) rfl _ _ rfl _ _ h36 rfl true rfl rfl
  refine ⟨?_, ?_⟩
  · intro a _w _hB _hF hd
    have h37 : a.tmps.getD 37 undef = .bool true := hd.1 rfl
    exact step_move (guard_none rfl) rfl _ rfl h37
  refine ⟨?_, ?_⟩
  · intro a _w _hB hF hd
    have h38 : a.tmps.getD 38 undef = .bool true := hd.1 rfl
    exact step_move (rf_open true rfl rfl h38) rfl _ rfl ((hF.other 5 rfl).trans S.v5)
  refine ⟨?_, ?_⟩
  · intro a _w _hB _hF hd
    have h38 : a.tmps.getD 38 undef = .bool true := hd.2.1 rfl
    have h39 : a.tmps.getD 39 undef = .int .i64 0 := hd.1 rfl
    refine step_call (rf_open true rfl rfl h38) rfl _ _ (rf_call_run Try.func8 (by kernel_rfl) (by kernel_rfl) _ _ rfl) ?_
    simp only [List.map_toArray, List.map_cons, List.map_nil, Act.eval, h39]
    exact (gnum_any _ _).mono (by rintro e w1 ⟨rfl, rfl⟩; exact ⟨_, rfl, Below.refl _ _, rfl⟩)
  refine ⟨?_, ?_⟩
  · intro a _w _hB _hF hd
    have h38 : a.tmps.getD 38 undef = .bool true := hd.2.1 rfl
    have h40 : a.tmps.getD 40 undef = .int .i64 0 := hd.1 rfl
    exact rf_eql (rf_open true rfl rfl h38) rfl _ _ rfl _ _ h40 rfl true rfl rfl
  refine ⟨?_, ?_⟩
  · intro a _w _hB _hF hd
    have h38 : a.tmps.getD 38 undef = .bool true := hd.1 rfl
    have h41 : a.tmps.getD 41 undef = .bool true := hd.2.1 rfl
    exact rf_pick (guard_none rfl) rfl _ _ _ rfl true h38 h41
  refine ⟨?_, ?_⟩
  · intro a _w _hB _hF hd
    have h42 : a.tmps.getD 42 undef = .bool true := hd.1 rfl
    exact step_move (guard_none rfl) rfl _ rfl h42
  refine ⟨?_, ?_⟩
  · intro a _w _hB hF hd
    have h43 : a.tmps.getD 43 undef = .bool true := hd.1 rfl
    exact step_move (rf_open true rfl rfl h43) rfl _ rfl ((hF.other 6 rfl).trans S.v6)
  refine ⟨?_, ?_⟩
  · intro a _w _hB _hF hd
    have h43 : a.tmps.getD 43 undef = .bool true := hd.2.1 rfl
    have h44 : a.tmps.getD 44 undef = .int .i64 0 := hd.1 rfl
    refine step_call (rf_open true rfl rfl h43) rfl _ _ (rf_call_run Try.func8 (by kernel_rfl) (by kernel_rfl) _ _ rfl) ?_
    simp only [List.map_toArray, List.map_cons, List.map_nil, Act.eval, h44]
    exact (gnum_any _ _).mono (by rintro e w1 ⟨rfl, rfl⟩; exact ⟨_, rfl, Below.refl _ _, rfl⟩)
  refine ⟨?_, ?_⟩
  · intro a _w _hB _hF hd
    have h43 : a.tmps.getD 43 undef = .bool true := hd.2.1 rfl
    have h45 : a.tmps.getD 45 undef = .int .i64 0 := hd.1 rfl
    exact rf_eql (rf_open true rfl rfl h43) rfl _ _ rfl _ _ h45 rfl true rfl rfl
  refine ⟨?_, ?_⟩
  · intro a _w _hB _hF hd
    have h43 : a.tmps.getD 43 undef = .bool true := hd.1 rfl
    have h46 : a.tmps.getD 46 undef = .bool true := hd.2.1 rfl
    exact rf_pick (guard_none rfl) rfl _ _ _ rfl true h43 h46
  refine ⟨?_, ?_⟩
  · intro a _w _hB _hF hd
    have h47 : a.tmps.getD 47 undef = .bool true := hd.1 rfl
    exact step_move (guard_none rfl) rfl _ rfl h47
  refine ⟨?_, ?_⟩
  · intro a _w _hB hF hd
    have h48 : a.tmps.getD 48 undef = .bool true := hd.1 rfl
    exact step_move (rf_open true rfl rfl h48) rfl _ rfl ((hF.other 7 rfl).trans S.v7)
  refine ⟨?_, ?_⟩
  · intro a _w _hB _hF hd
    have h48 : a.tmps.getD 48 undef = .bool true := hd.2.1 rfl
    have h49 : a.tmps.getD 49 undef = .int .i64 0 := hd.1 rfl
    refine step_call (rf_open true rfl rfl h48) rfl _ _ (rf_call_run Try.func8 (by kernel_rfl) (by kernel_rfl) _ _ rfl) ?_
    simp only [List.map_toArray, List.map_cons, List.map_nil, Act.eval, h49]
    exact (gnum_any _ _).mono (by rintro e w1 ⟨rfl, rfl⟩; exact ⟨_, rfl, Below.refl _ _, rfl⟩)
  refine ⟨?_, ?_⟩
  · intro a _w _hB _hF hd
    have h48 : a.tmps.getD 48 undef = .bool true := hd.2.1 rfl
    have h50 : a.tmps.getD 50 undef = .int .i64 0 := hd.1 rfl
    exact rf_eql (rf_open true rfl rfl h48) rfl _ _ rfl _ _ h50 rfl true rfl rfl
  refine ⟨?_, ?_⟩
  · intro a _w _hB _hF hd
    have h48 : a.tmps.getD 48 undef = .bool true := hd.1 rfl
    have h51 : a.tmps.getD 51 undef = .bool true := hd.2.1 rfl
    exact rf_pick (guard_none rfl) rfl _ _ _ rfl true h48 h51
  refine ⟨?_, ?_⟩
  · intro a _w _hB _hF hd
    have h52 : a.tmps.getD 52 undef = .bool true := hd.1 rfl
    exact step_move (guard_none rfl) rfl _ rfl h52
  refine ⟨?_, ?_⟩
  · intro a _w _hB hF hd
    have h53 : a.tmps.getD 53 undef = .bool true := hd.1 rfl
    exact step_move (rf_open true rfl rfl h53) rfl _ rfl ((hF.other 8 rfl).trans S.v8)
  refine ⟨?_, ?_⟩
  · intro a _w _hB _hF hd
    have h53 : a.tmps.getD 53 undef = .bool true := hd.2.1 rfl
    have h54 : a.tmps.getD 54 undef = .int .i64 1201 := hd.1 rfl
    refine step_call (rf_open true rfl rfl h53) rfl _ _ (rf_call_run Try.func8 (by kernel_rfl) (by kernel_rfl) _ _ rfl) ?_
    simp only [List.map_toArray, List.map_cons, List.map_nil, Act.eval, h54]
    exact (gnum_any _ _).mono (by rintro e w1 ⟨rfl, rfl⟩; exact ⟨_, rfl, Below.refl _ _, rfl⟩)
  refine ⟨?_, ?_⟩
  · intro a _w _hB _hF hd
    have h53 : a.tmps.getD 53 undef = .bool true := hd.2.1 rfl
    have h55 : a.tmps.getD 55 undef = .int .i64 1201 := hd.1 rfl
    exact rf_eql (rf_open true rfl rfl h53) rfl _ _ rfl _ _ h55 rfl true rfl rfl
  refine ⟨?_, ?_⟩
  · intro a _w _hB _hF hd
    have h53 : a.tmps.getD 53 undef = .bool true := hd.1 rfl
    have h56 : a.tmps.getD 56 undef = .bool true := hd.2.1 rfl
    exact rf_pick (guard_none rfl) rfl _ _ _ rfl true h53 h56
  refine ⟨?_, ?_⟩
  · intro a _w _hB _hF hd
    have h57 : a.tmps.getD 57 undef = .bool true := hd.1 rfl
    exact step_move (guard_none rfl) rfl _ rfl h57
  refine ⟨?_, ?_⟩
  · intro a _w _hB hF hd
    have h58 : a.tmps.getD 58 undef = .bool true := hd.1 rfl
    exact step_move (rf_open true rfl rfl h58) rfl _ rfl ((hF.other 9 rfl).trans S.v9)
  refine ⟨?_, ?_⟩
  · intro a _w _hB _hF hd
    have h58 : a.tmps.getD 58 undef = .bool true := hd.2.1 rfl
    have h59 : a.tmps.getD 59 undef = .int .i64 1200 := hd.1 rfl
    refine step_call (rf_open true rfl rfl h58) rfl _ _ (rf_call_run Try.func8 (by kernel_rfl) (by kernel_rfl) _ _ rfl) ?_
    simp only [List.map_toArray, List.map_cons, List.map_nil, Act.eval, h59]
    exact (gnum_any _ _).mono (by rintro e w1 ⟨rfl, rfl⟩; exact ⟨_, rfl, Below.refl _ _, rfl⟩)
  refine ⟨?_, ?_⟩
  · intro a _w _hB _hF hd
    have h58 : a.tmps.getD 58 undef = .bool true := hd.2.1 rfl
    have h60 : a.tmps.getD 60 undef = .int .i64 1200 := hd.1 rfl
    exact rf_eql (rf_open true rfl rfl h58) rfl _ _ rfl _ _ h60 rfl true rfl rfl
  refine ⟨?_, ?_⟩
  · intro a _w _hB _hF hd
    have h58 : a.tmps.getD 58 undef = .bool true := hd.1 rfl
    have h61 : a.tmps.getD 61 undef = .bool true := hd.2.1 rfl
    exact rf_pick (guard_none rfl) rfl _ _ _ rfl true h58 h61
  refine ⟨?_, ?_⟩
  · intro a _w _hB _hF hd
    have h62 : a.tmps.getD 62 undef = .bool true := hd.1 rfl
    exact step_move (guard_none rfl) rfl _ rfl h62
  refine ⟨?_, ?_⟩
  · intro a _w _hB hF hd
    have h63 : a.tmps.getD 63 undef = .bool true := hd.1 rfl
    exact step_move (rf_open true rfl rfl h63) rfl _ rfl ((hF.other 1 rfl).trans S.v1)
  refine ⟨?_, ?_⟩
  · intro a w hB _hF hd
    have h63 : a.tmps.getD 63 undef = .bool true := hd.2.1 rfl
    have h64 : a.tmps.getD 64 undef = .pointer (some ⟨g, 0, none⟩) := hd.1 rfl
    refine step_call (rf_open true rfl rfl h63) rfl _ _ (rf_call_run Try.func14 (by kernel_rfl) (by kernel_rfl) _ _ rfl) ?_
    simp only [List.map_toArray, List.map_cons, List.map_nil, Act.eval, h64]
    exact (gids_any gs g 2 [5, 3] w (S.rg.below hB) (by decide)).mono (by rintro e w1 ⟨A, c, rfl, ho, hb⟩; exact ⟨_, rfl, hb, A, c, rfl, ho.ints⟩)
  refine ⟨?_, ?_⟩
  · intro a _w _hB _hF hd
    have h63 : a.tmps.getD 63 undef = .bool true := hd.1 rfl
    exact rf_list2I (rf_open true rfl rfl h63) rfl _ _ rfl 5 3 rfl rfl (fun _ _ h => h)
  refine ⟨?_, ?_⟩
  · intro a w _hB _hF hd
    have h63 : a.tmps.getD 63 undef = .bool true := hd.2.2.2.1 rfl
    obtain ⟨A65, c65, h65, p65⟩ : rowN 2 [5, 3] (a.tmps.getD 65 undef) w := hd.1 rfl
    obtain ⟨A66, c66, h66, p66⟩ : rowN 2 [5, 3] (a.tmps.getD 66 undef) w := hd.2.1 rfl
    refine step_call (rf_open true rfl rfl h63) rfl _ _ (rf_call_run Try.func15 (by kernel_rfl) (by kernel_rfl) _ _ rfl) ?_
    simp only [List.map_toArray, List.map_cons, List.map_nil, Act.eval, h65, h66]
    exact (sameInts_true _ _ 2 _ _ [5, 3] _ p65 p66 (by unfold maxLen; omega)).mono (by rintro e w1 ⟨rfl, k, rfl⟩; exact ⟨_, rfl, below_drewN (Below.refl _ _) _, rfl⟩)
  refine ⟨?_, ?_⟩
  · intro a _w _hB _hF hd
    have h63 : a.tmps.getD 63 undef = .bool true := hd.1 rfl
    have h67 : a.tmps.getD 67 undef = .bool true := hd.2.1 rfl
    exact rf_pick (guard_none rfl) rfl _ _ _ rfl true h63 h67
  refine ⟨?_, ?_⟩
  · intro a _w _hB _hF hd
    have h68 : a.tmps.getD 68 undef = .bool true := hd.1 rfl
    exact step_move (guard_none rfl) rfl _ rfl h68
  refine ⟨?_, ?_⟩
  · intro a _w _hB hF hd
    have h69 : a.tmps.getD 69 undef = .bool true := hd.1 rfl
    exact step_move (rf_open true rfl rfl h69) rfl _ rfl ((hF.other 1 rfl).trans S.v1)
  refine ⟨?_, ?_⟩
  · intro a w hB _hF hd
    have h69 : a.tmps.getD 69 undef = .bool true := hd.2.1 rfl
    have h70 : a.tmps.getD 70 undef = .pointer (some ⟨g, 0, none⟩) := hd.1 rfl
    refine step_call (rf_open true rfl rfl h69) rfl _ _ (rf_call_run Try.func12 (by kernel_rfl) (by kernel_rfl) _ _ rfl) ?_
    simp only [List.map_toArray, List.map_cons, List.map_nil, Act.eval, h70]
    exact ((show Calls Try.prog 12 _ w fun e w' => e = .returned (.bool true) ∧ w = w' from by have := ghas_any gs g 2 [5, 3] 3 w (S.rg.below hB) (by decide); rwa [show decide ((3 : Int) ∈ [5, 3]) = true by decide] at this)).mono (by rintro e w1 ⟨rfl, rfl⟩; exact ⟨_, rfl, Below.refl _ _, rfl⟩)
  refine ⟨?_, ?_⟩
  · intro a _w _hB _hF hd
    have h69 : a.tmps.getD 69 undef = .bool true := hd.1 rfl
    have h71 : a.tmps.getD 71 undef = .bool true := hd.2.1 rfl
    exact rf_pick (guard_none rfl) rfl _ _ _ rfl true h69 h71
  refine ⟨?_, ?_⟩
  · intro a _w _hB _hF hd
    have h72 : a.tmps.getD 72 undef = .bool true := hd.1 rfl
    exact step_move (guard_none rfl) rfl _ rfl h72
  refine ⟨?_, ?_⟩
  · intro a _w _hB hF hd
    have h73 : a.tmps.getD 73 undef = .bool true := hd.1 rfl
    exact step_move (rf_open true rfl rfl h73) rfl _ rfl ((hF.other 1 rfl).trans S.v1)
  refine ⟨?_, ?_⟩
  · intro a w hB _hF hd
    have h73 : a.tmps.getD 73 undef = .bool true := hd.2.1 rfl
    have h74 : a.tmps.getD 74 undef = .pointer (some ⟨g, 0, none⟩) := hd.1 rfl
    refine step_call (rf_open true rfl rfl h73) rfl _ _ (rf_call_run Try.func12 (by kernel_rfl) (by kernel_rfl) _ _ rfl) ?_
    simp only [List.map_toArray, List.map_cons, List.map_nil, Act.eval, h74]
    exact ((show Calls Try.prog 12 _ w fun e w' => e = .returned (.bool false) ∧ w = w' from by have := ghas_any gs g 2 [5, 3] 4 w (S.rg.below hB) (by decide); rwa [show decide ((4 : Int) ∈ [5, 3]) = false by decide] at this)).mono (by rintro e w1 ⟨rfl, rfl⟩; exact ⟨_, rfl, Below.refl _ _, rfl⟩)
  refine ⟨?_, ?_⟩
  · intro a _w _hB _hF hd
    have h73 : a.tmps.getD 73 undef = .bool true := hd.2.1 rfl
    have h75 : a.tmps.getD 75 undef = .bool false := hd.1 rfl
    exact step_not (rf_open true rfl rfl h73) rfl _ _ rfl h75 rfl
  refine ⟨?_, ?_⟩
  · intro a _w _hB _hF hd
    have h73 : a.tmps.getD 73 undef = .bool true := hd.1 rfl
    have h76 : a.tmps.getD 76 undef = .bool true := hd.2.1 rfl
    exact rf_pick (guard_none rfl) rfl _ _ _ rfl true h73 h76
  refine ⟨?_, ?_⟩
  · intro a _w _hB _hF hd
    have h77 : a.tmps.getD 77 undef = .bool true := hd.1 rfl
    exact step_assign (guard_none rfl) rfl _ rfl h77
  trivial
theorem ga6_any {Q : Exit → Act → World → Prop} {l : List Oper} (hl : opsOf 6 Try.f9 = l) (hend : ∀ (A65 : Option Addr) (c65 : Nat), ∀ (A66 : Option Addr) (c66 : Nat), ∀ w : World, Below w0.heap.size w0 w → Ints w A65 2 [5, 3] → Ints w A66 2 [5, 3] → Q .normal (putAll a0 [(35, .int .i64 1200), (36, .int .i64 1200), (37, .bool true), (38, .bool true), (39, .int .i64 0), (40, .int .i64 0), (41, .bool true), (42, .bool true), (43, .bool true), (44, .int .i64 0), (45, .int .i64 0), (46, .bool true), (47, .bool true), (48, .bool true), (49, .int .i64 0), (50, .int .i64 0), (51, .bool true), (52, .bool true), (53, .bool true), (54, .int .i64 1201), (55, .int .i64 1201), (56, .bool true), (57, .bool true), (58, .bool true), (59, .int .i64 1200), (60, .int .i64 1200), (61, .bool true), (62, .bool true), (63, .bool true), (64, .pointer (some ⟨g, 0, none⟩)), (65, .slice A65 2 c65), (66, .slice A66 2 c66), (67, .bool true), (68, .bool true), (69, .bool true), (70, .pointer (some ⟨g, 0, none⟩)), (71, .bool true), (72, .bool true), (73, .bool true), (74, .pointer (some ⟨g, 0, none⟩)), (75, .bool false), (76, .bool true), (77, .bool true), (0, .bool true)]) w) :
    (Code.region 6 l.toArray false).wp Try.prog Q a0 w0 := by
  subst hl
  refine region_facts (ga6F gs g) ga6D 78 S.size rfl (by kernel_rfl) (by kernel_rfl) (ga6F_mono _ _) (ga6_ok S) fun a w hB hF h => ?_
  obtain ⟨A65, c65, h65, p65⟩ : rowN 2 [5, 3] (a.tmps.getD 65 undef) w := h 30 (some 65) rfl
  obtain ⟨A66, c66, h66, p66⟩ : rowN 2 [5, 3] (a.tmps.getD 66 undef) w := h 31 (some 66) rfl
  have hv : valsAre a [(35, .int .i64 1200), (36, .int .i64 1200), (37, .bool true), (38, .bool true), (39, .int .i64 0), (40, .int .i64 0), (41, .bool true), (42, .bool true), (43, .bool true), (44, .int .i64 0), (45, .int .i64 0), (46, .bool true), (47, .bool true), (48, .bool true), (49, .int .i64 0), (50, .int .i64 0), (51, .bool true), (52, .bool true), (53, .bool true), (54, .int .i64 1201), (55, .int .i64 1201), (56, .bool true), (57, .bool true), (58, .bool true), (59, .int .i64 1200), (60, .int .i64 1200), (61, .bool true), (62, .bool true), (63, .bool true), (64, .pointer (some ⟨g, 0, none⟩)), (65, .slice A65 2 c65), (66, .slice A66 2 c66), (67, .bool true), (68, .bool true), (69, .bool true), (70, .pointer (some ⟨g, 0, none⟩)), (71, .bool true), (72, .bool true), (73, .bool true), (74, .pointer (some ⟨g, 0, none⟩)), (75, .bool false), (76, .bool true), (77, .bool true), (0, .bool true)] := by
    refine ⟨?_, ?_, ?_, ?_, ?_, ?_, ?_, ?_, ?_, ?_, ?_, ?_, ?_, ?_, ?_, ?_, ?_, ?_, ?_, ?_, ?_, ?_, ?_, ?_, ?_, ?_, ?_, ?_, ?_, ?_, ?_, ?_, ?_, ?_, ?_, ?_, ?_, ?_, ?_, ?_, ?_, ?_, ?_, ?_, trivial⟩
    · exact h 0 (some 35) rfl
    · exact h 1 (some 36) rfl
    · exact h 2 (some 37) rfl
    · exact h 3 (some 38) rfl
    · exact h 4 (some 39) rfl
    · exact h 5 (some 40) rfl
    · exact h 6 (some 41) rfl
    · exact h 7 (some 42) rfl
    · exact h 8 (some 43) rfl
    · exact h 9 (some 44) rfl
    · exact h 10 (some 45) rfl
    · exact h 11 (some 46) rfl
    · exact h 12 (some 47) rfl
    · exact h 13 (some 48) rfl
    · exact h 14 (some 49) rfl
    · exact h 15 (some 50) rfl
    · exact h 16 (some 51) rfl
    · exact h 17 (some 52) rfl
    · exact h 18 (some 53) rfl
    · exact h 19 (some 54) rfl
    · exact h 20 (some 55) rfl
    · exact h 21 (some 56) rfl
    · exact h 22 (some 57) rfl
    · exact h 23 (some 58) rfl
    · exact h 24 (some 59) rfl
    · exact h 25 (some 60) rfl
    · exact h 26 (some 61) rfl
    · exact h 27 (some 62) rfl
    · exact h 28 (some 63) rfl
    · exact h 29 (some 64) rfl
    · exact h65
    · exact h66
    · exact h 32 (some 67) rfl
    · exact h 33 (some 68) rfl
    · exact h 34 (some 69) rfl
    · exact h 35 (some 70) rfl
    · exact h 36 (some 71) rfl
    · exact h 37 (some 72) rfl
    · exact h 38 (some 73) rfl
    · exact h 39 (some 74) rfl
    · exact h 40 (some 75) rfl
    · exact h 41 (some 76) rfl
    · exact h 42 (some 77) rfl
    · exact h 43 (some 0) rfl
  rw [frame_is hF _ hv (by rfl) (by rfl)]
  exact hend A65 c65 A66 c66 w hB p65 p66
end

end Go.Proofs.Ytamgllaoeociaaa
