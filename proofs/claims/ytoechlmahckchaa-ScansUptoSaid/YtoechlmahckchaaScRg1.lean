/-
  The first look's drawn end: its facts, one by one (written by gen/scawake.py).
-/
import Derived.Test.YtoechlmahckchaaRf
import Derived.Test.YtoechlmahckchaaG11m
import Derived.Test.YtoechlmahckchaaG11j
namespace Go.Proofs.Ytoechlmahckchaa
open Go.RowKit

def o1P : Po := ⟨1, 1, 0, 7, 0⟩
def aw14D : List (Option Tmp) := [some 59, some 60, some 61, some 62, some 63, some 64, some 65, some 66, some 67, some 68, some 69, some 70, some 71, some 72, some 73, some 74, some 75, some 76, some 77, some 78, some 79, some 80, some 81, some 82, some 83, some 84, some 85, some 86, some 87, some 88, some 89, some 90, some 91, some 92, some 93, some 94, some 95, some 96, some 97, some 98, some 99, some 100, some 101, some 102, some 103, some 104, some 105, some 106, some 107, some 108, some 109, some 110, some 111, some 112, some 113, some 114, some 115, some 116, some 117, some 118, some 119, some 120, some 121, some 122, some 123, some 124, some 125, some 0]
def aw14F (F : ByteArray) (A0 A1 A2 : Option Addr) (c0 c1 c2 _g y : Nat) : List Fact := [isV (.string F), isV (.string F), isV (.bool true), isV (.bool true), isV (.int .i64 0), isV (.int .i64 0), isV (.bool true), isV (.bool true), isV (.bool true), isV (.int .i64 0), isV (.int .i64 0), isV (.bool true), isV (.bool true), isV (.bool true), isV (.slice A0 0 c0), isV (.int .i64 0), isV (.bool true), isV (.bool true), isV (.bool true), isV (.string (F.extract 0 3)), isV (.string F), isV (.string (F.extract 0 3)), isV (.bool true), isV (.bool true), isV (.bool true), isV (.int .i64 2), isV (.bool true), isV (.bool true), isV (.bool true), isV (.slice A1 2 c1), isV (.agg #[.int .i64 (badP 2).k, .int .i64 (badP 2).so, .int .i64 (badP 2).se, .int .i64 (badP 2).ti, .int .i64 (badP 2).va]), isV (.agg #[.int .i64 o1P.k, .int .i64 o1P.so, .int .i64 o1P.se, .int .i64 o1P.ti, .int .i64 o1P.va]), rowsF 2 [badP 2, o1P], isV (.bool true), isV (.bool true), isV (.bool true), isV (.slice A2 1 c2), isV (.agg #[.int .i64 (badP 1).k, .int .i64 (badP 1).so, .int .i64 (badP 1).se, .int .i64 (badP 1).ti, .int .i64 (badP 1).va]), rowsF 1 [badP 1], isV (.bool true), isV (.bool true), isV (.bool true), isV (.int .i64 1100), isV (.int .i64 1100), isV (.bool true), isV (.bool true), isV (.bool true), isV (.int .i64 0), isV (.int .i64 0), isV (.bool true), isV (.bool true), isV (.bool true), isV (.pointer (some ⟨y, 0, none⟩)), isV (.bool true), isV (.bool true), isV (.bool true), isV (.pointer (some ⟨y, 0, none⟩)), isV (.string (F.extract 0 4)), isV (.string F), isV (.string (F.extract 0 4)), isV (.bool true), isV (.bool true), isV (.bool true), isV (.pointer (some ⟨y, 0, none⟩)), isV (.int .i64 3), isV (.bool true), isV (.bool true), isV (.bool true)]
theorem aw14F_mono (F : ByteArray) (A0 A1 A2 : Option Addr) (c0 c1 c2 g y : Nat) : ∀ φ ∈ aw14F F A0 A1 A2 c0 c1 c2 g y, Mono φ := by
  unfold aw14F
  repeat (first | exact monos_nil | (refine monos_cons (mono_isV _) ?_) | (refine monos_cons (rowsF_mono _ _) ?_))
structure aw14S (F : ByteArray) (A0 A1 A2 : Option Addr) (c0 c1 c2 g y : Nat) (a0 : Act) (w0 : World) : Prop where
  size : a0.tmps.size = 126
  v2 : a0.tmps.getD 2 undef = .pointer (some ⟨g, 0, none⟩)
  v3 : a0.tmps.getD 3 undef = .string F
  v5 : a0.tmps.getD 5 undef = .int .i64 0
  v6 : a0.tmps.getD 6 undef = .string F
  v7 : a0.tmps.getD 7 undef = .int .i64 0
  v8 : a0.tmps.getD 8 undef = .slice A0 0 c0
  v9 : a0.tmps.getD 9 undef = .string (F.extract 0 3)
  v10 : a0.tmps.getD 10 undef = .int .i64 2
  v11 : a0.tmps.getD 11 undef = .slice A1 2 c1
  v12 : a0.tmps.getD 12 undef = .slice A2 1 c2
  v14 : a0.tmps.getD 14 undef = .int .i64 1100
  v15 : a0.tmps.getD 15 undef = .pointer (some ⟨y, 0, none⟩)
  v16 : a0.tmps.getD 16 undef = .int .i64 0
  F7 : F.size = 7
  ob : Has w0 g 49 (opC o1P)
  oc : Ops w0 A1 2 [badP 2, o1P]
  od : Ops w0 A2 1 [badP 1]
  ys : Has w0 y 58 (scC [181, 3, 2, 2] 3)
  wa : ∀ w : World, Has w y 58 (scC [181, 3, 2, 2] 3) → Calls Try.prog 16 #[.pointer (some ⟨y, 0, none⟩)] w fun e w' => e = .returned (.string (F.extract 0 4)) ∧ Below w.heap.size w w'
section
variable {F : ByteArray} {A0 A1 A2 : Option Addr} {c0 c1 c2 g y : Nat} {a0 : Act} {w0 : World} (S : aw14S F A0 A1 A2 c0 c1 c2 g y a0 w0)
include S
set_option maxRecDepth 100000 in
set_option maxHeartbeats 8000000 in
theorem aw14_ok : AllOps (fun j o => ∀ (a : Act) (w : World), Below w0.heap.size w0 w → FrD aw14D a0 a → needs aw14D (aw14F F A0 A1 A2 c0 c1 c2 g y) a w o.after.toList → StepD Try.prog aw14D (factAt (aw14F F A0 A1 A2 c0 c1 c2 g y) j) o a w) 0 (opsOf 14 Try.f21) := by
  simp only [opsOf, Try.f21, opsAt, Option.bind, Option.or, Option.getD, reduceCtorEq, if_true, if_false, Nat.reduceEqDiff]
  refine ⟨?_, ?_⟩
  · intro _a _w _hB hF _hd
    exact step_move (guard_none rfl) rfl _ rfl ((hF.other 3 rfl).trans S.v3)
  refine ⟨?_, ?_⟩
  · intro _a _w _hB hF _hd
    exact step_move (guard_none rfl) rfl _ rfl ((hF.other 6 rfl).trans S.v6)
  refine ⟨?_, ?_⟩
  · intro a _w _hB _hF hd
    have h59 : a.tmps.getD 59 undef = .string F := hd.1 rfl
    have h60 : a.tmps.getD 60 undef = .string F := hd.2.1 rfl
    exact rf_eqS (guard_none rfl) rfl _ _ rfl _ h59 h60 rfl
  refine ⟨?_, ?_⟩
  · intro a _w _hB _hF hd
    have h61 : a.tmps.getD 61 undef = .bool true := hd.1 rfl
    exact step_move (guard_none rfl) rfl _ rfl h61
  refine ⟨?_, ?_⟩
  · intro a _w _hB hF hd
    have h62 : a.tmps.getD 62 undef = .bool true := hd.1 rfl
    exact step_move (rf_open true rfl rfl h62) rfl _ rfl ((hF.other 5 rfl).trans S.v5)
  refine ⟨?_, ?_⟩
  · intro a _w _hB _hF hd
    have h62 : a.tmps.getD 62 undef = .bool true := hd.2.1 rfl
    have h63 : a.tmps.getD 63 undef = .int .i64 0 := hd.1 rfl
    refine step_call (rf_open true rfl rfl h62) rfl _ _ (rf_call_run Try.func12 (by kernel_rfl) (by kernel_rfl) _ _ rfl) ?_
    simp only [List.map_toArray, List.map_cons, List.map_nil, Act.eval, h63]
    exact (num_any _ _).mono (by rintro e w1 ⟨rfl, rfl⟩; exact ⟨_, rfl, Below.refl _ _, rfl⟩)
  refine ⟨?_, ?_⟩
  · intro a _w _hB _hF hd
    have h62 : a.tmps.getD 62 undef = .bool true := hd.2.1 rfl
    have h64 : a.tmps.getD 64 undef = .int .i64 0 := hd.1 rfl
    exact rf_eql (rf_open true rfl rfl h62) rfl _ _ rfl _ _ h64 rfl true rfl rfl
  refine ⟨?_, ?_⟩
  · intro a _w _hB _hF hd
    have h62 : a.tmps.getD 62 undef = .bool true := hd.1 rfl
    have h65 : a.tmps.getD 65 undef = .bool true := hd.2.1 rfl
    exact rf_pick (guard_none rfl) rfl _ _ _ rfl true h62 h65
  refine ⟨?_, ?_⟩
  · intro a _w _hB _hF hd
    have h66 : a.tmps.getD 66 undef = .bool true := hd.1 rfl
    exact step_move (guard_none rfl) rfl _ rfl h66
  refine ⟨?_, ?_⟩
  · intro a _w _hB hF hd
    have h67 : a.tmps.getD 67 undef = .bool true := hd.1 rfl
    exact step_move (rf_open true rfl rfl h67) rfl _ rfl ((hF.other 7 rfl).trans S.v7)
  refine ⟨?_, ?_⟩
  · intro a _w _hB _hF hd
    have h67 : a.tmps.getD 67 undef = .bool true := hd.2.1 rfl
    have h68 : a.tmps.getD 68 undef = .int .i64 0 := hd.1 rfl
    refine step_call (rf_open true rfl rfl h67) rfl _ _ (rf_call_run Try.func12 (by kernel_rfl) (by kernel_rfl) _ _ rfl) ?_
    simp only [List.map_toArray, List.map_cons, List.map_nil, Act.eval, h68]
    exact (num_any _ _).mono (by rintro e w1 ⟨rfl, rfl⟩; exact ⟨_, rfl, Below.refl _ _, rfl⟩)
  refine ⟨?_, ?_⟩
  · intro a _w _hB _hF hd
    have h67 : a.tmps.getD 67 undef = .bool true := hd.2.1 rfl
    have h69 : a.tmps.getD 69 undef = .int .i64 0 := hd.1 rfl
    exact rf_eql (rf_open true rfl rfl h67) rfl _ _ rfl _ _ h69 rfl true rfl rfl
  refine ⟨?_, ?_⟩
  · intro a _w _hB _hF hd
    have h67 : a.tmps.getD 67 undef = .bool true := hd.1 rfl
    have h70 : a.tmps.getD 70 undef = .bool true := hd.2.1 rfl
    exact rf_pick (guard_none rfl) rfl _ _ _ rfl true h67 h70
  refine ⟨?_, ?_⟩
  · intro a _w _hB _hF hd
    have h71 : a.tmps.getD 71 undef = .bool true := hd.1 rfl
    exact step_move (guard_none rfl) rfl _ rfl h71
  refine ⟨?_, ?_⟩
  · intro a _w _hB hF hd
    have h72 : a.tmps.getD 72 undef = .bool true := hd.1 rfl
    exact step_move (rf_open true rfl rfl h72) rfl _ rfl ((hF.other 8 rfl).trans S.v8)
  refine ⟨?_, ?_⟩
  · intro a _w _hB _hF hd
    have h72 : a.tmps.getD 72 undef = .bool true := hd.2.1 rfl
    have h73 : a.tmps.getD 73 undef = .slice A0 0 c0 := hd.1 rfl
    exact rf_len (rf_open true rfl rfl h72) rfl _ _ rfl Try.underlying34 _ _ _ h73 rfl
  refine ⟨?_, ?_⟩
  · intro a _w _hB _hF hd
    have h72 : a.tmps.getD 72 undef = .bool true := hd.2.1 rfl
    have h74 : a.tmps.getD 74 undef = .int .i64 0 := hd.1 rfl
    exact rf_eql (rf_open true rfl rfl h72) rfl _ _ rfl _ _ h74 rfl true rfl rfl
  refine ⟨?_, ?_⟩
  · intro a _w _hB _hF hd
    have h72 : a.tmps.getD 72 undef = .bool true := hd.1 rfl
    have h75 : a.tmps.getD 75 undef = .bool true := hd.2.1 rfl
    exact rf_pick (guard_none rfl) rfl _ _ _ rfl true h72 h75
  refine ⟨?_, ?_⟩
  · intro a _w _hB _hF hd
    have h76 : a.tmps.getD 76 undef = .bool true := hd.1 rfl
    exact step_move (guard_none rfl) rfl _ rfl h76
  refine ⟨?_, ?_⟩
  · intro a _w _hB hF hd
    have h77 : a.tmps.getD 77 undef = .bool true := hd.1 rfl
    exact step_move (rf_open true rfl rfl h77) rfl _ rfl ((hF.other 9 rfl).trans S.v9)
  refine ⟨?_, ?_⟩
  · intro a _w _hB hF hd
    have h77 : a.tmps.getD 77 undef = .bool true := hd.1 rfl
    exact step_move (rf_open true rfl rfl h77) rfl _ rfl ((hF.other 3 rfl).trans S.v3)
  refine ⟨?_, ?_⟩
  · intro a _w _hB _hF hd
    have h77 : a.tmps.getD 77 undef = .bool true := hd.2.1 rfl
    have h79 : a.tmps.getD 79 undef = .string F := hd.1 rfl
    exact rf_cutT (rf_open true rfl rfl h77) rfl _ _ 3 rfl _ h79 rfl (by omega) (by have := S.F7; omega) rfl rfl
  refine ⟨?_, ?_⟩
  · intro a _w _hB _hF hd
    have h77 : a.tmps.getD 77 undef = .bool true := hd.2.2.1 rfl
    have h78 : a.tmps.getD 78 undef = .string (F.extract 0 3) := hd.1 rfl
    have h80 : a.tmps.getD 80 undef = .string (F.extract 0 3) := hd.2.1 rfl
    exact rf_eqS (rf_open true rfl rfl h77) rfl _ _ rfl _ h78 h80 rfl
  refine ⟨?_, ?_⟩
  · intro a _w _hB _hF hd
    have h77 : a.tmps.getD 77 undef = .bool true := hd.1 rfl
    have h81 : a.tmps.getD 81 undef = .bool true := hd.2.1 rfl
    exact rf_pick (guard_none rfl) rfl _ _ _ rfl true h77 h81
  refine ⟨?_, ?_⟩
  · intro a _w _hB _hF hd
    have h82 : a.tmps.getD 82 undef = .bool true := hd.1 rfl
    exact step_move (guard_none rfl) rfl _ rfl h82
  refine ⟨?_, ?_⟩
  · intro a _w _hB hF hd
    have h83 : a.tmps.getD 83 undef = .bool true := hd.1 rfl
    exact step_move (rf_open true rfl rfl h83) rfl _ rfl ((hF.other 10 rfl).trans S.v10)
  refine ⟨?_, ?_⟩
  · intro a _w _hB _hF hd
    have h83 : a.tmps.getD 83 undef = .bool true := hd.2.1 rfl
    have h84 : a.tmps.getD 84 undef = .int .i64 2 := hd.1 rfl
    exact rf_eql (rf_open true rfl rfl h83) rfl _ _ rfl _ _ h84 rfl true rfl rfl
  refine ⟨?_, ?_⟩
  · intro a _w _hB _hF hd
    have h83 : a.tmps.getD 83 undef = .bool true := hd.1 rfl
    have h85 : a.tmps.getD 85 undef = .bool true := hd.2.1 rfl
    exact rf_pick (guard_none rfl) rfl _ _ _ rfl true h83 h85
  refine ⟨?_, ?_⟩
  · intro a _w _hB _hF hd
    have h86 : a.tmps.getD 86 undef = .bool true := hd.1 rfl
    exact step_move (guard_none rfl) rfl _ rfl h86
  refine ⟨?_, ?_⟩
  · intro a _w _hB hF hd
    have h87 : a.tmps.getD 87 undef = .bool true := hd.1 rfl
    exact step_move (rf_open true rfl rfl h87) rfl _ rfl ((hF.other 11 rfl).trans S.v11)
  refine ⟨?_, ?_⟩
  · intro a _w _hB _hF hd
    have h87 : a.tmps.getD 87 undef = .bool true := hd.1 rfl
    exact rf_badO (rf_open true rfl rfl h87) rfl _ rfl 2 rfl rfl
  refine ⟨?_, ?_⟩
  · intro a _w hB hF hd
    have h87 : a.tmps.getD 87 undef = .bool true := hd.1 rfl
    exact rf_loadS (rf_open true rfl rfl h87) rfl _ _ rfl _ _ ((hF.other 2 rfl).trans S.v2) (opC o1P).toList (rf_range (S.ob.below hB S.ob.lt)) Try.underlying49 rfl Try.sizeOp rfl
  refine ⟨?_, ?_⟩
  · intro a _w _hB _hF hd
    have h87 : a.tmps.getD 87 undef = .bool true := hd.2.2.1 rfl
    have h89 : a.tmps.getD 89 undef = .agg #[.int .i64 (badP 2).k, .int .i64 (badP 2).so, .int .i64 (badP 2).se, .int .i64 (badP 2).ti, .int .i64 (badP 2).va] := hd.1 rfl
    have h90 : a.tmps.getD 90 undef = .agg #[.int .i64 o1P.k, .int .i64 o1P.so, .int .i64 o1P.se, .int .i64 o1P.ti, .int .i64 o1P.va] := hd.2.1 rfl
    exact rf_list2 (rf_open true rfl rfl h87) rfl _ _ rfl (badP 2) o1P h89 h90 (fun _ _ h => h)
  refine ⟨?_, ?_⟩
  · intro a w hB _hF hd
    have h87 : a.tmps.getD 87 undef = .bool true := hd.2.2.1 rfl
    have h88 : a.tmps.getD 88 undef = .slice A1 2 c1 := hd.1 rfl
    obtain ⟨g91, h91, p91⟩ : rowsF 2 [badP 2, o1P] (a.tmps.getD 91 undef) w := hd.2.1 rfl
    refine step_call (rf_open true rfl rfl h87) rfl _ _ (rf_call_run Try.func15 (by kernel_rfl) (by kernel_rfl) _ _ rfl) ?_
    simp only [List.map_toArray, List.map_cons, List.map_nil, Act.eval, h88, h91]
    exact (sameops_any A1 _ 2 c1 _ [badP 2, o1P] _ (S.oc.below hB) p91 (by omega)).mono (by rintro e w1 ⟨rfl, hb⟩; exact ⟨_, rfl, hb, rfl⟩)
  refine ⟨?_, ?_⟩
  · intro a _w _hB _hF hd
    have h87 : a.tmps.getD 87 undef = .bool true := hd.1 rfl
    have h92 : a.tmps.getD 92 undef = .bool true := hd.2.1 rfl
    exact rf_pick (guard_none rfl) rfl _ _ _ rfl true h87 h92
  refine ⟨?_, ?_⟩
  · intro a _w _hB _hF hd
    have h93 : a.tmps.getD 93 undef = .bool true := hd.1 rfl
    exact step_move (guard_none rfl) rfl _ rfl h93
  refine ⟨?_, ?_⟩
  · intro a _w _hB hF hd
    have h94 : a.tmps.getD 94 undef = .bool true := hd.1 rfl
    exact step_move (rf_open true rfl rfl h94) rfl _ rfl ((hF.other 12 rfl).trans S.v12)
  refine ⟨?_, ?_⟩
  · intro a _w _hB _hF hd
    have h94 : a.tmps.getD 94 undef = .bool true := hd.1 rfl
    exact rf_badO (rf_open true rfl rfl h94) rfl _ rfl 1 rfl rfl
  refine ⟨?_, ?_⟩
  · intro a _w _hB _hF hd
    have h94 : a.tmps.getD 94 undef = .bool true := hd.2.1 rfl
    have h96 : a.tmps.getD 96 undef = .agg #[.int .i64 (badP 1).k, .int .i64 (badP 1).so, .int .i64 (badP 1).se, .int .i64 (badP 1).ti, .int .i64 (badP 1).va] := hd.1 rfl
    exact rf_list1 (rf_open true rfl rfl h94) rfl _ rfl (badP 1) h96 (fun _ _ h => h)
  refine ⟨?_, ?_⟩
  · intro a w hB _hF hd
    have h94 : a.tmps.getD 94 undef = .bool true := hd.2.2.1 rfl
    have h95 : a.tmps.getD 95 undef = .slice A2 1 c2 := hd.1 rfl
    obtain ⟨g97, h97, p97⟩ : rowsF 1 [badP 1] (a.tmps.getD 97 undef) w := hd.2.1 rfl
    refine step_call (rf_open true rfl rfl h94) rfl _ _ (rf_call_run Try.func15 (by kernel_rfl) (by kernel_rfl) _ _ rfl) ?_
    simp only [List.map_toArray, List.map_cons, List.map_nil, Act.eval, h95, h97]
    exact (sameops_any A2 _ 1 c2 _ [badP 1] _ (S.od.below hB) p97 (by omega)).mono (by rintro e w1 ⟨rfl, hb⟩; exact ⟨_, rfl, hb, rfl⟩)
  refine ⟨?_, ?_⟩
  · intro a _w _hB _hF hd
    have h94 : a.tmps.getD 94 undef = .bool true := hd.1 rfl
    have h98 : a.tmps.getD 98 undef = .bool true := hd.2.1 rfl
    exact rf_pick (guard_none rfl) rfl _ _ _ rfl true h94 h98
  refine ⟨?_, ?_⟩
  · intro a _w _hB _hF hd
    have h99 : a.tmps.getD 99 undef = .bool true := hd.1 rfl
    exact step_move (guard_none rfl) rfl _ rfl h99
  refine ⟨?_, ?_⟩
  · intro a _w _hB hF hd
    have h100 : a.tmps.getD 100 undef = .bool true := hd.1 rfl
    exact step_move (rf_open true rfl rfl h100) rfl _ rfl ((hF.other 14 rfl).trans S.v14)
  refine ⟨?_, ?_⟩
  · intro a _w _hB _hF hd
    have h100 : a.tmps.getD 100 undef = .bool true := hd.2.1 rfl
    have h101 : a.tmps.getD 101 undef = .int .i64 1100 := hd.1 rfl
    refine step_call (rf_open true rfl rfl h100) rfl _ _ (rf_call_run Try.func12 (by kernel_rfl) (by kernel_rfl) _ _ rfl) ?_
    simp only [List.map_toArray, List.map_cons, List.map_nil, Act.eval, h101]
    exact (num_any _ _).mono (by rintro e w1 ⟨rfl, rfl⟩; exact ⟨_, rfl, Below.refl _ _, rfl⟩)
  refine ⟨?_, ?_⟩
  · intro a _w _hB _hF hd
    have h100 : a.tmps.getD 100 undef = .bool true := hd.2.1 rfl
    have h102 : a.tmps.getD 102 undef = .int .i64 1100 := hd.1 rfl
    exact rf_eql (rf_open true rfl rfl h100) rfl _ _ rfl _ _ h102 rfl true rfl rfl
  refine ⟨?_, ?_⟩
  · intro a _w _hB _hF hd
    have h100 : a.tmps.getD 100 undef = .bool true := hd.1 rfl
    have h103 : a.tmps.getD 103 undef = .bool true := hd.2.1 rfl
    exact rf_pick (guard_none rfl) rfl _ _ _ rfl true h100 h103
  refine ⟨?_, ?_⟩
  · intro a _w _hB _hF hd
    have h104 : a.tmps.getD 104 undef = .bool true := hd.1 rfl
    exact step_move (guard_none rfl) rfl _ rfl h104
  refine ⟨?_, ?_⟩
  · intro a _w _hB hF hd
    have h105 : a.tmps.getD 105 undef = .bool true := hd.1 rfl
    exact step_move (rf_open true rfl rfl h105) rfl _ rfl ((hF.other 16 rfl).trans S.v16)
  refine ⟨?_, ?_⟩
  · intro a _w _hB _hF hd
    have h105 : a.tmps.getD 105 undef = .bool true := hd.2.1 rfl
    have h106 : a.tmps.getD 106 undef = .int .i64 0 := hd.1 rfl
    refine step_call (rf_open true rfl rfl h105) rfl _ _ (rf_call_run Try.func12 (by kernel_rfl) (by kernel_rfl) _ _ rfl) ?_
    simp only [List.map_toArray, List.map_cons, List.map_nil, Act.eval, h106]
    exact (num_any _ _).mono (by rintro e w1 ⟨rfl, rfl⟩; exact ⟨_, rfl, Below.refl _ _, rfl⟩)
  refine ⟨?_, ?_⟩
  · intro a _w _hB _hF hd
    have h105 : a.tmps.getD 105 undef = .bool true := hd.2.1 rfl
    have h107 : a.tmps.getD 107 undef = .int .i64 0 := hd.1 rfl
    exact rf_eql (rf_open true rfl rfl h105) rfl _ _ rfl _ _ h107 rfl true rfl rfl
  refine ⟨?_, ?_⟩
  · intro a _w _hB _hF hd
    have h105 : a.tmps.getD 105 undef = .bool true := hd.1 rfl
    have h108 : a.tmps.getD 108 undef = .bool true := hd.2.1 rfl
    exact rf_pick (guard_none rfl) rfl _ _ _ rfl true h105 h108
  refine ⟨?_, ?_⟩
  · intro a _w _hB _hF hd
    have h109 : a.tmps.getD 109 undef = .bool true := hd.1 rfl
    exact step_move (guard_none rfl) rfl _ rfl h109
  refine ⟨?_, ?_⟩
  · intro a _w _hB hF hd
    have h110 : a.tmps.getD 110 undef = .bool true := hd.1 rfl
    exact step_move (rf_open true rfl rfl h110) rfl _ rfl ((hF.other 15 rfl).trans S.v15)
  refine ⟨?_, ?_⟩
  · intro a _w _hB _hF hd
    have h110 : a.tmps.getD 110 undef = .bool true := hd.2.1 rfl
    have h111 : a.tmps.getD 111 undef = .pointer (some ⟨y, 0, none⟩) := hd.1 rfl
    exact rf_neP (rf_open true rfl rfl h110) rfl _ rfl _ h111 rfl
  refine ⟨?_, ?_⟩
  · intro a _w _hB _hF hd
    have h110 : a.tmps.getD 110 undef = .bool true := hd.1 rfl
    have h112 : a.tmps.getD 112 undef = .bool true := hd.2.1 rfl
    exact rf_pick (guard_none rfl) rfl _ _ _ rfl true h110 h112
  refine ⟨?_, ?_⟩
  · intro a _w _hB _hF hd
    have h113 : a.tmps.getD 113 undef = .bool true := hd.1 rfl
    exact step_move (guard_none rfl) rfl _ rfl h113
  refine ⟨?_, ?_⟩
  · intro a _w _hB hF hd
    have h114 : a.tmps.getD 114 undef = .bool true := hd.1 rfl
    exact step_move (rf_open true rfl rfl h114) rfl _ rfl ((hF.other 15 rfl).trans S.v15)
  refine ⟨?_, ?_⟩
  · intro a _w hB _hF hd
    have h114 : a.tmps.getD 114 undef = .bool true := hd.2.1 rfl
    have h115 : a.tmps.getD 115 undef = .pointer (some ⟨y, 0, none⟩) := hd.1 rfl
    refine step_call (rf_open true rfl rfl h114) rfl _ _ (rf_call_run Try.func16 (by kernel_rfl) (by kernel_rfl) _ _ rfl) ?_
    simp only [List.map_toArray, List.map_cons, List.map_nil, Act.eval, h115]
    exact ((S.wa _ (S.ys.below hB S.ys.lt))).mono (by rintro e w1 ⟨rfl, hb⟩; exact ⟨_, rfl, hb, rfl⟩)
  refine ⟨?_, ?_⟩
  · intro a _w _hB hF hd
    have h114 : a.tmps.getD 114 undef = .bool true := hd.1 rfl
    exact step_move (rf_open true rfl rfl h114) rfl _ rfl ((hF.other 3 rfl).trans S.v3)
  refine ⟨?_, ?_⟩
  · intro a _w _hB _hF hd
    have h114 : a.tmps.getD 114 undef = .bool true := hd.2.1 rfl
    have h117 : a.tmps.getD 117 undef = .string F := hd.1 rfl
    exact rf_cutT (rf_open true rfl rfl h114) rfl _ _ 4 rfl _ h117 rfl (by omega) (by have := S.F7; omega) rfl rfl
  refine ⟨?_, ?_⟩
  · intro a _w _hB _hF hd
    have h114 : a.tmps.getD 114 undef = .bool true := hd.2.2.1 rfl
    have h116 : a.tmps.getD 116 undef = .string (F.extract 0 4) := hd.1 rfl
    have h118 : a.tmps.getD 118 undef = .string (F.extract 0 4) := hd.2.1 rfl
    exact rf_eqS (rf_open true rfl rfl h114) rfl _ _ rfl _ h116 h118 rfl
  refine ⟨?_, ?_⟩
  · intro a _w _hB _hF hd
    have h114 : a.tmps.getD 114 undef = .bool true := hd.1 rfl
    have h119 : a.tmps.getD 119 undef = .bool true := hd.2.1 rfl
    exact rf_pick (guard_none rfl) rfl _ _ _ rfl true h114 h119
  refine ⟨?_, ?_⟩
  · intro a _w _hB _hF hd
    have h120 : a.tmps.getD 120 undef = .bool true := hd.1 rfl
    exact step_move (guard_none rfl) rfl _ rfl h120
  refine ⟨?_, ?_⟩
  · intro a _w _hB hF hd
    have h121 : a.tmps.getD 121 undef = .bool true := hd.1 rfl
    exact step_move (rf_open true rfl rfl h121) rfl _ rfl ((hF.other 15 rfl).trans S.v15)
  refine ⟨?_, ?_⟩
  · intro a _w hB _hF hd
    have h121 : a.tmps.getD 121 undef = .bool true := hd.2.1 rfl
    have h122 : a.tmps.getD 122 undef = .pointer (some ⟨y, 0, none⟩) := hd.1 rfl
    refine step_call (rf_open true rfl rfl h121) rfl _ _ (rf_call_run Try.func17 (by kernel_rfl) (by kernel_rfl) _ _ rfl) ?_
    simp only [List.map_toArray, List.map_cons, List.map_nil, Act.eval, h122]
    exact ((badn_any y _ 3 _ (S.ys.below hB S.ys.lt))).mono (by rintro e w1 ⟨rfl, rfl⟩; exact ⟨_, rfl, Below.refl _ _, rfl⟩)
  refine ⟨?_, ?_⟩
  · intro a _w _hB _hF hd
    have h121 : a.tmps.getD 121 undef = .bool true := hd.2.1 rfl
    have h123 : a.tmps.getD 123 undef = .int .i64 3 := hd.1 rfl
    exact rf_eql (rf_open true rfl rfl h121) rfl _ _ rfl _ _ h123 rfl true rfl rfl
  refine ⟨?_, ?_⟩
  · intro a _w _hB _hF hd
    have h121 : a.tmps.getD 121 undef = .bool true := hd.1 rfl
    have h124 : a.tmps.getD 124 undef = .bool true := hd.2.1 rfl
    exact rf_pick (guard_none rfl) rfl _ _ _ rfl true h121 h124
  refine ⟨?_, ?_⟩
  · intro a _w _hB _hF hd
    have h125 : a.tmps.getD 125 undef = .bool true := hd.1 rfl
    exact step_assign (guard_none rfl) rfl _ rfl h125
  trivial
theorem aw14_any {Q : Exit → Act → World → Prop} {l : List Oper} (hl : opsOf 14 Try.f21 = l) (hend : ∀ (g91 : Nat), ∀ (g97 : Nat), ∀ w : World, Below w0.heap.size w0 w → Ops w (some ⟨g91, 0, none⟩) 2 [badP 2, o1P] → Ops w (some ⟨g97, 0, none⟩) 1 [badP 1] → Q .normal (putAll a0 [(59, .string F), (60, .string F), (61, .bool true), (62, .bool true), (63, .int .i64 0), (64, .int .i64 0), (65, .bool true), (66, .bool true), (67, .bool true), (68, .int .i64 0), (69, .int .i64 0), (70, .bool true), (71, .bool true), (72, .bool true), (73, .slice A0 0 c0), (74, .int .i64 0), (75, .bool true), (76, .bool true), (77, .bool true), (78, .string (F.extract 0 3)), (79, .string F), (80, .string (F.extract 0 3)), (81, .bool true), (82, .bool true), (83, .bool true), (84, .int .i64 2), (85, .bool true), (86, .bool true), (87, .bool true), (88, .slice A1 2 c1), (89, .agg #[.int .i64 (badP 2).k, .int .i64 (badP 2).so, .int .i64 (badP 2).se, .int .i64 (badP 2).ti, .int .i64 (badP 2).va]), (90, .agg #[.int .i64 o1P.k, .int .i64 o1P.so, .int .i64 o1P.se, .int .i64 o1P.ti, .int .i64 o1P.va]), (91, .slice (some ⟨g91, 0, none⟩) 2 2), (92, .bool true), (93, .bool true), (94, .bool true), (95, .slice A2 1 c2), (96, .agg #[.int .i64 (badP 1).k, .int .i64 (badP 1).so, .int .i64 (badP 1).se, .int .i64 (badP 1).ti, .int .i64 (badP 1).va]), (97, .slice (some ⟨g97, 0, none⟩) 1 1), (98, .bool true), (99, .bool true), (100, .bool true), (101, .int .i64 1100), (102, .int .i64 1100), (103, .bool true), (104, .bool true), (105, .bool true), (106, .int .i64 0), (107, .int .i64 0), (108, .bool true), (109, .bool true), (110, .bool true), (111, .pointer (some ⟨y, 0, none⟩)), (112, .bool true), (113, .bool true), (114, .bool true), (115, .pointer (some ⟨y, 0, none⟩)), (116, .string (F.extract 0 4)), (117, .string F), (118, .string (F.extract 0 4)), (119, .bool true), (120, .bool true), (121, .bool true), (122, .pointer (some ⟨y, 0, none⟩)), (123, .int .i64 3), (124, .bool true), (125, .bool true), (0, .bool true)]) w) :
    (Code.region 14 l.toArray true).wp Try.prog Q a0 w0 := by
  subst hl
  refine region_facts2 (aw14F F A0 A1 A2 c0 c1 c2 g y) aw14D 126 S.size rfl (by kernel_rfl) (by kernel_rfl) (aw14F_mono _ _ _ _ _ _ _ _ _) (aw14_ok S) fun a w hB hF h => ?_
  obtain ⟨g91, h91, p91⟩ : rowsF 2 [badP 2, o1P] (a.tmps.getD 91 undef) w := h 32 (some 91) rfl
  obtain ⟨g97, h97, p97⟩ : rowsF 1 [badP 1] (a.tmps.getD 97 undef) w := h 38 (some 97) rfl
  have hv : valsAre a [(59, .string F), (60, .string F), (61, .bool true), (62, .bool true), (63, .int .i64 0), (64, .int .i64 0), (65, .bool true), (66, .bool true), (67, .bool true), (68, .int .i64 0), (69, .int .i64 0), (70, .bool true), (71, .bool true), (72, .bool true), (73, .slice A0 0 c0), (74, .int .i64 0), (75, .bool true), (76, .bool true), (77, .bool true), (78, .string (F.extract 0 3)), (79, .string F), (80, .string (F.extract 0 3)), (81, .bool true), (82, .bool true), (83, .bool true), (84, .int .i64 2), (85, .bool true), (86, .bool true), (87, .bool true), (88, .slice A1 2 c1), (89, .agg #[.int .i64 (badP 2).k, .int .i64 (badP 2).so, .int .i64 (badP 2).se, .int .i64 (badP 2).ti, .int .i64 (badP 2).va]), (90, .agg #[.int .i64 o1P.k, .int .i64 o1P.so, .int .i64 o1P.se, .int .i64 o1P.ti, .int .i64 o1P.va]), (91, .slice (some ⟨g91, 0, none⟩) 2 2), (92, .bool true), (93, .bool true), (94, .bool true), (95, .slice A2 1 c2), (96, .agg #[.int .i64 (badP 1).k, .int .i64 (badP 1).so, .int .i64 (badP 1).se, .int .i64 (badP 1).ti, .int .i64 (badP 1).va]), (97, .slice (some ⟨g97, 0, none⟩) 1 1), (98, .bool true), (99, .bool true), (100, .bool true), (101, .int .i64 1100), (102, .int .i64 1100), (103, .bool true), (104, .bool true), (105, .bool true), (106, .int .i64 0), (107, .int .i64 0), (108, .bool true), (109, .bool true), (110, .bool true), (111, .pointer (some ⟨y, 0, none⟩)), (112, .bool true), (113, .bool true), (114, .bool true), (115, .pointer (some ⟨y, 0, none⟩)), (116, .string (F.extract 0 4)), (117, .string F), (118, .string (F.extract 0 4)), (119, .bool true), (120, .bool true), (121, .bool true), (122, .pointer (some ⟨y, 0, none⟩)), (123, .int .i64 3), (124, .bool true), (125, .bool true), (0, .bool true)] := by
    refine ⟨?_, ?_, ?_, ?_, ?_, ?_, ?_, ?_, ?_, ?_, ?_, ?_, ?_, ?_, ?_, ?_, ?_, ?_, ?_, ?_, ?_, ?_, ?_, ?_, ?_, ?_, ?_, ?_, ?_, ?_, ?_, ?_, ?_, ?_, ?_, ?_, ?_, ?_, ?_, ?_, ?_, ?_, ?_, ?_, ?_, ?_, ?_, ?_, ?_, ?_, ?_, ?_, ?_, ?_, ?_, ?_, ?_, ?_, ?_, ?_, ?_, ?_, ?_, ?_, ?_, ?_, ?_, ?_, trivial⟩
    · exact h 0 (some 59) rfl
    · exact h 1 (some 60) rfl
    · exact h 2 (some 61) rfl
    · exact h 3 (some 62) rfl
    · exact h 4 (some 63) rfl
    · exact h 5 (some 64) rfl
    · exact h 6 (some 65) rfl
    · exact h 7 (some 66) rfl
    · exact h 8 (some 67) rfl
    · exact h 9 (some 68) rfl
    · exact h 10 (some 69) rfl
    · exact h 11 (some 70) rfl
    · exact h 12 (some 71) rfl
    · exact h 13 (some 72) rfl
    · exact h 14 (some 73) rfl
    · exact h 15 (some 74) rfl
    · exact h 16 (some 75) rfl
    · exact h 17 (some 76) rfl
    · exact h 18 (some 77) rfl
    · exact h 19 (some 78) rfl
    · exact h 20 (some 79) rfl
    · exact h 21 (some 80) rfl
    · exact h 22 (some 81) rfl
    · exact h 23 (some 82) rfl
    · exact h 24 (some 83) rfl
    · exact h 25 (some 84) rfl
    · exact h 26 (some 85) rfl
    · exact h 27 (some 86) rfl
    · exact h 28 (some 87) rfl
    · exact h 29 (some 88) rfl
    · exact h 30 (some 89) rfl
    · exact h 31 (some 90) rfl
    · exact h91
    · exact h 33 (some 92) rfl
    · exact h 34 (some 93) rfl
    · exact h 35 (some 94) rfl
    · exact h 36 (some 95) rfl
    · exact h 37 (some 96) rfl
    · exact h97
    · exact h 39 (some 98) rfl
    · exact h 40 (some 99) rfl
    · exact h 41 (some 100) rfl
    · exact h 42 (some 101) rfl
    · exact h 43 (some 102) rfl
    · exact h 44 (some 103) rfl
    · exact h 45 (some 104) rfl
    · exact h 46 (some 105) rfl
    · exact h 47 (some 106) rfl
    · exact h 48 (some 107) rfl
    · exact h 49 (some 108) rfl
    · exact h 50 (some 109) rfl
    · exact h 51 (some 110) rfl
    · exact h 52 (some 111) rfl
    · exact h 53 (some 112) rfl
    · exact h 54 (some 113) rfl
    · exact h 55 (some 114) rfl
    · exact h 56 (some 115) rfl
    · exact h 57 (some 116) rfl
    · exact h 58 (some 117) rfl
    · exact h 59 (some 118) rfl
    · exact h 60 (some 119) rfl
    · exact h 61 (some 120) rfl
    · exact h 62 (some 121) rfl
    · exact h 63 (some 122) rfl
    · exact h 64 (some 123) rfl
    · exact h 65 (some 124) rfl
    · exact h 66 (some 125) rfl
    · exact h 67 (some 0) rfl
  rw [frame_is hF _ hv (by rfl) (by rfl)]
  exact hend g91 g97 w hB p91 p97
end

end Go.Proofs.Ytoechlmahckchaa
