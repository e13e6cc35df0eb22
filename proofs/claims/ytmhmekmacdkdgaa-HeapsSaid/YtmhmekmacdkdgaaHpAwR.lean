/-
  The drawn end of the laws' first look (written by gen/hpawake.py).
-/
import Derived.Test.YtmhmekmacdkdgaaG15b
import Derived.Test.YtmhmekmacdkdgaaRf
namespace Go.Proofs.Ytmhmekmacdkdgaa
open Go.RowKit

theorem rf_eqlI {D : List (Option Tmp)} {Φ : Fact} {o : Oper} {a : Act} {w : World} (hw : Region.wanted o (yieldD D a.tmps) = true) {t : Tmp} (hd : o.dst = some t) (x y : Operand) (ho : o.op = .binOp .eql 34 x y 34) (z : It) (hx : a.eval x = .agg #[.int .i64 z.s, .int .i64 z.t, .int .i64 z.q, .int .i64 z.v]) (hy : a.eval y = .agg #[.int .i64 z.s, .int .i64 z.t, .int .i64 z.q, .int .i64 z.v]) (h : Φ (.bool true) w) : StepD Try.prog D Φ o a w :=
  step_val hw hd _ _ (by unfold execOp; rw [ho]; simp only [hx, hy]; simp [go_sem]) (Below.refl _ _) h

def haw12D : List (Option Tmp) := [some 65, some 66, some 67, some 68, some 69, some 70, some 71, some 72, some 73, some 74, some 75, some 76, some 77, some 78, some 79, some 80, some 81, some 82, some 83, some 84, some 85, some 86, some 87, some 88, some 89, some 90, some 91, some 92, some 93, some 94, some 95, some 96, some 97, some 98, some 99, some 100, some 101, some 102, some 103, some 104, some 105, some 106, some 107, some 108, some 109, some 110, some 111, some 112, some 113, some 114, some 115, some 116, some 117, some 118, some 119, some 120, some 121, some 122, some 0]
def haw12F (g _p7 _p9 _p11 : Nat) (_gs : List Nat) : List Fact := [isV (.int .i64 1500), isV (.int .i64 1500), isV (.bool true), isV (.bool true), isV (.int .i64 0), isV (.int .i64 0), isV (.bool true), isV (.bool true), isV (.bool true), isV (.int .i64 1501), isV (.int .i64 1501), isV (.bool true), isV (.bool true), isV (.bool true), isV (.agg #[.int .i64 0, .int .i64 4, .int .i64 3, .int .i64 1]), isV (.agg #[.int .i64 0, .int .i64 4, .int .i64 3, .int .i64 1]), isV (.bool true), isV (.bool true), isV (.bool true), isV (.int .i64 0), isV (.int .i64 0), isV (.bool true), isV (.bool true), isV (.bool true), isV (.agg #[.int .i64 0, .int .i64 4, .int .i64 3, .int .i64 1]), isV (.agg #[.int .i64 0, .int .i64 4, .int .i64 3, .int .i64 1]), isV (.bool true), isV (.bool true), isV (.bool true), isV (.int .i64 0), isV (.int .i64 0), isV (.bool true), isV (.bool true), isV (.bool true), isV (.agg #[.int .i64 0, .int .i64 5, .int .i64 2, .int .i64 1]), isV (.agg #[.int .i64 0, .int .i64 5, .int .i64 2, .int .i64 1]), isV (.bool true), isV (.bool true), isV (.bool true), isV (.int .i64 0), isV (.int .i64 0), isV (.bool true), isV (.bool true), isV (.bool true), isV (.int .i64 1502), isV (.int .i64 1502), isV (.bool true), isV (.bool true), isV (.bool true), isV (.int .i64 1500), isV (.int .i64 1500), isV (.bool true), isV (.bool true), isV (.bool true), isV (.pointer (some ⟨g, 0, none⟩)), isV (.int .i64 0), isV (.bool true), isV (.bool true), isV (.bool true)]
theorem haw12F_mono (g p7 p9 p11 : Nat) (gs : List Nat) : ∀ φ ∈ haw12F g p7 p9 p11 gs, Mono φ := by
  unfold haw12F
  repeat (first | exact monos_nil | (refine monos_cons (mono_isV _) ?_))
structure haw12S (g p7 p9 p11 : Nat) (gs : List Nat) (a0 : Act) (w0 : World) : Prop where
  size : a0.tmps.size = 123
  v1 : a0.tmps.getD 1 undef = .pointer (some ⟨g, 0, none⟩)
  v4 : a0.tmps.getD 4 undef = .int .i64 1500
  v5 : a0.tmps.getD 5 undef = .int .i64 0
  v6 : a0.tmps.getD 6 undef = .int .i64 1501
  v7 : a0.tmps.getD 7 undef = .pointer (some ⟨p7, 0, none⟩)
  v8 : a0.tmps.getD 8 undef = .int .i64 0
  v9 : a0.tmps.getD 9 undef = .pointer (some ⟨p9, 0, none⟩)
  v10 : a0.tmps.getD 10 undef = .int .i64 0
  v11 : a0.tmps.getD 11 undef = .pointer (some ⟨p11, 0, none⟩)
  v12 : a0.tmps.getD 12 undef = .int .i64 0
  v14 : a0.tmps.getD 14 undef = .int .i64 1502
  v15 : a0.tmps.getD 15 undef = .int .i64 1500
  hp : HpS w0 gs g 3 []
  b7 : Has w0 p7 34 #[.int .i64 0, .int .i64 4, .int .i64 3, .int .i64 1]
  b9 : Has w0 p9 34 #[.int .i64 0, .int .i64 4, .int .i64 3, .int .i64 1]
  b11 : Has w0 p11 34 #[.int .i64 0, .int .i64 5, .int .i64 2, .int .i64 1]
section
variable {g p7 p9 p11 : Nat} {gs : List Nat} {a0 : Act} {w0 : World} (S : haw12S g p7 p9 p11 gs a0 w0)
include S
set_option maxRecDepth 100000 in
set_option maxHeartbeats 8000000 in
theorem haw12_ok : AllOps (fun j o => ∀ (a : Act) (w : World), Below w0.heap.size w0 w → FrD haw12D a0 a → needs haw12D (haw12F g p7 p9 p11 gs) a w o.after.toList → StepD Try.prog haw12D (factAt (haw12F g p7 p9 p11 gs) j) o a w) 0 (opsOf 12 Try.f11) := by
  simp only [opsOf, Try.f11, opsAt, Option.bind, Option.or, Option.getD, reduceCtorEq, if_true, if_false, Nat.reduceEqDiff]
  refine ⟨?_, ?_⟩
  · intro _a _w _hB hF _hd
    exact step_move (guard_none rfl) rfl _ rfl ((hF.other 4 rfl).trans S.v4)
  refine ⟨?_, ?_⟩
  · intro a _w _hB _hF hd
    have h65 : a.tmps.getD 65 undef = .int .i64 1500 := hd.1 rfl
    refine step_call (guard_none rfl) rfl _ _ (rf_call_run Try.func10 (by kernel_rfl) (by kernel_rfl) _ _ rfl) ?_
    simp only [List.map_toArray, List.map_cons, List.map_nil, Act.eval, h65]
    exact (num0_any _ _).mono (by rintro e w1 ⟨rfl, rfl⟩; exact ⟨_, rfl, Below.refl _ _, rfl⟩)
  refine ⟨?_, ?_⟩
  · intro a _w _hB _hF hd
    have h66 : a.tmps.getD 66 undef = .int .i64 1500 := hd.1 rfl
    exact rf_eql (guard_none rfl) rfl _ _ rfl _ _ h66 rfl true rfl rfl
  refine ⟨?_, ?_⟩
  · intro a _w _hB _hF hd
    have h67 : a.tmps.getD 67 undef = .bool true := hd.1 rfl
    exact step_move (guard_none rfl) rfl _ rfl h67
  refine ⟨?_, ?_⟩
  · intro a _w _hB hF hd
    have h68 : a.tmps.getD 68 undef = .bool true := hd.1 rfl
    exact step_move (rf_open true rfl rfl h68) rfl _ rfl ((hF.other 5 rfl).trans S.v5)
  refine ⟨?_, ?_⟩
  · intro a _w _hB _hF hd
    have h68 : a.tmps.getD 68 undef = .bool true := hd.2.1 rfl
    have h69 : a.tmps.getD 69 undef = .int .i64 0 := hd.1 rfl
    refine step_call (rf_open true rfl rfl h68) rfl _ _ (rf_call_run Try.func10 (by kernel_rfl) (by kernel_rfl) _ _ rfl) ?_
    simp only [List.map_toArray, List.map_cons, List.map_nil, Act.eval, h69]
    exact (num0_any _ _).mono (by rintro e w1 ⟨rfl, rfl⟩; exact ⟨_, rfl, Below.refl _ _, rfl⟩)
  refine ⟨?_, ?_⟩
  · intro a _w _hB _hF hd
    have h68 : a.tmps.getD 68 undef = .bool true := hd.2.1 rfl
    have h70 : a.tmps.getD 70 undef = .int .i64 0 := hd.1 rfl
    exact rf_eql (rf_open true rfl rfl h68) rfl _ _ rfl _ _ h70 rfl true rfl rfl
  refine ⟨?_, ?_⟩
  · intro a _w _hB _hF hd
    have h68 : a.tmps.getD 68 undef = .bool true := hd.1 rfl
    have h71 : a.tmps.getD 71 undef = .bool true := hd.2.1 rfl
    exact rf_pick (guard_none rfl) rfl _ _ _ rfl true h68 h71
  refine ⟨?_, ?_⟩
  · intro a _w _hB _hF hd
    have h72 : a.tmps.getD 72 undef = .bool true := hd.1 rfl
    exact step_move (guard_none rfl) rfl _ rfl h72
  refine ⟨?_, ?_⟩
  · intro a _w _hB hF hd
    have h73 : a.tmps.getD 73 undef = .bool true := hd.1 rfl
    exact step_move (rf_open true rfl rfl h73) rfl _ rfl ((hF.other 6 rfl).trans S.v6)
  refine ⟨?_, ?_⟩
  · intro a _w _hB _hF hd
    have h73 : a.tmps.getD 73 undef = .bool true := hd.2.1 rfl
    have h74 : a.tmps.getD 74 undef = .int .i64 1501 := hd.1 rfl
    refine step_call (rf_open true rfl rfl h73) rfl _ _ (rf_call_run Try.func10 (by kernel_rfl) (by kernel_rfl) _ _ rfl) ?_
    simp only [List.map_toArray, List.map_cons, List.map_nil, Act.eval, h74]
    exact (num0_any _ _).mono (by rintro e w1 ⟨rfl, rfl⟩; exact ⟨_, rfl, Below.refl _ _, rfl⟩)
  refine ⟨?_, ?_⟩
  · intro a _w _hB _hF hd
    have h73 : a.tmps.getD 73 undef = .bool true := hd.2.1 rfl
    have h75 : a.tmps.getD 75 undef = .int .i64 1501 := hd.1 rfl
    exact rf_eql (rf_open true rfl rfl h73) rfl _ _ rfl _ _ h75 rfl true rfl rfl
  refine ⟨?_, ?_⟩
  · intro a _w _hB _hF hd
    have h73 : a.tmps.getD 73 undef = .bool true := hd.1 rfl
    have h76 : a.tmps.getD 76 undef = .bool true := hd.2.1 rfl
    exact rf_pick (guard_none rfl) rfl _ _ _ rfl true h73 h76
  refine ⟨?_, ?_⟩
  · intro a _w _hB _hF hd
    have h77 : a.tmps.getD 77 undef = .bool true := hd.1 rfl
    exact step_move (guard_none rfl) rfl _ rfl h77
  refine ⟨?_, ?_⟩
  · intro a _w hB hF hd
    have h78 : a.tmps.getD 78 undef = .bool true := hd.1 rfl
    exact rf_loadS (rf_open true rfl rfl h78) rfl _ _ rfl _ _ ((hF.other 7 rfl).trans S.v7) _ (rf_range (S.b7.below hB S.b7.lt)) Try.underlying34 rfl (by kernel_rfl) rfl
  refine ⟨?_, ?_⟩
  · intro a _w _hB _hF hd
    have h78 : a.tmps.getD 78 undef = .bool true := hd.1 rfl
    refine step_call (rf_open true rfl rfl h78) rfl _ _ (rf_call_run Try.func22 (by kernel_rfl) (by kernel_rfl) _ _ rfl) ?_
    simp only [List.map_toArray, List.map_cons, List.map_nil, Act.eval]
    exact (item0_any _ _ _ _ _).mono (by rintro e w1 ⟨rfl, hb⟩; exact ⟨_, rfl, hb, rfl⟩)
  refine ⟨?_, ?_⟩
  · intro a _w _hB _hF hd
    have h78 : a.tmps.getD 78 undef = .bool true := hd.2.2.1 rfl
    have h79 : a.tmps.getD 79 undef = .agg #[.int .i64 0, .int .i64 4, .int .i64 3, .int .i64 1] := hd.1 rfl
    have h80 : a.tmps.getD 80 undef = .agg #[.int .i64 0, .int .i64 4, .int .i64 3, .int .i64 1] := hd.2.1 rfl
    exact rf_eqlI (rf_open true rfl rfl h78) rfl _ _ rfl ⟨0, 4, 3, 1⟩ h79 h80 rfl
  refine ⟨?_, ?_⟩
  · intro a _w _hB _hF hd
    have h78 : a.tmps.getD 78 undef = .bool true := hd.1 rfl
    have h81 : a.tmps.getD 81 undef = .bool true := hd.2.1 rfl
    exact rf_pick (guard_none rfl) rfl _ _ _ rfl true h78 h81
  refine ⟨?_, ?_⟩
  · intro a _w _hB _hF hd
    have h82 : a.tmps.getD 82 undef = .bool true := hd.1 rfl
    exact step_move (guard_none rfl) rfl _ rfl h82
  refine ⟨?_, ?_⟩
  · intro a _w _hB hF hd
    have h83 : a.tmps.getD 83 undef = .bool true := hd.1 rfl
    exact step_move (rf_open true rfl rfl h83) rfl _ rfl ((hF.other 8 rfl).trans S.v8)
  refine ⟨?_, ?_⟩
  · intro a _w _hB _hF hd
    have h83 : a.tmps.getD 83 undef = .bool true := hd.2.1 rfl
    have h84 : a.tmps.getD 84 undef = .int .i64 0 := hd.1 rfl
    refine step_call (rf_open true rfl rfl h83) rfl _ _ (rf_call_run Try.func10 (by kernel_rfl) (by kernel_rfl) _ _ rfl) ?_
    simp only [List.map_toArray, List.map_cons, List.map_nil, Act.eval, h84]
    exact (num0_any _ _).mono (by rintro e w1 ⟨rfl, rfl⟩; exact ⟨_, rfl, Below.refl _ _, rfl⟩)
  refine ⟨?_, ?_⟩
  · intro a _w _hB _hF hd
    have h83 : a.tmps.getD 83 undef = .bool true := hd.2.1 rfl
    have h85 : a.tmps.getD 85 undef = .int .i64 0 := hd.1 rfl
    exact rf_eql (rf_open true rfl rfl h83) rfl _ _ rfl _ _ h85 rfl true rfl rfl
  refine ⟨?_, ?_⟩
  · intro a _w _hB _hF hd
    have h83 : a.tmps.getD 83 undef = .bool true := hd.1 rfl
    have h86 : a.tmps.getD 86 undef = .bool true := hd.2.1 rfl
    exact rf_pick (guard_none rfl) rfl _ _ _ rfl true h83 h86
  refine ⟨?_, ?_⟩
  · intro a _w _hB _hF hd
    have h87 : a.tmps.getD 87 undef = .bool true := hd.1 rfl
    exact step_move (guard_none rfl) rfl _ rfl h87
  refine ⟨?_, ?_⟩
  · intro a _w hB hF hd
    have h88 : a.tmps.getD 88 undef = .bool true := hd.1 rfl
    exact rf_loadS (rf_open true rfl rfl h88) rfl _ _ rfl _ _ ((hF.other 9 rfl).trans S.v9) _ (rf_range (S.b9.below hB S.b9.lt)) Try.underlying34 rfl (by kernel_rfl) rfl
  refine ⟨?_, ?_⟩
  · intro a _w hB hF hd
    have h88 : a.tmps.getD 88 undef = .bool true := hd.1 rfl
    exact rf_loadS (rf_open true rfl rfl h88) rfl _ _ rfl _ _ ((hF.other 7 rfl).trans S.v7) _ (rf_range (S.b7.below hB S.b7.lt)) Try.underlying34 rfl (by kernel_rfl) rfl
  refine ⟨?_, ?_⟩
  · intro a _w _hB _hF hd
    have h88 : a.tmps.getD 88 undef = .bool true := hd.2.2.1 rfl
    have h89 : a.tmps.getD 89 undef = .agg #[.int .i64 0, .int .i64 4, .int .i64 3, .int .i64 1] := hd.1 rfl
    have h90 : a.tmps.getD 90 undef = .agg #[.int .i64 0, .int .i64 4, .int .i64 3, .int .i64 1] := hd.2.1 rfl
    exact rf_eqlI (rf_open true rfl rfl h88) rfl _ _ rfl ⟨0, 4, 3, 1⟩ h89 h90 rfl
  refine ⟨?_, ?_⟩
  · intro a _w _hB _hF hd
    have h88 : a.tmps.getD 88 undef = .bool true := hd.1 rfl
    have h91 : a.tmps.getD 91 undef = .bool true := hd.2.1 rfl
    exact rf_pick (guard_none rfl) rfl _ _ _ rfl true h88 h91
  refine ⟨?_, ?_⟩
  · intro a _w _hB _hF hd
    have h92 : a.tmps.getD 92 undef = .bool true := hd.1 rfl
    exact step_move (guard_none rfl) rfl _ rfl h92
  refine ⟨?_, ?_⟩
  · intro a _w _hB hF hd
    have h93 : a.tmps.getD 93 undef = .bool true := hd.1 rfl
    exact step_move (rf_open true rfl rfl h93) rfl _ rfl ((hF.other 10 rfl).trans S.v10)
  refine ⟨?_, ?_⟩
  · intro a _w _hB _hF hd
    have h93 : a.tmps.getD 93 undef = .bool true := hd.2.1 rfl
    have h94 : a.tmps.getD 94 undef = .int .i64 0 := hd.1 rfl
    refine step_call (rf_open true rfl rfl h93) rfl _ _ (rf_call_run Try.func10 (by kernel_rfl) (by kernel_rfl) _ _ rfl) ?_
    simp only [List.map_toArray, List.map_cons, List.map_nil, Act.eval, h94]
    exact (num0_any _ _).mono (by rintro e w1 ⟨rfl, rfl⟩; exact ⟨_, rfl, Below.refl _ _, rfl⟩)
  refine ⟨?_, ?_⟩
  · intro a _w _hB _hF hd
    have h93 : a.tmps.getD 93 undef = .bool true := hd.2.1 rfl
    have h95 : a.tmps.getD 95 undef = .int .i64 0 := hd.1 rfl
    exact rf_eql (rf_open true rfl rfl h93) rfl _ _ rfl _ _ h95 rfl true rfl rfl
  refine ⟨?_, ?_⟩
  · intro a _w _hB _hF hd
    have h93 : a.tmps.getD 93 undef = .bool true := hd.1 rfl
    have h96 : a.tmps.getD 96 undef = .bool true := hd.2.1 rfl
    exact rf_pick (guard_none rfl) rfl _ _ _ rfl true h93 h96
  refine ⟨?_, ?_⟩
  · intro a _w _hB _hF hd
    have h97 : a.tmps.getD 97 undef = .bool true := hd.1 rfl
    exact step_move (guard_none rfl) rfl _ rfl h97
  refine ⟨?_, ?_⟩
  · intro a _w hB hF hd
    have h98 : a.tmps.getD 98 undef = .bool true := hd.1 rfl
    exact rf_loadS (rf_open true rfl rfl h98) rfl _ _ rfl _ _ ((hF.other 11 rfl).trans S.v11) _ (rf_range (S.b11.below hB S.b11.lt)) Try.underlying34 rfl (by kernel_rfl) rfl
  refine ⟨?_, ?_⟩
  · intro a _w _hB _hF hd
    have h98 : a.tmps.getD 98 undef = .bool true := hd.1 rfl
    refine step_call (rf_open true rfl rfl h98) rfl _ _ (rf_call_run Try.func22 (by kernel_rfl) (by kernel_rfl) _ _ rfl) ?_
    simp only [List.map_toArray, List.map_cons, List.map_nil, Act.eval]
    exact (item0_any _ _ _ _ _).mono (by rintro e w1 ⟨rfl, hb⟩; exact ⟨_, rfl, hb, rfl⟩)
  refine ⟨?_, ?_⟩
  · intro a _w _hB _hF hd
    have h98 : a.tmps.getD 98 undef = .bool true := hd.2.2.1 rfl
    have h99 : a.tmps.getD 99 undef = .agg #[.int .i64 0, .int .i64 5, .int .i64 2, .int .i64 1] := hd.1 rfl
    have h100 : a.tmps.getD 100 undef = .agg #[.int .i64 0, .int .i64 5, .int .i64 2, .int .i64 1] := hd.2.1 rfl
    exact rf_eqlI (rf_open true rfl rfl h98) rfl _ _ rfl ⟨0, 5, 2, 1⟩ h99 h100 rfl
  refine ⟨?_, ?_⟩
  · intro a _w _hB _hF hd
    have h98 : a.tmps.getD 98 undef = .bool true := hd.1 rfl
    have h101 : a.tmps.getD 101 undef = .bool true := hd.2.1 rfl
    exact rf_pick (guard_none rfl) rfl _ _ _ rfl true h98 h101
  refine ⟨?_, ?_⟩
  · intro a _w _hB _hF hd
    have h102 : a.tmps.getD 102 undef = .bool true := hd.1 rfl
    exact step_move (guard_none rfl) rfl _ rfl h102
  refine ⟨?_, ?_⟩
  · intro a _w _hB hF hd
    have h103 : a.tmps.getD 103 undef = .bool true := hd.1 rfl
    exact step_move (rf_open true rfl rfl h103) rfl _ rfl ((hF.other 12 rfl).trans S.v12)
  refine ⟨?_, ?_⟩
  · intro a _w _hB _hF hd
    have h103 : a.tmps.getD 103 undef = .bool true := hd.2.1 rfl
    have h104 : a.tmps.getD 104 undef = .int .i64 0 := hd.1 rfl
    refine step_call (rf_open true rfl rfl h103) rfl _ _ (rf_call_run Try.func10 (by kernel_rfl) (by kernel_rfl) _ _ rfl) ?_
    simp only [List.map_toArray, List.map_cons, List.map_nil, Act.eval, h104]
    exact (num0_any _ _).mono (by rintro e w1 ⟨rfl, rfl⟩; exact ⟨_, rfl, Below.refl _ _, rfl⟩)
  refine ⟨?_, ?_⟩
  · intro a _w _hB _hF hd
    have h103 : a.tmps.getD 103 undef = .bool true := hd.2.1 rfl
    have h105 : a.tmps.getD 105 undef = .int .i64 0 := hd.1 rfl
    exact rf_eql (rf_open true rfl rfl h103) rfl _ _ rfl _ _ h105 rfl true rfl rfl
  refine ⟨?_, ?_⟩
  · intro a _w _hB _hF hd
    have h103 : a.tmps.getD 103 undef = .bool true := hd.1 rfl
    have h106 : a.tmps.getD 106 undef = .bool true := hd.2.1 rfl
    exact rf_pick (guard_none rfl) rfl _ _ _ rfl true h103 h106
  refine ⟨?_, ?_⟩
  · intro a _w _hB _hF hd
    have h107 : a.tmps.getD 107 undef = .bool true := hd.1 rfl
    exact step_move (guard_none rfl) rfl _ rfl h107
  refine ⟨?_, ?_⟩
  · intro a _w _hB hF hd
    have h108 : a.tmps.getD 108 undef = .bool true := hd.1 rfl
    exact step_move (rf_open true rfl rfl h108) rfl _ rfl ((hF.other 14 rfl).trans S.v14)
  refine ⟨?_, ?_⟩
  · intro a _w _hB _hF hd
    have h108 : a.tmps.getD 108 undef = .bool true := hd.2.1 rfl
    have h109 : a.tmps.getD 109 undef = .int .i64 1502 := hd.1 rfl
    refine step_call (rf_open true rfl rfl h108) rfl _ _ (rf_call_run Try.func10 (by kernel_rfl) (by kernel_rfl) _ _ rfl) ?_
    simp only [List.map_toArray, List.map_cons, List.map_nil, Act.eval, h109]
    exact (num0_any _ _).mono (by rintro e w1 ⟨rfl, rfl⟩; exact ⟨_, rfl, Below.refl _ _, rfl⟩)
  refine ⟨?_, ?_⟩
  · intro a _w _hB _hF hd
    have h108 : a.tmps.getD 108 undef = .bool true := hd.2.1 rfl
    have h110 : a.tmps.getD 110 undef = .int .i64 1502 := hd.1 rfl
    exact rf_eql (rf_open true rfl rfl h108) rfl _ _ rfl _ _ h110 rfl true rfl rfl
  refine ⟨?_, ?_⟩
  · intro a _w _hB _hF hd
    have h108 : a.tmps.getD 108 undef = .bool true := hd.1 rfl
    have h111 : a.tmps.getD 111 undef = .bool true := hd.2.1 rfl
    exact rf_pick (guard_none rfl) rfl _ _ _ rfl true h108 h111
  refine ⟨?_, ?_⟩
  · intro a _w _hB _hF hd
    have h112 : a.tmps.getD 112 undef = .bool true := hd.1 rfl
    exact step_move (guard_none rfl) rfl _ rfl h112
  refine ⟨?_, ?_⟩
  · intro a _w _hB hF hd
    have h113 : a.tmps.getD 113 undef = .bool true := hd.1 rfl
    exact step_move (rf_open true rfl rfl h113) rfl _ rfl ((hF.other 15 rfl).trans S.v15)
  refine ⟨?_, ?_⟩
  · intro a _w _hB _hF hd
    have h113 : a.tmps.getD 113 undef = .bool true := hd.2.1 rfl
    have h114 : a.tmps.getD 114 undef = .int .i64 1500 := hd.1 rfl
    refine step_call (rf_open true rfl rfl h113) rfl _ _ (rf_call_run Try.func10 (by kernel_rfl) (by kernel_rfl) _ _ rfl) ?_
    simp only [List.map_toArray, List.map_cons, List.map_nil, Act.eval, h114]
    exact (num0_any _ _).mono (by rintro e w1 ⟨rfl, rfl⟩; exact ⟨_, rfl, Below.refl _ _, rfl⟩)
  refine ⟨?_, ?_⟩
  · intro a _w _hB _hF hd
    have h113 : a.tmps.getD 113 undef = .bool true := hd.2.1 rfl
    have h115 : a.tmps.getD 115 undef = .int .i64 1500 := hd.1 rfl
    exact rf_eql (rf_open true rfl rfl h113) rfl _ _ rfl _ _ h115 rfl true rfl rfl
  refine ⟨?_, ?_⟩
  · intro a _w _hB _hF hd
    have h113 : a.tmps.getD 113 undef = .bool true := hd.1 rfl
    have h116 : a.tmps.getD 116 undef = .bool true := hd.2.1 rfl
    exact rf_pick (guard_none rfl) rfl _ _ _ rfl true h113 h116
  refine ⟨?_, ?_⟩
  · intro a _w _hB _hF hd
    have h117 : a.tmps.getD 117 undef = .bool true := hd.1 rfl
    exact step_move (guard_none rfl) rfl _ rfl h117
  refine ⟨?_, ?_⟩
  · intro a _w _hB hF hd
    have h118 : a.tmps.getD 118 undef = .bool true := hd.1 rfl
    exact step_move (rf_open true rfl rfl h118) rfl _ rfl ((hF.other 1 rfl).trans S.v1)
  refine ⟨?_, ?_⟩
  · intro a _w hB _hF hd
    have h118 : a.tmps.getD 118 undef = .bool true := hd.2.1 rfl
    have h119 : a.tmps.getD 119 undef = .pointer (some ⟨g, 0, none⟩) := hd.1 rfl
    refine step_call (rf_open true rfl rfl h118) rfl _ _ (rf_call_run Try.func21 (by kernel_rfl) (by kernel_rfl) _ _ rfl) ?_
    simp only [List.map_toArray, List.map_cons, List.map_nil, Act.eval, h119]
    exact (hlen_any (S.hp.below hB)).mono (by rintro e w1 ⟨rfl, rfl⟩; exact ⟨_, rfl, Below.refl _ _, rfl⟩)
  refine ⟨?_, ?_⟩
  · intro a _w _hB _hF hd
    have h118 : a.tmps.getD 118 undef = .bool true := hd.2.1 rfl
    have h120 : a.tmps.getD 120 undef = .int .i64 0 := hd.1 rfl
    exact rf_eql (rf_open true rfl rfl h118) rfl _ _ rfl _ _ h120 rfl true rfl rfl
  refine ⟨?_, ?_⟩
  · intro a _w _hB _hF hd
    have h118 : a.tmps.getD 118 undef = .bool true := hd.1 rfl
    have h121 : a.tmps.getD 121 undef = .bool true := hd.2.1 rfl
    exact rf_pick (guard_none rfl) rfl _ _ _ rfl true h118 h121
  refine ⟨?_, ?_⟩
  · intro a _w _hB _hF hd
    have h122 : a.tmps.getD 122 undef = .bool true := hd.1 rfl
    exact step_assign (guard_none rfl) rfl _ rfl h122
  trivial
theorem haw12_any {Q : Exit → Act → World → Prop} {l : List Oper} (hl : opsOf 12 Try.f11 = l) (hend : ∀ w : World, Below w0.heap.size w0 w → Q .normal (putAll a0 [(65, .int .i64 1500), (66, .int .i64 1500), (67, .bool true), (68, .bool true), (69, .int .i64 0), (70, .int .i64 0), (71, .bool true), (72, .bool true), (73, .bool true), (74, .int .i64 1501), (75, .int .i64 1501), (76, .bool true), (77, .bool true), (78, .bool true), (79, .agg #[.int .i64 0, .int .i64 4, .int .i64 3, .int .i64 1]), (80, .agg #[.int .i64 0, .int .i64 4, .int .i64 3, .int .i64 1]), (81, .bool true), (82, .bool true), (83, .bool true), (84, .int .i64 0), (85, .int .i64 0), (86, .bool true), (87, .bool true), (88, .bool true), (89, .agg #[.int .i64 0, .int .i64 4, .int .i64 3, .int .i64 1]), (90, .agg #[.int .i64 0, .int .i64 4, .int .i64 3, .int .i64 1]), (91, .bool true), (92, .bool true), (93, .bool true), (94, .int .i64 0), (95, .int .i64 0), (96, .bool true), (97, .bool true), (98, .bool true), (99, .agg #[.int .i64 0, .int .i64 5, .int .i64 2, .int .i64 1]), (100, .agg #[.int .i64 0, .int .i64 5, .int .i64 2, .int .i64 1]), (101, .bool true), (102, .bool true), (103, .bool true), (104, .int .i64 0), (105, .int .i64 0), (106, .bool true), (107, .bool true), (108, .bool true), (109, .int .i64 1502), (110, .int .i64 1502), (111, .bool true), (112, .bool true), (113, .bool true), (114, .int .i64 1500), (115, .int .i64 1500), (116, .bool true), (117, .bool true), (118, .bool true), (119, .pointer (some ⟨g, 0, none⟩)), (120, .int .i64 0), (121, .bool true), (122, .bool true), (0, .bool true)]) w) :
    (Code.region 12 l.toArray true).wp Try.prog Q a0 w0 := by
  subst hl
  refine region_facts2 (haw12F g p7 p9 p11 gs) haw12D 123 S.size rfl (by kernel_rfl) (by kernel_rfl) (haw12F_mono _ _ _ _ _) (haw12_ok S) fun a w hB hF h => ?_
  have hv : valsAre a [(65, .int .i64 1500), (66, .int .i64 1500), (67, .bool true), (68, .bool true), (69, .int .i64 0), (70, .int .i64 0), (71, .bool true), (72, .bool true), (73, .bool true), (74, .int .i64 1501), (75, .int .i64 1501), (76, .bool true), (77, .bool true), (78, .bool true), (79, .agg #[.int .i64 0, .int .i64 4, .int .i64 3, .int .i64 1]), (80, .agg #[.int .i64 0, .int .i64 4, .int .i64 3, .int .i64 1]), (81, .bool true), (82, .bool true), (83, .bool true), (84, .int .i64 0), (85, .int .i64 0), (86, .bool true), (87, .bool true), (88, .bool true), (89, .agg #[.int .i64 0, .int .i64 4, .int .i64 3, .int .i64 1]), (90, .agg #[.int .i64 0, .int .i64 4, .int .i64 3, .int .i64 1]), (91, .bool true), (92, .bool true), (93, .bool true), (94, .int .i64 0), (95, .int .i64 0), (96, .bool true), (97, .bool true), (98, .bool true), (99, .agg #[.int .i64 0, .int .i64 5, .int .i64 2, .int .i64 1]), (100, .agg #[.int .i64 0, .int .i64 5, .int .i64 2, .int .i64 1]), (101, .bool true), (102, .bool true), (103, .bool true), (104, .int .i64 0), (105, .int .i64 0), (106, .bool true), (107, .bool true), (108, .bool true), (109, .int .i64 1502), (110, .int .i64 1502), (111, .bool true), (112, .bool true), (113, .bool true), (114, .int .i64 1500), (115, .int .i64 1500), (116, .bool true), (117, .bool true), (118, .bool true), (119, .pointer (some ⟨g, 0, none⟩)), (120, .int .i64 0), (121, .bool true), (122, .bool true), (0, .bool true)] := by
    refine ⟨?_, ?_, ?_, ?_, ?_, ?_, ?_, ?_, ?_, ?_, ?_, ?_, ?_, ?_, ?_, ?_, ?_, ?_, ?_, ?_, ?_, ?_, ?_, ?_, ?_, ?_, ?_, ?_, ?_, ?_, ?_, ?_, ?_, ?_, ?_, ?_, ?_, ?_, ?_, ?_, ?_, ?_, ?_, ?_, ?_, ?_, ?_, ?_, ?_, ?_, ?_, ?_, ?_, ?_, ?_, ?_, ?_, ?_, ?_, trivial⟩
    · exact h 0 (some 65) rfl
    · exact h 1 (some 66) rfl
    · exact h 2 (some 67) rfl
    · exact h 3 (some 68) rfl
    · exact h 4 (some 69) rfl
    · exact h 5 (some 70) rfl
    · exact h 6 (some 71) rfl
    · exact h 7 (some 72) rfl
    · exact h 8 (some 73) rfl
    · exact h 9 (some 74) rfl
    · exact h 10 (some 75) rfl
    · exact h 11 (some 76) rfl
    · exact h 12 (some 77) rfl
    · exact h 13 (some 78) rfl
    · exact h 14 (some 79) rfl
    · exact h 15 (some 80) rfl
    · exact h 16 (some 81) rfl
    · exact h 17 (some 82) rfl
    · exact h 18 (some 83) rfl
    · exact h 19 (some 84) rfl
    · exact h 20 (some 85) rfl
    · exact h 21 (some 86) rfl
    · exact h 22 (some 87) rfl
    · exact h 23 (some 88) rfl
    · exact h 24 (some 89) rfl
    · exact h 25 (some 90) rfl
    · exact h 26 (some 91) rfl
    · exact h 27 (some 92) rfl
    · exact h 28 (some 93) rfl
    · exact h 29 (some 94) rfl
    · exact h 30 (some 95) rfl
    · exact h 31 (some 96) rfl
    · exact h 32 (some 97) rfl
    · exact h 33 (some 98) rfl
    · exact h 34 (some 99) rfl
    · exact h 35 (some 100) rfl
    · exact h 36 (some 101) rfl
    · exact h 37 (some 102) rfl
    · exact h 38 (some 103) rfl
    · exact h 39 (some 104) rfl
    · exact h 40 (some 105) rfl
    · exact h 41 (some 106) rfl
    · exact h 42 (some 107) rfl
    · exact h 43 (some 108) rfl
    · exact h 44 (some 109) rfl
    · exact h 45 (some 110) rfl
    · exact h 46 (some 111) rfl
    · exact h 47 (some 112) rfl
    · exact h 48 (some 113) rfl
    · exact h 49 (some 114) rfl
    · exact h 50 (some 115) rfl
    · exact h 51 (some 116) rfl
    · exact h 52 (some 117) rfl
    · exact h 53 (some 118) rfl
    · exact h 54 (some 119) rfl
    · exact h 55 (some 120) rfl
    · exact h 56 (some 121) rfl
    · exact h 57 (some 122) rfl
    · exact h 58 (some 0) rfl
  rw [frame_is hF _ hv (by rfl) (by rfl)]
  exact hend w hB
end

end Go.Proofs.Ytmhmekmacdkdgaa
