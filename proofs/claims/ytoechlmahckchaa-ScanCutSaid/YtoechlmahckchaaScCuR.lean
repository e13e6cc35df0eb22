/-
  ScanCut's drawn region (written by gen/sccut.py).
-/
import Derived.Test.YtoechlmahckchaaRf
import Derived.Test.YtoechlmahckchaaG11m
import Derived.Test.YtoechlmahckchaaG11j
namespace Go.Proofs.Ytoechlmahckchaa
open Go.RowKit

def cm11D : List (Option Tmp) := [some 34, some 35, some 36, some 37, some 38, some 39, some 40, some 41, some 42, some 43, some 44, some 45, some 46, some 47, some 48, some 49, some 50, some 51, some 52, some 53, some 54, some 55, some 56, some 57]
def cm11F (F : ByteArray) (_lw : List UInt8) (A : Option Addr) (c y q : Nat) : List Fact := [isV (.int .i64 q), isV (.string F), isV (.int .i64 F.size), isV (.int .i64 (F.size - 1)), isV (.bool true), isV (.bool true), isV (.slice A 0 c), isV (.int .i64 0), isV (.bool false), isV (.bool false), isV (.pointer (some ⟨y, 0, none⟩)), isV (.string (F.extract 0 (q + 1))), isV (.string F), isV (.int .i64 q), isV (.int .i64 (q + 1)), isV (.string (F.extract 0 (q + 1))), isV (.bool false), isV (.bool false), isV (.bool false), isV (.pointer (some ⟨y, 0, none⟩)), isV (.int .i64 (((0 : Nat) : Int))), isV (.bool false), isV (.bool false), isV (.bool false)]
theorem cm11F_mono (F : ByteArray) (lw : List UInt8) (A : Option Addr) (c y q : Nat) : ∀ φ ∈ cm11F F lw A c y q, Mono φ := by
  unfold cm11F
  repeat (first | exact monos_nil | (refine monos_cons (mono_isV _) ?_))
structure cm11S (F : ByteArray) (lw : List UInt8) (A : Option Addr) (c y q : Nat) (a0 : Act) (w0 : World) : Prop where
  size : a0.tmps.size = 151
  v5 : a0.tmps.getD 5 undef = .pointer (some ⟨y, 0, none⟩)
  v6 : a0.tmps.getD 6 undef = .string F
  v7 : a0.tmps.getD 7 undef = .int .i64 q
  v8 : a0.tmps.getD 8 undef = .slice A 0 c
  lt : q + 1 < F.size ∧ F.size ≤ 60
  sc : Has w0 y 58 (scC lw 0)
  wa : ∀ w : World, Has w y 58 (scC lw 0) → Calls Try.prog 16 #[.pointer (some ⟨y, 0, none⟩)] w fun e w' => e = .returned (.string (F.extract 0 (q + 1))) ∧ Below w.heap.size w w'
section
variable {F : ByteArray} {lw : List UInt8} {A : Option Addr} {c y q : Nat} {a0 : Act} {w0 : World} (S : cm11S F lw A c y q a0 w0)
include S
set_option maxRecDepth 100000 in
set_option maxHeartbeats 8000000 in
theorem cm11_ok : AllOps (fun j o => ∀ (a : Act) (w : World), Below w0.heap.size w0 w → FrD cm11D a0 a → needs cm11D (cm11F F lw A c y q) a w o.after.toList → StepD Try.prog cm11D (factAt (cm11F F lw A c y q) j) o a w) 0 (opsOf 11 Try.f8) := by
  simp only [opsOf, Try.f8, opsAt, Option.bind, Option.or, Option.getD, reduceCtorEq, if_true, if_false, Nat.reduceEqDiff]
  refine ⟨?_, ?_⟩
  · intro _a _w _hB hF _hd
    exact step_move (guard_none rfl) rfl _ rfl ((hF.other 7 rfl).trans S.v7)
  refine ⟨?_, ?_⟩
  · intro _a _w _hB hF _hd
    exact step_move (guard_none rfl) rfl _ rfl ((hF.other 6 rfl).trans S.v6)
  refine ⟨?_, ?_⟩
  · intro a _w _hB _hF hd
    have h35 : a.tmps.getD 35 undef = .string F := hd.1 rfl
    exact rf_lenT (guard_none rfl) rfl _ rfl F h35 rfl
  refine ⟨?_, ?_⟩
  · intro a _w _hB _hF hd
    have h36 : a.tmps.getD 36 undef = .int .i64 F.size := hd.1 rfl
    exact rf_sub (guard_none rfl) rfl _ _ rfl _ _ h36 rfl (by have := S.lt; omega) (by have := S.lt; omega) rfl
  refine ⟨?_, ?_⟩
  · intro a _w _hB _hF hd
    have h34 : a.tmps.getD 34 undef = .int .i64 q := hd.1 rfl
    have h37 : a.tmps.getD 37 undef = .int .i64 (F.size - 1) := hd.2.1 rfl
    exact rf_lss (guard_none rfl) rfl _ _ rfl _ _ h34 h37 true (by have := S.lt; simp; omega) rfl
  refine ⟨?_, ?_⟩
  · intro a _w _hB _hF hd
    have h38 : a.tmps.getD 38 undef = .bool true := hd.1 rfl
    exact step_move (guard_none rfl) rfl _ rfl h38
  refine ⟨?_, ?_⟩
  · intro a _w _hB hF hd
    have h39 : a.tmps.getD 39 undef = .bool true := hd.1 rfl
    exact step_move (rf_open true rfl rfl h39) rfl _ rfl ((hF.other 8 rfl).trans S.v8)
  refine ⟨?_, ?_⟩
  · intro a _w _hB _hF hd
    have h39 : a.tmps.getD 39 undef = .bool true := hd.2.1 rfl
    have h40 : a.tmps.getD 40 undef = .slice A 0 c := hd.1 rfl
    exact rf_len (rf_open true rfl rfl h39) rfl _ _ rfl Try.underlying34 _ _ _ h40 rfl
  refine ⟨?_, ?_⟩
  · intro a _w _hB _hF hd
    have h39 : a.tmps.getD 39 undef = .bool true := hd.2.1 rfl
    have h41 : a.tmps.getD 41 undef = .int .i64 0 := hd.1 rfl
    exact rf_neq (rf_open true rfl rfl h39) rfl _ _ rfl _ _ h41 rfl false rfl rfl
  refine ⟨?_, ?_⟩
  · intro a _w _hB _hF hd
    have h39 : a.tmps.getD 39 undef = .bool true := hd.2.1 rfl
    have h42 : a.tmps.getD 42 undef = .bool false := hd.1 rfl
    exact step_move (rf_open true rfl rfl h39) rfl _ rfl h42
  refine ⟨?_, ?_⟩
  · intro a _w _hB hF hd
    have h43 : a.tmps.getD 43 undef = .bool false := hd.1 rfl
    exact step_move (rf_open false rfl rfl h43) rfl _ rfl ((hF.other 5 rfl).trans S.v5)
  refine ⟨?_, ?_⟩
  · intro a _w hB _hF hd
    have h43 : a.tmps.getD 43 undef = .bool false := hd.2.1 rfl
    have h44 : a.tmps.getD 44 undef = .pointer (some ⟨y, 0, none⟩) := hd.1 rfl
    refine step_call (rf_open false rfl rfl h43) rfl _ _ (rf_call_run Try.func16 (by kernel_rfl) (by kernel_rfl) _ _ rfl) ?_
    simp only [List.map_toArray, List.map_cons, List.map_nil, Act.eval, h44]
    exact (S.wa _ (S.sc.below hB S.sc.lt)).mono (by rintro e w1 ⟨rfl, hb⟩; exact ⟨_, rfl, hb, rfl⟩)
  refine ⟨?_, ?_⟩
  · intro a _w _hB hF hd
    have h43 : a.tmps.getD 43 undef = .bool false := hd.1 rfl
    exact step_move (rf_open false rfl rfl h43) rfl _ rfl ((hF.other 6 rfl).trans S.v6)
  refine ⟨?_, ?_⟩
  · intro a _w _hB hF hd
    have h43 : a.tmps.getD 43 undef = .bool false := hd.1 rfl
    exact step_move (rf_open false rfl rfl h43) rfl _ rfl ((hF.other 7 rfl).trans S.v7)
  refine ⟨?_, ?_⟩
  · intro a _w _hB _hF hd
    have h43 : a.tmps.getD 43 undef = .bool false := hd.2.1 rfl
    have h47 : a.tmps.getD 47 undef = .int .i64 q := hd.1 rfl
    exact rf_add (rf_open false rfl rfl h43) rfl _ _ rfl _ _ h47 rfl (by have := S.lt; omega) (by have := S.lt; omega) rfl
  refine ⟨?_, ?_⟩
  · intro a _w _hB _hF hd
    have h43 : a.tmps.getD 43 undef = .bool false := hd.2.2.1 rfl
    have h46 : a.tmps.getD 46 undef = .string F := hd.1 rfl
    have h48 : a.tmps.getD 48 undef = .int .i64 (q + 1) := hd.2.1 rfl
    exact rf_cutT (rf_open false rfl rfl h43) rfl _ _ ((q : Int) + 1) rfl F h46 h48 (by omega) (by have := S.lt; omega) (by rw [show ((q : Int) + 1).toNat = q + 1 by omega]) rfl
  refine ⟨?_, ?_⟩
  · intro a _w _hB _hF hd
    have h43 : a.tmps.getD 43 undef = .bool false := hd.2.2.1 rfl
    have h45 : a.tmps.getD 45 undef = .string (F.extract 0 (q + 1)) := hd.1 rfl
    have h49 : a.tmps.getD 49 undef = .string (F.extract 0 (q + 1)) := hd.2.1 rfl
    exact rf_neS (rf_open false rfl rfl h43) rfl _ _ rfl _ h45 h49 rfl
  refine ⟨?_, ?_⟩
  · intro a _w _hB _hF hd
    have h39 : a.tmps.getD 39 undef = .bool true := hd.2.2.1 rfl
    have h43 : a.tmps.getD 43 undef = .bool false := hd.1 rfl
    have h50 : a.tmps.getD 50 undef = .bool false := hd.2.1 rfl
    exact rf_pick (rf_open true rfl rfl h39) rfl _ _ _ rfl false h43 h50
  refine ⟨?_, ?_⟩
  · intro a _w _hB _hF hd
    have h39 : a.tmps.getD 39 undef = .bool true := hd.2.2.1 rfl
    have h51 : a.tmps.getD 51 undef = .bool false := hd.1 rfl
    exact step_move (rf_open true rfl rfl h39) rfl _ rfl h51
  refine ⟨?_, ?_⟩
  · intro a _w _hB hF hd
    have h52 : a.tmps.getD 52 undef = .bool false := hd.1 rfl
    exact step_move (rf_open false rfl rfl h52) rfl _ rfl ((hF.other 5 rfl).trans S.v5)
  refine ⟨?_, ?_⟩
  · intro a _w hB _hF hd
    have h52 : a.tmps.getD 52 undef = .bool false := hd.2.1 rfl
    have h53 : a.tmps.getD 53 undef = .pointer (some ⟨y, 0, none⟩) := hd.1 rfl
    refine step_call (rf_open false rfl rfl h52) rfl _ _ (rf_call_run Try.func17 (by kernel_rfl) (by kernel_rfl) _ _ rfl) ?_
    simp only [List.map_toArray, List.map_cons, List.map_nil, Act.eval, h53]
    exact (badn_any y lw 0 _ (S.sc.below hB S.sc.lt)).mono (by rintro e w1 ⟨rfl, rfl⟩; exact ⟨_, rfl, Below.refl _ _, rfl⟩)
  refine ⟨?_, ?_⟩
  · intro a _w _hB _hF hd
    have h52 : a.tmps.getD 52 undef = .bool false := hd.2.1 rfl
    have h54 : a.tmps.getD 54 undef = .int .i64 (((0 : Nat) : Int)) := hd.1 rfl
    exact rf_neq (rf_open false rfl rfl h52) rfl _ _ rfl _ _ h54 rfl false rfl rfl
  refine ⟨?_, ?_⟩
  · intro a _w _hB _hF hd
    have h39 : a.tmps.getD 39 undef = .bool true := hd.2.2.1 rfl
    have h52 : a.tmps.getD 52 undef = .bool false := hd.1 rfl
    have h55 : a.tmps.getD 55 undef = .bool false := hd.2.1 rfl
    exact rf_pick (rf_open true rfl rfl h39) rfl _ _ _ rfl false h52 h55
  refine ⟨?_, ?_⟩
  · intro a _w _hB _hF hd
    have h39 : a.tmps.getD 39 undef = .bool true := hd.1 rfl
    have h56 : a.tmps.getD 56 undef = .bool false := hd.2.1 rfl
    exact rf_pick (guard_none rfl) rfl _ _ _ rfl true h39 h56
  trivial
theorem cm11_any {Q : Exit → Act → World → Prop} {l : List Oper} (hl : opsOf 11 Try.f8 = l) (hend : ∀ w : World, Below w0.heap.size w0 w → Q .normal (putAll a0 [(34, .int .i64 q), (35, .string F), (36, .int .i64 F.size), (37, .int .i64 (F.size - 1)), (38, .bool true), (39, .bool true), (40, .slice A 0 c), (41, .int .i64 0), (42, .bool false), (43, .bool false), (44, .pointer (some ⟨y, 0, none⟩)), (45, .string (F.extract 0 (q + 1))), (46, .string F), (47, .int .i64 q), (48, .int .i64 (q + 1)), (49, .string (F.extract 0 (q + 1))), (50, .bool false), (51, .bool false), (52, .bool false), (53, .pointer (some ⟨y, 0, none⟩)), (54, .int .i64 (((0 : Nat) : Int))), (55, .bool false), (56, .bool false), (57, .bool false)]) w) :
    (Code.region 11 l.toArray true).wp Try.prog Q a0 w0 := by
  subst hl
  refine region_facts2 (cm11F F lw A c y q) cm11D 151 S.size rfl (by kernel_rfl) (by kernel_rfl) (cm11F_mono _ _ _ _ _ _) (cm11_ok S) fun a w hB hF h => ?_
  have hv : valsAre a [(34, .int .i64 q), (35, .string F), (36, .int .i64 F.size), (37, .int .i64 (F.size - 1)), (38, .bool true), (39, .bool true), (40, .slice A 0 c), (41, .int .i64 0), (42, .bool false), (43, .bool false), (44, .pointer (some ⟨y, 0, none⟩)), (45, .string (F.extract 0 (q + 1))), (46, .string F), (47, .int .i64 q), (48, .int .i64 (q + 1)), (49, .string (F.extract 0 (q + 1))), (50, .bool false), (51, .bool false), (52, .bool false), (53, .pointer (some ⟨y, 0, none⟩)), (54, .int .i64 (((0 : Nat) : Int))), (55, .bool false), (56, .bool false), (57, .bool false)] := by
    refine ⟨?_, ?_, ?_, ?_, ?_, ?_, ?_, ?_, ?_, ?_, ?_, ?_, ?_, ?_, ?_, ?_, ?_, ?_, ?_, ?_, ?_, ?_, ?_, ?_, trivial⟩
    · exact h 0 (some 34) rfl
    · exact h 1 (some 35) rfl
    · exact h 2 (some 36) rfl
    · exact h 3 (some 37) rfl
    · exact h 4 (some 38) rfl
    · exact h 5 (some 39) rfl
    · exact h 6 (some 40) rfl
    · exact h 7 (some 41) rfl
    · exact h 8 (some 42) rfl
    · exact h 9 (some 43) rfl
    · exact h 10 (some 44) rfl
    · exact h 11 (some 45) rfl
    · exact h 12 (some 46) rfl
    · exact h 13 (some 47) rfl
    · exact h 14 (some 48) rfl
    · exact h 15 (some 49) rfl
    · exact h 16 (some 50) rfl
    · exact h 17 (some 51) rfl
    · exact h 18 (some 52) rfl
    · exact h 19 (some 53) rfl
    · exact h 20 (some 54) rfl
    · exact h 21 (some 55) rfl
    · exact h 22 (some 56) rfl
    · exact h 23 (some 57) rfl
  rw [frame_is hF _ hv (by rfl) (by rfl)]
  exact hend w hB
end

def cl11D : List (Option Tmp) := [some 34, some 35, some 36, some 37, some 38, some 39, some 40, some 41, some 42, some 43, some 44, some 45, some 46, some 47, some 48, some 49, some 50, some 51, some 52, some 53, some 54, some 55, some 56, some 57]
def cl11F (F : ByteArray) (_lw : List UInt8) (_A : Option Addr) (_c _y q : Nat) : List Fact := [isV (.int .i64 q), isV (.string F), isV (.int .i64 F.size), isV (.int .i64 (F.size - 1)), isV (.bool false), isV (.bool false), isV (undef), isV (undef), isV (undef), isV (undef), isV (undef), isV (undef), isV (undef), isV (undef), isV (undef), isV (undef), isV (undef), isV (undef), isV (undef), isV (undef), isV (undef), isV (undef), isV (undef), isV (.bool false)]
theorem cl11F_mono (F : ByteArray) (lw : List UInt8) (A : Option Addr) (c y q : Nat) : ∀ φ ∈ cl11F F lw A c y q, Mono φ := by
  unfold cl11F
  repeat (first | exact monos_nil | (refine monos_cons (mono_isV _) ?_))
structure cl11S (F : ByteArray) (lw : List UInt8) (A : Option Addr) (c y q : Nat) (a0 : Act) (w0 : World) : Prop where
  size : a0.tmps.size = 151
  v6 : a0.tmps.getD 6 undef = .string F
  v7 : a0.tmps.getD 7 undef = .int .i64 q
  lt : q + 1 = F.size ∧ F.size ≤ 60
section
variable {F : ByteArray} {lw : List UInt8} {A : Option Addr} {c y q : Nat} {a0 : Act} {w0 : World} (S : cl11S F lw A c y q a0 w0)
include S
set_option maxRecDepth 100000 in
set_option maxHeartbeats 8000000 in
theorem cl11_ok : AllOps (fun j o => ∀ (a : Act) (w : World), Below w0.heap.size w0 w → FrD cl11D a0 a → needs cl11D (cl11F F lw A c y q) a w o.after.toList → StepD Try.prog cl11D (factAt (cl11F F lw A c y q) j) o a w) 0 (opsOf 11 Try.f8) := by
  simp only [opsOf, Try.f8, opsAt, Option.bind, Option.or, Option.getD, reduceCtorEq, if_true, if_false, Nat.reduceEqDiff]
  refine ⟨?_, ?_⟩
  · intro _a _w _hB hF _hd
    exact step_move (guard_none rfl) rfl _ rfl ((hF.other 7 rfl).trans S.v7)
  refine ⟨?_, ?_⟩
  · intro _a _w _hB hF _hd
    exact step_move (guard_none rfl) rfl _ rfl ((hF.other 6 rfl).trans S.v6)
  refine ⟨?_, ?_⟩
  · intro a _w _hB _hF hd
    have h35 : a.tmps.getD 35 undef = .string F := hd.1 rfl
    exact rf_lenT (guard_none rfl) rfl _ rfl F h35 rfl
  refine ⟨?_, ?_⟩
  · intro a _w _hB _hF hd
    have h36 : a.tmps.getD 36 undef = .int .i64 F.size := hd.1 rfl
    exact rf_sub (guard_none rfl) rfl _ _ rfl _ _ h36 rfl (by have := S.lt; omega) (by have := S.lt; omega) rfl
  refine ⟨?_, ?_⟩
  · intro a _w _hB _hF hd
    have h34 : a.tmps.getD 34 undef = .int .i64 q := hd.1 rfl
    have h37 : a.tmps.getD 37 undef = .int .i64 (F.size - 1) := hd.2.1 rfl
    exact rf_lss (guard_none rfl) rfl _ _ rfl _ _ h34 h37 false (by have := S.lt; simp; omega) rfl
  refine ⟨?_, ?_⟩
  · intro a _w _hB _hF hd
    have h38 : a.tmps.getD 38 undef = .bool false := hd.1 rfl
    exact step_move (guard_none rfl) rfl _ rfl h38
  refine ⟨?_, ?_⟩
  · intro a _w _hB _hF hd
    have h39 : a.tmps.getD 39 undef = .bool false := hd.1 rfl
    exact rf_shut true rfl rfl h39 rfl
  refine ⟨?_, ?_⟩
  · intro a _w _hB _hF hd
    have h39 : a.tmps.getD 39 undef = .bool false := hd.2.1 rfl
    exact rf_shut true rfl rfl h39 rfl
  refine ⟨?_, ?_⟩
  · intro a _w _hB _hF hd
    have h39 : a.tmps.getD 39 undef = .bool false := hd.2.1 rfl
    exact rf_shut true rfl rfl h39 rfl
  refine ⟨?_, ?_⟩
  · intro a _w _hB _hF hd
    have h39 : a.tmps.getD 39 undef = .bool false := hd.2.1 rfl
    exact rf_shut true rfl rfl h39 rfl
  refine ⟨?_, ?_⟩
  · intro a _w _hB _hF hd
    have h43 : a.tmps.getD 43 undef = undef := hd.1 rfl
    exact rf_shutu false rfl rfl h43 rfl
  refine ⟨?_, ?_⟩
  · intro a _w _hB _hF hd
    have h43 : a.tmps.getD 43 undef = undef := hd.2.1 rfl
    exact rf_shutu false rfl rfl h43 rfl
  refine ⟨?_, ?_⟩
  · intro a _w _hB _hF hd
    have h43 : a.tmps.getD 43 undef = undef := hd.1 rfl
    exact rf_shutu false rfl rfl h43 rfl
  refine ⟨?_, ?_⟩
  · intro a _w _hB _hF hd
    have h43 : a.tmps.getD 43 undef = undef := hd.1 rfl
    exact rf_shutu false rfl rfl h43 rfl
  refine ⟨?_, ?_⟩
  · intro a _w _hB _hF hd
    have h43 : a.tmps.getD 43 undef = undef := hd.2.1 rfl
    exact rf_shutu false rfl rfl h43 rfl
  refine ⟨?_, ?_⟩
  · intro a _w _hB _hF hd
    have h43 : a.tmps.getD 43 undef = undef := hd.2.2.1 rfl
    exact rf_shutu false rfl rfl h43 rfl
  refine ⟨?_, ?_⟩
  · intro a _w _hB _hF hd
    have h43 : a.tmps.getD 43 undef = undef := hd.2.2.1 rfl
    exact rf_shutu false rfl rfl h43 rfl
  refine ⟨?_, ?_⟩
  · intro a _w _hB _hF hd
    have h39 : a.tmps.getD 39 undef = .bool false := hd.2.2.1 rfl
    exact rf_shut true rfl rfl h39 rfl
  refine ⟨?_, ?_⟩
  · intro a _w _hB _hF hd
    have h39 : a.tmps.getD 39 undef = .bool false := hd.2.2.1 rfl
    exact rf_shut true rfl rfl h39 rfl
  refine ⟨?_, ?_⟩
  · intro a _w _hB _hF hd
    have h52 : a.tmps.getD 52 undef = undef := hd.1 rfl
    exact rf_shutu false rfl rfl h52 rfl
  refine ⟨?_, ?_⟩
  · intro a _w _hB _hF hd
    have h52 : a.tmps.getD 52 undef = undef := hd.2.1 rfl
    exact rf_shutu false rfl rfl h52 rfl
  refine ⟨?_, ?_⟩
  · intro a _w _hB _hF hd
    have h52 : a.tmps.getD 52 undef = undef := hd.2.1 rfl
    exact rf_shutu false rfl rfl h52 rfl
  refine ⟨?_, ?_⟩
  · intro a _w _hB _hF hd
    have h39 : a.tmps.getD 39 undef = .bool false := hd.2.2.1 rfl
    exact rf_shut true rfl rfl h39 rfl
  refine ⟨?_, ?_⟩
  · intro a _w _hB _hF hd
    have h39 : a.tmps.getD 39 undef = .bool false := hd.1 rfl
    exact rf_pick (guard_none rfl) rfl _ _ _ rfl false h39 rfl
  trivial
theorem cl11_any {Q : Exit → Act → World → Prop} {l : List Oper} (hl : opsOf 11 Try.f8 = l) (hend : ∀ w : World, Below w0.heap.size w0 w → Q .normal (putAll a0 [(34, .int .i64 q), (35, .string F), (36, .int .i64 F.size), (37, .int .i64 (F.size - 1)), (38, .bool false), (39, .bool false), (40, undef), (41, undef), (42, undef), (43, undef), (44, undef), (45, undef), (46, undef), (47, undef), (48, undef), (49, undef), (50, undef), (51, undef), (52, undef), (53, undef), (54, undef), (55, undef), (56, undef), (57, .bool false)]) w) :
    (Code.region 11 l.toArray true).wp Try.prog Q a0 w0 := by
  subst hl
  refine region_facts2 (cl11F F lw A c y q) cl11D 151 S.size rfl (by kernel_rfl) (by kernel_rfl) (cl11F_mono _ _ _ _ _ _) (cl11_ok S) fun a w hB hF h => ?_
  have hv : valsAre a [(34, .int .i64 q), (35, .string F), (36, .int .i64 F.size), (37, .int .i64 (F.size - 1)), (38, .bool false), (39, .bool false), (40, undef), (41, undef), (42, undef), (43, undef), (44, undef), (45, undef), (46, undef), (47, undef), (48, undef), (49, undef), (50, undef), (51, undef), (52, undef), (53, undef), (54, undef), (55, undef), (56, undef), (57, .bool false)] := by
    refine ⟨?_, ?_, ?_, ?_, ?_, ?_, ?_, ?_, ?_, ?_, ?_, ?_, ?_, ?_, ?_, ?_, ?_, ?_, ?_, ?_, ?_, ?_, ?_, ?_, trivial⟩
    · exact h 0 (some 34) rfl
    · exact h 1 (some 35) rfl
    · exact h 2 (some 36) rfl
    · exact h 3 (some 37) rfl
    · exact h 4 (some 38) rfl
    · exact h 5 (some 39) rfl
    · exact h 6 (some 40) rfl
    · exact h 7 (some 41) rfl
    · exact h 8 (some 42) rfl
    · exact h 9 (some 43) rfl
    · exact h 10 (some 44) rfl
    · exact h 11 (some 45) rfl
    · exact h 12 (some 46) rfl
    · exact h 13 (some 47) rfl
    · exact h 14 (some 48) rfl
    · exact h 15 (some 49) rfl
    · exact h 16 (some 50) rfl
    · exact h 17 (some 51) rfl
    · exact h 18 (some 52) rfl
    · exact h 19 (some 53) rfl
    · exact h 20 (some 54) rfl
    · exact h 21 (some 55) rfl
    · exact h 22 (some 56) rfl
    · exact h 23 (some 57) rfl
  rw [frame_is hF _ hv (by rfl) (by rfl)]
  exact hend w hB
end

end Go.Proofs.Ytoechlmahckchaa
