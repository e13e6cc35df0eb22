import Derived.Test.YtbpaepkcchpmbaaGreatG2
import Derived.Test.YtbpaepkcchpmbaaGreatG51
import Derived.Test.YtbpaepkcchpmbaaGreatG32
namespace Go.Proofs.YtbpaepkcchpmbaaGreat
open Go.RowKit
set_option maxRecDepth 100000 in
set_option maxHeartbeats 1000000 in
theorem sameOut_yes (v : Int) (o : Bool) (hs : List Int) (A B : Option Addr) (n c d : Nat) (w : World) (ha : Ints w A n hs) (hb : Ints w B n hs) (hn : n ≤ maxLen) :
    Calls Tryz.prog 35 #[.agg #[.int .i64 v, .bool o, .slice A n c], .agg #[.int .i64 v, .bool o, .slice B n d]] w fun e w' => e = .returned (.bool true) ∧ Below w.heap.size w w' := by
  have hbox : ∀ o o', Below w.heap.size w ((w.alloc o).alloc o') := fun o o' => below_alloc ((Below.refl _ _).alloc (Nat.le_refl _) o) (Nat.le_refl _) o'
  have HBOX := Lib.hid hbox; clear hbox
  cases o
  all_goals
    go_enter Tryz.func35, Tryz.ntmps35
    go_wp2_with fail
    refine (sameInts_true A B n c d hs _ (ha.below (HBOX.out _ _)) (hb.below (HBOX.out _ _)) hn).mono ?_
    rintro e w2 ⟨rfl, k, rfl⟩
    go_wp2
    go_ret
    exact ⟨rfl, below_drewN (HBOX.out _ _) _⟩
def Rz.at_ (z : Rz) (B : Option Addr) (d : Nat) : Rz := { z with A := B, c := d }
structure RzC (cur : Array Value) (o : Nat) (z : Rz) : Prop where
  cells : ∀ j, j < 7 → cur[o + j]? = (rzL z)[j]?
section
variable {cur : Array Value} {o b : Nat} {z : Rz} {w : World} {t : TypeId}
theorem RzC.c0 (h : RzC cur o z) : cur[o]? = some (.int .i64 z.k) := h.cells 0 (by omega)
theorem RzC.c1 (h : RzC cur o z) : cur[o + 1]? = some (.int .i64 z.s) := h.cells 1 (by omega)
theorem RzC.span (h : RzC cur o z) (hw : Has w b t cur) : w.rangeAt b (o + 2) [.int .i64 z.a, .int .i64 z.b] :=
  rf_two ((hw.cell _).trans (h.cells 2 (by omega))) ((hw.cell _).trans (h.cells 3 (by omega)))
theorem RzC.out (h : RzC cur o z) (hw : Has w b t cur) : w.rangeAt b (o + 4) [.int .i64 z.v, .bool z.o, .slice z.A z.hs.length z.c] := fun j v hj => by
  match j, hj with
  | 0, hj => rw [hw.cell]; exact (h.cells 4 (by omega)).trans hj
  | 1, hj => rw [hw.cell]; exact (h.cells 5 (by omega)).trans hj
  | 2, hj => rw [hw.cell]; exact (h.cells 6 (by omega)).trans hj
  | j + 3, hj => simp at hj
end
section
variable {D : List (Option Tmp)} {Φ : Fact} {o : Oper} {a : Act} {w : World}
theorem rf_neqSp (hw : Region.wanted o (yieldD D a.tmps) = true) {t : Tmp} (hd : o.dst = some t) (x y : Operand) (ho : o.op = .binOp .neq 67 x y 67) (p q : Int) (hx : a.eval x = .agg #[.int .i64 p, .int .i64 q]) (hy : a.eval y = .agg #[.int .i64 p, .int .i64 q]) (h : Φ (.bool false) w) : StepD Tryz.prog D Φ o a w :=
  step_val hw hd _ w (by unfold execOp; rw [ho]; generalize a.eval = ev at hx hy ⊢; simp [hx, hy, go_sem]) (Below.refl _ _) h
end
def srzD : List (Option Tmp) := [some 17, some 18, some 19, some 20, some 21, some 22, some 23, some 24, some 25, some 26, some 27, some 28, some 29, some 30, some 31, some 32, some 33, some 34, some 35, some 36, some 37, some 38, some 39, some 40, some 41, some 42, some 43, some 44, some 45, some 46, some 47, some 48, some 49, some 50, some 51, some 52, some 53, some 54, some 55, some 56, some 57, some 58, some 59, some 60, some 61, some 62, some 63, some 64, some 65, some 66, some 67]
def srzF (z : Rz) (B : Option Addr) (d b1 b2 jj m k1 k2 : Nat) (_cu1 _cu2 : Array Value) : List Fact := [isV (.slice (some ⟨b1, 0, none⟩) m k1), isV (.int .i64 ((jj : Int))), isV (.pointer (some ⟨b1, 0 + jj * 7, none⟩)), isV (.pointer (some ⟨b1, 0 + jj * 7, none⟩)), isV (.int .i64 z.k), isV (.slice (some ⟨b2, 0, none⟩) m k2), isV (.int .i64 ((jj : Int))), isV (.pointer (some ⟨b2, 0 + jj * 7, none⟩)), isV (.pointer (some ⟨b2, 0 + jj * 7, none⟩)), isV (.int .i64 z.k), isV (.bool false), isV (.bool false), isV (.slice (some ⟨b1, 0, none⟩) m k1), isV (.int .i64 ((jj : Int))), isV (.pointer (some ⟨b1, 0 + jj * 7, none⟩)), isV (.pointer (some ⟨b1, 0 + jj * 7 + 1, none⟩)), isV (.int .i64 z.s), isV (.slice (some ⟨b2, 0, none⟩) m k2), isV (.int .i64 ((jj : Int))), isV (.pointer (some ⟨b2, 0 + jj * 7, none⟩)), isV (.pointer (some ⟨b2, 0 + jj * 7 + 1, none⟩)), isV (.int .i64 z.s), isV (.bool false), isV (.bool false), isV (.bool false), isV (.slice (some ⟨b1, 0, none⟩) m k1), isV (.int .i64 ((jj : Int))), isV (.pointer (some ⟨b1, 0 + jj * 7, none⟩)), isV (.pointer (some ⟨b1, 0 + jj * 7 + 2, none⟩)), isV (.agg #[.int .i64 z.a, .int .i64 z.b]), isV (.slice (some ⟨b2, 0, none⟩) m k2), isV (.int .i64 ((jj : Int))), isV (.pointer (some ⟨b2, 0 + jj * 7, none⟩)), isV (.pointer (some ⟨b2, 0 + jj * 7 + 2, none⟩)), isV (.agg #[.int .i64 z.a, .int .i64 z.b]), isV (.bool false), isV (.bool false), isV (.bool false), isV (.slice (some ⟨b1, 0, none⟩) m k1), isV (.int .i64 ((jj : Int))), isV (.pointer (some ⟨b1, 0 + jj * 7, none⟩)), isV (.pointer (some ⟨b1, 0 + jj * 7 + 4, none⟩)), isV (.agg #[.int .i64 z.v, .bool z.o, .slice z.A z.hs.length z.c]), isV (.slice (some ⟨b2, 0, none⟩) m k2), isV (.int .i64 ((jj : Int))), isV (.pointer (some ⟨b2, 0 + jj * 7, none⟩)), isV (.pointer (some ⟨b2, 0 + jj * 7 + 4, none⟩)), isV (.agg #[.int .i64 z.v, .bool z.o, .slice B z.hs.length d]), isV (.bool true), isV (.bool false), isV (.bool false)]
theorem srzF_mono (z : Rz) (B : Option Addr) (d b1 b2 jj m k1 k2 : Nat) (cu1 cu2 : Array Value) : ∀ φ ∈ srzF z B d b1 b2 jj m k1 k2 cu1 cu2, Mono φ := by
  unfold srzF
  refine monos_cons (mono_isV _) ?_
  refine monos_cons (mono_isV _) ?_
  refine monos_cons (mono_isV _) ?_
  refine monos_cons (mono_isV _) ?_
  refine monos_cons (mono_isV _) ?_
  refine monos_cons (mono_isV _) ?_
  refine monos_cons (mono_isV _) ?_
  refine monos_cons (mono_isV _) ?_
  refine monos_cons (mono_isV _) ?_
  refine monos_cons (mono_isV _) ?_
  refine monos_cons (mono_isV _) ?_
  refine monos_cons (mono_isV _) ?_
  refine monos_cons (mono_isV _) ?_
  refine monos_cons (mono_isV _) ?_
  refine monos_cons (mono_isV _) ?_
  refine monos_cons (mono_isV _) ?_
  refine monos_cons (mono_isV _) ?_
  refine monos_cons (mono_isV _) ?_
  refine monos_cons (mono_isV _) ?_
  refine monos_cons (mono_isV _) ?_
  refine monos_cons (mono_isV _) ?_
  refine monos_cons (mono_isV _) ?_
  refine monos_cons (mono_isV _) ?_
  refine monos_cons (mono_isV _) ?_
  refine monos_cons (mono_isV _) ?_
  refine monos_cons (mono_isV _) ?_
  refine monos_cons (mono_isV _) ?_
  refine monos_cons (mono_isV _) ?_
  refine monos_cons (mono_isV _) ?_
  refine monos_cons (mono_isV _) ?_
  refine monos_cons (mono_isV _) ?_
  refine monos_cons (mono_isV _) ?_
  refine monos_cons (mono_isV _) ?_
  refine monos_cons (mono_isV _) ?_
  refine monos_cons (mono_isV _) ?_
  refine monos_cons (mono_isV _) ?_
  refine monos_cons (mono_isV _) ?_
  refine monos_cons (mono_isV _) ?_
  refine monos_cons (mono_isV _) ?_
  refine monos_cons (mono_isV _) ?_
  refine monos_cons (mono_isV _) ?_
  refine monos_cons (mono_isV _) ?_
  refine monos_cons (mono_isV _) ?_
  refine monos_cons (mono_isV _) ?_
  refine monos_cons (mono_isV _) ?_
  refine monos_cons (mono_isV _) ?_
  refine monos_cons (mono_isV _) ?_
  refine monos_cons (mono_isV _) ?_
  refine monos_cons (mono_isV _) ?_
  refine monos_cons (mono_isV _) ?_
  refine monos_cons (mono_isV _) ?_
  exact monos_nil
structure srzS (z : Rz) (B : Option Addr) (d b1 b2 jj m k1 k2 : Nat) (cu1 cu2 : Array Value) (a0 : Act) (w0 : World) : Prop where
  size : a0.tmps.size = 68
  v0 : a0.tmps.getD 0 undef = .slice (some ⟨b1, 0, none⟩) m k1
  v1 : a0.tmps.getD 1 undef = .slice (some ⟨b2, 0, none⟩) m k2
  v5 : a0.tmps.getD 5 undef = .int .i64 ((jj : Int))
  w1 : Has w0 b1 71 cu1
  w2 : Has w0 b2 71 cu2
  c1 : RzC cu1 (0 + jj * 7) z
  c2 : RzC cu2 (0 + jj * 7) (z.at_ B d)
  i1 : Ints w0 z.A z.hs.length z.hs
  i2 : Ints w0 B z.hs.length z.hs
  hn : z.hs.length ≤ maxLen
  hj : jj < m
section
variable {z : Rz} {B : Option Addr} {d b1 b2 jj m k1 k2 : Nat} {cu1 cu2 : Array Value} {a0 : Act} {w0 : World} (S : srzS z B d b1 b2 jj m k1 k2 cu1 cu2 a0 w0)
include S
set_option maxRecDepth 100000 in
set_option maxHeartbeats 8000000 in
theorem srz_ok : AllOps (fun j o => ∀ (a : Act) (w : World), Below w0.heap.size w0 w → FrD srzD a0 a → needs srzD (srzF z B d b1 b2 jj m k1 k2 cu1 cu2) a w o.after.toList → StepD Tryz.prog srzD (factAt (srzF z B d b1 b2 jj m k1 k2 cu1 cu2) j) o a w) 0 (opsOf 6 Tryz.f29) := by
  simp only [opsOf, Tryz.f29, opsAt, Option.bind, Option.or, Option.getD, reduceCtorEq, if_true, if_false, Nat.reduceEqDiff]
  refine ⟨?_, ?_⟩
  · intro _a _w _hB hF _hd
    exact step_move (guard_none rfl) rfl _ rfl ((hF.other 0 rfl).trans S.v0)
  refine ⟨?_, ?_⟩
  · intro _a _w _hB hF _hd
    exact step_move (guard_none rfl) rfl _ rfl ((hF.other 5 rfl).trans S.v5)
  refine ⟨?_, ?_⟩
  · intro a _w _hB _hF hd
    have h17 : a.tmps.getD 17 undef = .slice (some ⟨b1, 0, none⟩) m k1 := hd.1 rfl
    have h18 : a.tmps.getD 18 undef = .int .i64 ((jj : Int)) := hd.2.1 rfl
    exact rf_index (s := 7) (guard_none rfl) rfl 46 _ _ rfl Tryz.underlying46 (fun _ => by kernel_rfl) b1 0 m _ jj _ h17 h18 rfl S.hj rfl
  refine ⟨?_, ?_⟩
  · intro a _w _hB _hF hd
    have h19 : a.tmps.getD 19 undef = .pointer (some ⟨b1, 0 + jj * 7, none⟩) := hd.1 rfl
    exact rf_faddr (guard_none rfl) rfl _ _ _ rfl _ _ 0 _ h19 (by omega) (fun _ _ => by kernel_rfl) rfl
  refine ⟨?_, ?_⟩
  · intro a _w hB _hF hd
    have h20 : a.tmps.getD 20 undef = .pointer (some ⟨b1, 0 + jj * 7, none⟩) := hd.1 rfl
    exact rf_loadi (guard_none rfl) rfl _ rfl _ _ h20 _ ((Has.cell (S.w1.below hB S.w1.lt) _).trans S.c1.c0) rfl
  refine ⟨?_, ?_⟩
  · intro _a _w _hB hF _hd
    exact step_move (guard_none rfl) rfl _ rfl ((hF.other 1 rfl).trans S.v1)
  refine ⟨?_, ?_⟩
  · intro _a _w _hB hF _hd
    exact step_move (guard_none rfl) rfl _ rfl ((hF.other 5 rfl).trans S.v5)
  refine ⟨?_, ?_⟩
  · intro a _w _hB _hF hd
    have h22 : a.tmps.getD 22 undef = .slice (some ⟨b2, 0, none⟩) m k2 := hd.1 rfl
    have h23 : a.tmps.getD 23 undef = .int .i64 ((jj : Int)) := hd.2.1 rfl
    exact rf_index (s := 7) (guard_none rfl) rfl 46 _ _ rfl Tryz.underlying46 (fun _ => by kernel_rfl) b2 0 m _ jj _ h22 h23 rfl S.hj rfl
  refine ⟨?_, ?_⟩
  · intro a _w _hB _hF hd
    have h24 : a.tmps.getD 24 undef = .pointer (some ⟨b2, 0 + jj * 7, none⟩) := hd.1 rfl
    exact rf_faddr (guard_none rfl) rfl _ _ _ rfl _ _ 0 _ h24 (by omega) (fun _ _ => by kernel_rfl) rfl
  refine ⟨?_, ?_⟩
  · intro a _w hB _hF hd
    have h25 : a.tmps.getD 25 undef = .pointer (some ⟨b2, 0 + jj * 7, none⟩) := hd.1 rfl
    exact rf_loadi (guard_none rfl) rfl _ rfl _ _ h25 _ ((Has.cell (S.w2.below hB S.w2.lt) _).trans S.c2.c0) rfl
  refine ⟨?_, ?_⟩
  · intro a _w _hB _hF hd
    have h21 : a.tmps.getD 21 undef = .int .i64 z.k := hd.1 rfl
    have h26 : a.tmps.getD 26 undef = .int .i64 z.k := hd.2.1 rfl
    exact rf_neq (guard_none rfl) rfl _ _ rfl _ _ h21 h26 false (by simp) rfl
  refine ⟨?_, ?_⟩
  · intro a _w _hB _hF hd
    have h27 : a.tmps.getD 27 undef = .bool false := hd.1 rfl
    exact step_move (guard_none rfl) rfl _ rfl h27
  refine ⟨?_, ?_⟩
  · intro a _w _hB hF hd
    have h28 : a.tmps.getD 28 undef = .bool false := hd.1 rfl
    exact step_move (rf_open false rfl rfl h28) rfl _ rfl ((hF.other 0 rfl).trans S.v0)
  refine ⟨?_, ?_⟩
  · intro a _w _hB hF hd
    have h28 : a.tmps.getD 28 undef = .bool false := hd.1 rfl
    exact step_move (rf_open false rfl rfl h28) rfl _ rfl ((hF.other 5 rfl).trans S.v5)
  refine ⟨?_, ?_⟩
  · intro a _w _hB _hF hd
    have h28 : a.tmps.getD 28 undef = .bool false := hd.2.2.1 rfl
    have h29 : a.tmps.getD 29 undef = .slice (some ⟨b1, 0, none⟩) m k1 := hd.1 rfl
    have h30 : a.tmps.getD 30 undef = .int .i64 ((jj : Int)) := hd.2.1 rfl
    exact rf_index (s := 7) (rf_open false rfl rfl h28) rfl 46 _ _ rfl Tryz.underlying46 (fun _ => by kernel_rfl) b1 0 m _ jj _ h29 h30 rfl S.hj rfl
  refine ⟨?_, ?_⟩
  · intro a _w _hB _hF hd
    have h28 : a.tmps.getD 28 undef = .bool false := hd.2.1 rfl
    have h31 : a.tmps.getD 31 undef = .pointer (some ⟨b1, 0 + jj * 7, none⟩) := hd.1 rfl
    exact rf_faddr (rf_open false rfl rfl h28) rfl _ _ _ rfl _ _ 1 _ h31 (by omega) (fun _ _ => by kernel_rfl) rfl
  refine ⟨?_, ?_⟩
  · intro a _w hB _hF hd
    have h28 : a.tmps.getD 28 undef = .bool false := hd.2.1 rfl
    have h32 : a.tmps.getD 32 undef = .pointer (some ⟨b1, 0 + jj * 7 + 1, none⟩) := hd.1 rfl
    exact rf_loadi (rf_open false rfl rfl h28) rfl _ rfl _ _ h32 _ ((Has.cell (S.w1.below hB S.w1.lt) _).trans S.c1.c1) rfl
  refine ⟨?_, ?_⟩
  · intro a _w _hB hF hd
    have h28 : a.tmps.getD 28 undef = .bool false := hd.1 rfl
    exact step_move (rf_open false rfl rfl h28) rfl _ rfl ((hF.other 1 rfl).trans S.v1)
  refine ⟨?_, ?_⟩
  · intro a _w _hB hF hd
    have h28 : a.tmps.getD 28 undef = .bool false := hd.1 rfl
    exact step_move (rf_open false rfl rfl h28) rfl _ rfl ((hF.other 5 rfl).trans S.v5)
  refine ⟨?_, ?_⟩
  · intro a _w _hB _hF hd
    have h28 : a.tmps.getD 28 undef = .bool false := hd.2.2.1 rfl
    have h34 : a.tmps.getD 34 undef = .slice (some ⟨b2, 0, none⟩) m k2 := hd.1 rfl
    have h35 : a.tmps.getD 35 undef = .int .i64 ((jj : Int)) := hd.2.1 rfl
    exact rf_index (s := 7) (rf_open false rfl rfl h28) rfl 46 _ _ rfl Tryz.underlying46 (fun _ => by kernel_rfl) b2 0 m _ jj _ h34 h35 rfl S.hj rfl
  refine ⟨?_, ?_⟩
  · intro a _w _hB _hF hd
    have h28 : a.tmps.getD 28 undef = .bool false := hd.2.1 rfl
    have h36 : a.tmps.getD 36 undef = .pointer (some ⟨b2, 0 + jj * 7, none⟩) := hd.1 rfl
    exact rf_faddr (rf_open false rfl rfl h28) rfl _ _ _ rfl _ _ 1 _ h36 (by omega) (fun _ _ => by kernel_rfl) rfl
  refine ⟨?_, ?_⟩
  · intro a _w hB _hF hd
    have h28 : a.tmps.getD 28 undef = .bool false := hd.2.1 rfl
    have h37 : a.tmps.getD 37 undef = .pointer (some ⟨b2, 0 + jj * 7 + 1, none⟩) := hd.1 rfl
    exact rf_loadi (rf_open false rfl rfl h28) rfl _ rfl _ _ h37 _ ((Has.cell (S.w2.below hB S.w2.lt) _).trans S.c2.c1) rfl
  refine ⟨?_, ?_⟩
  · intro a _w _hB _hF hd
    have h28 : a.tmps.getD 28 undef = .bool false := hd.2.2.1 rfl
    have h33 : a.tmps.getD 33 undef = .int .i64 z.s := hd.1 rfl
    have h38 : a.tmps.getD 38 undef = .int .i64 z.s := hd.2.1 rfl
    exact rf_neq (rf_open false rfl rfl h28) rfl _ _ rfl _ _ h33 h38 false (by simp) rfl
  refine ⟨?_, ?_⟩
  · intro a _w _hB _hF hd
    have h28 : a.tmps.getD 28 undef = .bool false := hd.1 rfl
    have h39 : a.tmps.getD 39 undef = .bool false := hd.2.1 rfl
    exact rf_pick (guard_none rfl) rfl _ _ _ rfl false h28 h39
  refine ⟨?_, ?_⟩
  · intro a _w _hB _hF hd
    have h40 : a.tmps.getD 40 undef = .bool false := hd.1 rfl
    exact step_move (guard_none rfl) rfl _ rfl h40
  refine ⟨?_, ?_⟩
  · intro a _w _hB hF hd
    have h41 : a.tmps.getD 41 undef = .bool false := hd.1 rfl
    exact step_move (rf_open false rfl rfl h41) rfl _ rfl ((hF.other 0 rfl).trans S.v0)
  refine ⟨?_, ?_⟩
  · intro a _w _hB hF hd
    have h41 : a.tmps.getD 41 undef = .bool false := hd.1 rfl
    exact step_move (rf_open false rfl rfl h41) rfl _ rfl ((hF.other 5 rfl).trans S.v5)
  refine ⟨?_, ?_⟩
  · intro a _w _hB _hF hd
    have h41 : a.tmps.getD 41 undef = .bool false := hd.2.2.1 rfl
    have h42 : a.tmps.getD 42 undef = .slice (some ⟨b1, 0, none⟩) m k1 := hd.1 rfl
    have h43 : a.tmps.getD 43 undef = .int .i64 ((jj : Int)) := hd.2.1 rfl
    exact rf_index (s := 7) (rf_open false rfl rfl h41) rfl 46 _ _ rfl Tryz.underlying46 (fun _ => by kernel_rfl) b1 0 m _ jj _ h42 h43 rfl S.hj rfl
  refine ⟨?_, ?_⟩
  · intro a _w _hB _hF hd
    have h41 : a.tmps.getD 41 undef = .bool false := hd.2.1 rfl
    have h44 : a.tmps.getD 44 undef = .pointer (some ⟨b1, 0 + jj * 7, none⟩) := hd.1 rfl
    exact rf_faddr (rf_open false rfl rfl h41) rfl _ _ _ rfl _ _ 2 _ h44 (by omega) (fun _ _ => by kernel_rfl) rfl
  refine ⟨?_, ?_⟩
  · intro a _w hB _hF hd
    have h41 : a.tmps.getD 41 undef = .bool false := hd.2.1 rfl
    have h45 : a.tmps.getD 45 undef = .pointer (some ⟨b1, 0 + jj * 7 + 2, none⟩) := hd.1 rfl
    exact rf_loadS (rf_open false rfl rfl h41) rfl _ _ rfl _ _ h45 _ (RzC.span S.c1 (S.w1.below hB S.w1.lt)) Tryz.underlying67 rfl (by kernel_rfl) rfl
  refine ⟨?_, ?_⟩
  · intro a _w _hB hF hd
    have h41 : a.tmps.getD 41 undef = .bool false := hd.1 rfl
    exact step_move (rf_open false rfl rfl h41) rfl _ rfl ((hF.other 1 rfl).trans S.v1)
  refine ⟨?_, ?_⟩
  · intro a _w _hB hF hd
    have h41 : a.tmps.getD 41 undef = .bool false := hd.1 rfl
    exact step_move (rf_open false rfl rfl h41) rfl _ rfl ((hF.other 5 rfl).trans S.v5)
  refine ⟨?_, ?_⟩
  · intro a _w _hB _hF hd
    have h41 : a.tmps.getD 41 undef = .bool false := hd.2.2.1 rfl
    have h47 : a.tmps.getD 47 undef = .slice (some ⟨b2, 0, none⟩) m k2 := hd.1 rfl
    have h48 : a.tmps.getD 48 undef = .int .i64 ((jj : Int)) := hd.2.1 rfl
    exact rf_index (s := 7) (rf_open false rfl rfl h41) rfl 46 _ _ rfl Tryz.underlying46 (fun _ => by kernel_rfl) b2 0 m _ jj _ h47 h48 rfl S.hj rfl
  refine ⟨?_, ?_⟩
  · intro a _w _hB _hF hd
    have h41 : a.tmps.getD 41 undef = .bool false := hd.2.1 rfl
    have h49 : a.tmps.getD 49 undef = .pointer (some ⟨b2, 0 + jj * 7, none⟩) := hd.1 rfl
    exact rf_faddr (rf_open false rfl rfl h41) rfl _ _ _ rfl _ _ 2 _ h49 (by omega) (fun _ _ => by kernel_rfl) rfl
  refine ⟨?_, ?_⟩
  · intro a _w hB _hF hd
    have h41 : a.tmps.getD 41 undef = .bool false := hd.2.1 rfl
    have h50 : a.tmps.getD 50 undef = .pointer (some ⟨b2, 0 + jj * 7 + 2, none⟩) := hd.1 rfl
    exact rf_loadS (rf_open false rfl rfl h41) rfl _ _ rfl _ _ h50 _ (RzC.span S.c2 (S.w2.below hB S.w2.lt)) Tryz.underlying67 rfl (by kernel_rfl) rfl
  refine ⟨?_, ?_⟩
  · intro a _w _hB _hF hd
    have h41 : a.tmps.getD 41 undef = .bool false := hd.2.2.1 rfl
    have h46 : a.tmps.getD 46 undef = .agg #[.int .i64 z.a, .int .i64 z.b] := hd.1 rfl
    have h51 : a.tmps.getD 51 undef = .agg #[.int .i64 z.a, .int .i64 z.b] := hd.2.1 rfl
    exact rf_neqSp (rf_open false rfl rfl h41) rfl _ _ rfl _ _ h46 h51 rfl
  refine ⟨?_, ?_⟩
  · intro a _w _hB _hF hd
    have h41 : a.tmps.getD 41 undef = .bool false := hd.1 rfl
    have h52 : a.tmps.getD 52 undef = .bool false := hd.2.1 rfl
    exact rf_pick (guard_none rfl) rfl _ _ _ rfl false h41 h52
  refine ⟨?_, ?_⟩
  · intro a _w _hB _hF hd
    have h53 : a.tmps.getD 53 undef = .bool false := hd.1 rfl
    exact step_move (guard_none rfl) rfl _ rfl h53
  refine ⟨?_, ?_⟩
  · intro a _w _hB hF hd
    have h54 : a.tmps.getD 54 undef = .bool false := hd.1 rfl
    exact step_move (rf_open false rfl rfl h54) rfl _ rfl ((hF.other 0 rfl).trans S.v0)
  refine ⟨?_, ?_⟩
  · intro a _w _hB hF hd
    have h54 : a.tmps.getD 54 undef = .bool false := hd.1 rfl
    exact step_move (rf_open false rfl rfl h54) rfl _ rfl ((hF.other 5 rfl).trans S.v5)
  refine ⟨?_, ?_⟩
  · intro a _w _hB _hF hd
    have h54 : a.tmps.getD 54 undef = .bool false := hd.2.2.1 rfl
    have h55 : a.tmps.getD 55 undef = .slice (some ⟨b1, 0, none⟩) m k1 := hd.1 rfl
    have h56 : a.tmps.getD 56 undef = .int .i64 ((jj : Int)) := hd.2.1 rfl
    exact rf_index (s := 7) (rf_open false rfl rfl h54) rfl 46 _ _ rfl Tryz.underlying46 (fun _ => by kernel_rfl) b1 0 m _ jj _ h55 h56 rfl S.hj rfl
  refine ⟨?_, ?_⟩
  · intro a _w _hB _hF hd
    have h54 : a.tmps.getD 54 undef = .bool false := hd.2.1 rfl
    have h57 : a.tmps.getD 57 undef = .pointer (some ⟨b1, 0 + jj * 7, none⟩) := hd.1 rfl
    exact rf_faddr (rf_open false rfl rfl h54) rfl _ _ _ rfl _ _ 4 _ h57 (by omega) (fun _ _ => by kernel_rfl) rfl
  refine ⟨?_, ?_⟩
  · intro a _w hB _hF hd
    have h54 : a.tmps.getD 54 undef = .bool false := hd.2.1 rfl
    have h58 : a.tmps.getD 58 undef = .pointer (some ⟨b1, 0 + jj * 7 + 4, none⟩) := hd.1 rfl
    exact rf_loadS (rf_open false rfl rfl h54) rfl _ _ rfl _ _ h58 _ (RzC.out S.c1 (S.w1.below hB S.w1.lt)) Tryz.underlying69 rfl (by kernel_rfl) rfl
  refine ⟨?_, ?_⟩
  · intro a _w _hB hF hd
    have h54 : a.tmps.getD 54 undef = .bool false := hd.1 rfl
    exact step_move (rf_open false rfl rfl h54) rfl _ rfl ((hF.other 1 rfl).trans S.v1)
  refine ⟨?_, ?_⟩
  · intro a _w _hB hF hd
    have h54 : a.tmps.getD 54 undef = .bool false := hd.1 rfl
    exact step_move (rf_open false rfl rfl h54) rfl _ rfl ((hF.other 5 rfl).trans S.v5)
  refine ⟨?_, ?_⟩
  · intro a _w _hB _hF hd
    have h54 : a.tmps.getD 54 undef = .bool false := hd.2.2.1 rfl
    have h60 : a.tmps.getD 60 undef = .slice (some ⟨b2, 0, none⟩) m k2 := hd.1 rfl
    have h61 : a.tmps.getD 61 undef = .int .i64 ((jj : Int)) := hd.2.1 rfl
    exact rf_index (s := 7) (rf_open false rfl rfl h54) rfl 46 _ _ rfl Tryz.underlying46 (fun _ => by kernel_rfl) b2 0 m _ jj _ h60 h61 rfl S.hj rfl
  refine ⟨?_, ?_⟩
  · intro a _w _hB _hF hd
    have h54 : a.tmps.getD 54 undef = .bool false := hd.2.1 rfl
    have h62 : a.tmps.getD 62 undef = .pointer (some ⟨b2, 0 + jj * 7, none⟩) := hd.1 rfl
    exact rf_faddr (rf_open false rfl rfl h54) rfl _ _ _ rfl _ _ 4 _ h62 (by omega) (fun _ _ => by kernel_rfl) rfl
  refine ⟨?_, ?_⟩
  · intro a _w hB _hF hd
    have h54 : a.tmps.getD 54 undef = .bool false := hd.2.1 rfl
    have h63 : a.tmps.getD 63 undef = .pointer (some ⟨b2, 0 + jj * 7 + 4, none⟩) := hd.1 rfl
    exact rf_loadS (rf_open false rfl rfl h54) rfl _ _ rfl _ _ h63 _ (RzC.out S.c2 (S.w2.below hB S.w2.lt)) Tryz.underlying69 rfl (by kernel_rfl) rfl
  refine ⟨?_, ?_⟩
  · intro a _w hB _hF hd
    have h54 : a.tmps.getD 54 undef = .bool false := hd.2.2.1 rfl
    have h59 : a.tmps.getD 59 undef = .agg #[.int .i64 z.v, .bool z.o, .slice z.A z.hs.length z.c] := hd.1 rfl
    have h64 : a.tmps.getD 64 undef = .agg #[.int .i64 z.v, .bool z.o, .slice B z.hs.length d] := hd.2.1 rfl
    refine step_call (rf_open false rfl rfl h54) rfl _ _ (rf_call_run Tryz.func35 (by kernel_rfl) (by kernel_rfl) _ _ rfl) ?_
    simp only [List.map_toArray, List.map_cons, List.map_nil, Act.eval, h59, h64]
    exact (sameOut_yes z.v z.o z.hs z.A B z.hs.length z.c d _ (S.i1.below hB) (S.i2.below hB) S.hn).mono (by rintro x w1 ⟨rfl, hb⟩; exact ⟨_, rfl, hb, rfl⟩)
  refine ⟨?_, ?_⟩
  · intro a _w _hB _hF hd
    have h54 : a.tmps.getD 54 undef = .bool false := hd.2.1 rfl
    have h65 : a.tmps.getD 65 undef = .bool true := hd.1 rfl
    exact step_not (rf_open false rfl rfl h54) rfl _ _ rfl h65 rfl
  refine ⟨?_, ?_⟩
  · intro a _w _hB _hF hd
    have h54 : a.tmps.getD 54 undef = .bool false := hd.1 rfl
    have h66 : a.tmps.getD 66 undef = .bool false := hd.2.1 rfl
    exact rf_pick (guard_none rfl) rfl _ _ _ rfl false h54 h66
  trivial
set_option maxRecDepth 100000 in
set_option maxHeartbeats 2000000 in
theorem srz_any {Q : Exit → Act → World → Prop} {l : List Oper} (hl : opsOf 6 Tryz.f29 = l) (hend : ∀ w : World, Below w0.heap.size w0 w → Q .normal (putAll a0 [(17, .slice (some ⟨b1, 0, none⟩) m k1), (18, .int .i64 ((jj : Int))), (19, .pointer (some ⟨b1, 0 + jj * 7, none⟩)), (20, .pointer (some ⟨b1, 0 + jj * 7, none⟩)), (21, .int .i64 z.k), (22, .slice (some ⟨b2, 0, none⟩) m k2), (23, .int .i64 ((jj : Int))), (24, .pointer (some ⟨b2, 0 + jj * 7, none⟩)), (25, .pointer (some ⟨b2, 0 + jj * 7, none⟩)), (26, .int .i64 z.k), (27, .bool false), (28, .bool false), (29, .slice (some ⟨b1, 0, none⟩) m k1), (30, .int .i64 ((jj : Int))), (31, .pointer (some ⟨b1, 0 + jj * 7, none⟩)), (32, .pointer (some ⟨b1, 0 + jj * 7 + 1, none⟩)), (33, .int .i64 z.s), (34, .slice (some ⟨b2, 0, none⟩) m k2), (35, .int .i64 ((jj : Int))), (36, .pointer (some ⟨b2, 0 + jj * 7, none⟩)), (37, .pointer (some ⟨b2, 0 + jj * 7 + 1, none⟩)), (38, .int .i64 z.s), (39, .bool false), (40, .bool false), (41, .bool false), (42, .slice (some ⟨b1, 0, none⟩) m k1), (43, .int .i64 ((jj : Int))), (44, .pointer (some ⟨b1, 0 + jj * 7, none⟩)), (45, .pointer (some ⟨b1, 0 + jj * 7 + 2, none⟩)), (46, .agg #[.int .i64 z.a, .int .i64 z.b]), (47, .slice (some ⟨b2, 0, none⟩) m k2), (48, .int .i64 ((jj : Int))), (49, .pointer (some ⟨b2, 0 + jj * 7, none⟩)), (50, .pointer (some ⟨b2, 0 + jj * 7 + 2, none⟩)), (51, .agg #[.int .i64 z.a, .int .i64 z.b]), (52, .bool false), (53, .bool false), (54, .bool false), (55, .slice (some ⟨b1, 0, none⟩) m k1), (56, .int .i64 ((jj : Int))), (57, .pointer (some ⟨b1, 0 + jj * 7, none⟩)), (58, .pointer (some ⟨b1, 0 + jj * 7 + 4, none⟩)), (59, .agg #[.int .i64 z.v, .bool z.o, .slice z.A z.hs.length z.c]), (60, .slice (some ⟨b2, 0, none⟩) m k2), (61, .int .i64 ((jj : Int))), (62, .pointer (some ⟨b2, 0 + jj * 7, none⟩)), (63, .pointer (some ⟨b2, 0 + jj * 7 + 4, none⟩)), (64, .agg #[.int .i64 z.v, .bool z.o, .slice B z.hs.length d]), (65, .bool true), (66, .bool false), (67, .bool false)]) w) :
    (Code.region 6 l.toArray true).wp Tryz.prog Q a0 w0 := by
  subst hl
  refine region_facts2 (srzF z B d b1 b2 jj m k1 k2 cu1 cu2) srzD 68 S.size rfl (by kernel_rfl) (by kernel_rfl) (srzF_mono _ _ _ _ _ _ _ _ _ _ _) (srz_ok S) fun a w hB hF h => ?_
  have hv : valsAre a [(17, .slice (some ⟨b1, 0, none⟩) m k1), (18, .int .i64 ((jj : Int))), (19, .pointer (some ⟨b1, 0 + jj * 7, none⟩)), (20, .pointer (some ⟨b1, 0 + jj * 7, none⟩)), (21, .int .i64 z.k), (22, .slice (some ⟨b2, 0, none⟩) m k2), (23, .int .i64 ((jj : Int))), (24, .pointer (some ⟨b2, 0 + jj * 7, none⟩)), (25, .pointer (some ⟨b2, 0 + jj * 7, none⟩)), (26, .int .i64 z.k), (27, .bool false), (28, .bool false), (29, .slice (some ⟨b1, 0, none⟩) m k1), (30, .int .i64 ((jj : Int))), (31, .pointer (some ⟨b1, 0 + jj * 7, none⟩)), (32, .pointer (some ⟨b1, 0 + jj * 7 + 1, none⟩)), (33, .int .i64 z.s), (34, .slice (some ⟨b2, 0, none⟩) m k2), (35, .int .i64 ((jj : Int))), (36, .pointer (some ⟨b2, 0 + jj * 7, none⟩)), (37, .pointer (some ⟨b2, 0 + jj * 7 + 1, none⟩)), (38, .int .i64 z.s), (39, .bool false), (40, .bool false), (41, .bool false), (42, .slice (some ⟨b1, 0, none⟩) m k1), (43, .int .i64 ((jj : Int))), (44, .pointer (some ⟨b1, 0 + jj * 7, none⟩)), (45, .pointer (some ⟨b1, 0 + jj * 7 + 2, none⟩)), (46, .agg #[.int .i64 z.a, .int .i64 z.b]), (47, .slice (some ⟨b2, 0, none⟩) m k2), (48, .int .i64 ((jj : Int))), (49, .pointer (some ⟨b2, 0 + jj * 7, none⟩)), (50, .pointer (some ⟨b2, 0 + jj * 7 + 2, none⟩)), (51, .agg #[.int .i64 z.a, .int .i64 z.b]), (52, .bool false), (53, .bool false), (54, .bool false), (55, .slice (some ⟨b1, 0, none⟩) m k1), (56, .int .i64 ((jj : Int))), (57, .pointer (some ⟨b1, 0 + jj * 7, none⟩)), (58, .pointer (some ⟨b1, 0 + jj * 7 + 4, none⟩)), (59, .agg #[.int .i64 z.v, .bool z.o, .slice z.A z.hs.length z.c]), (60, .slice (some ⟨b2, 0, none⟩) m k2), (61, .int .i64 ((jj : Int))), (62, .pointer (some ⟨b2, 0 + jj * 7, none⟩)), (63, .pointer (some ⟨b2, 0 + jj * 7 + 4, none⟩)), (64, .agg #[.int .i64 z.v, .bool z.o, .slice B z.hs.length d]), (65, .bool true), (66, .bool false), (67, .bool false)] := by
    refine ⟨?_, ?_, ?_, ?_, ?_, ?_, ?_, ?_, ?_, ?_, ?_, ?_, ?_, ?_, ?_, ?_, ?_, ?_, ?_, ?_, ?_, ?_, ?_, ?_, ?_, ?_, ?_, ?_, ?_, ?_, ?_, ?_, ?_, ?_, ?_, ?_, ?_, ?_, ?_, ?_, ?_, ?_, ?_, ?_, ?_, ?_, ?_, ?_, ?_, ?_, ?_, trivial⟩
    · exact h 0 (some 17) rfl
    · exact h 1 (some 18) rfl
    · exact h 2 (some 19) rfl
    · exact h 3 (some 20) rfl
    · exact h 4 (some 21) rfl
    · exact h 5 (some 22) rfl
    · exact h 6 (some 23) rfl
    · exact h 7 (some 24) rfl
    · exact h 8 (some 25) rfl
    · exact h 9 (some 26) rfl
    · exact h 10 (some 27) rfl
    · exact h 11 (some 28) rfl
    · exact h 12 (some 29) rfl
    · exact h 13 (some 30) rfl
    · exact h 14 (some 31) rfl
    · exact h 15 (some 32) rfl
    · exact h 16 (some 33) rfl
    · exact h 17 (some 34) rfl
    · exact h 18 (some 35) rfl
    · exact h 19 (some 36) rfl
    · exact h 20 (some 37) rfl
    · exact h 21 (some 38) rfl
    · exact h 22 (some 39) rfl
    · exact h 23 (some 40) rfl
    · exact h 24 (some 41) rfl
    · exact h 25 (some 42) rfl
    · exact h 26 (some 43) rfl
    · exact h 27 (some 44) rfl
    · exact h 28 (some 45) rfl
    · exact h 29 (some 46) rfl
    · exact h 30 (some 47) rfl
    · exact h 31 (some 48) rfl
    · exact h 32 (some 49) rfl
    · exact h 33 (some 50) rfl
    · exact h 34 (some 51) rfl
    · exact h 35 (some 52) rfl
    · exact h 36 (some 53) rfl
    · exact h 37 (some 54) rfl
    · exact h 38 (some 55) rfl
    · exact h 39 (some 56) rfl
    · exact h 40 (some 57) rfl
    · exact h 41 (some 58) rfl
    · exact h 42 (some 59) rfl
    · exact h 43 (some 60) rfl
    · exact h 44 (some 61) rfl
    · exact h 45 (some 62) rfl
    · exact h 46 (some 63) rfl
    · exact h 47 (some 64) rfl
    · exact h 48 (some 65) rfl
    · exact h 49 (some 66) rfl
    · exact h 50 (some 67) rfl
  rw [frame_is hF _ hv (by rfl) (by rfl)]
  exact hend w hB
end
end Go.Proofs.YtbpaepkcchpmbaaGreat
