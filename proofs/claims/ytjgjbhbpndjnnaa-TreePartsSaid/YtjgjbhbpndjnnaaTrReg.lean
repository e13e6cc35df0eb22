/-
  The drawn regions of the tree (written by gen/trreg.py).
-/
import Derived.Test.YtjgjbhbpndjnnaaG25
import Derived.Test.YtjgjbhbpndjnnaaG15
import Derived.Test.YtjgjbhbpndjnnaaHead3
import Derived.Test.YtjgjbhbpndjnnaaG2
namespace Go.Proofs.Ytjgjbhbpndjnnaa
open Go.RowKit

def talD : List (Option Tmp) := [some 8, some 9, some 10, some 11, some 12, some 13, some 7, some 14, some 15, some 5, none, some 6]
def talF (g _y m d z : Nat) (A _root : Option Addr) (x : It) (V : Ac) : List Fact := [isV (.agg #[.int .i64 x.s, .int .i64 x.t, .int .i64 x.q, .int .i64 x.v]), isV (.pointer (some ⟨g, 0, none⟩)), isV (.pointer (some ⟨g, 0, none⟩)), isV (.pointer (some ⟨g, 0, none⟩)), isV (.slice A m d), tTup z V, tTup z V, tAcc z V, isV (.int .i64 0), tNew z]
theorem talF_mono (g y m d z : Nat) (A root : Option Addr) (x : It) (V : Ac) : ∀ φ ∈ talF g y m d z A root x V, Mono φ := by
  unfold talF
  refine monos_cons (mono_isV _) ?_
  refine monos_cons (mono_isV _) ?_
  refine monos_cons (mono_isV _) ?_
  refine monos_cons (mono_isV _) ?_
  refine monos_cons (mono_isV _) ?_
  refine monos_cons (tTup_mono _ _) ?_
  refine monos_cons (tTup_mono _ _) ?_
  refine monos_cons (tAcc_mono _ _) ?_
  refine monos_cons (mono_isV _) ?_
  refine monos_cons (tNew_mono _) ?_
  exact monos_nil
structure talS (g y m d z : Nat) (A root : Option Addr) (x : It) (V : Ac) (a0 : Act) (w0 : World) : Prop where
  size : a0.tmps.size = 17
  v0 : a0.tmps.getD 0 undef = .pointer (some ⟨g, 0, none⟩)
  v3 : a0.tmps.getD 3 undef = .pointer (some ⟨y, 0, none⟩)
  st : Has w0 g 88 #[.slice A m d, .pointer root]
  bx : Has w0 y 23 #[.int .i64 x.s, .int .i64 x.t, .int .i64 x.q, .int .i64 x.v]
  ez : z ≤ w0.heap.size
  c1 : ∀ w, Below w0.heap.size w0 w → Calls Try.prog 11 #[.agg #[.int .i64 x.s, .int .i64 x.t, .int .i64 x.q, .int .i64 x.v], .slice A m d] w (GoodAcc V w)
section
variable {g y m d z : Nat} {A root : Option Addr} {x : It} {V : Ac} {a0 : Act} {w0 : World} (S : talS g y m d z A root x V a0 w0)
include S
set_option maxRecDepth 100000 in
set_option maxHeartbeats 8000000 in
theorem tal_ok : AllOps (fun j o => ∀ (a : Act) (w : World), Below w0.heap.size w0 w → FrD (talD.take 10) a0 a → needs talD (talF g y m d z A root x V) a w o.after.toList → StepD Try.prog talD (factAt (talF g y m d z A root x V) j) o a w) 0 ((opsOf 1 Try.f84).take 10) := by
  simp only [opsOf, Try.f84, opsAt, Option.bind, Option.or, Option.getD, reduceCtorEq, if_true, if_false, Nat.reduceEqDiff, List.take_succ_cons, List.take_zero]
  refine ⟨?_, ?_⟩
  · intro _a _w hB hF _hd
    exact rf_loadS (guard_none rfl) rfl _ _ rfl _ _ ((hF.other 3 rfl).trans S.v3) _ (rf_range (S.bx.below hB S.bx.lt)) Try.underlying23 rfl (by kernel_rfl) rfl
  refine ⟨?_, ?_⟩
  · intro _a _w _hB hF _hd
    exact step_move (guard_none rfl) rfl _ rfl ((hF.other 0 rfl).trans S.v0)
  refine ⟨?_, ?_⟩
  · intro a _w _hB _hF hd
    have h9 : a.tmps.getD 9 undef = .pointer (some ⟨g, 0, none⟩) := hd.1 rfl
    exact rf_nilck (guard_none rfl) rfl _ rfl _ h9 rfl
  refine ⟨?_, ?_⟩
  · intro a _w _hB _hF hd
    have h10 : a.tmps.getD 10 undef = .pointer (some ⟨g, 0, none⟩) := hd.1 rfl
    exact rf_faddr (guard_none rfl) rfl _ _ _ rfl _ _ 0 _ h10 (by omega) (fun _ _ => by kernel_rfl) rfl
  refine ⟨?_, ?_⟩
  · intro a _w hB _hF hd
    have h11 : a.tmps.getD 11 undef = .pointer (some ⟨g, 0, none⟩) := hd.1 rfl
    exact rf_load1 (guard_none rfl) rfl _ _ rfl _ _ h11 (run_ldBd ((Has.cell (S.st.below hB S.st.lt) 0).trans rfl)) rfl
  refine ⟨?_, ?_⟩
  · intro a w hB _hF hd
    have h8 : a.tmps.getD 8 undef = .agg #[.int .i64 x.s, .int .i64 x.t, .int .i64 x.q, .int .i64 x.v] := hd.1 rfl
    have h12 : a.tmps.getD 12 undef = .slice A m d := hd.2.1 rfl
    refine step_call (guard_none rfl) rfl _ _ (rf_call_run Try.func11 (by kernel_rfl) (by kernel_rfl) _ _ rfl) ?_
    simp only [List.map_toArray, List.map_cons, List.map_nil, Act.eval, h8, h12]
    exact (S.c1 w hB).mono (by rintro e w1 ⟨H, hlo, rfl, hh, hb⟩; exact ⟨_, rfl, hb, H, rfl, hh, Nat.le_trans (Nat.le_trans S.ez hB.size) hlo⟩)
  refine ⟨?_, ?_⟩
  · intro a w _hB _hF hd
    obtain ⟨H13, h13, p13⟩ : tTup z V (a.tmps.getD 13 undef) w := hd.1 rfl
    exact step_move (guard_none rfl) rfl _ rfl ⟨H13, h13, p13⟩
  refine ⟨?_, ?_⟩
  · intro a w _hB _hF hd
    obtain ⟨H7, h7, p7⟩ : tTup z V (a.tmps.getD 7 undef) w := hd.1 rfl
    exact rf_extract (guard_none rfl) rfl _ 0 rfl _ _ h7 rfl ⟨H7, rfl, p7⟩
  refine ⟨?_, ?_⟩
  · intro a w _hB _hF hd
    obtain ⟨H7, h7, p7⟩ : tTup z V (a.tmps.getD 7 undef) w := hd.1 rfl
    exact rf_extract (guard_none rfl) rfl _ 1 rfl _ _ h7 rfl rfl
  refine ⟨?_, ?_⟩
  · intro _a _w hB _hF _hd
    exact rf_newT (guard_none rfl) rfl rfl (Nat.le_trans S.ez hB.size) (fun _ _ h => h)
  trivial
theorem tal_any {Q : Exit → Act → World → Prop} {l : List Oper} (hl : opsOf 1 Try.f84 = l) (hend : ∀ (H13 : Nat), ∀ (H7 : Nat), ∀ (H14 : Nat), ∀ (y5 : Nat), ∀ w : World, Below w0.heap.size w0 w → (Has w H13 3 (ints V.h) ∧ z ≤ H13) → (Has w H7 3 (ints V.h) ∧ z ≤ H7) → (Has w H14 3 (ints V.h) ∧ z ≤ H14) → (Has w y5 29 (accC zeroAc none 0 0) ∧ z ≤ y5) → wpList Try.prog l.toArray Q (l.drop 10) (putAll a0 [(8, .agg #[.int .i64 x.s, .int .i64 x.t, .int .i64 x.q, .int .i64 x.v]), (9, .pointer (some ⟨g, 0, none⟩)), (10, .pointer (some ⟨g, 0, none⟩)), (11, .pointer (some ⟨g, 0, none⟩)), (12, .slice A m d), (13, .tuple #[.agg (accC V (some ⟨H13, 0, none⟩) V.h.length V.h.length), .int .i64 0]), (7, .tuple #[.agg (accC V (some ⟨H7, 0, none⟩) V.h.length V.h.length), .int .i64 0]), (14, .agg (accC V (some ⟨H14, 0, none⟩) V.h.length V.h.length)), (15, .int .i64 0), (5, .pointer (some ⟨y5, 0, none⟩))]) w)
    (hendQ : ∀ (H13 : Nat), ∀ (H7 : Nat), ∀ (H14 : Nat), ∀ (y5 : Nat), ∀ w : World, Below w0.heap.size w0 w → (Has w H13 3 (ints V.h) ∧ z ≤ H13) → (Has w H7 3 (ints V.h) ∧ z ≤ H7) → (Has w H14 3 (ints V.h) ∧ z ≤ H14) → (Has w y5 29 (accC zeroAc none 0 0) ∧ z ≤ y5) → wpList Try.prog l.toArray Q (pickL l [10, 8, 11]) (putAll a0 [(8, .agg #[.int .i64 x.s, .int .i64 x.t, .int .i64 x.q, .int .i64 x.v]), (9, .pointer (some ⟨g, 0, none⟩)), (10, .pointer (some ⟨g, 0, none⟩)), (11, .pointer (some ⟨g, 0, none⟩)), (12, .slice A m d), (13, .tuple #[.agg (accC V (some ⟨H13, 0, none⟩) V.h.length V.h.length), .int .i64 0]), (7, .tuple #[.agg (accC V (some ⟨H7, 0, none⟩) V.h.length V.h.length), .int .i64 0]), (14, .agg (accC V (some ⟨H14, 0, none⟩) V.h.length V.h.length)), (15, a0.tmps.getD 15 undef), (5, .pointer (some ⟨y5, 0, none⟩))]) w) :
    (Code.region 1 l.toArray true).wp Try.prog Q a0 w0 := by
  subst hl
  refine region_head3 (talF g y m d z A root x V) talD 10 17 8 [8, 11] S.size rfl (by kernel_rfl) (by kernel_rfl) (by kernel_rfl) (talF_mono _ _ _ _ _ _ _ _ _) (tal_ok S) ?_ ?_
  · intro a w hB hF h
    obtain ⟨H13, h13, p13⟩ : tTup z V (a.tmps.getD 13 undef) w := h 5 (some 13) (by omega) rfl
    obtain ⟨H7, h7, p7⟩ : tTup z V (a.tmps.getD 7 undef) w := h 6 (some 7) (by omega) rfl
    obtain ⟨H14, h14, p14⟩ : tAcc z V (a.tmps.getD 14 undef) w := h 7 (some 14) (by omega) rfl
    obtain ⟨y5, h5, p5⟩ : tNew z (a.tmps.getD 5 undef) w := h 9 (some 5) (by omega) rfl
    have hv : valsAre a [(8, .agg #[.int .i64 x.s, .int .i64 x.t, .int .i64 x.q, .int .i64 x.v]), (9, .pointer (some ⟨g, 0, none⟩)), (10, .pointer (some ⟨g, 0, none⟩)), (11, .pointer (some ⟨g, 0, none⟩)), (12, .slice A m d), (13, .tuple #[.agg (accC V (some ⟨H13, 0, none⟩) V.h.length V.h.length), .int .i64 0]), (7, .tuple #[.agg (accC V (some ⟨H7, 0, none⟩) V.h.length V.h.length), .int .i64 0]), (14, .agg (accC V (some ⟨H14, 0, none⟩) V.h.length V.h.length)), (15, .int .i64 0), (5, .pointer (some ⟨y5, 0, none⟩))] := by
      refine ⟨?_, ?_, ?_, ?_, ?_, ?_, ?_, ?_, ?_, ?_, trivial⟩
      · exact h 0 (some 8) (by omega) rfl
      · exact h 1 (some 9) (by omega) rfl
      · exact h 2 (some 10) (by omega) rfl
      · exact h 3 (some 11) (by omega) rfl
      · exact h 4 (some 12) (by omega) rfl
      · exact h13
      · exact h7
      · exact h14
      · exact h 8 (some 15) (by omega) rfl
      · exact h5
    rw [frame_is hF _ hv (by rfl) (by rfl)]
    exact hend H13 H7 H14 y5 w hB p13 p7 p14 p5
  · intro a w hB hF h hq
    obtain ⟨H13, h13, p13⟩ : tTup z V (a.tmps.getD 13 undef) w := h 5 (some 13) (by omega) (by omega) rfl
    obtain ⟨H7, h7, p7⟩ : tTup z V (a.tmps.getD 7 undef) w := h 6 (some 7) (by omega) (by omega) rfl
    obtain ⟨H14, h14, p14⟩ : tAcc z V (a.tmps.getD 14 undef) w := h 7 (some 14) (by omega) (by omega) rfl
    obtain ⟨y5, h5, p5⟩ : tNew z (a.tmps.getD 5 undef) w := h 9 (some 5) (by omega) (by omega) rfl
    have hv : valsAre a [(8, .agg #[.int .i64 x.s, .int .i64 x.t, .int .i64 x.q, .int .i64 x.v]), (9, .pointer (some ⟨g, 0, none⟩)), (10, .pointer (some ⟨g, 0, none⟩)), (11, .pointer (some ⟨g, 0, none⟩)), (12, .slice A m d), (13, .tuple #[.agg (accC V (some ⟨H13, 0, none⟩) V.h.length V.h.length), .int .i64 0]), (7, .tuple #[.agg (accC V (some ⟨H7, 0, none⟩) V.h.length V.h.length), .int .i64 0]), (14, .agg (accC V (some ⟨H14, 0, none⟩) V.h.length V.h.length)), (15, a0.tmps.getD 15 undef), (5, .pointer (some ⟨y5, 0, none⟩))] := by
      refine ⟨?_, ?_, ?_, ?_, ?_, ?_, ?_, ?_, ?_, ?_, trivial⟩
      · exact h 0 (some 8) (by omega) (by omega) rfl
      · exact h 1 (some 9) (by omega) (by omega) rfl
      · exact h 2 (some 10) (by omega) (by omega) rfl
      · exact h 3 (some 11) (by omega) (by omega) rfl
      · exact h 4 (some 12) (by omega) (by omega) rfl
      · exact h13
      · exact h7
      · exact h14
      · exact hq (some 15) rfl
      · exact h5
    rw [frame_is hF _ hv (by rfl) (by rfl)]
    exact hendQ H13 H7 H14 y5 w hB p13 p7 p14 p5
end

def tpuD : List (Option Tmp) := [some 35, some 36, some 37, some 38, some 39, some 40, some 41, some 42, some 8]
def tpuF (g _y z : Nat) (x : It) (V : Ac) (bs : List Int) (P : Nat → Prop) (L R : Tr) (C : Option Addr) (n c : Nat) : List Fact := [isV (.pointer L.ptr), isV (.agg #[.int .i64 x.s, .int .i64 x.t, .int .i64 x.q, .int .i64 x.v]), isV (.pointer R.ptr), isV (.pointer (some ⟨g, 0, none⟩)), isV (.slice C n c), tAcc z V, tPrt z L.ptr x R.ptr V, trV bs P (L.row ++ x :: R.row), trV bs P (L.row ++ x :: R.row)]
theorem tpuF_mono (g y z : Nat) (x : It) (V : Ac) (bs : List Int) (P : Nat → Prop) (L R : Tr) (C : Option Addr) (n c : Nat) : ∀ φ ∈ tpuF g y z x V bs P L R C n c, Mono φ := by
  unfold tpuF
  refine monos_cons (mono_isV _) ?_
  refine monos_cons (mono_isV _) ?_
  refine monos_cons (mono_isV _) ?_
  refine monos_cons (mono_isV _) ?_
  refine monos_cons (mono_isV _) ?_
  refine monos_cons (tAcc_mono _ _) ?_
  refine monos_cons (tPrt_mono _ _ _ _ _) ?_
  refine monos_cons (trV_mono _ _ _) ?_
  refine monos_cons (trV_mono _ _ _) ?_
  exact monos_nil
structure tpuS (g y z : Nat) (x : It) (V : Ac) (bs : List Int) (P : Nat → Prop) (L R : Tr) (C : Option Addr) (n c : Nat) (a0 : Act) (w0 : World) : Prop where
  size : a0.tmps.size = 43
  v0 : a0.tmps.getD 0 undef = .pointer (some ⟨g, 0, none⟩)
  v1 : a0.tmps.getD 1 undef = .pointer L.ptr
  v3 : a0.tmps.getD 3 undef = .pointer R.ptr
  v6 : a0.tmps.getD 6 undef = .pointer (some ⟨y, 0, none⟩)
  v9 : a0.tmps.getD 9 undef = .slice C n c
  bx : Has w0 y 23 #[.int .i64 x.s, .int .i64 x.t, .int .i64 x.q, .int .i64 x.v]
  ez : z ≤ w0.heap.size
  hL : L.At bs P w0
  hR : R.At bs P w0
  hP : ∀ k, z ≤ k → P k
  hV : V = foldA bs (L.row ++ x :: R.row)
  c1 : ∀ w, Below w0.heap.size w0 w → Calls Try.prog 64 #[.pointer (some ⟨g, 0, none⟩), .slice C n c] w fun e w1 => ∃ H, w.heap.size ≤ H ∧ e = .returned (accV V (some ⟨H, 0, none⟩) V.h.length V.h.length) ∧ Has w1 H 3 (ints V.h) ∧ Below w.heap.size w w1
section
variable {g y z : Nat} {x : It} {V : Ac} {bs : List Int} {P : Nat → Prop} {L R : Tr} {C : Option Addr} {n c : Nat} {a0 : Act} {w0 : World} (S : tpuS g y z x V bs P L R C n c a0 w0)
include S
set_option maxRecDepth 100000 in
set_option maxHeartbeats 8000000 in
theorem tpu_ok : AllOps (fun j o => ∀ (a : Act) (w : World), Below w0.heap.size w0 w → FrD tpuD a0 a → needs tpuD (tpuF g y z x V bs P L R C n c) a w o.after.toList → StepD Try.prog tpuD (factAt (tpuF g y z x V bs P L R C n c) j) o a w) 0 (opsOf 7 Try.f81) := by
  simp only [opsOf, Try.f81, opsAt, Option.bind, Option.or, Option.getD, reduceCtorEq, if_true, if_false, Nat.reduceEqDiff]
  refine ⟨?_, ?_⟩
  · intro _a _w _hB hF _hd
    exact step_move (guard_none rfl) rfl _ rfl ((hF.other 1 rfl).trans S.v1)
  refine ⟨?_, ?_⟩
  · intro _a _w hB hF _hd
    exact rf_loadS (guard_none rfl) rfl _ _ rfl _ _ ((hF.other 6 rfl).trans S.v6) _ (rf_range (S.bx.below hB S.bx.lt)) Try.underlying23 rfl (by kernel_rfl) rfl
  refine ⟨?_, ?_⟩
  · intro _a _w _hB hF _hd
    exact step_move (guard_none rfl) rfl _ rfl ((hF.other 3 rfl).trans S.v3)
  refine ⟨?_, ?_⟩
  · intro _a _w _hB hF _hd
    exact step_move (guard_none rfl) rfl _ rfl ((hF.other 0 rfl).trans S.v0)
  refine ⟨?_, ?_⟩
  · intro _a _w _hB hF _hd
    exact step_move (guard_none rfl) rfl _ rfl ((hF.other 9 rfl).trans S.v9)
  refine ⟨?_, ?_⟩
  · intro a w hB _hF hd
    have h38 : a.tmps.getD 38 undef = .pointer (some ⟨g, 0, none⟩) := hd.1 rfl
    have h39 : a.tmps.getD 39 undef = .slice C n c := hd.2.1 rfl
    refine step_call (guard_none rfl) rfl _ _ (rf_call_run Try.func64 (by kernel_rfl) (by kernel_rfl) _ _ rfl) ?_
    simp only [List.map_toArray, List.map_cons, List.map_nil, Act.eval, h38, h39]
    exact (S.c1 w hB).mono (by rintro e w1 ⟨H, hlo, rfl, hh, hb⟩; exact ⟨_, rfl, hb, H, rfl, hh, Nat.le_trans (Nat.le_trans S.ez hB.size) hlo⟩)
  refine ⟨?_, ?_⟩
  · intro a w _hB _hF hd
    have h35 : a.tmps.getD 35 undef = .pointer L.ptr := hd.1 rfl
    have h36 : a.tmps.getD 36 undef = .agg #[.int .i64 x.s, .int .i64 x.t, .int .i64 x.q, .int .i64 x.v] := hd.2.1 rfl
    have h37 : a.tmps.getD 37 undef = .pointer R.ptr := hd.2.2.1 rfl
    obtain ⟨H40, h40, p40⟩ : tAcc z V (a.tmps.getD 40 undef) w := hd.2.2.2.1 rfl
    exact rf_prt (guard_none rfl) rfl _ _ _ _ rfl _ _ _ _ _ h35 h36 h37 h40 p40.1 p40.2 (fun _ _ h => h)
  refine ⟨?_, ?_⟩
  · intro a w hB _hF hd
    obtain ⟨H41, h41, p41⟩ : tPrt z L.ptr x R.ptr V (a.tmps.getD 41 undef) w := hd.1 rfl
    exact rf_boxPrt (guard_none rfl) rfl _ rfl bs P L R x V _ z h41 S.hV p41.1 p41.2 (Nat.le_trans S.ez hB.size) S.hP (S.hL.below hB) (S.hR.below hB) (fun _ _ h => h)
  refine ⟨?_, ?_⟩
  · intro a w _hB _hF hd
    obtain ⟨T42, h42, p42⟩ : trV bs P (L.row ++ x :: R.row) (a.tmps.getD 42 undef) w := hd.1 rfl
    exact step_assign (guard_none rfl) rfl _ rfl ⟨T42, h42, p42⟩
  trivial
theorem tpu_any {Q : Exit → Act → World → Prop} {l : List Oper} (hl : opsOf 7 Try.f81 = l) (hend : ∀ (H40 : Nat), ∀ (H41 : Nat), ∀ (T42 : Tr), ∀ (T8 : Tr), ∀ w : World, Below w0.heap.size w0 w → (Has w H40 3 (ints V.h) ∧ z ≤ H40) → (Has w H41 3 (ints V.h) ∧ z ≤ H41) → (T42.At bs P w ∧ T42.row = (L.row ++ x :: R.row)) → (T8.At bs P w ∧ T8.row = (L.row ++ x :: R.row)) → Q .normal (putAll a0 [(35, .pointer L.ptr), (36, .agg #[.int .i64 x.s, .int .i64 x.t, .int .i64 x.q, .int .i64 x.v]), (37, .pointer R.ptr), (38, .pointer (some ⟨g, 0, none⟩)), (39, .slice C n c), (40, .agg (accC V (some ⟨H40, 0, none⟩) V.h.length V.h.length)), (41, .agg (prtC L.ptr x R.ptr V H41)), (42, .pointer T42.ptr), (8, .pointer T8.ptr)]) w) :
    (Code.region 7 l.toArray true).wp Try.prog Q a0 w0 := by
  subst hl
  refine region_facts2 (tpuF g y z x V bs P L R C n c) tpuD 43 S.size rfl (by kernel_rfl) (by kernel_rfl) (tpuF_mono _ _ _ _ _ _ _ _ _ _ _ _) (tpu_ok S) fun a w hB hF h => ?_
  obtain ⟨H40, h40, p40⟩ : tAcc z V (a.tmps.getD 40 undef) w := h 5 (some 40) rfl
  obtain ⟨H41, h41, p41⟩ : tPrt z L.ptr x R.ptr V (a.tmps.getD 41 undef) w := h 6 (some 41) rfl
  obtain ⟨T42, h42, p42⟩ : trV bs P (L.row ++ x :: R.row) (a.tmps.getD 42 undef) w := h 7 (some 42) rfl
  obtain ⟨T8, h8, p8⟩ : trV bs P (L.row ++ x :: R.row) (a.tmps.getD 8 undef) w := h 8 (some 8) rfl
  have hv : valsAre a [(35, .pointer L.ptr), (36, .agg #[.int .i64 x.s, .int .i64 x.t, .int .i64 x.q, .int .i64 x.v]), (37, .pointer R.ptr), (38, .pointer (some ⟨g, 0, none⟩)), (39, .slice C n c), (40, .agg (accC V (some ⟨H40, 0, none⟩) V.h.length V.h.length)), (41, .agg (prtC L.ptr x R.ptr V H41)), (42, .pointer T42.ptr), (8, .pointer T8.ptr)] := by
    refine ⟨?_, ?_, ?_, ?_, ?_, ?_, ?_, ?_, ?_, trivial⟩
    · exact h 0 (some 35) rfl
    · exact h 1 (some 36) rfl
    · exact h 2 (some 37) rfl
    · exact h 3 (some 38) rfl
    · exact h 4 (some 39) rfl
    · exact h40
    · exact h41
    · exact h42
    · exact h8
  rw [frame_is hF _ hv (by rfl) (by rfl)]
  exact hend H40 H41 T42 T8 w hB p40 p41 p42 p8
end

def ta1D : List (Option Tmp) := [some 11, some 12, some 13, some 14, some 15, some 16, some 17, some 18, some 9, some 10]
def ta1F (b : Nat) (_v : It) (_av : Ac) (_hk : Nat) (p q : Option Addr) : List Fact := [isV (.pointer (some ⟨b, 0, none⟩)), isV (.pointer (some ⟨b, 0, none⟩)), isV (.pointer (some ⟨b, 0, none⟩)), isV (.pointer p), isV (.pointer (some ⟨b, 0, none⟩)), isV (.pointer (some ⟨b, 0, none⟩)), isV (.pointer (some ⟨b, 5, none⟩)), isV (.pointer q), isV (.pointer p), isV (.pointer q)]
theorem ta1F_mono (b : Nat) (v : It) (av : Ac) (hk : Nat) (p q : Option Addr) : ∀ φ ∈ ta1F b v av hk p q, Mono φ := by
  unfold ta1F
  refine monos_cons (mono_isV _) ?_
  refine monos_cons (mono_isV _) ?_
  refine monos_cons (mono_isV _) ?_
  refine monos_cons (mono_isV _) ?_
  refine monos_cons (mono_isV _) ?_
  refine monos_cons (mono_isV _) ?_
  refine monos_cons (mono_isV _) ?_
  refine monos_cons (mono_isV _) ?_
  refine monos_cons (mono_isV _) ?_
  refine monos_cons (mono_isV _) ?_
  exact monos_nil
structure ta1S (b : Nat) (v : It) (av : Ac) (hk : Nat) (p q : Option Addr) (a0 : Act) (w0 : World) : Prop where
  size : a0.tmps.size = 62
  v3 : a0.tmps.getD 3 undef = .pointer (some ⟨b, 0, none⟩)
  pb : Has w0 b 110 (prtC p v q av hk)
section
variable {b : Nat} {v : It} {av : Ac} {hk : Nat} {p q : Option Addr} {a0 : Act} {w0 : World} (S : ta1S b v av hk p q a0 w0)
include S
set_option maxRecDepth 100000 in
set_option maxHeartbeats 8000000 in
theorem ta1_ok : AllOps (fun j o => ∀ (a : Act) (w : World), Below w0.heap.size w0 w → FrD ta1D a0 a → needs ta1D (ta1F b v av hk p q) a w o.after.toList → StepD Try.prog ta1D (factAt (ta1F b v av hk p q) j) o a w) 0 (opsOf 1 Try.f94) := by
  simp only [opsOf, Try.f94, opsAt, Option.bind, Option.or, Option.getD, reduceCtorEq, if_true, if_false, Nat.reduceEqDiff]
  refine ⟨?_, ?_⟩
  · intro _a _w _hB hF _hd
    exact step_move (guard_none rfl) rfl _ rfl ((hF.other 3 rfl).trans S.v3)
  refine ⟨?_, ?_⟩
  · intro a _w _hB _hF hd
    have h11 : a.tmps.getD 11 undef = .pointer (some ⟨b, 0, none⟩) := hd.1 rfl
    exact rf_nilck (guard_none rfl) rfl _ rfl _ h11 rfl
  refine ⟨?_, ?_⟩
  · intro a _w _hB _hF hd
    have h12 : a.tmps.getD 12 undef = .pointer (some ⟨b, 0, none⟩) := hd.1 rfl
    exact rf_faddr (guard_none rfl) rfl _ _ _ rfl _ _ 0 _ h12 (by omega) (fun _ _ => by kernel_rfl) rfl
  refine ⟨?_, ?_⟩
  · intro a _w hB _hF hd
    have h13 : a.tmps.getD 13 undef = .pointer (some ⟨b, 0, none⟩) := hd.1 rfl
    exact rf_load1 (guard_none rfl) rfl _ _ rfl _ _ h13 (run_ldPart ((Has.cell (S.pb.below hB S.pb.lt) 0).trans rfl)) rfl
  refine ⟨?_, ?_⟩
  · intro _a _w _hB hF _hd
    exact step_move (guard_none rfl) rfl _ rfl ((hF.other 3 rfl).trans S.v3)
  refine ⟨?_, ?_⟩
  · intro a _w _hB _hF hd
    have h15 : a.tmps.getD 15 undef = .pointer (some ⟨b, 0, none⟩) := hd.1 rfl
    exact rf_nilck (guard_none rfl) rfl _ rfl _ h15 rfl
  refine ⟨?_, ?_⟩
  · intro a _w _hB _hF hd
    have h16 : a.tmps.getD 16 undef = .pointer (some ⟨b, 0, none⟩) := hd.1 rfl
    exact rf_faddr (guard_none rfl) rfl _ _ _ rfl _ _ 5 _ h16 (by omega) (fun _ _ => by kernel_rfl) rfl
  refine ⟨?_, ?_⟩
  · intro a _w hB _hF hd
    have h17 : a.tmps.getD 17 undef = .pointer (some ⟨b, 5, none⟩) := hd.1 rfl
    exact rf_load1 (guard_none rfl) rfl _ _ rfl _ _ h17 (run_ldPart ((Has.cell (S.pb.below hB S.pb.lt) 5).trans rfl)) rfl
  refine ⟨?_, ?_⟩
  · intro a _w _hB _hF hd
    have h14 : a.tmps.getD 14 undef = .pointer p := hd.1 rfl
    exact step_assign (guard_none rfl) rfl _ rfl h14
  refine ⟨?_, ?_⟩
  · intro a _w _hB _hF hd
    have h18 : a.tmps.getD 18 undef = .pointer q := hd.1 rfl
    exact step_assign (guard_none rfl) rfl _ rfl h18
  trivial
theorem ta1_any {Q : Exit → Act → World → Prop} {l : List Oper} (hl : opsOf 1 Try.f94 = l) (hend : ∀ w : World, Below w0.heap.size w0 w → Q .normal (putAll a0 [(11, .pointer (some ⟨b, 0, none⟩)), (12, .pointer (some ⟨b, 0, none⟩)), (13, .pointer (some ⟨b, 0, none⟩)), (14, .pointer p), (15, .pointer (some ⟨b, 0, none⟩)), (16, .pointer (some ⟨b, 0, none⟩)), (17, .pointer (some ⟨b, 5, none⟩)), (18, .pointer q), (9, .pointer p), (10, .pointer q)]) w) :
    (Code.region 1 l.toArray true).wp Try.prog Q a0 w0 := by
  subst hl
  refine region_facts2 (ta1F b v av hk p q) ta1D 62 S.size rfl (by kernel_rfl) (by kernel_rfl) (ta1F_mono _ _ _ _ _ _) (ta1_ok S) fun a w hB hF h => ?_
  have hv : valsAre a [(11, .pointer (some ⟨b, 0, none⟩)), (12, .pointer (some ⟨b, 0, none⟩)), (13, .pointer (some ⟨b, 0, none⟩)), (14, .pointer p), (15, .pointer (some ⟨b, 0, none⟩)), (16, .pointer (some ⟨b, 0, none⟩)), (17, .pointer (some ⟨b, 5, none⟩)), (18, .pointer q), (9, .pointer p), (10, .pointer q)] := by
    refine ⟨?_, ?_, ?_, ?_, ?_, ?_, ?_, ?_, ?_, ?_, trivial⟩
    · exact h 0 (some 11) rfl
    · exact h 1 (some 12) rfl
    · exact h 2 (some 13) rfl
    · exact h 3 (some 14) rfl
    · exact h 4 (some 15) rfl
    · exact h 5 (some 16) rfl
    · exact h 6 (some 17) rfl
    · exact h 7 (some 18) rfl
    · exact h 8 (some 9) rfl
    · exact h 9 (some 10) rfl
  rw [frame_is hF _ hv (by rfl) (by rfl)]
  exact hend w hB
end

def tb1D : List (Option Tmp) := [some 11, some 12, some 13, some 14, some 15, some 16, some 17, some 18, some 9, some 10]
def tb1F (b : Nat) (_v : It) (_av : Ac) (_hk : Nat) (p q : Option Addr) : List Fact := [isV (.pointer (some ⟨b, 0, none⟩)), isV (.pointer (some ⟨b, 0, none⟩)), isV (.pointer (some ⟨b, 0, none⟩)), isV (.pointer p), isV (.pointer (some ⟨b, 0, none⟩)), isV (.pointer (some ⟨b, 0, none⟩)), isV (.pointer (some ⟨b, 5, none⟩)), isV (.pointer q), isV (.pointer p), isV (.pointer q)]
theorem tb1F_mono (b : Nat) (v : It) (av : Ac) (hk : Nat) (p q : Option Addr) : ∀ φ ∈ tb1F b v av hk p q, Mono φ := by
  unfold tb1F
  refine monos_cons (mono_isV _) ?_
  refine monos_cons (mono_isV _) ?_
  refine monos_cons (mono_isV _) ?_
  refine monos_cons (mono_isV _) ?_
  refine monos_cons (mono_isV _) ?_
  refine monos_cons (mono_isV _) ?_
  refine monos_cons (mono_isV _) ?_
  refine monos_cons (mono_isV _) ?_
  refine monos_cons (mono_isV _) ?_
  refine monos_cons (mono_isV _) ?_
  exact monos_nil
structure tb1S (b : Nat) (v : It) (av : Ac) (hk : Nat) (p q : Option Addr) (a0 : Act) (w0 : World) : Prop where
  size : a0.tmps.size = 62
  v1 : a0.tmps.getD 1 undef = .pointer (some ⟨b, 0, none⟩)
  pb : Has w0 b 110 (prtC p v q av hk)
section
variable {b : Nat} {v : It} {av : Ac} {hk : Nat} {p q : Option Addr} {a0 : Act} {w0 : World} (S : tb1S b v av hk p q a0 w0)
include S
set_option maxRecDepth 100000 in
set_option maxHeartbeats 8000000 in
theorem tb1_ok : AllOps (fun j o => ∀ (a : Act) (w : World), Below w0.heap.size w0 w → FrD tb1D a0 a → needs tb1D (tb1F b v av hk p q) a w o.after.toList → StepD Try.prog tb1D (factAt (tb1F b v av hk p q) j) o a w) 0 (opsOf 1 Try.f95) := by
  simp only [opsOf, Try.f95, opsAt, Option.bind, Option.or, Option.getD, reduceCtorEq, if_true, if_false, Nat.reduceEqDiff]
  refine ⟨?_, ?_⟩
  · intro _a _w _hB hF _hd
    exact step_move (guard_none rfl) rfl _ rfl ((hF.other 1 rfl).trans S.v1)
  refine ⟨?_, ?_⟩
  · intro a _w _hB _hF hd
    have h11 : a.tmps.getD 11 undef = .pointer (some ⟨b, 0, none⟩) := hd.1 rfl
    exact rf_nilck (guard_none rfl) rfl _ rfl _ h11 rfl
  refine ⟨?_, ?_⟩
  · intro a _w _hB _hF hd
    have h12 : a.tmps.getD 12 undef = .pointer (some ⟨b, 0, none⟩) := hd.1 rfl
    exact rf_faddr (guard_none rfl) rfl _ _ _ rfl _ _ 0 _ h12 (by omega) (fun _ _ => by kernel_rfl) rfl
  refine ⟨?_, ?_⟩
  · intro a _w hB _hF hd
    have h13 : a.tmps.getD 13 undef = .pointer (some ⟨b, 0, none⟩) := hd.1 rfl
    exact rf_load1 (guard_none rfl) rfl _ _ rfl _ _ h13 (run_ldPart ((Has.cell (S.pb.below hB S.pb.lt) 0).trans rfl)) rfl
  refine ⟨?_, ?_⟩
  · intro _a _w _hB hF _hd
    exact step_move (guard_none rfl) rfl _ rfl ((hF.other 1 rfl).trans S.v1)
  refine ⟨?_, ?_⟩
  · intro a _w _hB _hF hd
    have h15 : a.tmps.getD 15 undef = .pointer (some ⟨b, 0, none⟩) := hd.1 rfl
    exact rf_nilck (guard_none rfl) rfl _ rfl _ h15 rfl
  refine ⟨?_, ?_⟩
  · intro a _w _hB _hF hd
    have h16 : a.tmps.getD 16 undef = .pointer (some ⟨b, 0, none⟩) := hd.1 rfl
    exact rf_faddr (guard_none rfl) rfl _ _ _ rfl _ _ 5 _ h16 (by omega) (fun _ _ => by kernel_rfl) rfl
  refine ⟨?_, ?_⟩
  · intro a _w hB _hF hd
    have h17 : a.tmps.getD 17 undef = .pointer (some ⟨b, 5, none⟩) := hd.1 rfl
    exact rf_load1 (guard_none rfl) rfl _ _ rfl _ _ h17 (run_ldPart ((Has.cell (S.pb.below hB S.pb.lt) 5).trans rfl)) rfl
  refine ⟨?_, ?_⟩
  · intro a _w _hB _hF hd
    have h14 : a.tmps.getD 14 undef = .pointer p := hd.1 rfl
    exact step_assign (guard_none rfl) rfl _ rfl h14
  refine ⟨?_, ?_⟩
  · intro a _w _hB _hF hd
    have h18 : a.tmps.getD 18 undef = .pointer q := hd.1 rfl
    exact step_assign (guard_none rfl) rfl _ rfl h18
  trivial
theorem tb1_any {Q : Exit → Act → World → Prop} {l : List Oper} (hl : opsOf 1 Try.f95 = l) (hend : ∀ w : World, Below w0.heap.size w0 w → Q .normal (putAll a0 [(11, .pointer (some ⟨b, 0, none⟩)), (12, .pointer (some ⟨b, 0, none⟩)), (13, .pointer (some ⟨b, 0, none⟩)), (14, .pointer p), (15, .pointer (some ⟨b, 0, none⟩)), (16, .pointer (some ⟨b, 0, none⟩)), (17, .pointer (some ⟨b, 5, none⟩)), (18, .pointer q), (9, .pointer p), (10, .pointer q)]) w) :
    (Code.region 1 l.toArray true).wp Try.prog Q a0 w0 := by
  subst hl
  refine region_facts2 (tb1F b v av hk p q) tb1D 62 S.size rfl (by kernel_rfl) (by kernel_rfl) (tb1F_mono _ _ _ _ _ _) (tb1_ok S) fun a w hB hF h => ?_
  have hv : valsAre a [(11, .pointer (some ⟨b, 0, none⟩)), (12, .pointer (some ⟨b, 0, none⟩)), (13, .pointer (some ⟨b, 0, none⟩)), (14, .pointer p), (15, .pointer (some ⟨b, 0, none⟩)), (16, .pointer (some ⟨b, 0, none⟩)), (17, .pointer (some ⟨b, 5, none⟩)), (18, .pointer q), (9, .pointer p), (10, .pointer q)] := by
    refine ⟨?_, ?_, ?_, ?_, ?_, ?_, ?_, ?_, ?_, ?_, trivial⟩
    · exact h 0 (some 11) rfl
    · exact h 1 (some 12) rfl
    · exact h 2 (some 13) rfl
    · exact h 3 (some 14) rfl
    · exact h 4 (some 15) rfl
    · exact h 5 (some 16) rfl
    · exact h 6 (some 17) rfl
    · exact h 7 (some 18) rfl
    · exact h 8 (some 9) rfl
    · exact h 9 (some 10) rfl
  rw [frame_is hF _ hv (by rfl) (by rfl)]
  exact hend w hB
end

def ttaD : List (Option Tmp) := [some 25, some 26, some 27, some 28, some 29, some 30, some 31, some 32, some 33, some 34, some 35, some 36, some 8]
def ttaF (g _y b _z : Nat) (x v : It) (_av : Ac) (_hk : Nat) (_p _q : Option Addr) (bs : List Int) (P : Nat → Prop) (R1 R2 : List It) (pl pi po : Option Addr) : List Fact := [isV (.pointer (some ⟨g, 0, none⟩)), isV (.pointer (some ⟨g, 0, none⟩)), isV (.pointer pl), isV (.agg #[.int .i64 x.s, .int .i64 x.t, .int .i64 x.q, .int .i64 x.v]), isV (.pointer pi), trV bs P R1, isV (.pointer (some ⟨b, 0, none⟩)), isV (.pointer (some ⟨b, 0, none⟩)), isV (.pointer (some ⟨b, 1, none⟩)), isV (.agg #[.int .i64 v.s, .int .i64 v.t, .int .i64 v.q, .int .i64 v.v]), isV (.pointer po), trV bs P R2, trV bs P R2]
theorem ttaF_mono (g y b z : Nat) (x v : It) (av : Ac) (hk : Nat) (p q : Option Addr) (bs : List Int) (P : Nat → Prop) (R1 R2 : List It) (pl pi po : Option Addr) : ∀ φ ∈ ttaF g y b z x v av hk p q bs P R1 R2 pl pi po, Mono φ := by
  unfold ttaF
  refine monos_cons (mono_isV _) ?_
  refine monos_cons (mono_isV _) ?_
  refine monos_cons (mono_isV _) ?_
  refine monos_cons (mono_isV _) ?_
  refine monos_cons (mono_isV _) ?_
  refine monos_cons (trV_mono _ _ _) ?_
  refine monos_cons (mono_isV _) ?_
  refine monos_cons (mono_isV _) ?_
  refine monos_cons (mono_isV _) ?_
  refine monos_cons (mono_isV _) ?_
  refine monos_cons (mono_isV _) ?_
  refine monos_cons (trV_mono _ _ _) ?_
  refine monos_cons (trV_mono _ _ _) ?_
  exact monos_nil
structure ttaS (g y b z : Nat) (x v : It) (av : Ac) (hk : Nat) (p q : Option Addr) (bs : List Int) (P : Nat → Prop) (R1 R2 : List It) (pl pi po : Option Addr) (a0 : Act) (w0 : World) : Prop where
  size : a0.tmps.size = 62
  v0 : a0.tmps.getD 0 undef = .pointer (some ⟨g, 0, none⟩)
  v1 : a0.tmps.getD 1 undef = .pointer pl
  v3 : a0.tmps.getD 3 undef = .pointer (some ⟨b, 0, none⟩)
  v6 : a0.tmps.getD 6 undef = .pointer (some ⟨y, 0, none⟩)
  v9 : a0.tmps.getD 9 undef = .pointer pi
  v10 : a0.tmps.getD 10 undef = .pointer po
  bx : Has w0 y 23 #[.int .i64 x.s, .int .i64 x.t, .int .i64 x.q, .int .i64 x.v]
  pb : Has w0 b 110 (prtC p v q av hk)
  c1 : ∀ w, Below w0.heap.size w0 w → Calls Try.prog 81 #[.pointer (some ⟨g, 0, none⟩), .pointer pl, .agg #[.int .i64 x.s, .int .i64 x.t, .int .i64 x.q, .int .i64 x.v], .pointer pi] w (TrO bs P R1 w)
  c2 : ∀ (w : World) (T : Tr), Below w0.heap.size w0 w → T.At bs P w → T.row = R1 → Calls Try.prog 81 #[.pointer (some ⟨g, 0, none⟩), .pointer T.ptr, .agg #[.int .i64 v.s, .int .i64 v.t, .int .i64 v.q, .int .i64 v.v], .pointer po] w (TrO bs P R2 w)
section
variable {g y b z : Nat} {x v : It} {av : Ac} {hk : Nat} {p q : Option Addr} {bs : List Int} {P : Nat → Prop} {R1 R2 : List It} {pl pi po : Option Addr} {a0 : Act} {w0 : World} (S : ttaS g y b z x v av hk p q bs P R1 R2 pl pi po a0 w0)
include S
set_option maxRecDepth 100000 in
set_option maxHeartbeats 8000000 in
theorem tta_ok : AllOps (fun j o => ∀ (a : Act) (w : World), Below w0.heap.size w0 w → FrD ttaD a0 a → needs ttaD (ttaF g y b z x v av hk p q bs P R1 R2 pl pi po) a w o.after.toList → StepD Try.prog ttaD (factAt (ttaF g y b z x v av hk p q bs P R1 R2 pl pi po) j) o a w) 0 (opsOf 3 Try.f94) := by
  simp only [opsOf, Try.f94, opsAt, Option.bind, Option.or, Option.getD, reduceCtorEq, if_true, if_false, Nat.reduceEqDiff]
  refine ⟨?_, ?_⟩
  · intro _a _w _hB hF _hd
    exact step_move (guard_none rfl) rfl _ rfl ((hF.other 0 rfl).trans S.v0)
  refine ⟨?_, ?_⟩
  · intro _a _w _hB hF _hd
    exact step_move (guard_none rfl) rfl _ rfl ((hF.other 0 rfl).trans S.v0)
  refine ⟨?_, ?_⟩
  · intro _a _w _hB hF _hd
    exact step_move (guard_none rfl) rfl _ rfl ((hF.other 1 rfl).trans S.v1)
  refine ⟨?_, ?_⟩
  · intro _a _w hB hF _hd
    exact rf_loadS (guard_none rfl) rfl _ _ rfl _ _ ((hF.other 6 rfl).trans S.v6) _ (rf_range (S.bx.below hB S.bx.lt)) Try.underlying23 rfl (by kernel_rfl) rfl
  refine ⟨?_, ?_⟩
  · intro _a _w _hB hF _hd
    exact step_move (guard_none rfl) rfl _ rfl ((hF.other 9 rfl).trans S.v9)
  refine ⟨?_, ?_⟩
  · intro a w hB _hF hd
    have h26 : a.tmps.getD 26 undef = .pointer (some ⟨g, 0, none⟩) := hd.1 rfl
    have h27 : a.tmps.getD 27 undef = .pointer pl := hd.2.1 rfl
    have h28 : a.tmps.getD 28 undef = .agg #[.int .i64 x.s, .int .i64 x.t, .int .i64 x.q, .int .i64 x.v] := hd.2.2.1 rfl
    have h29 : a.tmps.getD 29 undef = .pointer pi := hd.2.2.2.1 rfl
    refine step_call (guard_none rfl) rfl _ _ (rf_call_run Try.func81 (by kernel_rfl) (by kernel_rfl) _ _ rfl) ?_
    simp only [List.map_toArray, List.map_cons, List.map_nil, Act.eval, h26, h27, h28, h29]
    exact (S.c1 w hB).mono (by rintro e w1 ⟨T, rfl, h1, h2, hb⟩; exact ⟨_, rfl, hb, T, rfl, h1, h2⟩)
  refine ⟨?_, ?_⟩
  · intro _a _w _hB hF _hd
    exact step_move (guard_none rfl) rfl _ rfl ((hF.other 3 rfl).trans S.v3)
  refine ⟨?_, ?_⟩
  · intro a _w _hB _hF hd
    have h31 : a.tmps.getD 31 undef = .pointer (some ⟨b, 0, none⟩) := hd.1 rfl
    exact rf_nilck (guard_none rfl) rfl _ rfl _ h31 rfl
  refine ⟨?_, ?_⟩
  · intro a _w _hB _hF hd
    have h32 : a.tmps.getD 32 undef = .pointer (some ⟨b, 0, none⟩) := hd.1 rfl
    exact rf_faddr (guard_none rfl) rfl _ _ _ rfl _ _ 1 _ h32 (by omega) (fun _ _ => by kernel_rfl) rfl
  refine ⟨?_, ?_⟩
  · intro a _w hB _hF hd
    have h33 : a.tmps.getD 33 undef = .pointer (some ⟨b, 1, none⟩) := hd.1 rfl
    exact rf_loadItP (guard_none rfl) rfl _ rfl _ _ h33 v (prtC_item _ _ _ _ _ (S.pb.below hB S.pb.lt)) rfl
  refine ⟨?_, ?_⟩
  · intro _a _w _hB hF _hd
    exact step_move (guard_none rfl) rfl _ rfl ((hF.other 10 rfl).trans S.v10)
  refine ⟨?_, ?_⟩
  · intro a w hB _hF hd
    have h25 : a.tmps.getD 25 undef = .pointer (some ⟨g, 0, none⟩) := hd.1 rfl
    obtain ⟨T30, h30, p30⟩ : trV bs P R1 (a.tmps.getD 30 undef) w := hd.2.1 rfl
    have h34 : a.tmps.getD 34 undef = .agg #[.int .i64 v.s, .int .i64 v.t, .int .i64 v.q, .int .i64 v.v] := hd.2.2.1 rfl
    have h35 : a.tmps.getD 35 undef = .pointer po := hd.2.2.2.1 rfl
    refine step_call (guard_none rfl) rfl _ _ (rf_call_run Try.func81 (by kernel_rfl) (by kernel_rfl) _ _ rfl) ?_
    simp only [List.map_toArray, List.map_cons, List.map_nil, Act.eval, h25, h30, h34, h35]
    exact (S.c2 w T30 hB p30.1 p30.2).mono (by rintro e w1 ⟨T, rfl, h1, h2, hb⟩; exact ⟨_, rfl, hb, T, rfl, h1, h2⟩)
  refine ⟨?_, ?_⟩
  · intro a w _hB _hF hd
    obtain ⟨T36, h36, p36⟩ : trV bs P R2 (a.tmps.getD 36 undef) w := hd.1 rfl
    exact step_assign (guard_none rfl) rfl _ rfl ⟨T36, h36, p36⟩
  trivial
theorem tta_any {Q : Exit → Act → World → Prop} {l : List Oper} (hl : opsOf 3 Try.f94 = l) (hend : ∀ (T30 : Tr), ∀ (T36 : Tr), ∀ (T8 : Tr), ∀ w : World, Below w0.heap.size w0 w → (T30.At bs P w ∧ T30.row = R1) → (T36.At bs P w ∧ T36.row = R2) → (T8.At bs P w ∧ T8.row = R2) → Q .normal (putAll a0 [(25, .pointer (some ⟨g, 0, none⟩)), (26, .pointer (some ⟨g, 0, none⟩)), (27, .pointer pl), (28, .agg #[.int .i64 x.s, .int .i64 x.t, .int .i64 x.q, .int .i64 x.v]), (29, .pointer pi), (30, .pointer T30.ptr), (31, .pointer (some ⟨b, 0, none⟩)), (32, .pointer (some ⟨b, 0, none⟩)), (33, .pointer (some ⟨b, 1, none⟩)), (34, .agg #[.int .i64 v.s, .int .i64 v.t, .int .i64 v.q, .int .i64 v.v]), (35, .pointer po), (36, .pointer T36.ptr), (8, .pointer T8.ptr)]) w) :
    (Code.region 3 l.toArray true).wp Try.prog Q a0 w0 := by
  subst hl
  refine region_facts2 (ttaF g y b z x v av hk p q bs P R1 R2 pl pi po) ttaD 62 S.size rfl (by kernel_rfl) (by kernel_rfl) (ttaF_mono _ _ _ _ _ _ _ _ _ _ _ _ _ _ _ _ _) (tta_ok S) fun a w hB hF h => ?_
  obtain ⟨T30, h30, p30⟩ : trV bs P R1 (a.tmps.getD 30 undef) w := h 5 (some 30) rfl
  obtain ⟨T36, h36, p36⟩ : trV bs P R2 (a.tmps.getD 36 undef) w := h 11 (some 36) rfl
  obtain ⟨T8, h8, p8⟩ : trV bs P R2 (a.tmps.getD 8 undef) w := h 12 (some 8) rfl
  have hv : valsAre a [(25, .pointer (some ⟨g, 0, none⟩)), (26, .pointer (some ⟨g, 0, none⟩)), (27, .pointer pl), (28, .agg #[.int .i64 x.s, .int .i64 x.t, .int .i64 x.q, .int .i64 x.v]), (29, .pointer pi), (30, .pointer T30.ptr), (31, .pointer (some ⟨b, 0, none⟩)), (32, .pointer (some ⟨b, 0, none⟩)), (33, .pointer (some ⟨b, 1, none⟩)), (34, .agg #[.int .i64 v.s, .int .i64 v.t, .int .i64 v.q, .int .i64 v.v]), (35, .pointer po), (36, .pointer T36.ptr), (8, .pointer T8.ptr)] := by
    refine ⟨?_, ?_, ?_, ?_, ?_, ?_, ?_, ?_, ?_, ?_, ?_, ?_, ?_, trivial⟩
    · exact h 0 (some 25) rfl
    · exact h 1 (some 26) rfl
    · exact h 2 (some 27) rfl
    · exact h 3 (some 28) rfl
    · exact h 4 (some 29) rfl
    · exact h30
    · exact h 6 (some 31) rfl
    · exact h 7 (some 32) rfl
    · exact h 8 (some 33) rfl
    · exact h 9 (some 34) rfl
    · exact h 10 (some 35) rfl
    · exact h36
    · exact h8
  rw [frame_is hF _ hv (by rfl) (by rfl)]
  exact hend T30 T36 T8 w hB p30 p36 p8
end

def ttbD : List (Option Tmp) := [some 25, some 26, some 27, some 28, some 29, some 30, some 31, some 32, some 33, some 34, some 35, some 36, some 8]
def ttbF (g _y b _z : Nat) (x v : It) (_av : Ac) (_hk : Nat) (_p _q : Option Addr) (bs : List Int) (P : Nat → Prop) (R1 R2 : List It) (pl pi po : Option Addr) : List Fact := [isV (.pointer (some ⟨g, 0, none⟩)), isV (.pointer po), isV (.pointer (some ⟨b, 0, none⟩)), isV (.pointer (some ⟨b, 0, none⟩)), isV (.pointer (some ⟨b, 1, none⟩)), isV (.agg #[.int .i64 v.s, .int .i64 v.t, .int .i64 v.q, .int .i64 v.v]), isV (.pointer (some ⟨g, 0, none⟩)), isV (.pointer pi), isV (.agg #[.int .i64 x.s, .int .i64 x.t, .int .i64 x.q, .int .i64 x.v]), isV (.pointer pl), trV bs P R1, trV bs P R2, trV bs P R2]
theorem ttbF_mono (g y b z : Nat) (x v : It) (av : Ac) (hk : Nat) (p q : Option Addr) (bs : List Int) (P : Nat → Prop) (R1 R2 : List It) (pl pi po : Option Addr) : ∀ φ ∈ ttbF g y b z x v av hk p q bs P R1 R2 pl pi po, Mono φ := by
  unfold ttbF
  refine monos_cons (mono_isV _) ?_
  refine monos_cons (mono_isV _) ?_
  refine monos_cons (mono_isV _) ?_
  refine monos_cons (mono_isV _) ?_
  refine monos_cons (mono_isV _) ?_
  refine monos_cons (mono_isV _) ?_
  refine monos_cons (mono_isV _) ?_
  refine monos_cons (mono_isV _) ?_
  refine monos_cons (mono_isV _) ?_
  refine monos_cons (mono_isV _) ?_
  refine monos_cons (trV_mono _ _ _) ?_
  refine monos_cons (trV_mono _ _ _) ?_
  refine monos_cons (trV_mono _ _ _) ?_
  exact monos_nil
structure ttbS (g y b z : Nat) (x v : It) (av : Ac) (hk : Nat) (p q : Option Addr) (bs : List Int) (P : Nat → Prop) (R1 R2 : List It) (pl pi po : Option Addr) (a0 : Act) (w0 : World) : Prop where
  size : a0.tmps.size = 62
  v0 : a0.tmps.getD 0 undef = .pointer (some ⟨g, 0, none⟩)
  v1 : a0.tmps.getD 1 undef = .pointer (some ⟨b, 0, none⟩)
  v3 : a0.tmps.getD 3 undef = .pointer pl
  v6 : a0.tmps.getD 6 undef = .pointer (some ⟨y, 0, none⟩)
  v9 : a0.tmps.getD 9 undef = .pointer po
  v10 : a0.tmps.getD 10 undef = .pointer pi
  bx : Has w0 y 23 #[.int .i64 x.s, .int .i64 x.t, .int .i64 x.q, .int .i64 x.v]
  pb : Has w0 b 110 (prtC p v q av hk)
  c1 : ∀ w, Below w0.heap.size w0 w → Calls Try.prog 81 #[.pointer (some ⟨g, 0, none⟩), .pointer pi, .agg #[.int .i64 x.s, .int .i64 x.t, .int .i64 x.q, .int .i64 x.v], .pointer pl] w (TrO bs P R1 w)
  c2 : ∀ (w : World) (T : Tr), Below w0.heap.size w0 w → T.At bs P w → T.row = R1 → Calls Try.prog 81 #[.pointer (some ⟨g, 0, none⟩), .pointer po, .agg #[.int .i64 v.s, .int .i64 v.t, .int .i64 v.q, .int .i64 v.v], .pointer T.ptr] w (TrO bs P R2 w)
section
variable {g y b z : Nat} {x v : It} {av : Ac} {hk : Nat} {p q : Option Addr} {bs : List Int} {P : Nat → Prop} {R1 R2 : List It} {pl pi po : Option Addr} {a0 : Act} {w0 : World} (S : ttbS g y b z x v av hk p q bs P R1 R2 pl pi po a0 w0)
include S
set_option maxRecDepth 100000 in
set_option maxHeartbeats 8000000 in
theorem ttb_ok : AllOps (fun j o => ∀ (a : Act) (w : World), Below w0.heap.size w0 w → FrD ttbD a0 a → needs ttbD (ttbF g y b z x v av hk p q bs P R1 R2 pl pi po) a w o.after.toList → StepD Try.prog ttbD (factAt (ttbF g y b z x v av hk p q bs P R1 R2 pl pi po) j) o a w) 0 (opsOf 3 Try.f95) := by
  simp only [opsOf, Try.f95, opsAt, Option.bind, Option.or, Option.getD, reduceCtorEq, if_true, if_false, Nat.reduceEqDiff]
  refine ⟨?_, ?_⟩
  · intro _a _w _hB hF _hd
    exact step_move (guard_none rfl) rfl _ rfl ((hF.other 0 rfl).trans S.v0)
  refine ⟨?_, ?_⟩
  · intro _a _w _hB hF _hd
    exact step_move (guard_none rfl) rfl _ rfl ((hF.other 9 rfl).trans S.v9)
  refine ⟨?_, ?_⟩
  · intro _a _w _hB hF _hd
    exact step_move (guard_none rfl) rfl _ rfl ((hF.other 1 rfl).trans S.v1)
  refine ⟨?_, ?_⟩
  · intro a _w _hB _hF hd
    have h27 : a.tmps.getD 27 undef = .pointer (some ⟨b, 0, none⟩) := hd.1 rfl
    exact rf_nilck (guard_none rfl) rfl _ rfl _ h27 rfl
  refine ⟨?_, ?_⟩
  · intro a _w _hB _hF hd
    have h28 : a.tmps.getD 28 undef = .pointer (some ⟨b, 0, none⟩) := hd.1 rfl
    exact rf_faddr (guard_none rfl) rfl _ _ _ rfl _ _ 1 _ h28 (by omega) (fun _ _ => by kernel_rfl) rfl
  refine ⟨?_, ?_⟩
  · intro a _w hB _hF hd
    have h29 : a.tmps.getD 29 undef = .pointer (some ⟨b, 1, none⟩) := hd.1 rfl
    exact rf_loadItP (guard_none rfl) rfl _ rfl _ _ h29 v (prtC_item _ _ _ _ _ (S.pb.below hB S.pb.lt)) rfl
  refine ⟨?_, ?_⟩
  · intro _a _w _hB hF _hd
    exact step_move (guard_none rfl) rfl _ rfl ((hF.other 0 rfl).trans S.v0)
  refine ⟨?_, ?_⟩
  · intro _a _w _hB hF _hd
    exact step_move (guard_none rfl) rfl _ rfl ((hF.other 10 rfl).trans S.v10)
  refine ⟨?_, ?_⟩
  · intro _a _w hB hF _hd
    exact rf_loadS (guard_none rfl) rfl _ _ rfl _ _ ((hF.other 6 rfl).trans S.v6) _ (rf_range (S.bx.below hB S.bx.lt)) Try.underlying23 rfl (by kernel_rfl) rfl
  refine ⟨?_, ?_⟩
  · intro _a _w _hB hF _hd
    exact step_move (guard_none rfl) rfl _ rfl ((hF.other 3 rfl).trans S.v3)
  refine ⟨?_, ?_⟩
  · intro a w hB _hF hd
    have h31 : a.tmps.getD 31 undef = .pointer (some ⟨g, 0, none⟩) := hd.1 rfl
    have h32 : a.tmps.getD 32 undef = .pointer pi := hd.2.1 rfl
    have h33 : a.tmps.getD 33 undef = .agg #[.int .i64 x.s, .int .i64 x.t, .int .i64 x.q, .int .i64 x.v] := hd.2.2.1 rfl
    have h34 : a.tmps.getD 34 undef = .pointer pl := hd.2.2.2.1 rfl
    refine step_call (guard_none rfl) rfl _ _ (rf_call_run Try.func81 (by kernel_rfl) (by kernel_rfl) _ _ rfl) ?_
    simp only [List.map_toArray, List.map_cons, List.map_nil, Act.eval, h31, h32, h33, h34]
    exact (S.c1 w hB).mono (by rintro e w1 ⟨T, rfl, h1, h2, hb⟩; exact ⟨_, rfl, hb, T, rfl, h1, h2⟩)
  refine ⟨?_, ?_⟩
  · intro a w hB _hF hd
    have h25 : a.tmps.getD 25 undef = .pointer (some ⟨g, 0, none⟩) := hd.1 rfl
    have h26 : a.tmps.getD 26 undef = .pointer po := hd.2.1 rfl
    have h30 : a.tmps.getD 30 undef = .agg #[.int .i64 v.s, .int .i64 v.t, .int .i64 v.q, .int .i64 v.v] := hd.2.2.1 rfl
    obtain ⟨T35, h35, p35⟩ : trV bs P R1 (a.tmps.getD 35 undef) w := hd.2.2.2.1 rfl
    refine step_call (guard_none rfl) rfl _ _ (rf_call_run Try.func81 (by kernel_rfl) (by kernel_rfl) _ _ rfl) ?_
    simp only [List.map_toArray, List.map_cons, List.map_nil, Act.eval, h25, h26, h30, h35]
    exact (S.c2 w T35 hB p35.1 p35.2).mono (by rintro e w1 ⟨T, rfl, h1, h2, hb⟩; exact ⟨_, rfl, hb, T, rfl, h1, h2⟩)
  refine ⟨?_, ?_⟩
  · intro a w _hB _hF hd
    obtain ⟨T36, h36, p36⟩ : trV bs P R2 (a.tmps.getD 36 undef) w := hd.1 rfl
    exact step_assign (guard_none rfl) rfl _ rfl ⟨T36, h36, p36⟩
  trivial
theorem ttb_any {Q : Exit → Act → World → Prop} {l : List Oper} (hl : opsOf 3 Try.f95 = l) (hend : ∀ (T35 : Tr), ∀ (T36 : Tr), ∀ (T8 : Tr), ∀ w : World, Below w0.heap.size w0 w → (T35.At bs P w ∧ T35.row = R1) → (T36.At bs P w ∧ T36.row = R2) → (T8.At bs P w ∧ T8.row = R2) → Q .normal (putAll a0 [(25, .pointer (some ⟨g, 0, none⟩)), (26, .pointer po), (27, .pointer (some ⟨b, 0, none⟩)), (28, .pointer (some ⟨b, 0, none⟩)), (29, .pointer (some ⟨b, 1, none⟩)), (30, .agg #[.int .i64 v.s, .int .i64 v.t, .int .i64 v.q, .int .i64 v.v]), (31, .pointer (some ⟨g, 0, none⟩)), (32, .pointer pi), (33, .agg #[.int .i64 x.s, .int .i64 x.t, .int .i64 x.q, .int .i64 x.v]), (34, .pointer pl), (35, .pointer T35.ptr), (36, .pointer T36.ptr), (8, .pointer T8.ptr)]) w) :
    (Code.region 3 l.toArray true).wp Try.prog Q a0 w0 := by
  subst hl
  refine region_facts2 (ttbF g y b z x v av hk p q bs P R1 R2 pl pi po) ttbD 62 S.size rfl (by kernel_rfl) (by kernel_rfl) (ttbF_mono _ _ _ _ _ _ _ _ _ _ _ _ _ _ _ _ _) (ttb_ok S) fun a w hB hF h => ?_
  obtain ⟨T35, h35, p35⟩ : trV bs P R1 (a.tmps.getD 35 undef) w := h 10 (some 35) rfl
  obtain ⟨T36, h36, p36⟩ : trV bs P R2 (a.tmps.getD 36 undef) w := h 11 (some 36) rfl
  obtain ⟨T8, h8, p8⟩ : trV bs P R2 (a.tmps.getD 8 undef) w := h 12 (some 8) rfl
  have hv : valsAre a [(25, .pointer (some ⟨g, 0, none⟩)), (26, .pointer po), (27, .pointer (some ⟨b, 0, none⟩)), (28, .pointer (some ⟨b, 0, none⟩)), (29, .pointer (some ⟨b, 1, none⟩)), (30, .agg #[.int .i64 v.s, .int .i64 v.t, .int .i64 v.q, .int .i64 v.v]), (31, .pointer (some ⟨g, 0, none⟩)), (32, .pointer pi), (33, .agg #[.int .i64 x.s, .int .i64 x.t, .int .i64 x.q, .int .i64 x.v]), (34, .pointer pl), (35, .pointer T35.ptr), (36, .pointer T36.ptr), (8, .pointer T8.ptr)] := by
    refine ⟨?_, ?_, ?_, ?_, ?_, ?_, ?_, ?_, ?_, ?_, ?_, ?_, ?_, trivial⟩
    · exact h 0 (some 25) rfl
    · exact h 1 (some 26) rfl
    · exact h 2 (some 27) rfl
    · exact h 3 (some 28) rfl
    · exact h 4 (some 29) rfl
    · exact h 5 (some 30) rfl
    · exact h 6 (some 31) rfl
    · exact h 7 (some 32) rfl
    · exact h 8 (some 33) rfl
    · exact h 9 (some 34) rfl
    · exact h35
    · exact h36
    · exact h8
  rw [frame_is hF _ hv (by rfl) (by rfl)]
  exact hend T35 T36 T8 w hB p35 p36 p8
end

def tuaD : List (Option Tmp) := [some 37, some 38, some 39, some 40, some 41, some 42, some 43, some 44, some 45, some 46, some 47, some 48, some 49, some 50, some 51, some 52, some 53, some 54, some 55, some 56, some 57, some 58, some 59, some 60, some 61, some 8]
def tuaF (g _y b b2 _z : Nat) (x v v2 : It) (_av _a2 : Ac) (_hk _h2 : Nat) (_p _q p2 q2 : Option Addr) (bs : List Int) (P : Nat → Prop) (R1 R2 R3 : List It) (pl po : Option Addr) : List Fact := [isV (.pointer (some ⟨g, 0, none⟩)), isV (.pointer (some ⟨g, 0, none⟩)), isV (.pointer pl), isV (.agg #[.int .i64 x.s, .int .i64 x.t, .int .i64 x.q, .int .i64 x.v]), isV (.pointer (some ⟨b2, 0, none⟩)), isV (.pointer (some ⟨b2, 0, none⟩)), isV (.pointer (some ⟨b2, 0, none⟩)), isV (.pointer p2), trV bs P R1, isV (.pointer (some ⟨b2, 0, none⟩)), isV (.pointer (some ⟨b2, 0, none⟩)), isV (.pointer (some ⟨b2, 1, none⟩)), isV (.agg #[.int .i64 v2.s, .int .i64 v2.t, .int .i64 v2.q, .int .i64 v2.v]), isV (.pointer (some ⟨g, 0, none⟩)), isV (.pointer (some ⟨b2, 0, none⟩)), isV (.pointer (some ⟨b2, 0, none⟩)), isV (.pointer (some ⟨b2, 5, none⟩)), isV (.pointer q2), isV (.pointer (some ⟨b, 0, none⟩)), isV (.pointer (some ⟨b, 0, none⟩)), isV (.pointer (some ⟨b, 1, none⟩)), isV (.agg #[.int .i64 v.s, .int .i64 v.t, .int .i64 v.q, .int .i64 v.v]), isV (.pointer po), trV bs P R2, trV bs P R3, trV bs P R3]
theorem tuaF_mono (g y b b2 z : Nat) (x v v2 : It) (av a2 : Ac) (hk h2 : Nat) (p q p2 q2 : Option Addr) (bs : List Int) (P : Nat → Prop) (R1 R2 R3 : List It) (pl po : Option Addr) : ∀ φ ∈ tuaF g y b b2 z x v v2 av a2 hk h2 p q p2 q2 bs P R1 R2 R3 pl po, Mono φ := by
  unfold tuaF
  refine monos_cons (mono_isV _) ?_
  refine monos_cons (mono_isV _) ?_
  refine monos_cons (mono_isV _) ?_
  refine monos_cons (mono_isV _) ?_
  refine monos_cons (mono_isV _) ?_
  refine monos_cons (mono_isV _) ?_
  refine monos_cons (mono_isV _) ?_
  refine monos_cons (mono_isV _) ?_
  refine monos_cons (trV_mono _ _ _) ?_
  refine monos_cons (mono_isV _) ?_
  refine monos_cons (mono_isV _) ?_
  refine monos_cons (mono_isV _) ?_
  refine monos_cons (mono_isV _) ?_
  refine monos_cons (mono_isV _) ?_
  refine monos_cons (mono_isV _) ?_
  refine monos_cons (mono_isV _) ?_
  refine monos_cons (mono_isV _) ?_
  refine monos_cons (mono_isV _) ?_
  refine monos_cons (mono_isV _) ?_
  refine monos_cons (mono_isV _) ?_
  refine monos_cons (mono_isV _) ?_
  refine monos_cons (mono_isV _) ?_
  refine monos_cons (mono_isV _) ?_
  refine monos_cons (trV_mono _ _ _) ?_
  refine monos_cons (trV_mono _ _ _) ?_
  refine monos_cons (trV_mono _ _ _) ?_
  exact monos_nil
structure tuaS (g y b b2 z : Nat) (x v v2 : It) (av a2 : Ac) (hk h2 : Nat) (p q p2 q2 : Option Addr) (bs : List Int) (P : Nat → Prop) (R1 R2 R3 : List It) (pl po : Option Addr) (a0 : Act) (w0 : World) : Prop where
  size : a0.tmps.size = 62
  v0 : a0.tmps.getD 0 undef = .pointer (some ⟨g, 0, none⟩)
  v1 : a0.tmps.getD 1 undef = .pointer pl
  v3 : a0.tmps.getD 3 undef = .pointer (some ⟨b, 0, none⟩)
  v6 : a0.tmps.getD 6 undef = .pointer (some ⟨y, 0, none⟩)
  v9 : a0.tmps.getD 9 undef = .pointer (some ⟨b2, 0, none⟩)
  v10 : a0.tmps.getD 10 undef = .pointer po
  bx : Has w0 y 23 #[.int .i64 x.s, .int .i64 x.t, .int .i64 x.q, .int .i64 x.v]
  pb : Has w0 b 110 (prtC p v q av hk)
  pb2 : Has w0 b2 110 (prtC p2 v2 q2 a2 h2)
  c1 : ∀ w, Below w0.heap.size w0 w → Calls Try.prog 81 #[.pointer (some ⟨g, 0, none⟩), .pointer pl, .agg #[.int .i64 x.s, .int .i64 x.t, .int .i64 x.q, .int .i64 x.v], .pointer p2] w (TrO bs P R1 w)
  c2 : ∀ w, Below w0.heap.size w0 w → Calls Try.prog 81 #[.pointer (some ⟨g, 0, none⟩), .pointer q2, .agg #[.int .i64 v.s, .int .i64 v.t, .int .i64 v.q, .int .i64 v.v], .pointer po] w (TrO bs P R2 w)
  c3 : ∀ (w : World) (T U : Tr), Below w0.heap.size w0 w → T.At bs P w → T.row = R1 → U.At bs P w → U.row = R2 → Calls Try.prog 81 #[.pointer (some ⟨g, 0, none⟩), .pointer T.ptr, .agg #[.int .i64 v2.s, .int .i64 v2.t, .int .i64 v2.q, .int .i64 v2.v], .pointer U.ptr] w (TrO bs P R3 w)
section
variable {g y b b2 z : Nat} {x v v2 : It} {av a2 : Ac} {hk h2 : Nat} {p q p2 q2 : Option Addr} {bs : List Int} {P : Nat → Prop} {R1 R2 R3 : List It} {pl po : Option Addr} {a0 : Act} {w0 : World} (S : tuaS g y b b2 z x v v2 av a2 hk h2 p q p2 q2 bs P R1 R2 R3 pl po a0 w0)
include S
set_option maxRecDepth 100000 in
set_option maxHeartbeats 8000000 in
theorem tua_ok : AllOps (fun j o => ∀ (a : Act) (w : World), Below w0.heap.size w0 w → FrD tuaD a0 a → needs tuaD (tuaF g y b b2 z x v v2 av a2 hk h2 p q p2 q2 bs P R1 R2 R3 pl po) a w o.after.toList → StepD Try.prog tuaD (factAt (tuaF g y b b2 z x v v2 av a2 hk h2 p q p2 q2 bs P R1 R2 R3 pl po) j) o a w) 0 (opsOf 4 Try.f94) := by
  simp only [opsOf, Try.f94, opsAt, Option.bind, Option.or, Option.getD, reduceCtorEq, if_true, if_false, Nat.reduceEqDiff]
  refine ⟨?_, ?_⟩
  · intro _a _w _hB hF _hd
    exact step_move (guard_none rfl) rfl _ rfl ((hF.other 0 rfl).trans S.v0)
  refine ⟨?_, ?_⟩
  · intro _a _w _hB hF _hd
    exact step_move (guard_none rfl) rfl _ rfl ((hF.other 0 rfl).trans S.v0)
  refine ⟨?_, ?_⟩
  · intro _a _w _hB hF _hd
    exact step_move (guard_none rfl) rfl _ rfl ((hF.other 1 rfl).trans S.v1)
  refine ⟨?_, ?_⟩
  · intro _a _w hB hF _hd
    exact rf_loadS (guard_none rfl) rfl _ _ rfl _ _ ((hF.other 6 rfl).trans S.v6) _ (rf_range (S.bx.below hB S.bx.lt)) Try.underlying23 rfl (by kernel_rfl) rfl
  refine ⟨?_, ?_⟩
  · intro _a _w _hB hF _hd
    exact step_move (guard_none rfl) rfl _ rfl ((hF.other 9 rfl).trans S.v9)
  refine ⟨?_, ?_⟩
  · intro a _w _hB _hF hd
    have h41 : a.tmps.getD 41 undef = .pointer (some ⟨b2, 0, none⟩) := hd.1 rfl
    exact rf_nilck (guard_none rfl) rfl _ rfl _ h41 rfl
  refine ⟨?_, ?_⟩
  · intro a _w _hB _hF hd
    have h42 : a.tmps.getD 42 undef = .pointer (some ⟨b2, 0, none⟩) := hd.1 rfl
    exact rf_faddr (guard_none rfl) rfl _ _ _ rfl _ _ 0 _ h42 (by omega) (fun _ _ => by kernel_rfl) rfl
  refine ⟨?_, ?_⟩
  · intro a _w hB _hF hd
    have h43 : a.tmps.getD 43 undef = .pointer (some ⟨b2, 0, none⟩) := hd.1 rfl
    exact rf_load1 (guard_none rfl) rfl _ _ rfl _ _ h43 (run_ldPart ((Has.cell (S.pb2.below hB S.pb2.lt) 0).trans rfl)) rfl
  refine ⟨?_, ?_⟩
  · intro a w hB _hF hd
    have h38 : a.tmps.getD 38 undef = .pointer (some ⟨g, 0, none⟩) := hd.1 rfl
    have h39 : a.tmps.getD 39 undef = .pointer pl := hd.2.1 rfl
    have h40 : a.tmps.getD 40 undef = .agg #[.int .i64 x.s, .int .i64 x.t, .int .i64 x.q, .int .i64 x.v] := hd.2.2.1 rfl
    have h44 : a.tmps.getD 44 undef = .pointer p2 := hd.2.2.2.1 rfl
    refine step_call (guard_none rfl) rfl _ _ (rf_call_run Try.func81 (by kernel_rfl) (by kernel_rfl) _ _ rfl) ?_
    simp only [List.map_toArray, List.map_cons, List.map_nil, Act.eval, h38, h39, h40, h44]
    exact (S.c1 w hB).mono (by rintro e w1 ⟨T, rfl, h1, h2, hb⟩; exact ⟨_, rfl, hb, T, rfl, h1, h2⟩)
  refine ⟨?_, ?_⟩
  · intro _a _w _hB hF _hd
    exact step_move (guard_none rfl) rfl _ rfl ((hF.other 9 rfl).trans S.v9)
  refine ⟨?_, ?_⟩
  · intro a _w _hB _hF hd
    have h46 : a.tmps.getD 46 undef = .pointer (some ⟨b2, 0, none⟩) := hd.1 rfl
    exact rf_nilck (guard_none rfl) rfl _ rfl _ h46 rfl
  refine ⟨?_, ?_⟩
  · intro a _w _hB _hF hd
    have h47 : a.tmps.getD 47 undef = .pointer (some ⟨b2, 0, none⟩) := hd.1 rfl
    exact rf_faddr (guard_none rfl) rfl _ _ _ rfl _ _ 1 _ h47 (by omega) (fun _ _ => by kernel_rfl) rfl
  refine ⟨?_, ?_⟩
  · intro a _w hB _hF hd
    have h48 : a.tmps.getD 48 undef = .pointer (some ⟨b2, 1, none⟩) := hd.1 rfl
    exact rf_loadItP (guard_none rfl) rfl _ rfl _ _ h48 v2 (prtC_item _ _ _ _ _ (S.pb2.below hB S.pb2.lt)) rfl
  refine ⟨?_, ?_⟩
  · intro _a _w _hB hF _hd
    exact step_move (guard_none rfl) rfl _ rfl ((hF.other 0 rfl).trans S.v0)
  refine ⟨?_, ?_⟩
  · intro _a _w _hB hF _hd
    exact step_move (guard_none rfl) rfl _ rfl ((hF.other 9 rfl).trans S.v9)
  refine ⟨?_, ?_⟩
  · intro a _w _hB _hF hd
    have h51 : a.tmps.getD 51 undef = .pointer (some ⟨b2, 0, none⟩) := hd.1 rfl
    exact rf_nilck (guard_none rfl) rfl _ rfl _ h51 rfl
  refine ⟨?_, ?_⟩
  · intro a _w _hB _hF hd
    have h52 : a.tmps.getD 52 undef = .pointer (some ⟨b2, 0, none⟩) := hd.1 rfl
    exact rf_faddr (guard_none rfl) rfl _ _ _ rfl _ _ 5 _ h52 (by omega) (fun _ _ => by kernel_rfl) rfl
  refine ⟨?_, ?_⟩
  · intro a _w hB _hF hd
    have h53 : a.tmps.getD 53 undef = .pointer (some ⟨b2, 5, none⟩) := hd.1 rfl
    exact rf_load1 (guard_none rfl) rfl _ _ rfl _ _ h53 (run_ldPart ((Has.cell (S.pb2.below hB S.pb2.lt) 5).trans rfl)) rfl
  refine ⟨?_, ?_⟩
  · intro _a _w _hB hF _hd
    exact step_move (guard_none rfl) rfl _ rfl ((hF.other 3 rfl).trans S.v3)
  refine ⟨?_, ?_⟩
  · intro a _w _hB _hF hd
    have h55 : a.tmps.getD 55 undef = .pointer (some ⟨b, 0, none⟩) := hd.1 rfl
    exact rf_nilck (guard_none rfl) rfl _ rfl _ h55 rfl
  refine ⟨?_, ?_⟩
  · intro a _w _hB _hF hd
    have h56 : a.tmps.getD 56 undef = .pointer (some ⟨b, 0, none⟩) := hd.1 rfl
    exact rf_faddr (guard_none rfl) rfl _ _ _ rfl _ _ 1 _ h56 (by omega) (fun _ _ => by kernel_rfl) rfl
  refine ⟨?_, ?_⟩
  · intro a _w hB _hF hd
    have h57 : a.tmps.getD 57 undef = .pointer (some ⟨b, 1, none⟩) := hd.1 rfl
    exact rf_loadItP (guard_none rfl) rfl _ rfl _ _ h57 v (prtC_item _ _ _ _ _ (S.pb.below hB S.pb.lt)) rfl
  refine ⟨?_, ?_⟩
  · intro _a _w _hB hF _hd
    exact step_move (guard_none rfl) rfl _ rfl ((hF.other 10 rfl).trans S.v10)
  refine ⟨?_, ?_⟩
  · intro a w hB _hF hd
    have h50 : a.tmps.getD 50 undef = .pointer (some ⟨g, 0, none⟩) := hd.1 rfl
    have h54 : a.tmps.getD 54 undef = .pointer q2 := hd.2.1 rfl
    have h58 : a.tmps.getD 58 undef = .agg #[.int .i64 v.s, .int .i64 v.t, .int .i64 v.q, .int .i64 v.v] := hd.2.2.1 rfl
    have h59 : a.tmps.getD 59 undef = .pointer po := hd.2.2.2.1 rfl
    refine step_call (guard_none rfl) rfl _ _ (rf_call_run Try.func81 (by kernel_rfl) (by kernel_rfl) _ _ rfl) ?_
    simp only [List.map_toArray, List.map_cons, List.map_nil, Act.eval, h50, h54, h58, h59]
    exact (S.c2 w hB).mono (by rintro e w1 ⟨T, rfl, h1, h2, hb⟩; exact ⟨_, rfl, hb, T, rfl, h1, h2⟩)
  refine ⟨?_, ?_⟩
  · intro a w hB _hF hd
    have h37 : a.tmps.getD 37 undef = .pointer (some ⟨g, 0, none⟩) := hd.1 rfl
    obtain ⟨T45, h45, p45⟩ : trV bs P R1 (a.tmps.getD 45 undef) w := hd.2.1 rfl
    have h49 : a.tmps.getD 49 undef = .agg #[.int .i64 v2.s, .int .i64 v2.t, .int .i64 v2.q, .int .i64 v2.v] := hd.2.2.1 rfl
    obtain ⟨T60, h60, p60⟩ : trV bs P R2 (a.tmps.getD 60 undef) w := hd.2.2.2.1 rfl
    refine step_call (guard_none rfl) rfl _ _ (rf_call_run Try.func81 (by kernel_rfl) (by kernel_rfl) _ _ rfl) ?_
    simp only [List.map_toArray, List.map_cons, List.map_nil, Act.eval, h37, h45, h49, h60]
    exact (S.c3 w T45 T60 hB p45.1 p45.2 p60.1 p60.2).mono (by rintro e w1 ⟨T, rfl, h1, h2, hb⟩; exact ⟨_, rfl, hb, T, rfl, h1, h2⟩)
  refine ⟨?_, ?_⟩
  · intro a w _hB _hF hd
    obtain ⟨T61, h61, p61⟩ : trV bs P R3 (a.tmps.getD 61 undef) w := hd.1 rfl
    exact step_assign (guard_none rfl) rfl _ rfl ⟨T61, h61, p61⟩
  trivial
theorem tua_any {Q : Exit → Act → World → Prop} {l : List Oper} (hl : opsOf 4 Try.f94 = l) (hend : ∀ (T45 : Tr), ∀ (T60 : Tr), ∀ (T61 : Tr), ∀ (T8 : Tr), ∀ w : World, Below w0.heap.size w0 w → (T45.At bs P w ∧ T45.row = R1) → (T60.At bs P w ∧ T60.row = R2) → (T61.At bs P w ∧ T61.row = R3) → (T8.At bs P w ∧ T8.row = R3) → Q .normal (putAll a0 [(37, .pointer (some ⟨g, 0, none⟩)), (38, .pointer (some ⟨g, 0, none⟩)), (39, .pointer pl), (40, .agg #[.int .i64 x.s, .int .i64 x.t, .int .i64 x.q, .int .i64 x.v]), (41, .pointer (some ⟨b2, 0, none⟩)), (42, .pointer (some ⟨b2, 0, none⟩)), (43, .pointer (some ⟨b2, 0, none⟩)), (44, .pointer p2), (45, .pointer T45.ptr), (46, .pointer (some ⟨b2, 0, none⟩)), (47, .pointer (some ⟨b2, 0, none⟩)), (48, .pointer (some ⟨b2, 1, none⟩)), (49, .agg #[.int .i64 v2.s, .int .i64 v2.t, .int .i64 v2.q, .int .i64 v2.v]), (50, .pointer (some ⟨g, 0, none⟩)), (51, .pointer (some ⟨b2, 0, none⟩)), (52, .pointer (some ⟨b2, 0, none⟩)), (53, .pointer (some ⟨b2, 5, none⟩)), (54, .pointer q2), (55, .pointer (some ⟨b, 0, none⟩)), (56, .pointer (some ⟨b, 0, none⟩)), (57, .pointer (some ⟨b, 1, none⟩)), (58, .agg #[.int .i64 v.s, .int .i64 v.t, .int .i64 v.q, .int .i64 v.v]), (59, .pointer po), (60, .pointer T60.ptr), (61, .pointer T61.ptr), (8, .pointer T8.ptr)]) w) :
    (Code.region 4 l.toArray true).wp Try.prog Q a0 w0 := by
  subst hl
  refine region_facts2 (tuaF g y b b2 z x v v2 av a2 hk h2 p q p2 q2 bs P R1 R2 R3 pl po) tuaD 62 S.size rfl (by kernel_rfl) (by kernel_rfl) (tuaF_mono _ _ _ _ _ _ _ _ _ _ _ _ _ _ _ _ _ _ _ _ _ _ _) (tua_ok S) fun a w hB hF h => ?_
  obtain ⟨T45, h45, p45⟩ : trV bs P R1 (a.tmps.getD 45 undef) w := h 8 (some 45) rfl
  obtain ⟨T60, h60, p60⟩ : trV bs P R2 (a.tmps.getD 60 undef) w := h 23 (some 60) rfl
  obtain ⟨T61, h61, p61⟩ : trV bs P R3 (a.tmps.getD 61 undef) w := h 24 (some 61) rfl
  obtain ⟨T8, h8, p8⟩ : trV bs P R3 (a.tmps.getD 8 undef) w := h 25 (some 8) rfl
  have hv : valsAre a [(37, .pointer (some ⟨g, 0, none⟩)), (38, .pointer (some ⟨g, 0, none⟩)), (39, .pointer pl), (40, .agg #[.int .i64 x.s, .int .i64 x.t, .int .i64 x.q, .int .i64 x.v]), (41, .pointer (some ⟨b2, 0, none⟩)), (42, .pointer (some ⟨b2, 0, none⟩)), (43, .pointer (some ⟨b2, 0, none⟩)), (44, .pointer p2), (45, .pointer T45.ptr), (46, .pointer (some ⟨b2, 0, none⟩)), (47, .pointer (some ⟨b2, 0, none⟩)), (48, .pointer (some ⟨b2, 1, none⟩)), (49, .agg #[.int .i64 v2.s, .int .i64 v2.t, .int .i64 v2.q, .int .i64 v2.v]), (50, .pointer (some ⟨g, 0, none⟩)), (51, .pointer (some ⟨b2, 0, none⟩)), (52, .pointer (some ⟨b2, 0, none⟩)), (53, .pointer (some ⟨b2, 5, none⟩)), (54, .pointer q2), (55, .pointer (some ⟨b, 0, none⟩)), (56, .pointer (some ⟨b, 0, none⟩)), (57, .pointer (some ⟨b, 1, none⟩)), (58, .agg #[.int .i64 v.s, .int .i64 v.t, .int .i64 v.q, .int .i64 v.v]), (59, .pointer po), (60, .pointer T60.ptr), (61, .pointer T61.ptr), (8, .pointer T8.ptr)] := by
    refine ⟨?_, ?_, ?_, ?_, ?_, ?_, ?_, ?_, ?_, ?_, ?_, ?_, ?_, ?_, ?_, ?_, ?_, ?_, ?_, ?_, ?_, ?_, ?_, ?_, ?_, ?_, trivial⟩
    · exact h 0 (some 37) rfl
    · exact h 1 (some 38) rfl
    · exact h 2 (some 39) rfl
    · exact h 3 (some 40) rfl
    · exact h 4 (some 41) rfl
    · exact h 5 (some 42) rfl
    · exact h 6 (some 43) rfl
    · exact h 7 (some 44) rfl
    · exact h45
    · exact h 9 (some 46) rfl
    · exact h 10 (some 47) rfl
    · exact h 11 (some 48) rfl
    · exact h 12 (some 49) rfl
    · exact h 13 (some 50) rfl
    · exact h 14 (some 51) rfl
    · exact h 15 (some 52) rfl
    · exact h 16 (some 53) rfl
    · exact h 17 (some 54) rfl
    · exact h 18 (some 55) rfl
    · exact h 19 (some 56) rfl
    · exact h 20 (some 57) rfl
    · exact h 21 (some 58) rfl
    · exact h 22 (some 59) rfl
    · exact h60
    · exact h61
    · exact h8
  rw [frame_is hF _ hv (by rfl) (by rfl)]
  exact hend T45 T60 T61 T8 w hB p45 p60 p61 p8
end

def tubD : List (Option Tmp) := [some 37, some 38, some 39, some 40, some 41, some 42, some 43, some 44, some 45, some 46, some 47, some 48, some 49, some 50, some 51, some 52, some 53, some 54, some 55, some 56, some 57, some 58, some 59, some 60, some 61, some 8]
def tubF (g _y b b2 _z : Nat) (x v v2 : It) (_av _a2 : Ac) (_hk _h2 : Nat) (_p _q p2 q2 : Option Addr) (bs : List Int) (P : Nat → Prop) (R1 R2 R3 : List It) (pl po : Option Addr) : List Fact := [isV (.pointer (some ⟨g, 0, none⟩)), isV (.pointer (some ⟨g, 0, none⟩)), isV (.pointer po), isV (.pointer (some ⟨b, 0, none⟩)), isV (.pointer (some ⟨b, 0, none⟩)), isV (.pointer (some ⟨b, 1, none⟩)), isV (.agg #[.int .i64 v.s, .int .i64 v.t, .int .i64 v.q, .int .i64 v.v]), isV (.pointer (some ⟨b2, 0, none⟩)), isV (.pointer (some ⟨b2, 0, none⟩)), isV (.pointer (some ⟨b2, 0, none⟩)), isV (.pointer p2), trV bs P R1, isV (.pointer (some ⟨b2, 0, none⟩)), isV (.pointer (some ⟨b2, 0, none⟩)), isV (.pointer (some ⟨b2, 1, none⟩)), isV (.agg #[.int .i64 v2.s, .int .i64 v2.t, .int .i64 v2.q, .int .i64 v2.v]), isV (.pointer (some ⟨g, 0, none⟩)), isV (.pointer (some ⟨b2, 0, none⟩)), isV (.pointer (some ⟨b2, 0, none⟩)), isV (.pointer (some ⟨b2, 5, none⟩)), isV (.pointer q2), isV (.agg #[.int .i64 x.s, .int .i64 x.t, .int .i64 x.q, .int .i64 x.v]), isV (.pointer pl), trV bs P R2, trV bs P R3, trV bs P R3]
theorem tubF_mono (g y b b2 z : Nat) (x v v2 : It) (av a2 : Ac) (hk h2 : Nat) (p q p2 q2 : Option Addr) (bs : List Int) (P : Nat → Prop) (R1 R2 R3 : List It) (pl po : Option Addr) : ∀ φ ∈ tubF g y b b2 z x v v2 av a2 hk h2 p q p2 q2 bs P R1 R2 R3 pl po, Mono φ := by
  unfold tubF
  refine monos_cons (mono_isV _) ?_
  refine monos_cons (mono_isV _) ?_
  refine monos_cons (mono_isV _) ?_
  refine monos_cons (mono_isV _) ?_
  refine monos_cons (mono_isV _) ?_
  refine monos_cons (mono_isV _) ?_
  refine monos_cons (mono_isV _) ?_
  refine monos_cons (mono_isV _) ?_
  refine monos_cons (mono_isV _) ?_
  refine monos_cons (mono_isV _) ?_
  refine monos_cons (mono_isV _) ?_
  refine monos_cons (trV_mono _ _ _) ?_
  refine monos_cons (mono_isV _) ?_
  refine monos_cons (mono_isV _) ?_
  refine monos_cons (mono_isV _) ?_
  refine monos_cons (mono_isV _) ?_
  refine monos_cons (mono_isV _) ?_
  refine monos_cons (mono_isV _) ?_
  refine monos_cons (mono_isV _) ?_
  refine monos_cons (mono_isV _) ?_
  refine monos_cons (mono_isV _) ?_
  refine monos_cons (mono_isV _) ?_
  refine monos_cons (mono_isV _) ?_
  refine monos_cons (trV_mono _ _ _) ?_
  refine monos_cons (trV_mono _ _ _) ?_
  refine monos_cons (trV_mono _ _ _) ?_
  exact monos_nil
structure tubS (g y b b2 z : Nat) (x v v2 : It) (av a2 : Ac) (hk h2 : Nat) (p q p2 q2 : Option Addr) (bs : List Int) (P : Nat → Prop) (R1 R2 R3 : List It) (pl po : Option Addr) (a0 : Act) (w0 : World) : Prop where
  size : a0.tmps.size = 62
  v0 : a0.tmps.getD 0 undef = .pointer (some ⟨g, 0, none⟩)
  v1 : a0.tmps.getD 1 undef = .pointer (some ⟨b, 0, none⟩)
  v3 : a0.tmps.getD 3 undef = .pointer pl
  v6 : a0.tmps.getD 6 undef = .pointer (some ⟨y, 0, none⟩)
  v9 : a0.tmps.getD 9 undef = .pointer po
  v10 : a0.tmps.getD 10 undef = .pointer (some ⟨b2, 0, none⟩)
  bx : Has w0 y 23 #[.int .i64 x.s, .int .i64 x.t, .int .i64 x.q, .int .i64 x.v]
  pb : Has w0 b 110 (prtC p v q av hk)
  pb2 : Has w0 b2 110 (prtC p2 v2 q2 a2 h2)
  c1 : ∀ w, Below w0.heap.size w0 w → Calls Try.prog 81 #[.pointer (some ⟨g, 0, none⟩), .pointer po, .agg #[.int .i64 v.s, .int .i64 v.t, .int .i64 v.q, .int .i64 v.v], .pointer p2] w (TrO bs P R1 w)
  c2 : ∀ w, Below w0.heap.size w0 w → Calls Try.prog 81 #[.pointer (some ⟨g, 0, none⟩), .pointer q2, .agg #[.int .i64 x.s, .int .i64 x.t, .int .i64 x.q, .int .i64 x.v], .pointer pl] w (TrO bs P R2 w)
  c3 : ∀ (w : World) (T U : Tr), Below w0.heap.size w0 w → T.At bs P w → T.row = R1 → U.At bs P w → U.row = R2 → Calls Try.prog 81 #[.pointer (some ⟨g, 0, none⟩), .pointer T.ptr, .agg #[.int .i64 v2.s, .int .i64 v2.t, .int .i64 v2.q, .int .i64 v2.v], .pointer U.ptr] w (TrO bs P R3 w)
section
variable {g y b b2 z : Nat} {x v v2 : It} {av a2 : Ac} {hk h2 : Nat} {p q p2 q2 : Option Addr} {bs : List Int} {P : Nat → Prop} {R1 R2 R3 : List It} {pl po : Option Addr} {a0 : Act} {w0 : World} (S : tubS g y b b2 z x v v2 av a2 hk h2 p q p2 q2 bs P R1 R2 R3 pl po a0 w0)
include S
set_option maxRecDepth 100000 in
set_option maxHeartbeats 8000000 in
theorem tub_ok : AllOps (fun j o => ∀ (a : Act) (w : World), Below w0.heap.size w0 w → FrD tubD a0 a → needs tubD (tubF g y b b2 z x v v2 av a2 hk h2 p q p2 q2 bs P R1 R2 R3 pl po) a w o.after.toList → StepD Try.prog tubD (factAt (tubF g y b b2 z x v v2 av a2 hk h2 p q p2 q2 bs P R1 R2 R3 pl po) j) o a w) 0 (opsOf 4 Try.f95) := by
  simp only [opsOf, Try.f95, opsAt, Option.bind, Option.or, Option.getD, reduceCtorEq, if_true, if_false, Nat.reduceEqDiff]
  refine ⟨?_, ?_⟩
  · intro _a _w _hB hF _hd
    exact step_move (guard_none rfl) rfl _ rfl ((hF.other 0 rfl).trans S.v0)
  refine ⟨?_, ?_⟩
  · intro _a _w _hB hF _hd
    exact step_move (guard_none rfl) rfl _ rfl ((hF.other 0 rfl).trans S.v0)
  refine ⟨?_, ?_⟩
  · intro _a _w _hB hF _hd
    exact step_move (guard_none rfl) rfl _ rfl ((hF.other 9 rfl).trans S.v9)
  refine ⟨?_, ?_⟩
  · intro _a _w _hB hF _hd
    exact step_move (guard_none rfl) rfl _ rfl ((hF.other 1 rfl).trans S.v1)
  refine ⟨?_, ?_⟩
  · intro a _w _hB _hF hd
    have h40 : a.tmps.getD 40 undef = .pointer (some ⟨b, 0, none⟩) := hd.1 rfl
    exact rf_nilck (guard_none rfl) rfl _ rfl _ h40 rfl
  refine ⟨?_, ?_⟩
  · intro a _w _hB _hF hd
    have h41 : a.tmps.getD 41 undef = .pointer (some ⟨b, 0, none⟩) := hd.1 rfl
    exact rf_faddr (guard_none rfl) rfl _ _ _ rfl _ _ 1 _ h41 (by omega) (fun _ _ => by kernel_rfl) rfl
  refine ⟨?_, ?_⟩
  · intro a _w hB _hF hd
    have h42 : a.tmps.getD 42 undef = .pointer (some ⟨b, 1, none⟩) := hd.1 rfl
    exact rf_loadItP (guard_none rfl) rfl _ rfl _ _ h42 v (prtC_item _ _ _ _ _ (S.pb.below hB S.pb.lt)) rfl
  refine ⟨?_, ?_⟩
  · intro _a _w _hB hF _hd
    exact step_move (guard_none rfl) rfl _ rfl ((hF.other 10 rfl).trans S.v10)
  refine ⟨?_, ?_⟩
  · intro a _w _hB _hF hd
    have h44 : a.tmps.getD 44 undef = .pointer (some ⟨b2, 0, none⟩) := hd.1 rfl
    exact rf_nilck (guard_none rfl) rfl _ rfl _ h44 rfl
  refine ⟨?_, ?_⟩
  · intro a _w _hB _hF hd
    have h45 : a.tmps.getD 45 undef = .pointer (some ⟨b2, 0, none⟩) := hd.1 rfl
    exact rf_faddr (guard_none rfl) rfl _ _ _ rfl _ _ 0 _ h45 (by omega) (fun _ _ => by kernel_rfl) rfl
  refine ⟨?_, ?_⟩
  · intro a _w hB _hF hd
    have h46 : a.tmps.getD 46 undef = .pointer (some ⟨b2, 0, none⟩) := hd.1 rfl
    exact rf_load1 (guard_none rfl) rfl _ _ rfl _ _ h46 (run_ldPart ((Has.cell (S.pb2.below hB S.pb2.lt) 0).trans rfl)) rfl
  refine ⟨?_, ?_⟩
  · intro a w hB _hF hd
    have h38 : a.tmps.getD 38 undef = .pointer (some ⟨g, 0, none⟩) := hd.1 rfl
    have h39 : a.tmps.getD 39 undef = .pointer po := hd.2.1 rfl
    have h43 : a.tmps.getD 43 undef = .agg #[.int .i64 v.s, .int .i64 v.t, .int .i64 v.q, .int .i64 v.v] := hd.2.2.1 rfl
    have h47 : a.tmps.getD 47 undef = .pointer p2 := hd.2.2.2.1 rfl
    refine step_call (guard_none rfl) rfl _ _ (rf_call_run Try.func81 (by kernel_rfl) (by kernel_rfl) _ _ rfl) ?_
    simp only [List.map_toArray, List.map_cons, List.map_nil, Act.eval, h38, h39, h43, h47]
    exact (S.c1 w hB).mono (by rintro e w1 ⟨T, rfl, h1, h2, hb⟩; exact ⟨_, rfl, hb, T, rfl, h1, h2⟩)
  refine ⟨?_, ?_⟩
  · intro _a _w _hB hF _hd
    exact step_move (guard_none rfl) rfl _ rfl ((hF.other 10 rfl).trans S.v10)
  refine ⟨?_, ?_⟩
  · intro a _w _hB _hF hd
    have h49 : a.tmps.getD 49 undef = .pointer (some ⟨b2, 0, none⟩) := hd.1 rfl
    exact rf_nilck (guard_none rfl) rfl _ rfl _ h49 rfl
  refine ⟨?_, ?_⟩
  · intro a _w _hB _hF hd
    have h50 : a.tmps.getD 50 undef = .pointer (some ⟨b2, 0, none⟩) := hd.1 rfl
    exact rf_faddr (guard_none rfl) rfl _ _ _ rfl _ _ 1 _ h50 (by omega) (fun _ _ => by kernel_rfl) rfl
  refine ⟨?_, ?_⟩
  · intro a _w hB _hF hd
    have h51 : a.tmps.getD 51 undef = .pointer (some ⟨b2, 1, none⟩) := hd.1 rfl
    exact rf_loadItP (guard_none rfl) rfl _ rfl _ _ h51 v2 (prtC_item _ _ _ _ _ (S.pb2.below hB S.pb2.lt)) rfl
  refine ⟨?_, ?_⟩
  · intro _a _w _hB hF _hd
    exact step_move (guard_none rfl) rfl _ rfl ((hF.other 0 rfl).trans S.v0)
  refine ⟨?_, ?_⟩
  · intro _a _w _hB hF _hd
    exact step_move (guard_none rfl) rfl _ rfl ((hF.other 10 rfl).trans S.v10)
  refine ⟨?_, ?_⟩
  · intro a _w _hB _hF hd
    have h54 : a.tmps.getD 54 undef = .pointer (some ⟨b2, 0, none⟩) := hd.1 rfl
    exact rf_nilck (guard_none rfl) rfl _ rfl _ h54 rfl
  refine ⟨?_, ?_⟩
  · intro a _w _hB _hF hd
    have h55 : a.tmps.getD 55 undef = .pointer (some ⟨b2, 0, none⟩) := hd.1 rfl
    exact rf_faddr (guard_none rfl) rfl _ _ _ rfl _ _ 5 _ h55 (by omega) (fun _ _ => by kernel_rfl) rfl
  refine ⟨?_, ?_⟩
  · intro a _w hB _hF hd
    have h56 : a.tmps.getD 56 undef = .pointer (some ⟨b2, 5, none⟩) := hd.1 rfl
    exact rf_load1 (guard_none rfl) rfl _ _ rfl _ _ h56 (run_ldPart ((Has.cell (S.pb2.below hB S.pb2.lt) 5).trans rfl)) rfl
  refine ⟨?_, ?_⟩
  · intro _a _w hB hF _hd
    exact rf_loadS (guard_none rfl) rfl _ _ rfl _ _ ((hF.other 6 rfl).trans S.v6) _ (rf_range (S.bx.below hB S.bx.lt)) Try.underlying23 rfl (by kernel_rfl) rfl
  refine ⟨?_, ?_⟩
  · intro _a _w _hB hF _hd
    exact step_move (guard_none rfl) rfl _ rfl ((hF.other 3 rfl).trans S.v3)
  refine ⟨?_, ?_⟩
  · intro a w hB _hF hd
    have h53 : a.tmps.getD 53 undef = .pointer (some ⟨g, 0, none⟩) := hd.1 rfl
    have h57 : a.tmps.getD 57 undef = .pointer q2 := hd.2.1 rfl
    have h58 : a.tmps.getD 58 undef = .agg #[.int .i64 x.s, .int .i64 x.t, .int .i64 x.q, .int .i64 x.v] := hd.2.2.1 rfl
    have h59 : a.tmps.getD 59 undef = .pointer pl := hd.2.2.2.1 rfl
    refine step_call (guard_none rfl) rfl _ _ (rf_call_run Try.func81 (by kernel_rfl) (by kernel_rfl) _ _ rfl) ?_
    simp only [List.map_toArray, List.map_cons, List.map_nil, Act.eval, h53, h57, h58, h59]
    exact (S.c2 w hB).mono (by rintro e w1 ⟨T, rfl, h1, h2, hb⟩; exact ⟨_, rfl, hb, T, rfl, h1, h2⟩)
  refine ⟨?_, ?_⟩
  · intro a w hB _hF hd
    have h37 : a.tmps.getD 37 undef = .pointer (some ⟨g, 0, none⟩) := hd.1 rfl
    obtain ⟨T48, h48, p48⟩ : trV bs P R1 (a.tmps.getD 48 undef) w := hd.2.1 rfl
    have h52 : a.tmps.getD 52 undef = .agg #[.int .i64 v2.s, .int .i64 v2.t, .int .i64 v2.q, .int .i64 v2.v] := hd.2.2.1 rfl
    obtain ⟨T60, h60, p60⟩ : trV bs P R2 (a.tmps.getD 60 undef) w := hd.2.2.2.1 rfl
    refine step_call (guard_none rfl) rfl _ _ (rf_call_run Try.func81 (by kernel_rfl) (by kernel_rfl) _ _ rfl) ?_
    simp only [List.map_toArray, List.map_cons, List.map_nil, Act.eval, h37, h48, h52, h60]
    exact (S.c3 w T48 T60 hB p48.1 p48.2 p60.1 p60.2).mono (by rintro e w1 ⟨T, rfl, h1, h2, hb⟩; exact ⟨_, rfl, hb, T, rfl, h1, h2⟩)
  refine ⟨?_, ?_⟩
  · intro a w _hB _hF hd
    obtain ⟨T61, h61, p61⟩ : trV bs P R3 (a.tmps.getD 61 undef) w := hd.1 rfl
    exact step_assign (guard_none rfl) rfl _ rfl ⟨T61, h61, p61⟩
  trivial
theorem tub_any {Q : Exit → Act → World → Prop} {l : List Oper} (hl : opsOf 4 Try.f95 = l) (hend : ∀ (T48 : Tr), ∀ (T60 : Tr), ∀ (T61 : Tr), ∀ (T8 : Tr), ∀ w : World, Below w0.heap.size w0 w → (T48.At bs P w ∧ T48.row = R1) → (T60.At bs P w ∧ T60.row = R2) → (T61.At bs P w ∧ T61.row = R3) → (T8.At bs P w ∧ T8.row = R3) → Q .normal (putAll a0 [(37, .pointer (some ⟨g, 0, none⟩)), (38, .pointer (some ⟨g, 0, none⟩)), (39, .pointer po), (40, .pointer (some ⟨b, 0, none⟩)), (41, .pointer (some ⟨b, 0, none⟩)), (42, .pointer (some ⟨b, 1, none⟩)), (43, .agg #[.int .i64 v.s, .int .i64 v.t, .int .i64 v.q, .int .i64 v.v]), (44, .pointer (some ⟨b2, 0, none⟩)), (45, .pointer (some ⟨b2, 0, none⟩)), (46, .pointer (some ⟨b2, 0, none⟩)), (47, .pointer p2), (48, .pointer T48.ptr), (49, .pointer (some ⟨b2, 0, none⟩)), (50, .pointer (some ⟨b2, 0, none⟩)), (51, .pointer (some ⟨b2, 1, none⟩)), (52, .agg #[.int .i64 v2.s, .int .i64 v2.t, .int .i64 v2.q, .int .i64 v2.v]), (53, .pointer (some ⟨g, 0, none⟩)), (54, .pointer (some ⟨b2, 0, none⟩)), (55, .pointer (some ⟨b2, 0, none⟩)), (56, .pointer (some ⟨b2, 5, none⟩)), (57, .pointer q2), (58, .agg #[.int .i64 x.s, .int .i64 x.t, .int .i64 x.q, .int .i64 x.v]), (59, .pointer pl), (60, .pointer T60.ptr), (61, .pointer T61.ptr), (8, .pointer T8.ptr)]) w) :
    (Code.region 4 l.toArray true).wp Try.prog Q a0 w0 := by
  subst hl
  refine region_facts2 (tubF g y b b2 z x v v2 av a2 hk h2 p q p2 q2 bs P R1 R2 R3 pl po) tubD 62 S.size rfl (by kernel_rfl) (by kernel_rfl) (tubF_mono _ _ _ _ _ _ _ _ _ _ _ _ _ _ _ _ _ _ _ _ _ _ _) (tub_ok S) fun a w hB hF h => ?_
  obtain ⟨T48, h48, p48⟩ : trV bs P R1 (a.tmps.getD 48 undef) w := h 11 (some 48) rfl
  obtain ⟨T60, h60, p60⟩ : trV bs P R2 (a.tmps.getD 60 undef) w := h 23 (some 60) rfl
  obtain ⟨T61, h61, p61⟩ : trV bs P R3 (a.tmps.getD 61 undef) w := h 24 (some 61) rfl
  obtain ⟨T8, h8, p8⟩ : trV bs P R3 (a.tmps.getD 8 undef) w := h 25 (some 8) rfl
  have hv : valsAre a [(37, .pointer (some ⟨g, 0, none⟩)), (38, .pointer (some ⟨g, 0, none⟩)), (39, .pointer po), (40, .pointer (some ⟨b, 0, none⟩)), (41, .pointer (some ⟨b, 0, none⟩)), (42, .pointer (some ⟨b, 1, none⟩)), (43, .agg #[.int .i64 v.s, .int .i64 v.t, .int .i64 v.q, .int .i64 v.v]), (44, .pointer (some ⟨b2, 0, none⟩)), (45, .pointer (some ⟨b2, 0, none⟩)), (46, .pointer (some ⟨b2, 0, none⟩)), (47, .pointer p2), (48, .pointer T48.ptr), (49, .pointer (some ⟨b2, 0, none⟩)), (50, .pointer (some ⟨b2, 0, none⟩)), (51, .pointer (some ⟨b2, 1, none⟩)), (52, .agg #[.int .i64 v2.s, .int .i64 v2.t, .int .i64 v2.q, .int .i64 v2.v]), (53, .pointer (some ⟨g, 0, none⟩)), (54, .pointer (some ⟨b2, 0, none⟩)), (55, .pointer (some ⟨b2, 0, none⟩)), (56, .pointer (some ⟨b2, 5, none⟩)), (57, .pointer q2), (58, .agg #[.int .i64 x.s, .int .i64 x.t, .int .i64 x.q, .int .i64 x.v]), (59, .pointer pl), (60, .pointer T60.ptr), (61, .pointer T61.ptr), (8, .pointer T8.ptr)] := by
    refine ⟨?_, ?_, ?_, ?_, ?_, ?_, ?_, ?_, ?_, ?_, ?_, ?_, ?_, ?_, ?_, ?_, ?_, ?_, ?_, ?_, ?_, ?_, ?_, ?_, ?_, ?_, trivial⟩
    · exact h 0 (some 37) rfl
    · exact h 1 (some 38) rfl
    · exact h 2 (some 39) rfl
    · exact h 3 (some 40) rfl
    · exact h 4 (some 41) rfl
    · exact h 5 (some 42) rfl
    · exact h 6 (some 43) rfl
    · exact h 7 (some 44) rfl
    · exact h 8 (some 45) rfl
    · exact h 9 (some 46) rfl
    · exact h 10 (some 47) rfl
    · exact h48
    · exact h 12 (some 49) rfl
    · exact h 13 (some 50) rfl
    · exact h 14 (some 51) rfl
    · exact h 15 (some 52) rfl
    · exact h 16 (some 53) rfl
    · exact h 17 (some 54) rfl
    · exact h 18 (some 55) rfl
    · exact h 19 (some 56) rfl
    · exact h 20 (some 57) rfl
    · exact h 21 (some 58) rfl
    · exact h 22 (some 59) rfl
    · exact h60
    · exact h61
    · exact h8
  rw [frame_is hF _ hv (by rfl) (by rfl)]
  exact hend T48 T60 T61 T8 w hB p48 p60 p61 p8
end

def tlkD : List (Option Tmp) := [some 18, some 19, some 20, some 21, some 22, some 23, some 24, some 25, some 26, some 27, some 28, some 29, some 30, some 31, some 32, some 33, some 34, some 35, some 8]
def tlkF (g _y b _z : Nat) (x v : It) (_av : Ac) (_hk : Nat) (p q : Option Addr) (bs : List Int) (P : Nat → Prop) (R1 R2 : List It) (pl : Option Addr) : List Fact := [isV (.pointer (some ⟨g, 0, none⟩)), isV (.pointer (some ⟨g, 0, none⟩)), isV (.pointer pl), isV (.agg #[.int .i64 x.s, .int .i64 x.t, .int .i64 x.q, .int .i64 x.v]), isV (.pointer (some ⟨b, 0, none⟩)), isV (.pointer (some ⟨b, 0, none⟩)), isV (.pointer (some ⟨b, 0, none⟩)), isV (.pointer p), trV bs P R1, isV (.pointer (some ⟨b, 0, none⟩)), isV (.pointer (some ⟨b, 0, none⟩)), isV (.pointer (some ⟨b, 1, none⟩)), isV (.agg #[.int .i64 v.s, .int .i64 v.t, .int .i64 v.q, .int .i64 v.v]), isV (.pointer (some ⟨b, 0, none⟩)), isV (.pointer (some ⟨b, 0, none⟩)), isV (.pointer (some ⟨b, 5, none⟩)), isV (.pointer q), trV bs P R2, trV bs P R2]
theorem tlkF_mono (g y b z : Nat) (x v : It) (av : Ac) (hk : Nat) (p q : Option Addr) (bs : List Int) (P : Nat → Prop) (R1 R2 : List It) (pl : Option Addr) : ∀ φ ∈ tlkF g y b z x v av hk p q bs P R1 R2 pl, Mono φ := by
  unfold tlkF
  refine monos_cons (mono_isV _) ?_
  refine monos_cons (mono_isV _) ?_
  refine monos_cons (mono_isV _) ?_
  refine monos_cons (mono_isV _) ?_
  refine monos_cons (mono_isV _) ?_
  refine monos_cons (mono_isV _) ?_
  refine monos_cons (mono_isV _) ?_
  refine monos_cons (mono_isV _) ?_
  refine monos_cons (trV_mono _ _ _) ?_
  refine monos_cons (mono_isV _) ?_
  refine monos_cons (mono_isV _) ?_
  refine monos_cons (mono_isV _) ?_
  refine monos_cons (mono_isV _) ?_
  refine monos_cons (mono_isV _) ?_
  refine monos_cons (mono_isV _) ?_
  refine monos_cons (mono_isV _) ?_
  refine monos_cons (mono_isV _) ?_
  refine monos_cons (trV_mono _ _ _) ?_
  refine monos_cons (trV_mono _ _ _) ?_
  exact monos_nil
structure tlkS (g y b z : Nat) (x v : It) (av : Ac) (hk : Nat) (p q : Option Addr) (bs : List Int) (P : Nat → Prop) (R1 R2 : List It) (pl : Option Addr) (a0 : Act) (w0 : World) : Prop where
  size : a0.tmps.size = 36
  v0 : a0.tmps.getD 0 undef = .pointer (some ⟨g, 0, none⟩)
  v1 : a0.tmps.getD 1 undef = .pointer pl
  v3 : a0.tmps.getD 3 undef = .pointer (some ⟨b, 0, none⟩)
  v6 : a0.tmps.getD 6 undef = .pointer (some ⟨y, 0, none⟩)
  bx : Has w0 y 23 #[.int .i64 x.s, .int .i64 x.t, .int .i64 x.q, .int .i64 x.v]
  pb : Has w0 b 110 (prtC p v q av hk)
  c1 : ∀ w, Below w0.heap.size w0 w → Calls Try.prog 85 #[.pointer (some ⟨g, 0, none⟩), .pointer pl, .agg #[.int .i64 x.s, .int .i64 x.t, .int .i64 x.q, .int .i64 x.v], .pointer p] w (TrO bs P R1 w)
  c2 : ∀ (w : World) (T : Tr), Below w0.heap.size w0 w → T.At bs P w → T.row = R1 → Calls Try.prog 82 #[.pointer (some ⟨g, 0, none⟩), .pointer T.ptr, .agg #[.int .i64 v.s, .int .i64 v.t, .int .i64 v.q, .int .i64 v.v], .pointer q] w (TrO bs P R2 w)
section
variable {g y b z : Nat} {x v : It} {av : Ac} {hk : Nat} {p q : Option Addr} {bs : List Int} {P : Nat → Prop} {R1 R2 : List It} {pl : Option Addr} {a0 : Act} {w0 : World} (S : tlkS g y b z x v av hk p q bs P R1 R2 pl a0 w0)
include S
set_option maxRecDepth 100000 in
set_option maxHeartbeats 8000000 in
theorem tlk_ok : AllOps (fun j o => ∀ (a : Act) (w : World), Below w0.heap.size w0 w → FrD tlkD a0 a → needs tlkD (tlkF g y b z x v av hk p q bs P R1 R2 pl) a w o.after.toList → StepD Try.prog tlkD (factAt (tlkF g y b z x v av hk p q bs P R1 R2 pl) j) o a w) 0 (opsOf 3 Try.f85) := by
  simp only [opsOf, Try.f85, opsAt, Option.bind, Option.or, Option.getD, reduceCtorEq, if_true, if_false, Nat.reduceEqDiff]
  refine ⟨?_, ?_⟩
  · intro _a _w _hB hF _hd
    exact step_move (guard_none rfl) rfl _ rfl ((hF.other 0 rfl).trans S.v0)
  refine ⟨?_, ?_⟩
  · intro _a _w _hB hF _hd
    exact step_move (guard_none rfl) rfl _ rfl ((hF.other 0 rfl).trans S.v0)
  refine ⟨?_, ?_⟩
  · intro _a _w _hB hF _hd
    exact step_move (guard_none rfl) rfl _ rfl ((hF.other 1 rfl).trans S.v1)
  refine ⟨?_, ?_⟩
  · intro _a _w hB hF _hd
    exact rf_loadS (guard_none rfl) rfl _ _ rfl _ _ ((hF.other 6 rfl).trans S.v6) _ (rf_range (S.bx.below hB S.bx.lt)) Try.underlying23 rfl (by kernel_rfl) rfl
  refine ⟨?_, ?_⟩
  · intro _a _w _hB hF _hd
    exact step_move (guard_none rfl) rfl _ rfl ((hF.other 3 rfl).trans S.v3)
  refine ⟨?_, ?_⟩
  · intro a _w _hB _hF hd
    have h22 : a.tmps.getD 22 undef = .pointer (some ⟨b, 0, none⟩) := hd.1 rfl
    exact rf_nilck (guard_none rfl) rfl _ rfl _ h22 rfl
  refine ⟨?_, ?_⟩
  · intro a _w _hB _hF hd
    have h23 : a.tmps.getD 23 undef = .pointer (some ⟨b, 0, none⟩) := hd.1 rfl
    exact rf_faddr (guard_none rfl) rfl _ _ _ rfl _ _ 0 _ h23 (by omega) (fun _ _ => by kernel_rfl) rfl
  refine ⟨?_, ?_⟩
  · intro a _w hB _hF hd
    have h24 : a.tmps.getD 24 undef = .pointer (some ⟨b, 0, none⟩) := hd.1 rfl
    exact rf_load1 (guard_none rfl) rfl _ _ rfl _ _ h24 (run_ldPart ((Has.cell (S.pb.below hB S.pb.lt) 0).trans rfl)) rfl
  refine ⟨?_, ?_⟩
  · intro a w hB _hF hd
    have h19 : a.tmps.getD 19 undef = .pointer (some ⟨g, 0, none⟩) := hd.1 rfl
    have h20 : a.tmps.getD 20 undef = .pointer pl := hd.2.1 rfl
    have h21 : a.tmps.getD 21 undef = .agg #[.int .i64 x.s, .int .i64 x.t, .int .i64 x.q, .int .i64 x.v] := hd.2.2.1 rfl
    have h25 : a.tmps.getD 25 undef = .pointer p := hd.2.2.2.1 rfl
    refine step_call (guard_none rfl) rfl _ _ (rf_call_run Try.func85 (by kernel_rfl) (by kernel_rfl) _ _ rfl) ?_
    simp only [List.map_toArray, List.map_cons, List.map_nil, Act.eval, h19, h20, h21, h25]
    exact (S.c1 w hB).mono (by rintro e w1 ⟨T, rfl, h1, h2, hb⟩; exact ⟨_, rfl, hb, T, rfl, h1, h2⟩)
  refine ⟨?_, ?_⟩
  · intro _a _w _hB hF _hd
    exact step_move (guard_none rfl) rfl _ rfl ((hF.other 3 rfl).trans S.v3)
  refine ⟨?_, ?_⟩
  · intro a _w _hB _hF hd
    have h27 : a.tmps.getD 27 undef = .pointer (some ⟨b, 0, none⟩) := hd.1 rfl
    exact rf_nilck (guard_none rfl) rfl _ rfl _ h27 rfl
  refine ⟨?_, ?_⟩
  · intro a _w _hB _hF hd
    have h28 : a.tmps.getD 28 undef = .pointer (some ⟨b, 0, none⟩) := hd.1 rfl
    exact rf_faddr (guard_none rfl) rfl _ _ _ rfl _ _ 1 _ h28 (by omega) (fun _ _ => by kernel_rfl) rfl
  refine ⟨?_, ?_⟩
  · intro a _w hB _hF hd
    have h29 : a.tmps.getD 29 undef = .pointer (some ⟨b, 1, none⟩) := hd.1 rfl
    exact rf_loadItP (guard_none rfl) rfl _ rfl _ _ h29 v (prtC_item _ _ _ _ _ (S.pb.below hB S.pb.lt)) rfl
  refine ⟨?_, ?_⟩
  · intro _a _w _hB hF _hd
    exact step_move (guard_none rfl) rfl _ rfl ((hF.other 3 rfl).trans S.v3)
  refine ⟨?_, ?_⟩
  · intro a _w _hB _hF hd
    have h31 : a.tmps.getD 31 undef = .pointer (some ⟨b, 0, none⟩) := hd.1 rfl
    exact rf_nilck (guard_none rfl) rfl _ rfl _ h31 rfl
  refine ⟨?_, ?_⟩
  · intro a _w _hB _hF hd
    have h32 : a.tmps.getD 32 undef = .pointer (some ⟨b, 0, none⟩) := hd.1 rfl
    exact rf_faddr (guard_none rfl) rfl _ _ _ rfl _ _ 5 _ h32 (by omega) (fun _ _ => by kernel_rfl) rfl
  refine ⟨?_, ?_⟩
  · intro a _w hB _hF hd
    have h33 : a.tmps.getD 33 undef = .pointer (some ⟨b, 5, none⟩) := hd.1 rfl
    exact rf_load1 (guard_none rfl) rfl _ _ rfl _ _ h33 (run_ldPart ((Has.cell (S.pb.below hB S.pb.lt) 5).trans rfl)) rfl
  refine ⟨?_, ?_⟩
  · intro a w hB _hF hd
    have h18 : a.tmps.getD 18 undef = .pointer (some ⟨g, 0, none⟩) := hd.1 rfl
    obtain ⟨T26, h26, p26⟩ : trV bs P R1 (a.tmps.getD 26 undef) w := hd.2.1 rfl
    have h30 : a.tmps.getD 30 undef = .agg #[.int .i64 v.s, .int .i64 v.t, .int .i64 v.q, .int .i64 v.v] := hd.2.2.1 rfl
    have h34 : a.tmps.getD 34 undef = .pointer q := hd.2.2.2.1 rfl
    refine step_call (guard_none rfl) rfl _ _ (rf_call_run Try.func82 (by kernel_rfl) (by kernel_rfl) _ _ rfl) ?_
    simp only [List.map_toArray, List.map_cons, List.map_nil, Act.eval, h18, h26, h30, h34]
    exact (S.c2 w T26 hB p26.1 p26.2).mono (by rintro e w1 ⟨T, rfl, h1, h2, hb⟩; exact ⟨_, rfl, hb, T, rfl, h1, h2⟩)
  refine ⟨?_, ?_⟩
  · intro a w _hB _hF hd
    obtain ⟨T35, h35, p35⟩ : trV bs P R2 (a.tmps.getD 35 undef) w := hd.1 rfl
    exact step_assign (guard_none rfl) rfl _ rfl ⟨T35, h35, p35⟩
  trivial
theorem tlk_any {Q : Exit → Act → World → Prop} {l : List Oper} (hl : opsOf 3 Try.f85 = l) (hend : ∀ (T26 : Tr), ∀ (T35 : Tr), ∀ (T8 : Tr), ∀ w : World, Below w0.heap.size w0 w → (T26.At bs P w ∧ T26.row = R1) → (T35.At bs P w ∧ T35.row = R2) → (T8.At bs P w ∧ T8.row = R2) → Q .normal (putAll a0 [(18, .pointer (some ⟨g, 0, none⟩)), (19, .pointer (some ⟨g, 0, none⟩)), (20, .pointer pl), (21, .agg #[.int .i64 x.s, .int .i64 x.t, .int .i64 x.q, .int .i64 x.v]), (22, .pointer (some ⟨b, 0, none⟩)), (23, .pointer (some ⟨b, 0, none⟩)), (24, .pointer (some ⟨b, 0, none⟩)), (25, .pointer p), (26, .pointer T26.ptr), (27, .pointer (some ⟨b, 0, none⟩)), (28, .pointer (some ⟨b, 0, none⟩)), (29, .pointer (some ⟨b, 1, none⟩)), (30, .agg #[.int .i64 v.s, .int .i64 v.t, .int .i64 v.q, .int .i64 v.v]), (31, .pointer (some ⟨b, 0, none⟩)), (32, .pointer (some ⟨b, 0, none⟩)), (33, .pointer (some ⟨b, 5, none⟩)), (34, .pointer q), (35, .pointer T35.ptr), (8, .pointer T8.ptr)]) w) :
    (Code.region 3 l.toArray true).wp Try.prog Q a0 w0 := by
  subst hl
  refine region_facts2 (tlkF g y b z x v av hk p q bs P R1 R2 pl) tlkD 36 S.size rfl (by kernel_rfl) (by kernel_rfl) (tlkF_mono _ _ _ _ _ _ _ _ _ _ _ _ _ _ _) (tlk_ok S) fun a w hB hF h => ?_
  obtain ⟨T26, h26, p26⟩ : trV bs P R1 (a.tmps.getD 26 undef) w := h 8 (some 26) rfl
  obtain ⟨T35, h35, p35⟩ : trV bs P R2 (a.tmps.getD 35 undef) w := h 17 (some 35) rfl
  obtain ⟨T8, h8, p8⟩ : trV bs P R2 (a.tmps.getD 8 undef) w := h 18 (some 8) rfl
  have hv : valsAre a [(18, .pointer (some ⟨g, 0, none⟩)), (19, .pointer (some ⟨g, 0, none⟩)), (20, .pointer pl), (21, .agg #[.int .i64 x.s, .int .i64 x.t, .int .i64 x.q, .int .i64 x.v]), (22, .pointer (some ⟨b, 0, none⟩)), (23, .pointer (some ⟨b, 0, none⟩)), (24, .pointer (some ⟨b, 0, none⟩)), (25, .pointer p), (26, .pointer T26.ptr), (27, .pointer (some ⟨b, 0, none⟩)), (28, .pointer (some ⟨b, 0, none⟩)), (29, .pointer (some ⟨b, 1, none⟩)), (30, .agg #[.int .i64 v.s, .int .i64 v.t, .int .i64 v.q, .int .i64 v.v]), (31, .pointer (some ⟨b, 0, none⟩)), (32, .pointer (some ⟨b, 0, none⟩)), (33, .pointer (some ⟨b, 5, none⟩)), (34, .pointer q), (35, .pointer T35.ptr), (8, .pointer T8.ptr)] := by
    refine ⟨?_, ?_, ?_, ?_, ?_, ?_, ?_, ?_, ?_, ?_, ?_, ?_, ?_, ?_, ?_, ?_, ?_, ?_, ?_, trivial⟩
    · exact h 0 (some 18) rfl
    · exact h 1 (some 19) rfl
    · exact h 2 (some 20) rfl
    · exact h 3 (some 21) rfl
    · exact h 4 (some 22) rfl
    · exact h 5 (some 23) rfl
    · exact h 6 (some 24) rfl
    · exact h 7 (some 25) rfl
    · exact h26
    · exact h 9 (some 27) rfl
    · exact h 10 (some 28) rfl
    · exact h 11 (some 29) rfl
    · exact h 12 (some 30) rfl
    · exact h 13 (some 31) rfl
    · exact h 14 (some 32) rfl
    · exact h 15 (some 33) rfl
    · exact h 16 (some 34) rfl
    · exact h35
    · exact h8
  rw [frame_is hF _ hv (by rfl) (by rfl)]
  exact hend T26 T35 T8 w hB p26 p35 p8
end

def tn4D : List (Option Tmp) := [some 19, some 20, some 21, some 22, some 23, some 24, some 25, some 26, some 27, some 28, some 29, some 30, some 31, some 32, some 33, some 34, some 35, some 6]
def tn4F (g _y b _z : Nat) (x v : It) (_av : Ac) (_hk : Nat) (p q : Option Addr) (bs : List Int) (P : Nat → Prop) (R1 R2 : List It) : List Fact := [isV (.pointer (some ⟨g, 0, none⟩)), isV (.pointer (some ⟨g, 0, none⟩)), isV (.pointer (some ⟨b, 0, none⟩)), isV (.pointer (some ⟨b, 0, none⟩)), isV (.pointer (some ⟨b, 0, none⟩)), isV (.pointer p), isV (.agg #[.int .i64 x.s, .int .i64 x.t, .int .i64 x.q, .int .i64 x.v]), trV bs P R1, isV (.pointer (some ⟨b, 0, none⟩)), isV (.pointer (some ⟨b, 0, none⟩)), isV (.pointer (some ⟨b, 1, none⟩)), isV (.agg #[.int .i64 v.s, .int .i64 v.t, .int .i64 v.q, .int .i64 v.v]), isV (.pointer (some ⟨b, 0, none⟩)), isV (.pointer (some ⟨b, 0, none⟩)), isV (.pointer (some ⟨b, 5, none⟩)), isV (.pointer q), trV bs P R2, trV bs P R2]
theorem tn4F_mono (g y b z : Nat) (x v : It) (av : Ac) (hk : Nat) (p q : Option Addr) (bs : List Int) (P : Nat → Prop) (R1 R2 : List It) : ∀ φ ∈ tn4F g y b z x v av hk p q bs P R1 R2, Mono φ := by
  unfold tn4F
  refine monos_cons (mono_isV _) ?_
  refine monos_cons (mono_isV _) ?_
  refine monos_cons (mono_isV _) ?_
  refine monos_cons (mono_isV _) ?_
  refine monos_cons (mono_isV _) ?_
  refine monos_cons (mono_isV _) ?_
  refine monos_cons (mono_isV _) ?_
  refine monos_cons (trV_mono _ _ _) ?_
  refine monos_cons (mono_isV _) ?_
  refine monos_cons (mono_isV _) ?_
  refine monos_cons (mono_isV _) ?_
  refine monos_cons (mono_isV _) ?_
  refine monos_cons (mono_isV _) ?_
  refine monos_cons (mono_isV _) ?_
  refine monos_cons (mono_isV _) ?_
  refine monos_cons (mono_isV _) ?_
  refine monos_cons (trV_mono _ _ _) ?_
  refine monos_cons (trV_mono _ _ _) ?_
  exact monos_nil
structure tn4S (g y b z : Nat) (x v : It) (av : Ac) (hk : Nat) (p q : Option Addr) (bs : List Int) (P : Nat → Prop) (R1 R2 : List It) (a0 : Act) (w0 : World) : Prop where
  size : a0.tmps.size = 53
  v0 : a0.tmps.getD 0 undef = .pointer (some ⟨g, 0, none⟩)
  v1 : a0.tmps.getD 1 undef = .pointer (some ⟨b, 0, none⟩)
  v5 : a0.tmps.getD 5 undef = .pointer (some ⟨y, 0, none⟩)
  bx : Has w0 y 23 #[.int .i64 x.s, .int .i64 x.t, .int .i64 x.q, .int .i64 x.v]
  pb : Has w0 b 110 (prtC p v q av hk)
  c1 : ∀ w, Below w0.heap.size w0 w → Calls Try.prog 61 #[.pointer (some ⟨g, 0, none⟩), .pointer p, .agg #[.int .i64 x.s, .int .i64 x.t, .int .i64 x.q, .int .i64 x.v]] w (TrO bs P R1 w)
  c2 : ∀ (w : World) (T : Tr), Below w0.heap.size w0 w → T.At bs P w → T.row = R1 → Calls Try.prog 82 #[.pointer (some ⟨g, 0, none⟩), .pointer T.ptr, .agg #[.int .i64 v.s, .int .i64 v.t, .int .i64 v.q, .int .i64 v.v], .pointer q] w (TrO bs P R2 w)
section
variable {g y b z : Nat} {x v : It} {av : Ac} {hk : Nat} {p q : Option Addr} {bs : List Int} {P : Nat → Prop} {R1 R2 : List It} {a0 : Act} {w0 : World} (S : tn4S g y b z x v av hk p q bs P R1 R2 a0 w0)
include S
set_option maxRecDepth 100000 in
set_option maxHeartbeats 8000000 in
theorem tn4_ok : AllOps (fun j o => ∀ (a : Act) (w : World), Below w0.heap.size w0 w → FrD tn4D a0 a → needs tn4D (tn4F g y b z x v av hk p q bs P R1 R2) a w o.after.toList → StepD Try.prog tn4D (factAt (tn4F g y b z x v av hk p q bs P R1 R2) j) o a w) 0 (opsOf 4 Try.f61) := by
  simp only [opsOf, Try.f61, opsAt, Option.bind, Option.or, Option.getD, reduceCtorEq, if_true, if_false, Nat.reduceEqDiff]
  refine ⟨?_, ?_⟩
  · intro _a _w _hB hF _hd
    exact step_move (guard_none rfl) rfl _ rfl ((hF.other 0 rfl).trans S.v0)
  refine ⟨?_, ?_⟩
  · intro _a _w _hB hF _hd
    exact step_move (guard_none rfl) rfl _ rfl ((hF.other 0 rfl).trans S.v0)
  refine ⟨?_, ?_⟩
  · intro _a _w _hB hF _hd
    exact step_move (guard_none rfl) rfl _ rfl ((hF.other 1 rfl).trans S.v1)
  refine ⟨?_, ?_⟩
  · intro a _w _hB _hF hd
    have h21 : a.tmps.getD 21 undef = .pointer (some ⟨b, 0, none⟩) := hd.1 rfl
    exact rf_nilck (guard_none rfl) rfl _ rfl _ h21 rfl
  refine ⟨?_, ?_⟩
  · intro a _w _hB _hF hd
    have h22 : a.tmps.getD 22 undef = .pointer (some ⟨b, 0, none⟩) := hd.1 rfl
    exact rf_faddr (guard_none rfl) rfl _ _ _ rfl _ _ 0 _ h22 (by omega) (fun _ _ => by kernel_rfl) rfl
  refine ⟨?_, ?_⟩
  · intro a _w hB _hF hd
    have h23 : a.tmps.getD 23 undef = .pointer (some ⟨b, 0, none⟩) := hd.1 rfl
    exact rf_load1 (guard_none rfl) rfl _ _ rfl _ _ h23 (run_ldPart ((Has.cell (S.pb.below hB S.pb.lt) 0).trans rfl)) rfl
  refine ⟨?_, ?_⟩
  · intro _a _w hB hF _hd
    exact rf_loadS (guard_none rfl) rfl _ _ rfl _ _ ((hF.other 5 rfl).trans S.v5) _ (rf_range (S.bx.below hB S.bx.lt)) Try.underlying23 rfl (by kernel_rfl) rfl
  refine ⟨?_, ?_⟩
  · intro a w hB _hF hd
    have h20 : a.tmps.getD 20 undef = .pointer (some ⟨g, 0, none⟩) := hd.1 rfl
    have h24 : a.tmps.getD 24 undef = .pointer p := hd.2.1 rfl
    have h25 : a.tmps.getD 25 undef = .agg #[.int .i64 x.s, .int .i64 x.t, .int .i64 x.q, .int .i64 x.v] := hd.2.2.1 rfl
    refine step_call (guard_none rfl) rfl _ _ (rf_call_run Try.func61 (by kernel_rfl) (by kernel_rfl) _ _ rfl) ?_
    simp only [List.map_toArray, List.map_cons, List.map_nil, Act.eval, h20, h24, h25]
    exact (S.c1 w hB).mono (by rintro e w1 ⟨T, rfl, h1, h2, hb⟩; exact ⟨_, rfl, hb, T, rfl, h1, h2⟩)
  refine ⟨?_, ?_⟩
  · intro _a _w _hB hF _hd
    exact step_move (guard_none rfl) rfl _ rfl ((hF.other 1 rfl).trans S.v1)
  refine ⟨?_, ?_⟩
  · intro a _w _hB _hF hd
    have h27 : a.tmps.getD 27 undef = .pointer (some ⟨b, 0, none⟩) := hd.1 rfl
    exact rf_nilck (guard_none rfl) rfl _ rfl _ h27 rfl
  refine ⟨?_, ?_⟩
  · intro a _w _hB _hF hd
    have h28 : a.tmps.getD 28 undef = .pointer (some ⟨b, 0, none⟩) := hd.1 rfl
    exact rf_faddr (guard_none rfl) rfl _ _ _ rfl _ _ 1 _ h28 (by omega) (fun _ _ => by kernel_rfl) rfl
  refine ⟨?_, ?_⟩
  · intro a _w hB _hF hd
    have h29 : a.tmps.getD 29 undef = .pointer (some ⟨b, 1, none⟩) := hd.1 rfl
    exact rf_loadItP (guard_none rfl) rfl _ rfl _ _ h29 v (prtC_item _ _ _ _ _ (S.pb.below hB S.pb.lt)) rfl
  refine ⟨?_, ?_⟩
  · intro _a _w _hB hF _hd
    exact step_move (guard_none rfl) rfl _ rfl ((hF.other 1 rfl).trans S.v1)
  refine ⟨?_, ?_⟩
  · intro a _w _hB _hF hd
    have h31 : a.tmps.getD 31 undef = .pointer (some ⟨b, 0, none⟩) := hd.1 rfl
    exact rf_nilck (guard_none rfl) rfl _ rfl _ h31 rfl
  refine ⟨?_, ?_⟩
  · intro a _w _hB _hF hd
    have h32 : a.tmps.getD 32 undef = .pointer (some ⟨b, 0, none⟩) := hd.1 rfl
    exact rf_faddr (guard_none rfl) rfl _ _ _ rfl _ _ 5 _ h32 (by omega) (fun _ _ => by kernel_rfl) rfl
  refine ⟨?_, ?_⟩
  · intro a _w hB _hF hd
    have h33 : a.tmps.getD 33 undef = .pointer (some ⟨b, 5, none⟩) := hd.1 rfl
    exact rf_load1 (guard_none rfl) rfl _ _ rfl _ _ h33 (run_ldPart ((Has.cell (S.pb.below hB S.pb.lt) 5).trans rfl)) rfl
  refine ⟨?_, ?_⟩
  · intro a w hB _hF hd
    have h19 : a.tmps.getD 19 undef = .pointer (some ⟨g, 0, none⟩) := hd.1 rfl
    obtain ⟨T26, h26, p26⟩ : trV bs P R1 (a.tmps.getD 26 undef) w := hd.2.1 rfl
    have h30 : a.tmps.getD 30 undef = .agg #[.int .i64 v.s, .int .i64 v.t, .int .i64 v.q, .int .i64 v.v] := hd.2.2.1 rfl
    have h34 : a.tmps.getD 34 undef = .pointer q := hd.2.2.2.1 rfl
    refine step_call (guard_none rfl) rfl _ _ (rf_call_run Try.func82 (by kernel_rfl) (by kernel_rfl) _ _ rfl) ?_
    simp only [List.map_toArray, List.map_cons, List.map_nil, Act.eval, h19, h26, h30, h34]
    exact (S.c2 w T26 hB p26.1 p26.2).mono (by rintro e w1 ⟨T, rfl, h1, h2, hb⟩; exact ⟨_, rfl, hb, T, rfl, h1, h2⟩)
  refine ⟨?_, ?_⟩
  · intro a w _hB _hF hd
    obtain ⟨T35, h35, p35⟩ : trV bs P R2 (a.tmps.getD 35 undef) w := hd.1 rfl
    exact step_assign (guard_none rfl) rfl _ rfl ⟨T35, h35, p35⟩
  trivial
theorem tn4_any {Q : Exit → Act → World → Prop} {l : List Oper} (hl : opsOf 4 Try.f61 = l) (hend : ∀ (T26 : Tr), ∀ (T35 : Tr), ∀ (T6 : Tr), ∀ w : World, Below w0.heap.size w0 w → (T26.At bs P w ∧ T26.row = R1) → (T35.At bs P w ∧ T35.row = R2) → (T6.At bs P w ∧ T6.row = R2) → Q .normal (putAll a0 [(19, .pointer (some ⟨g, 0, none⟩)), (20, .pointer (some ⟨g, 0, none⟩)), (21, .pointer (some ⟨b, 0, none⟩)), (22, .pointer (some ⟨b, 0, none⟩)), (23, .pointer (some ⟨b, 0, none⟩)), (24, .pointer p), (25, .agg #[.int .i64 x.s, .int .i64 x.t, .int .i64 x.q, .int .i64 x.v]), (26, .pointer T26.ptr), (27, .pointer (some ⟨b, 0, none⟩)), (28, .pointer (some ⟨b, 0, none⟩)), (29, .pointer (some ⟨b, 1, none⟩)), (30, .agg #[.int .i64 v.s, .int .i64 v.t, .int .i64 v.q, .int .i64 v.v]), (31, .pointer (some ⟨b, 0, none⟩)), (32, .pointer (some ⟨b, 0, none⟩)), (33, .pointer (some ⟨b, 5, none⟩)), (34, .pointer q), (35, .pointer T35.ptr), (6, .pointer T6.ptr)]) w) :
    (Code.region 4 l.toArray true).wp Try.prog Q a0 w0 := by
  subst hl
  refine region_facts2 (tn4F g y b z x v av hk p q bs P R1 R2) tn4D 53 S.size rfl (by kernel_rfl) (by kernel_rfl) (tn4F_mono _ _ _ _ _ _ _ _ _ _ _ _ _ _) (tn4_ok S) fun a w hB hF h => ?_
  obtain ⟨T26, h26, p26⟩ : trV bs P R1 (a.tmps.getD 26 undef) w := h 7 (some 26) rfl
  obtain ⟨T35, h35, p35⟩ : trV bs P R2 (a.tmps.getD 35 undef) w := h 16 (some 35) rfl
  obtain ⟨T6, h6, p6⟩ : trV bs P R2 (a.tmps.getD 6 undef) w := h 17 (some 6) rfl
  have hv : valsAre a [(19, .pointer (some ⟨g, 0, none⟩)), (20, .pointer (some ⟨g, 0, none⟩)), (21, .pointer (some ⟨b, 0, none⟩)), (22, .pointer (some ⟨b, 0, none⟩)), (23, .pointer (some ⟨b, 0, none⟩)), (24, .pointer p), (25, .agg #[.int .i64 x.s, .int .i64 x.t, .int .i64 x.q, .int .i64 x.v]), (26, .pointer T26.ptr), (27, .pointer (some ⟨b, 0, none⟩)), (28, .pointer (some ⟨b, 0, none⟩)), (29, .pointer (some ⟨b, 1, none⟩)), (30, .agg #[.int .i64 v.s, .int .i64 v.t, .int .i64 v.q, .int .i64 v.v]), (31, .pointer (some ⟨b, 0, none⟩)), (32, .pointer (some ⟨b, 0, none⟩)), (33, .pointer (some ⟨b, 5, none⟩)), (34, .pointer q), (35, .pointer T35.ptr), (6, .pointer T6.ptr)] := by
    refine ⟨?_, ?_, ?_, ?_, ?_, ?_, ?_, ?_, ?_, ?_, ?_, ?_, ?_, ?_, ?_, ?_, ?_, ?_, trivial⟩
    · exact h 0 (some 19) rfl
    · exact h 1 (some 20) rfl
    · exact h 2 (some 21) rfl
    · exact h 3 (some 22) rfl
    · exact h 4 (some 23) rfl
    · exact h 5 (some 24) rfl
    · exact h 6 (some 25) rfl
    · exact h26
    · exact h 8 (some 27) rfl
    · exact h 9 (some 28) rfl
    · exact h 10 (some 29) rfl
    · exact h 11 (some 30) rfl
    · exact h 12 (some 31) rfl
    · exact h 13 (some 32) rfl
    · exact h 14 (some 33) rfl
    · exact h 15 (some 34) rfl
    · exact h35
    · exact h6
  rw [frame_is hF _ hv (by rfl) (by rfl)]
  exact hend T26 T35 T6 w hB p26 p35 p6
end

def tn5D : List (Option Tmp) := [some 36, some 37, some 38, some 39, some 40, some 41, some 42, some 43, some 44, some 45, some 46, some 47, some 48, some 49, some 50, some 51, some 52, some 6]
def tn5F (g _y b _z : Nat) (x v : It) (_av : Ac) (_hk : Nat) (p q : Option Addr) (bs : List Int) (P : Nat → Prop) (R1 R2 : List It) : List Fact := [isV (.pointer (some ⟨g, 0, none⟩)), isV (.pointer (some ⟨b, 0, none⟩)), isV (.pointer (some ⟨b, 0, none⟩)), isV (.pointer (some ⟨b, 0, none⟩)), isV (.pointer p), isV (.pointer (some ⟨b, 0, none⟩)), isV (.pointer (some ⟨b, 0, none⟩)), isV (.pointer (some ⟨b, 1, none⟩)), isV (.agg #[.int .i64 v.s, .int .i64 v.t, .int .i64 v.q, .int .i64 v.v]), isV (.pointer (some ⟨g, 0, none⟩)), isV (.pointer (some ⟨b, 0, none⟩)), isV (.pointer (some ⟨b, 0, none⟩)), isV (.pointer (some ⟨b, 5, none⟩)), isV (.pointer q), isV (.agg #[.int .i64 x.s, .int .i64 x.t, .int .i64 x.q, .int .i64 x.v]), trV bs P R1, trV bs P R2, trV bs P R2]
theorem tn5F_mono (g y b z : Nat) (x v : It) (av : Ac) (hk : Nat) (p q : Option Addr) (bs : List Int) (P : Nat → Prop) (R1 R2 : List It) : ∀ φ ∈ tn5F g y b z x v av hk p q bs P R1 R2, Mono φ := by
  unfold tn5F
  refine monos_cons (mono_isV _) ?_
  refine monos_cons (mono_isV _) ?_
  refine monos_cons (mono_isV _) ?_
  refine monos_cons (mono_isV _) ?_
  refine monos_cons (mono_isV _) ?_
  refine monos_cons (mono_isV _) ?_
  refine monos_cons (mono_isV _) ?_
  refine monos_cons (mono_isV _) ?_
  refine monos_cons (mono_isV _) ?_
  refine monos_cons (mono_isV _) ?_
  refine monos_cons (mono_isV _) ?_
  refine monos_cons (mono_isV _) ?_
  refine monos_cons (mono_isV _) ?_
  refine monos_cons (mono_isV _) ?_
  refine monos_cons (mono_isV _) ?_
  refine monos_cons (trV_mono _ _ _) ?_
  refine monos_cons (trV_mono _ _ _) ?_
  refine monos_cons (trV_mono _ _ _) ?_
  exact monos_nil
structure tn5S (g y b z : Nat) (x v : It) (av : Ac) (hk : Nat) (p q : Option Addr) (bs : List Int) (P : Nat → Prop) (R1 R2 : List It) (a0 : Act) (w0 : World) : Prop where
  size : a0.tmps.size = 53
  v0 : a0.tmps.getD 0 undef = .pointer (some ⟨g, 0, none⟩)
  v1 : a0.tmps.getD 1 undef = .pointer (some ⟨b, 0, none⟩)
  v5 : a0.tmps.getD 5 undef = .pointer (some ⟨y, 0, none⟩)
  bx : Has w0 y 23 #[.int .i64 x.s, .int .i64 x.t, .int .i64 x.q, .int .i64 x.v]
  pb : Has w0 b 110 (prtC p v q av hk)
  c1 : ∀ w, Below w0.heap.size w0 w → Calls Try.prog 61 #[.pointer (some ⟨g, 0, none⟩), .pointer q, .agg #[.int .i64 x.s, .int .i64 x.t, .int .i64 x.q, .int .i64 x.v]] w (TrO bs P R1 w)
  c2 : ∀ (w : World) (T : Tr), Below w0.heap.size w0 w → T.At bs P w → T.row = R1 → Calls Try.prog 82 #[.pointer (some ⟨g, 0, none⟩), .pointer p, .agg #[.int .i64 v.s, .int .i64 v.t, .int .i64 v.q, .int .i64 v.v], .pointer T.ptr] w (TrO bs P R2 w)
section
variable {g y b z : Nat} {x v : It} {av : Ac} {hk : Nat} {p q : Option Addr} {bs : List Int} {P : Nat → Prop} {R1 R2 : List It} {a0 : Act} {w0 : World} (S : tn5S g y b z x v av hk p q bs P R1 R2 a0 w0)
include S
set_option maxRecDepth 100000 in
set_option maxHeartbeats 8000000 in
theorem tn5_ok : AllOps (fun j o => ∀ (a : Act) (w : World), Below w0.heap.size w0 w → FrD tn5D a0 a → needs tn5D (tn5F g y b z x v av hk p q bs P R1 R2) a w o.after.toList → StepD Try.prog tn5D (factAt (tn5F g y b z x v av hk p q bs P R1 R2) j) o a w) 0 (opsOf 5 Try.f61) := by
  simp only [opsOf, Try.f61, opsAt, Option.bind, Option.or, Option.getD, reduceCtorEq, if_true, if_false, Nat.reduceEqDiff]
  refine ⟨?_, ?_⟩
  · intro _a _w _hB hF _hd
    exact step_move (guard_none rfl) rfl _ rfl ((hF.other 0 rfl).trans S.v0)
  refine ⟨?_, ?_⟩
  · intro _a _w _hB hF _hd
    exact step_move (guard_none rfl) rfl _ rfl ((hF.other 1 rfl).trans S.v1)
  refine ⟨?_, ?_⟩
  · intro a _w _hB _hF hd
    have h37 : a.tmps.getD 37 undef = .pointer (some ⟨b, 0, none⟩) := hd.1 rfl
    exact rf_nilck (guard_none rfl) rfl _ rfl _ h37 rfl
  refine ⟨?_, ?_⟩
  · intro a _w _hB _hF hd
    have h38 : a.tmps.getD 38 undef = .pointer (some ⟨b, 0, none⟩) := hd.1 rfl
    exact rf_faddr (guard_none rfl) rfl _ _ _ rfl _ _ 0 _ h38 (by omega) (fun _ _ => by kernel_rfl) rfl
  refine ⟨?_, ?_⟩
  · intro a _w hB _hF hd
    have h39 : a.tmps.getD 39 undef = .pointer (some ⟨b, 0, none⟩) := hd.1 rfl
    exact rf_load1 (guard_none rfl) rfl _ _ rfl _ _ h39 (run_ldPart ((Has.cell (S.pb.below hB S.pb.lt) 0).trans rfl)) rfl
  refine ⟨?_, ?_⟩
  · intro _a _w _hB hF _hd
    exact step_move (guard_none rfl) rfl _ rfl ((hF.other 1 rfl).trans S.v1)
  refine ⟨?_, ?_⟩
  · intro a _w _hB _hF hd
    have h41 : a.tmps.getD 41 undef = .pointer (some ⟨b, 0, none⟩) := hd.1 rfl
    exact rf_nilck (guard_none rfl) rfl _ rfl _ h41 rfl
  refine ⟨?_, ?_⟩
  · intro a _w _hB _hF hd
    have h42 : a.tmps.getD 42 undef = .pointer (some ⟨b, 0, none⟩) := hd.1 rfl
    exact rf_faddr (guard_none rfl) rfl _ _ _ rfl _ _ 1 _ h42 (by omega) (fun _ _ => by kernel_rfl) rfl
  refine ⟨?_, ?_⟩
  · intro a _w hB _hF hd
    have h43 : a.tmps.getD 43 undef = .pointer (some ⟨b, 1, none⟩) := hd.1 rfl
    exact rf_loadItP (guard_none rfl) rfl _ rfl _ _ h43 v (prtC_item _ _ _ _ _ (S.pb.below hB S.pb.lt)) rfl
  refine ⟨?_, ?_⟩
  · intro _a _w _hB hF _hd
    exact step_move (guard_none rfl) rfl _ rfl ((hF.other 0 rfl).trans S.v0)
  refine ⟨?_, ?_⟩
  · intro _a _w _hB hF _hd
    exact step_move (guard_none rfl) rfl _ rfl ((hF.other 1 rfl).trans S.v1)
  refine ⟨?_, ?_⟩
  · intro a _w _hB _hF hd
    have h46 : a.tmps.getD 46 undef = .pointer (some ⟨b, 0, none⟩) := hd.1 rfl
    exact rf_nilck (guard_none rfl) rfl _ rfl _ h46 rfl
  refine ⟨?_, ?_⟩
  · intro a _w _hB _hF hd
    have h47 : a.tmps.getD 47 undef = .pointer (some ⟨b, 0, none⟩) := hd.1 rfl
    exact rf_faddr (guard_none rfl) rfl _ _ _ rfl _ _ 5 _ h47 (by omega) (fun _ _ => by kernel_rfl) rfl
  refine ⟨?_, ?_⟩
  · intro a _w hB _hF hd
    have h48 : a.tmps.getD 48 undef = .pointer (some ⟨b, 5, none⟩) := hd.1 rfl
    exact rf_load1 (guard_none rfl) rfl _ _ rfl _ _ h48 (run_ldPart ((Has.cell (S.pb.below hB S.pb.lt) 5).trans rfl)) rfl
  refine ⟨?_, ?_⟩
  · intro _a _w hB hF _hd
    exact rf_loadS (guard_none rfl) rfl _ _ rfl _ _ ((hF.other 5 rfl).trans S.v5) _ (rf_range (S.bx.below hB S.bx.lt)) Try.underlying23 rfl (by kernel_rfl) rfl
  refine ⟨?_, ?_⟩
  · intro a w hB _hF hd
    have h45 : a.tmps.getD 45 undef = .pointer (some ⟨g, 0, none⟩) := hd.1 rfl
    have h49 : a.tmps.getD 49 undef = .pointer q := hd.2.1 rfl
    have h50 : a.tmps.getD 50 undef = .agg #[.int .i64 x.s, .int .i64 x.t, .int .i64 x.q, .int .i64 x.v] := hd.2.2.1 rfl
    refine step_call (guard_none rfl) rfl _ _ (rf_call_run Try.func61 (by kernel_rfl) (by kernel_rfl) _ _ rfl) ?_
    simp only [List.map_toArray, List.map_cons, List.map_nil, Act.eval, h45, h49, h50]
    exact (S.c1 w hB).mono (by rintro e w1 ⟨T, rfl, h1, h2, hb⟩; exact ⟨_, rfl, hb, T, rfl, h1, h2⟩)
  refine ⟨?_, ?_⟩
  · intro a w hB _hF hd
    have h36 : a.tmps.getD 36 undef = .pointer (some ⟨g, 0, none⟩) := hd.1 rfl
    have h40 : a.tmps.getD 40 undef = .pointer p := hd.2.1 rfl
    have h44 : a.tmps.getD 44 undef = .agg #[.int .i64 v.s, .int .i64 v.t, .int .i64 v.q, .int .i64 v.v] := hd.2.2.1 rfl
    obtain ⟨T51, h51, p51⟩ : trV bs P R1 (a.tmps.getD 51 undef) w := hd.2.2.2.1 rfl
    refine step_call (guard_none rfl) rfl _ _ (rf_call_run Try.func82 (by kernel_rfl) (by kernel_rfl) _ _ rfl) ?_
    simp only [List.map_toArray, List.map_cons, List.map_nil, Act.eval, h36, h40, h44, h51]
    exact (S.c2 w T51 hB p51.1 p51.2).mono (by rintro e w1 ⟨T, rfl, h1, h2, hb⟩; exact ⟨_, rfl, hb, T, rfl, h1, h2⟩)
  refine ⟨?_, ?_⟩
  · intro a w _hB _hF hd
    obtain ⟨T52, h52, p52⟩ : trV bs P R2 (a.tmps.getD 52 undef) w := hd.1 rfl
    exact step_assign (guard_none rfl) rfl _ rfl ⟨T52, h52, p52⟩
  trivial
theorem tn5_any {Q : Exit → Act → World → Prop} {l : List Oper} (hl : opsOf 5 Try.f61 = l) (hend : ∀ (T51 : Tr), ∀ (T52 : Tr), ∀ (T6 : Tr), ∀ w : World, Below w0.heap.size w0 w → (T51.At bs P w ∧ T51.row = R1) → (T52.At bs P w ∧ T52.row = R2) → (T6.At bs P w ∧ T6.row = R2) → Q .normal (putAll a0 [(36, .pointer (some ⟨g, 0, none⟩)), (37, .pointer (some ⟨b, 0, none⟩)), (38, .pointer (some ⟨b, 0, none⟩)), (39, .pointer (some ⟨b, 0, none⟩)), (40, .pointer p), (41, .pointer (some ⟨b, 0, none⟩)), (42, .pointer (some ⟨b, 0, none⟩)), (43, .pointer (some ⟨b, 1, none⟩)), (44, .agg #[.int .i64 v.s, .int .i64 v.t, .int .i64 v.q, .int .i64 v.v]), (45, .pointer (some ⟨g, 0, none⟩)), (46, .pointer (some ⟨b, 0, none⟩)), (47, .pointer (some ⟨b, 0, none⟩)), (48, .pointer (some ⟨b, 5, none⟩)), (49, .pointer q), (50, .agg #[.int .i64 x.s, .int .i64 x.t, .int .i64 x.q, .int .i64 x.v]), (51, .pointer T51.ptr), (52, .pointer T52.ptr), (6, .pointer T6.ptr)]) w) :
    (Code.region 5 l.toArray true).wp Try.prog Q a0 w0 := by
  subst hl
  refine region_facts2 (tn5F g y b z x v av hk p q bs P R1 R2) tn5D 53 S.size rfl (by kernel_rfl) (by kernel_rfl) (tn5F_mono _ _ _ _ _ _ _ _ _ _ _ _ _ _) (tn5_ok S) fun a w hB hF h => ?_
  obtain ⟨T51, h51, p51⟩ : trV bs P R1 (a.tmps.getD 51 undef) w := h 15 (some 51) rfl
  obtain ⟨T52, h52, p52⟩ : trV bs P R2 (a.tmps.getD 52 undef) w := h 16 (some 52) rfl
  obtain ⟨T6, h6, p6⟩ : trV bs P R2 (a.tmps.getD 6 undef) w := h 17 (some 6) rfl
  have hv : valsAre a [(36, .pointer (some ⟨g, 0, none⟩)), (37, .pointer (some ⟨b, 0, none⟩)), (38, .pointer (some ⟨b, 0, none⟩)), (39, .pointer (some ⟨b, 0, none⟩)), (40, .pointer p), (41, .pointer (some ⟨b, 0, none⟩)), (42, .pointer (some ⟨b, 0, none⟩)), (43, .pointer (some ⟨b, 1, none⟩)), (44, .agg #[.int .i64 v.s, .int .i64 v.t, .int .i64 v.q, .int .i64 v.v]), (45, .pointer (some ⟨g, 0, none⟩)), (46, .pointer (some ⟨b, 0, none⟩)), (47, .pointer (some ⟨b, 0, none⟩)), (48, .pointer (some ⟨b, 5, none⟩)), (49, .pointer q), (50, .agg #[.int .i64 x.s, .int .i64 x.t, .int .i64 x.q, .int .i64 x.v]), (51, .pointer T51.ptr), (52, .pointer T52.ptr), (6, .pointer T6.ptr)] := by
    refine ⟨?_, ?_, ?_, ?_, ?_, ?_, ?_, ?_, ?_, ?_, ?_, ?_, ?_, ?_, ?_, ?_, ?_, ?_, trivial⟩
    · exact h 0 (some 36) rfl
    · exact h 1 (some 37) rfl
    · exact h 2 (some 38) rfl
    · exact h 3 (some 39) rfl
    · exact h 4 (some 40) rfl
    · exact h 5 (some 41) rfl
    · exact h 6 (some 42) rfl
    · exact h 7 (some 43) rfl
    · exact h 8 (some 44) rfl
    · exact h 9 (some 45) rfl
    · exact h 10 (some 46) rfl
    · exact h 11 (some 47) rfl
    · exact h 12 (some 48) rfl
    · exact h 13 (some 49) rfl
    · exact h 14 (some 50) rfl
    · exact h51
    · exact h52
    · exact h6
  rw [frame_is hF _ hv (by rfl) (by rfl)]
  exact hend T51 T52 T6 w hB p51 p52 p6
end

def tn3D : List (Option Tmp) := [some 12, some 13, some 14, some 15, some 16, some 17, some 18]
def tn3F (_g _y b _z : Nat) (x v : It) (_av : Ac) (_hk : Nat) (_p _q : Option Addr) (β : Bool) : List Fact := [isV (.agg #[.int .i64 x.s, .int .i64 x.t, .int .i64 x.q, .int .i64 x.v]), isV (.pointer (some ⟨b, 0, none⟩)), isV (.pointer (some ⟨b, 0, none⟩)), isV (.pointer (some ⟨b, 1, none⟩)), isV (.agg #[.int .i64 v.s, .int .i64 v.t, .int .i64 v.q, .int .i64 v.v]), isV (.int .i64 (cmpT x v)), isV (.bool β)]
theorem tn3F_mono (g y b z : Nat) (x v : It) (av : Ac) (hk : Nat) (p q : Option Addr) (β : Bool) : ∀ φ ∈ tn3F g y b z x v av hk p q β, Mono φ := by
  unfold tn3F
  refine monos_cons (mono_isV _) ?_
  refine monos_cons (mono_isV _) ?_
  refine monos_cons (mono_isV _) ?_
  refine monos_cons (mono_isV _) ?_
  refine monos_cons (mono_isV _) ?_
  refine monos_cons (mono_isV _) ?_
  refine monos_cons (mono_isV _) ?_
  exact monos_nil
structure tn3S (g y b z : Nat) (x v : It) (av : Ac) (hk : Nat) (p q : Option Addr) (β : Bool) (a0 : Act) (w0 : World) : Prop where
  size : a0.tmps.size = 53
  v1 : a0.tmps.getD 1 undef = .pointer (some ⟨b, 0, none⟩)
  v5 : a0.tmps.getD 5 undef = .pointer (some ⟨y, 0, none⟩)
  bx : Has w0 y 23 #[.int .i64 x.s, .int .i64 x.t, .int .i64 x.q, .int .i64 x.v]
  pb : Has w0 b 110 (prtC p v q av hk)
  ht : decide (cmpT x v < 0) = β
section
variable {g y b z : Nat} {x v : It} {av : Ac} {hk : Nat} {p q : Option Addr} {β : Bool} {a0 : Act} {w0 : World} (S : tn3S g y b z x v av hk p q β a0 w0)
include S
set_option maxRecDepth 100000 in
set_option maxHeartbeats 8000000 in
theorem tn3_ok : AllOps (fun j o => ∀ (a : Act) (w : World), Below w0.heap.size w0 w → FrD tn3D a0 a → needs tn3D (tn3F g y b z x v av hk p q β) a w o.after.toList → StepD Try.prog tn3D (factAt (tn3F g y b z x v av hk p q β) j) o a w) 0 (opsOf 3 Try.f61) := by
  simp only [opsOf, Try.f61, opsAt, Option.bind, Option.or, Option.getD, reduceCtorEq, if_true, if_false, Nat.reduceEqDiff]
  refine ⟨?_, ?_⟩
  · intro _a _w hB hF _hd
    exact rf_loadS (guard_none rfl) rfl _ _ rfl _ _ ((hF.other 5 rfl).trans S.v5) _ (rf_range (S.bx.below hB S.bx.lt)) Try.underlying23 rfl (by kernel_rfl) rfl
  refine ⟨?_, ?_⟩
  · intro _a _w _hB hF _hd
    exact step_move (guard_none rfl) rfl _ rfl ((hF.other 1 rfl).trans S.v1)
  refine ⟨?_, ?_⟩
  · intro a _w _hB _hF hd
    have h13 : a.tmps.getD 13 undef = .pointer (some ⟨b, 0, none⟩) := hd.1 rfl
    exact rf_nilck (guard_none rfl) rfl _ rfl _ h13 rfl
  refine ⟨?_, ?_⟩
  · intro a _w _hB _hF hd
    have h14 : a.tmps.getD 14 undef = .pointer (some ⟨b, 0, none⟩) := hd.1 rfl
    exact rf_faddr (guard_none rfl) rfl _ _ _ rfl _ _ 1 _ h14 (by omega) (fun _ _ => by kernel_rfl) rfl
  refine ⟨?_, ?_⟩
  · intro a _w hB _hF hd
    have h15 : a.tmps.getD 15 undef = .pointer (some ⟨b, 1, none⟩) := hd.1 rfl
    exact rf_loadItP (guard_none rfl) rfl _ rfl _ _ h15 v (prtC_item _ _ _ _ _ (S.pb.below hB S.pb.lt)) rfl
  refine ⟨?_, ?_⟩
  · intro a _w _hB _hF hd
    have h12 : a.tmps.getD 12 undef = .agg #[.int .i64 x.s, .int .i64 x.t, .int .i64 x.q, .int .i64 x.v] := hd.1 rfl
    have h16 : a.tmps.getD 16 undef = .agg #[.int .i64 v.s, .int .i64 v.t, .int .i64 v.q, .int .i64 v.v] := hd.2.1 rfl
    refine step_call (guard_none rfl) rfl _ _ (rf_call_run Try.func72 (by kernel_rfl) (by kernel_rfl) _ _ rfl) ?_
    simp only [List.map_toArray, List.map_cons, List.map_nil, Act.eval, h12, h16]
    exact (compare_any x v _).mono (by rintro e w1 ⟨rfl, hb⟩; exact ⟨_, rfl, hb, rfl⟩)
  refine ⟨?_, ?_⟩
  · intro a _w _hB _hF hd
    have h17 : a.tmps.getD 17 undef = .int .i64 (cmpT x v) := hd.1 rfl
    exact rf_lss (guard_none rfl) rfl _ _ rfl _ _ h17 rfl β S.ht rfl
  trivial
theorem tn3_any {Q : Exit → Act → World → Prop} {l : List Oper} (hl : opsOf 3 Try.f61 = l) (hend : ∀ w : World, Below w0.heap.size w0 w → Q .normal (putAll a0 [(12, .agg #[.int .i64 x.s, .int .i64 x.t, .int .i64 x.q, .int .i64 x.v]), (13, .pointer (some ⟨b, 0, none⟩)), (14, .pointer (some ⟨b, 0, none⟩)), (15, .pointer (some ⟨b, 1, none⟩)), (16, .agg #[.int .i64 v.s, .int .i64 v.t, .int .i64 v.q, .int .i64 v.v]), (17, .int .i64 (cmpT x v)), (18, .bool β)]) w) :
    (Code.region 3 l.toArray true).wp Try.prog Q a0 w0 := by
  subst hl
  refine region_facts2 (tn3F g y b z x v av hk p q β) tn3D 53 S.size rfl (by kernel_rfl) (by kernel_rfl) (tn3F_mono _ _ _ _ _ _ _ _ _ _ _) (tn3_ok S) fun a w hB hF h => ?_
  have hv : valsAre a [(12, .agg #[.int .i64 x.s, .int .i64 x.t, .int .i64 x.q, .int .i64 x.v]), (13, .pointer (some ⟨b, 0, none⟩)), (14, .pointer (some ⟨b, 0, none⟩)), (15, .pointer (some ⟨b, 1, none⟩)), (16, .agg #[.int .i64 v.s, .int .i64 v.t, .int .i64 v.q, .int .i64 v.v]), (17, .int .i64 (cmpT x v)), (18, .bool β)] := by
    refine ⟨?_, ?_, ?_, ?_, ?_, ?_, ?_, trivial⟩
    · exact h 0 (some 12) rfl
    · exact h 1 (some 13) rfl
    · exact h 2 (some 14) rfl
    · exact h 3 (some 15) rfl
    · exact h 4 (some 16) rfl
    · exact h 5 (some 17) rfl
    · exact h 6 (some 18) rfl
  rw [frame_is hF _ hv (by rfl) (by rfl)]
  exact hend w hB
end

def tevD : List (Option Tmp) := [some 34, some 35, some 36, some 37, some 38, some 39, some 40, some 41, some 42, some 43, some 44, some 45, some 46, some 47, some 48, some 49, some 50, some 6]
def tevF (g b _z : Nat) (u : Int) (v : It) (_av : Ac) (_hk : Nat) (p q : Option Addr) (bs : List Int) (P : Nat → Prop) (R1 R2 : List It) : List Fact := [isV (.pointer (some ⟨g, 0, none⟩)), isV (.pointer (some ⟨g, 0, none⟩)), isV (.pointer (some ⟨b, 0, none⟩)), isV (.pointer (some ⟨b, 0, none⟩)), isV (.pointer (some ⟨b, 0, none⟩)), isV (.pointer p), isV (.int .i64 u), trV bs P R1, isV (.pointer (some ⟨b, 0, none⟩)), isV (.pointer (some ⟨b, 0, none⟩)), isV (.pointer (some ⟨b, 1, none⟩)), isV (.agg #[.int .i64 v.s, .int .i64 v.t, .int .i64 v.q, .int .i64 v.v]), isV (.pointer (some ⟨b, 0, none⟩)), isV (.pointer (some ⟨b, 0, none⟩)), isV (.pointer (some ⟨b, 5, none⟩)), isV (.pointer q), trV bs P R2, trV bs P R2]
theorem tevF_mono (g b z : Nat) (u : Int) (v : It) (av : Ac) (hk : Nat) (p q : Option Addr) (bs : List Int) (P : Nat → Prop) (R1 R2 : List It) : ∀ φ ∈ tevF g b z u v av hk p q bs P R1 R2, Mono φ := by
  unfold tevF
  refine monos_cons (mono_isV _) ?_
  refine monos_cons (mono_isV _) ?_
  refine monos_cons (mono_isV _) ?_
  refine monos_cons (mono_isV _) ?_
  refine monos_cons (mono_isV _) ?_
  refine monos_cons (mono_isV _) ?_
  refine monos_cons (mono_isV _) ?_
  refine monos_cons (trV_mono _ _ _) ?_
  refine monos_cons (mono_isV _) ?_
  refine monos_cons (mono_isV _) ?_
  refine monos_cons (mono_isV _) ?_
  refine monos_cons (mono_isV _) ?_
  refine monos_cons (mono_isV _) ?_
  refine monos_cons (mono_isV _) ?_
  refine monos_cons (mono_isV _) ?_
  refine monos_cons (mono_isV _) ?_
  refine monos_cons (trV_mono _ _ _) ?_
  refine monos_cons (trV_mono _ _ _) ?_
  exact monos_nil
structure tevS (g b z : Nat) (u : Int) (v : It) (av : Ac) (hk : Nat) (p q : Option Addr) (bs : List Int) (P : Nat → Prop) (R1 R2 : List It) (a0 : Act) (w0 : World) : Prop where
  size : a0.tmps.size = 51
  v0 : a0.tmps.getD 0 undef = .pointer (some ⟨g, 0, none⟩)
  v1 : a0.tmps.getD 1 undef = .pointer (some ⟨b, 0, none⟩)
  v2 : a0.tmps.getD 2 undef = .int .i64 u
  pb : Has w0 b 110 (prtC p v q av hk)
  c1 : ∀ w, Below w0.heap.size w0 w → Calls Try.prog 68 #[.pointer (some ⟨g, 0, none⟩), .pointer p, .int .i64 u] w (TrO bs P R1 w)
  c2 : ∀ (w : World) (T : Tr), Below w0.heap.size w0 w → T.At bs P w → T.row = R1 → Calls Try.prog 85 #[.pointer (some ⟨g, 0, none⟩), .pointer T.ptr, .agg #[.int .i64 v.s, .int .i64 v.t, .int .i64 v.q, .int .i64 v.v], .pointer q] w (TrO bs P R2 w)
section
variable {g b z : Nat} {u : Int} {v : It} {av : Ac} {hk : Nat} {p q : Option Addr} {bs : List Int} {P : Nat → Prop} {R1 R2 : List It} {a0 : Act} {w0 : World} (S : tevS g b z u v av hk p q bs P R1 R2 a0 w0)
include S
set_option maxRecDepth 100000 in
set_option maxHeartbeats 8000000 in
theorem tev_ok : AllOps (fun j o => ∀ (a : Act) (w : World), Below w0.heap.size w0 w → FrD tevD a0 a → needs tevD (tevF g b z u v av hk p q bs P R1 R2) a w o.after.toList → StepD Try.prog tevD (factAt (tevF g b z u v av hk p q bs P R1 R2) j) o a w) 0 (opsOf 5 Try.f68) := by
  simp only [opsOf, Try.f68, opsAt, Option.bind, Option.or, Option.getD, reduceCtorEq, if_true, if_false, Nat.reduceEqDiff]
  refine ⟨?_, ?_⟩
  · intro _a _w _hB hF _hd
    exact step_move (guard_none rfl) rfl _ rfl ((hF.other 0 rfl).trans S.v0)
  refine ⟨?_, ?_⟩
  · intro _a _w _hB hF _hd
    exact step_move (guard_none rfl) rfl _ rfl ((hF.other 0 rfl).trans S.v0)
  refine ⟨?_, ?_⟩
  · intro _a _w _hB hF _hd
    exact step_move (guard_none rfl) rfl _ rfl ((hF.other 1 rfl).trans S.v1)
  refine ⟨?_, ?_⟩
  · intro a _w _hB _hF hd
    have h36 : a.tmps.getD 36 undef = .pointer (some ⟨b, 0, none⟩) := hd.1 rfl
    exact rf_nilck (guard_none rfl) rfl _ rfl _ h36 rfl
  refine ⟨?_, ?_⟩
  · intro a _w _hB _hF hd
    have h37 : a.tmps.getD 37 undef = .pointer (some ⟨b, 0, none⟩) := hd.1 rfl
    exact rf_faddr (guard_none rfl) rfl _ _ _ rfl _ _ 0 _ h37 (by omega) (fun _ _ => by kernel_rfl) rfl
  refine ⟨?_, ?_⟩
  · intro a _w hB _hF hd
    have h38 : a.tmps.getD 38 undef = .pointer (some ⟨b, 0, none⟩) := hd.1 rfl
    exact rf_load1 (guard_none rfl) rfl _ _ rfl _ _ h38 (run_ldPart ((Has.cell (S.pb.below hB S.pb.lt) 0).trans rfl)) rfl
  refine ⟨?_, ?_⟩
  · intro _a _w _hB hF _hd
    exact step_move (guard_none rfl) rfl _ rfl ((hF.other 2 rfl).trans S.v2)
  refine ⟨?_, ?_⟩
  · intro a w hB _hF hd
    have h35 : a.tmps.getD 35 undef = .pointer (some ⟨g, 0, none⟩) := hd.1 rfl
    have h39 : a.tmps.getD 39 undef = .pointer p := hd.2.1 rfl
    have h40 : a.tmps.getD 40 undef = .int .i64 u := hd.2.2.1 rfl
    refine step_call (guard_none rfl) rfl _ _ (rf_call_run Try.func68 (by kernel_rfl) (by kernel_rfl) _ _ rfl) ?_
    simp only [List.map_toArray, List.map_cons, List.map_nil, Act.eval, h35, h39, h40]
    exact (S.c1 w hB).mono (by rintro e w1 ⟨T, rfl, h1, h2, hb⟩; exact ⟨_, rfl, hb, T, rfl, h1, h2⟩)
  refine ⟨?_, ?_⟩
  · intro _a _w _hB hF _hd
    exact step_move (guard_none rfl) rfl _ rfl ((hF.other 1 rfl).trans S.v1)
  refine ⟨?_, ?_⟩
  · intro a _w _hB _hF hd
    have h42 : a.tmps.getD 42 undef = .pointer (some ⟨b, 0, none⟩) := hd.1 rfl
    exact rf_nilck (guard_none rfl) rfl _ rfl _ h42 rfl
  refine ⟨?_, ?_⟩
  · intro a _w _hB _hF hd
    have h43 : a.tmps.getD 43 undef = .pointer (some ⟨b, 0, none⟩) := hd.1 rfl
    exact rf_faddr (guard_none rfl) rfl _ _ _ rfl _ _ 1 _ h43 (by omega) (fun _ _ => by kernel_rfl) rfl
  refine ⟨?_, ?_⟩
  · intro a _w hB _hF hd
    have h44 : a.tmps.getD 44 undef = .pointer (some ⟨b, 1, none⟩) := hd.1 rfl
    exact rf_loadItP (guard_none rfl) rfl _ rfl _ _ h44 v (prtC_item _ _ _ _ _ (S.pb.below hB S.pb.lt)) rfl
  refine ⟨?_, ?_⟩
  · intro _a _w _hB hF _hd
    exact step_move (guard_none rfl) rfl _ rfl ((hF.other 1 rfl).trans S.v1)
  refine ⟨?_, ?_⟩
  · intro a _w _hB _hF hd
    have h46 : a.tmps.getD 46 undef = .pointer (some ⟨b, 0, none⟩) := hd.1 rfl
    exact rf_nilck (guard_none rfl) rfl _ rfl _ h46 rfl
  refine ⟨?_, ?_⟩
  · intro a _w _hB _hF hd
    have h47 : a.tmps.getD 47 undef = .pointer (some ⟨b, 0, none⟩) := hd.1 rfl
    exact rf_faddr (guard_none rfl) rfl _ _ _ rfl _ _ 5 _ h47 (by omega) (fun _ _ => by kernel_rfl) rfl
  refine ⟨?_, ?_⟩
  · intro a _w hB _hF hd
    have h48 : a.tmps.getD 48 undef = .pointer (some ⟨b, 5, none⟩) := hd.1 rfl
    exact rf_load1 (guard_none rfl) rfl _ _ rfl _ _ h48 (run_ldPart ((Has.cell (S.pb.below hB S.pb.lt) 5).trans rfl)) rfl
  refine ⟨?_, ?_⟩
  · intro a w hB _hF hd
    have h34 : a.tmps.getD 34 undef = .pointer (some ⟨g, 0, none⟩) := hd.1 rfl
    obtain ⟨T41, h41, p41⟩ : trV bs P R1 (a.tmps.getD 41 undef) w := hd.2.1 rfl
    have h45 : a.tmps.getD 45 undef = .agg #[.int .i64 v.s, .int .i64 v.t, .int .i64 v.q, .int .i64 v.v] := hd.2.2.1 rfl
    have h49 : a.tmps.getD 49 undef = .pointer q := hd.2.2.2.1 rfl
    refine step_call (guard_none rfl) rfl _ _ (rf_call_run Try.func85 (by kernel_rfl) (by kernel_rfl) _ _ rfl) ?_
    simp only [List.map_toArray, List.map_cons, List.map_nil, Act.eval, h34, h41, h45, h49]
    exact (S.c2 w T41 hB p41.1 p41.2).mono (by rintro e w1 ⟨T, rfl, h1, h2, hb⟩; exact ⟨_, rfl, hb, T, rfl, h1, h2⟩)
  refine ⟨?_, ?_⟩
  · intro a w _hB _hF hd
    obtain ⟨T50, h50, p50⟩ : trV bs P R2 (a.tmps.getD 50 undef) w := hd.1 rfl
    exact step_assign (guard_none rfl) rfl _ rfl ⟨T50, h50, p50⟩
  trivial
theorem tev_any {Q : Exit → Act → World → Prop} {l : List Oper} (hl : opsOf 5 Try.f68 = l) (hend : ∀ (T41 : Tr), ∀ (T50 : Tr), ∀ (T6 : Tr), ∀ w : World, Below w0.heap.size w0 w → (T41.At bs P w ∧ T41.row = R1) → (T50.At bs P w ∧ T50.row = R2) → (T6.At bs P w ∧ T6.row = R2) → Q .normal (putAll a0 [(34, .pointer (some ⟨g, 0, none⟩)), (35, .pointer (some ⟨g, 0, none⟩)), (36, .pointer (some ⟨b, 0, none⟩)), (37, .pointer (some ⟨b, 0, none⟩)), (38, .pointer (some ⟨b, 0, none⟩)), (39, .pointer p), (40, .int .i64 u), (41, .pointer T41.ptr), (42, .pointer (some ⟨b, 0, none⟩)), (43, .pointer (some ⟨b, 0, none⟩)), (44, .pointer (some ⟨b, 1, none⟩)), (45, .agg #[.int .i64 v.s, .int .i64 v.t, .int .i64 v.q, .int .i64 v.v]), (46, .pointer (some ⟨b, 0, none⟩)), (47, .pointer (some ⟨b, 0, none⟩)), (48, .pointer (some ⟨b, 5, none⟩)), (49, .pointer q), (50, .pointer T50.ptr), (6, .pointer T6.ptr)]) w) :
    (Code.region 5 l.toArray true).wp Try.prog Q a0 w0 := by
  subst hl
  refine region_facts2 (tevF g b z u v av hk p q bs P R1 R2) tevD 51 S.size rfl (by kernel_rfl) (by kernel_rfl) (tevF_mono _ _ _ _ _ _ _ _ _ _ _ _ _) (tev_ok S) fun a w hB hF h => ?_
  obtain ⟨T41, h41, p41⟩ : trV bs P R1 (a.tmps.getD 41 undef) w := h 7 (some 41) rfl
  obtain ⟨T50, h50, p50⟩ : trV bs P R2 (a.tmps.getD 50 undef) w := h 16 (some 50) rfl
  obtain ⟨T6, h6, p6⟩ : trV bs P R2 (a.tmps.getD 6 undef) w := h 17 (some 6) rfl
  have hv : valsAre a [(34, .pointer (some ⟨g, 0, none⟩)), (35, .pointer (some ⟨g, 0, none⟩)), (36, .pointer (some ⟨b, 0, none⟩)), (37, .pointer (some ⟨b, 0, none⟩)), (38, .pointer (some ⟨b, 0, none⟩)), (39, .pointer p), (40, .int .i64 u), (41, .pointer T41.ptr), (42, .pointer (some ⟨b, 0, none⟩)), (43, .pointer (some ⟨b, 0, none⟩)), (44, .pointer (some ⟨b, 1, none⟩)), (45, .agg #[.int .i64 v.s, .int .i64 v.t, .int .i64 v.q, .int .i64 v.v]), (46, .pointer (some ⟨b, 0, none⟩)), (47, .pointer (some ⟨b, 0, none⟩)), (48, .pointer (some ⟨b, 5, none⟩)), (49, .pointer q), (50, .pointer T50.ptr), (6, .pointer T6.ptr)] := by
    refine ⟨?_, ?_, ?_, ?_, ?_, ?_, ?_, ?_, ?_, ?_, ?_, ?_, ?_, ?_, ?_, ?_, ?_, ?_, trivial⟩
    · exact h 0 (some 34) rfl
    · exact h 1 (some 35) rfl
    · exact h 2 (some 36) rfl
    · exact h 3 (some 37) rfl
    · exact h 4 (some 38) rfl
    · exact h 5 (some 39) rfl
    · exact h 6 (some 40) rfl
    · exact h41
    · exact h 8 (some 42) rfl
    · exact h 9 (some 43) rfl
    · exact h 10 (some 44) rfl
    · exact h 11 (some 45) rfl
    · exact h 12 (some 46) rfl
    · exact h 13 (some 47) rfl
    · exact h 14 (some 48) rfl
    · exact h 15 (some 49) rfl
    · exact h50
    · exact h6
  rw [frame_is hF _ hv (by rfl) (by rfl)]
  exact hend T41 T50 T6 w hB p41 p50 p6
end

end Go.Proofs.Ytjgjbhbpndjnnaa
