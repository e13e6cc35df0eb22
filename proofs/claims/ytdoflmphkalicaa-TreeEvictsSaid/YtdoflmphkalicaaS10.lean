/-
  The drawn regions of the tree (written by gen/trreg.py).
  Walks: what is known of one item, of parts together; a part made.
  Walk: a part made of what is ahead, an item and what is behind.
  Walks: the turns (written by gen/trturn.py).
  Walks: balance, link, insert, evict.
  Walks: insert, evict.
-/
import Derived.Test.YtdoflmphkalicaaS7
import Derived.Test.YtdoflmphkalicaaS8
import Derived.Test.YtdoflmphkalicaaS2
import Derived.Test.YtdoflmphkalicaaCmp
import Derived.Test.YtdoflmphkalicaaJoinOk
import Derived.Test.YtdoflmphkalicaaOne
import Derived.Test.YtdoflmphkalicaaSlit
import Derived.Great.Walk
import Derived.Laws.MakeOwn
namespace Go.Proofs.Ytdoflmphkalicaa
open Go.RowKit

def talD : List (Option Tmp) := [some 8, some 9, some 10, some 11, some 12, some 13, some 7, some 14, some 15, some 5, none, some 6]
def talF (g _y m d z : Nat) (A _root : Option Addr) (x : It) (V : Ac) : List Fact := [isV (.agg #[.int .i64 x.s, .int .i64 x.t, .int .i64 x.q, .int .i64 x.v]), isV (.pointer (some ⟨g, 0, none⟩)), isV (.pointer (some ⟨g, 0, none⟩)), isV (.pointer (some ⟨g, 0, none⟩)), isV (.slice A m d), tTup z V, tTup z V, tAcc z V, isV (.int .i64 0), tNew z]
theorem talF_mono (g y m d z : Nat) (A root : Option Addr) (x : It) (V : Ac) : ∀ φ ∈ talF g y m d z A root x V, Mono φ := by
  unfold talF
  refine monos_cons (mono_isV _) ?_
  refine monos_cons (mono_isV _) ?_
  refine monos_cons (mono_isV _) ?_
  refine monos_cons (mono_isV _) ?_
  refine monos_cons (mono_isV _) ?_
  refine monos_cons (tTup_mono _ _) ?_
  refine monos_cons (tTup_mono _ _) ?_
  refine monos_cons (tAcc_mono _ _) ?_
  refine monos_cons (mono_isV _) ?_
  refine monos_cons (tNew_mono _) ?_
  exact monos_nil
structure talS (g y m d z : Nat) (A root : Option Addr) (x : It) (V : Ac) (a0 : Act) (w0 : World) : Prop where
  size : a0.tmps.size = 17
  v0 : a0.tmps.getD 0 undef = .pointer (some ⟨g, 0, none⟩)
  v3 : a0.tmps.getD 3 undef = .pointer (some ⟨y, 0, none⟩)
  st : Has w0 g 77 #[.slice A m d, .pointer root]
  bx : Has w0 y 47 #[.int .i64 x.s, .int .i64 x.t, .int .i64 x.q, .int .i64 x.v]
  ez : z ≤ w0.heap.size
  c1 : ∀ w, Below w0.heap.size w0 w → Calls Try.prog 31 #[.agg #[.int .i64 x.s, .int .i64 x.t, .int .i64 x.q, .int .i64 x.v], .slice A m d] w (GoodAcc V w)
section
variable {g y m d z : Nat} {A root : Option Addr} {x : It} {V : Ac} {a0 : Act} {w0 : World} (S : talS g y m d z A root x V a0 w0)
include S
set_option maxRecDepth 100000 in
set_option maxHeartbeats 8000000 in
theorem tal_ok : AllOps (fun j o => ∀ (a : Act) (w : World), Below w0.heap.size w0 w → FrD (talD.take 10) a0 a → needs talD (talF g y m d z A root x V) a w o.after.toList → StepD Try.prog talD (factAt (talF g y m d z A root x V) j) o a w) 0 ((opsOf 1 Try.f79).take 10) := by
  simp only [opsOf, Try.f79, opsAt, Option.bind, Option.or, Option.getD, reduceCtorEq, if_true, if_false, Nat.reduceEqDiff, List.take_succ_cons, List.take_zero]
  refine ⟨?_, ?_⟩
  · intro _a _w hB hF _hd
    exact rf_loadS (guard_none rfl) rfl _ _ rfl _ _ ((hF.other 3 rfl).trans S.v3) _ (rf_range (S.bx.below hB S.bx.lt)) Try.underlying47 rfl (by kernel_rfl) rfl
  refine ⟨?_, ?_⟩
  · intro _a _w _hB hF _hd
    exact step_move (guard_none rfl) rfl _ rfl ((hF.other 0 rfl).trans S.v0)
  refine ⟨?_, ?_⟩
  · intro a _w _hB _hF hd
    have h9 : a.tmps.getD 9 undef = .pointer (some ⟨g, 0, none⟩) := hd.1 rfl
    exact rf_nilck (guard_none rfl) rfl _ rfl _ h9 rfl
  refine ⟨?_, ?_⟩
  · intro a _w _hB _hF hd
    have h10 : a.tmps.getD 10 undef = .pointer (some ⟨g, 0, none⟩) := hd.1 rfl
    exact rf_faddr (guard_none rfl) rfl _ _ _ rfl _ _ 0 _ h10 (by omega) (fun _ _ => by kernel_rfl) rfl
  refine ⟨?_, ?_⟩
  · intro a _w hB _hF hd
    have h11 : a.tmps.getD 11 undef = .pointer (some ⟨g, 0, none⟩) := hd.1 rfl
    exact rf_load1 (guard_none rfl) rfl _ _ rfl _ _ h11 (run_ldBd ((Has.cell (S.st.below hB S.st.lt) 0).trans rfl)) rfl
  refine ⟨?_, ?_⟩
  · intro a w hB _hF hd
    have h8 : a.tmps.getD 8 undef = .agg #[.int .i64 x.s, .int .i64 x.t, .int .i64 x.q, .int .i64 x.v] := hd.1 rfl
    have h12 : a.tmps.getD 12 undef = .slice A m d := hd.2.1 rfl
    refine step_call (guard_none rfl) rfl _ _ (rf_call_run Try.func31 (by kernel_rfl) (by kernel_rfl) _ _ rfl) ?_
    simp only [List.map_toArray, List.map_cons, List.map_nil, Act.eval, h8, h12]
    exact (S.c1 w hB).mono (by rintro e w1 ⟨H, hlo, rfl, hh, hb⟩; exact ⟨_, rfl, hb, H, rfl, hh, Nat.le_trans (Nat.le_trans S.ez hB.size) hlo⟩)
  refine ⟨?_, ?_⟩
  · intro a w _hB _hF hd
    obtain ⟨H13, h13, p13⟩ : tTup z V (a.tmps.getD 13 undef) w := hd.1 rfl
    exact step_move (guard_none rfl) rfl _ rfl ⟨H13, h13, p13⟩
  refine ⟨?_, ?_⟩
  · intro a w _hB _hF hd
    obtain ⟨H7, h7, p7⟩ : tTup z V (a.tmps.getD 7 undef) w := hd.1 rfl
    exact rf_extract (guard_none rfl) rfl _ 0 rfl _ _ h7 rfl ⟨H7, rfl, p7⟩
  refine ⟨?_, ?_⟩
  · intro a w _hB _hF hd
    obtain ⟨H7, h7, p7⟩ : tTup z V (a.tmps.getD 7 undef) w := hd.1 rfl
    exact rf_extract (guard_none rfl) rfl _ 1 rfl _ _ h7 rfl rfl
  refine ⟨?_, ?_⟩
  · intro _a _w hB _hF _hd
    exact rf_newT (guard_none rfl) rfl rfl (Nat.le_trans S.ez hB.size) (fun _ _ h => h)
  trivial
theorem tal_any {Q : Exit → Act → World → Prop} {l : List Oper} (hl : opsOf 1 Try.f79 = l) (hend : ∀ (H13 : Nat), ∀ (H7 : Nat), ∀ (H14 : Nat), ∀ (y5 : Nat), ∀ w : World, Below w0.heap.size w0 w → (Has w H13 3 (ints V.h) ∧ z ≤ H13) → (Has w H7 3 (ints V.h) ∧ z ≤ H7) → (Has w H14 3 (ints V.h) ∧ z ≤ H14) → (Has w y5 49 (accC zeroAc none 0 0) ∧ z ≤ y5) → wpList Try.prog l.toArray Q (l.drop 10) (putAll a0 [(8, .agg #[.int .i64 x.s, .int .i64 x.t, .int .i64 x.q, .int .i64 x.v]), (9, .pointer (some ⟨g, 0, none⟩)), (10, .pointer (some ⟨g, 0, none⟩)), (11, .pointer (some ⟨g, 0, none⟩)), (12, .slice A m d), (13, .tuple #[.agg (accC V (some ⟨H13, 0, none⟩) V.h.length V.h.length), .int .i64 0]), (7, .tuple #[.agg (accC V (some ⟨H7, 0, none⟩) V.h.length V.h.length), .int .i64 0]), (14, .agg (accC V (some ⟨H14, 0, none⟩) V.h.length V.h.length)), (15, .int .i64 0), (5, .pointer (some ⟨y5, 0, none⟩))]) w)
    (hendQ : ∀ (H13 : Nat), ∀ (H7 : Nat), ∀ (H14 : Nat), ∀ (y5 : Nat), ∀ w : World, Below w0.heap.size w0 w → (Has w H13 3 (ints V.h) ∧ z ≤ H13) → (Has w H7 3 (ints V.h) ∧ z ≤ H7) → (Has w H14 3 (ints V.h) ∧ z ≤ H14) → (Has w y5 49 (accC zeroAc none 0 0) ∧ z ≤ y5) → wpList Try.prog l.toArray Q (pickL l [10, 8, 11]) (putAll a0 [(8, .agg #[.int .i64 x.s, .int .i64 x.t, .int .i64 x.q, .int .i64 x.v]), (9, .pointer (some ⟨g, 0, none⟩)), (10, .pointer (some ⟨g, 0, none⟩)), (11, .pointer (some ⟨g, 0, none⟩)), (12, .slice A m d), (13, .tuple #[.agg (accC V (some ⟨H13, 0, none⟩) V.h.length V.h.length), .int .i64 0]), (7, .tuple #[.agg (accC V (some ⟨H7, 0, none⟩) V.h.length V.h.length), .int .i64 0]), (14, .agg (accC V (some ⟨H14, 0, none⟩) V.h.length V.h.length)), (15, a0.tmps.getD 15 undef), (5, .pointer (some ⟨y5, 0, none⟩))]) w) :
    (Code.region 1 l.toArray true).wp Try.prog Q a0 w0 := by
  subst hl
  refine region_head3 (talF g y m d z A root x V) talD 10 17 8 [8, 11] S.size rfl (by kernel_rfl) (by kernel_rfl) (by kernel_rfl) (talF_mono _ _ _ _ _ _ _ _ _) (tal_ok S) ?_ ?_
  · intro a w hB hF h
    obtain ⟨H13, h13, p13⟩ : tTup z V (a.tmps.getD 13 undef) w := h 5 (some 13) (by omega) rfl
    obtain ⟨H7, h7, p7⟩ : tTup z V (a.tmps.getD 7 undef) w := h 6 (some 7) (by omega) rfl
    obtain ⟨H14, h14, p14⟩ : tAcc z V (a.tmps.getD 14 undef) w := h 7 (some 14) (by omega) rfl
    obtain ⟨y5, h5, p5⟩ : tNew z (a.tmps.getD 5 undef) w := h 9 (some 5) (by omega) rfl
    have hv : valsAre a [(8, .agg #[.int .i64 x.s, .int .i64 x.t, .int .i64 x.q, .int .i64 x.v]), (9, .pointer (some ⟨g, 0, none⟩)), (10, .pointer (some ⟨g, 0, none⟩)), (11, .pointer (some ⟨g, 0, none⟩)), (12, .slice A m d), (13, .tuple #[.agg (accC V (some ⟨H13, 0, none⟩) V.h.length V.h.length), .int .i64 0]), (7, .tuple #[.agg (accC V (some ⟨H7, 0, none⟩) V.h.length V.h.length), .int .i64 0]), (14, .agg (accC V (some ⟨H14, 0, none⟩) V.h.length V.h.length)), (15, .int .i64 0), (5, .pointer (some ⟨y5, 0, none⟩))] := by
      refine ⟨?_, ?_, ?_, ?_, ?_, ?_, ?_, ?_, ?_, ?_, trivial⟩
      · exact h 0 (some 8) (by omega) rfl
      · exact h 1 (some 9) (by omega) rfl
      · exact h 2 (some 10) (by omega) rfl
      · exact h 3 (some 11) (by omega) rfl
      · exact h 4 (some 12) (by omega) rfl
      · exact h13
      · exact h7
      · exact h14
      · exact h 8 (some 15) (by omega) rfl
      · exact h5
    rw [frame_is hF _ hv (by rfl) (by rfl)]
    exact hend H13 H7 H14 y5 w hB p13 p7 p14 p5
  · intro a w hB hF h hq
    obtain ⟨H13, h13, p13⟩ : tTup z V (a.tmps.getD 13 undef) w := h 5 (some 13) (by omega) (by omega) rfl
    obtain ⟨H7, h7, p7⟩ : tTup z V (a.tmps.getD 7 undef) w := h 6 (some 7) (by omega) (by omega) rfl
    obtain ⟨H14, h14, p14⟩ : tAcc z V (a.tmps.getD 14 undef) w := h 7 (some 14) (by omega) (by omega) rfl
    obtain ⟨y5, h5, p5⟩ : tNew z (a.tmps.getD 5 undef) w := h 9 (some 5) (by omega) (by omega) rfl
    have hv : valsAre a [(8, .agg #[.int .i64 x.s, .int .i64 x.t, .int .i64 x.q, .int .i64 x.v]), (9, .pointer (some ⟨g, 0, none⟩)), (10, .pointer (some ⟨g, 0, none⟩)), (11, .pointer (some ⟨g, 0, none⟩)), (12, .slice A m d), (13, .tuple #[.agg (accC V (some ⟨H13, 0, none⟩) V.h.length V.h.length), .int .i64 0]), (7, .tuple #[.agg (accC V (some ⟨H7, 0, none⟩) V.h.length V.h.length), .int .i64 0]), (14, .agg (accC V (some ⟨H14, 0, none⟩) V.h.length V.h.length)), (15, a0.tmps.getD 15 undef), (5, .pointer (some ⟨y5, 0, none⟩))] := by
      refine ⟨?_, ?_, ?_, ?_, ?_, ?_, ?_, ?_, ?_, ?_, trivial⟩
      · exact h 0 (some 8) (by omega) (by omega) rfl
      · exact h 1 (some 9) (by omega) (by omega) rfl
      · exact h 2 (some 10) (by omega) (by omega) rfl
      · exact h 3 (some 11) (by omega) (by omega) rfl
      · exact h 4 (some 12) (by omega) (by omega) rfl
      · exact h13
      · exact h7
      · exact h14
      · exact hq (some 15) rfl
      · exact h5
    rw [frame_is hF _ hv (by rfl) (by rfl)]
    exact hendQ H13 H7 H14 y5 w hB p13 p7 p14 p5
end

def tpuD : List (Option Tmp) := [some 35, some 36, some 37, some 38, some 39, some 40, some 41, some 42, some 8]
def tpuF (g _y z : Nat) (x : It) (V : Ac) (bs : List Int) (P : Nat → Prop) (L R : Tr) (C : Option Addr) (n c : Nat) : List Fact := [isV (.pointer L.ptr), isV (.agg #[.int .i64 x.s, .int .i64 x.t, .int .i64 x.q, .int .i64 x.v]), isV (.pointer R.ptr), isV (.pointer (some ⟨g, 0, none⟩)), isV (.slice C n c), tAcc z V, tPrt z L.ptr x R.ptr V, trV bs P (L.row ++ x :: R.row), trV bs P (L.row ++ x :: R.row)]
theorem tpuF_mono (g y z : Nat) (x : It) (V : Ac) (bs : List Int) (P : Nat → Prop) (L R : Tr) (C : Option Addr) (n c : Nat) : ∀ φ ∈ tpuF g y z x V bs P L R C n c, Mono φ := by
  unfold tpuF
  refine monos_cons (mono_isV _) ?_
  refine monos_cons (mono_isV _) ?_
  refine monos_cons (mono_isV _) ?_
  refine monos_cons (mono_isV _) ?_
  refine monos_cons (mono_isV _) ?_
  refine monos_cons (tAcc_mono _ _) ?_
  refine monos_cons (tPrt_mono _ _ _ _ _) ?_
  refine monos_cons (trV_mono _ _ _) ?_
  refine monos_cons (trV_mono _ _ _) ?_
  exact monos_nil
structure tpuS (g y z : Nat) (x : It) (V : Ac) (bs : List Int) (P : Nat → Prop) (L R : Tr) (C : Option Addr) (n c : Nat) (a0 : Act) (w0 : World) : Prop where
  size : a0.tmps.size = 43
  v0 : a0.tmps.getD 0 undef = .pointer (some ⟨g, 0, none⟩)
  v1 : a0.tmps.getD 1 undef = .pointer L.ptr
  v3 : a0.tmps.getD 3 undef = .pointer R.ptr
  v6 : a0.tmps.getD 6 undef = .pointer (some ⟨y, 0, none⟩)
  v9 : a0.tmps.getD 9 undef = .slice C n c
  bx : Has w0 y 47 #[.int .i64 x.s, .int .i64 x.t, .int .i64 x.q, .int .i64 x.v]
  ez : z ≤ w0.heap.size
  hL : L.At bs P w0
  hR : R.At bs P w0
  hP : ∀ k, z ≤ k → P k
  hV : V = foldA bs (L.row ++ x :: R.row)
  c1 : ∀ w, Below w0.heap.size w0 w → Calls Try.prog 50 #[.pointer (some ⟨g, 0, none⟩), .slice C n c] w fun e w1 => ∃ H, w.heap.size ≤ H ∧ e = .returned (accV V (some ⟨H, 0, none⟩) V.h.length V.h.length) ∧ Has w1 H 3 (ints V.h) ∧ Below w.heap.size w w1
section
variable {g y z : Nat} {x : It} {V : Ac} {bs : List Int} {P : Nat → Prop} {L R : Tr} {C : Option Addr} {n c : Nat} {a0 : Act} {w0 : World} (S : tpuS g y z x V bs P L R C n c a0 w0)
include S
set_option maxRecDepth 100000 in
set_option maxHeartbeats 8000000 in
theorem tpu_ok : AllOps (fun j o => ∀ (a : Act) (w : World), Below w0.heap.size w0 w → FrD tpuD a0 a → needs tpuD (tpuF g y z x V bs P L R C n c) a w o.after.toList → StepD Try.prog tpuD (factAt (tpuF g y z x V bs P L R C n c) j) o a w) 0 (opsOf 7 Try.f76) := by
  simp only [opsOf, Try.f76, opsAt, Option.bind, Option.or, Option.getD, reduceCtorEq, if_true, if_false, Nat.reduceEqDiff]
  refine ⟨?_, ?_⟩
  · intro _a _w _hB hF _hd
    exact step_move (guard_none rfl) rfl _ rfl ((hF.other 1 rfl).trans S.v1)
  refine ⟨?_, ?_⟩
  · intro _a _w hB hF _hd
    exact rf_loadS (guard_none rfl) rfl _ _ rfl _ _ ((hF.other 6 rfl).trans S.v6) _ (rf_range (S.bx.below hB S.bx.lt)) Try.underlying47 rfl (by kernel_rfl) rfl
  refine ⟨?_, ?_⟩
  · intro _a _w _hB hF _hd
    exact step_move (guard_none rfl) rfl _ rfl ((hF.other 3 rfl).trans S.v3)
  refine ⟨?_, ?_⟩
  · intro _a _w _hB hF _hd
    exact step_move (guard_none rfl) rfl _ rfl ((hF.other 0 rfl).trans S.v0)
  refine ⟨?_, ?_⟩
  · intro _a _w _hB hF _hd
    exact step_move (guard_none rfl) rfl _ rfl ((hF.other 9 rfl).trans S.v9)
  refine ⟨?_, ?_⟩
  · intro a w hB _hF hd
    have h38 : a.tmps.getD 38 undef = .pointer (some ⟨g, 0, none⟩) := hd.1 rfl
    have h39 : a.tmps.getD 39 undef = .slice C n c := hd.2.1 rfl
    refine step_call (guard_none rfl) rfl _ _ (rf_call_run Try.func50 (by kernel_rfl) (by kernel_rfl) _ _ rfl) ?_
    simp only [List.map_toArray, List.map_cons, List.map_nil, Act.eval, h38, h39]
    exact (S.c1 w hB).mono (by rintro e w1 ⟨H, hlo, rfl, hh, hb⟩; exact ⟨_, rfl, hb, H, rfl, hh, Nat.le_trans (Nat.le_trans S.ez hB.size) hlo⟩)
  refine ⟨?_, ?_⟩
  · intro a w _hB _hF hd
    have h35 : a.tmps.getD 35 undef = .pointer L.ptr := hd.1 rfl
    have h36 : a.tmps.getD 36 undef = .agg #[.int .i64 x.s, .int .i64 x.t, .int .i64 x.q, .int .i64 x.v] := hd.2.1 rfl
    have h37 : a.tmps.getD 37 undef = .pointer R.ptr := hd.2.2.1 rfl
    obtain ⟨H40, h40, p40⟩ : tAcc z V (a.tmps.getD 40 undef) w := hd.2.2.2.1 rfl
    exact rf_prt (guard_none rfl) rfl _ _ _ _ rfl _ _ _ _ _ h35 h36 h37 h40 p40.1 p40.2 (fun _ _ h => h)
  refine ⟨?_, ?_⟩
  · intro a w hB _hF hd
    obtain ⟨H41, h41, p41⟩ : tPrt z L.ptr x R.ptr V (a.tmps.getD 41 undef) w := hd.1 rfl
    exact rf_boxPrt (guard_none rfl) rfl _ rfl bs P L R x V _ z h41 S.hV p41.1 p41.2 (Nat.le_trans S.ez hB.size) S.hP (S.hL.below hB) (S.hR.below hB) (fun _ _ h => h)
  refine ⟨?_, ?_⟩
  · intro a w _hB _hF hd
    obtain ⟨T42, h42, p42⟩ : trV bs P (L.row ++ x :: R.row) (a.tmps.getD 42 undef) w := hd.1 rfl
    exact step_assign (guard_none rfl) rfl _ rfl ⟨T42, h42, p42⟩
  trivial
theorem tpu_any {Q : Exit → Act → World → Prop} {l : List Oper} (hl : opsOf 7 Try.f76 = l) (hend : ∀ (H40 : Nat), ∀ (H41 : Nat), ∀ (T42 : Tr), ∀ (T8 : Tr), ∀ w : World, Below w0.heap.size w0 w → (Has w H40 3 (ints V.h) ∧ z ≤ H40) → (Has w H41 3 (ints V.h) ∧ z ≤ H41) → (T42.At bs P w ∧ T42.row = (L.row ++ x :: R.row)) → (T8.At bs P w ∧ T8.row = (L.row ++ x :: R.row)) → Q .normal (putAll a0 [(35, .pointer L.ptr), (36, .agg #[.int .i64 x.s, .int .i64 x.t, .int .i64 x.q, .int .i64 x.v]), (37, .pointer R.ptr), (38, .pointer (some ⟨g, 0, none⟩)), (39, .slice C n c), (40, .agg (accC V (some ⟨H40, 0, none⟩) V.h.length V.h.length)), (41, .agg (prtC L.ptr x R.ptr V H41)), (42, .pointer T42.ptr), (8, .pointer T8.ptr)]) w) :
    (Code.region 7 l.toArray true).wp Try.prog Q a0 w0 := by
  subst hl
  refine region_facts2 (tpuF g y z x V bs P L R C n c) tpuD 43 S.size rfl (by kernel_rfl) (by kernel_rfl) (tpuF_mono _ _ _ _ _ _ _ _ _ _ _ _) (tpu_ok S) fun a w hB hF h => ?_
  obtain ⟨H40, h40, p40⟩ : tAcc z V (a.tmps.getD 40 undef) w := h 5 (some 40) rfl
  obtain ⟨H41, h41, p41⟩ : tPrt z L.ptr x R.ptr V (a.tmps.getD 41 undef) w := h 6 (some 41) rfl
  obtain ⟨T42, h42, p42⟩ : trV bs P (L.row ++ x :: R.row) (a.tmps.getD 42 undef) w := h 7 (some 42) rfl
  obtain ⟨T8, h8, p8⟩ : trV bs P (L.row ++ x :: R.row) (a.tmps.getD 8 undef) w := h 8 (some 8) rfl
  have hv : valsAre a [(35, .pointer L.ptr), (36, .agg #[.int .i64 x.s, .int .i64 x.t, .int .i64 x.q, .int .i64 x.v]), (37, .pointer R.ptr), (38, .pointer (some ⟨g, 0, none⟩)), (39, .slice C n c), (40, .agg (accC V (some ⟨H40, 0, none⟩) V.h.length V.h.length)), (41, .agg (prtC L.ptr x R.ptr V H41)), (42, .pointer T42.ptr), (8, .pointer T8.ptr)] := by
    refine ⟨?_, ?_, ?_, ?_, ?_, ?_, ?_, ?_, ?_, trivial⟩
    · exact h 0 (some 35) rfl
    · exact h 1 (some 36) rfl
    · exact h 2 (some 37) rfl
    · exact h 3 (some 38) rfl
    · exact h 4 (some 39) rfl
    · exact h40
    · exact h41
    · exact h42
    · exact h8
  rw [frame_is hF _ hv (by rfl) (by rfl)]
  exact hend H40 H41 T42 T8 w hB p40 p41 p42 p8
end

def ta1D : List (Option Tmp) := [some 11, some 12, some 13, some 14, some 15, some 16, some 17, some 18, some 9, some 10]
def ta1F (b : Nat) (_v : It) (_av : Ac) (_hk : Nat) (p q : Option Addr) : List Fact := [isV (.pointer (some ⟨b, 0, none⟩)), isV (.pointer (some ⟨b, 0, none⟩)), isV (.pointer (some ⟨b, 0, none⟩)), isV (.pointer p), isV (.pointer (some ⟨b, 0, none⟩)), isV (.pointer (some ⟨b, 0, none⟩)), isV (.pointer (some ⟨b, 5, none⟩)), isV (.pointer q), isV (.pointer p), isV (.pointer q)]
theorem ta1F_mono (b : Nat) (v : It) (av : Ac) (hk : Nat) (p q : Option Addr) : ∀ φ ∈ ta1F b v av hk p q, Mono φ := by
  unfold ta1F
  refine monos_cons (mono_isV _) ?_
  refine monos_cons (mono_isV _) ?_
  refine monos_cons (mono_isV _) ?_
  refine monos_cons (mono_isV _) ?_
  refine monos_cons (mono_isV _) ?_
  refine monos_cons (mono_isV _) ?_
  refine monos_cons (mono_isV _) ?_
  refine monos_cons (mono_isV _) ?_
  refine monos_cons (mono_isV _) ?_
  refine monos_cons (mono_isV _) ?_
  exact monos_nil
structure ta1S (b : Nat) (v : It) (av : Ac) (hk : Nat) (p q : Option Addr) (a0 : Act) (w0 : World) : Prop where
  size : a0.tmps.size = 62
  v3 : a0.tmps.getD 3 undef = .pointer (some ⟨b, 0, none⟩)
  pb : Has w0 b 107 (prtC p v q av hk)
section
variable {b : Nat} {v : It} {av : Ac} {hk : Nat} {p q : Option Addr} {a0 : Act} {w0 : World} (S : ta1S b v av hk p q a0 w0)
include S
set_option maxRecDepth 100000 in
set_option maxHeartbeats 8000000 in
theorem ta1_ok : AllOps (fun j o => ∀ (a : Act) (w : World), Below w0.heap.size w0 w → FrD ta1D a0 a → needs ta1D (ta1F b v av hk p q) a w o.after.toList → StepD Try.prog ta1D (factAt (ta1F b v av hk p q) j) o a w) 0 (opsOf 1 Try.f92) := by
  simp only [opsOf, Try.f92, opsAt, Option.bind, Option.or, Option.getD, reduceCtorEq, if_true, if_false, Nat.reduceEqDiff]
  refine ⟨?_, ?_⟩
  · intro _a _w _hB hF _hd
    exact step_move (guard_none rfl) rfl _ rfl ((hF.other 3 rfl).trans S.v3)
  refine ⟨?_, ?_⟩
  · intro a _w _hB _hF hd
    have h11 : a.tmps.getD 11 undef = .pointer (some ⟨b, 0, none⟩) := hd.1 rfl
    exact rf_nilck (guard_none rfl) rfl _ rfl _ h11 rfl
  refine ⟨?_, ?_⟩
  · intro a _w _hB _hF hd
    have h12 : a.tmps.getD 12 undef = .pointer (some ⟨b, 0, none⟩) := hd.1 rfl
    exact rf_faddr (guard_none rfl) rfl _ _ _ rfl _ _ 0 _ h12 (by omega) (fun _ _ => by kernel_rfl) rfl
  refine ⟨?_, ?_⟩
  · intro a _w hB _hF hd
    have h13 : a.tmps.getD 13 undef = .pointer (some ⟨b, 0, none⟩) := hd.1 rfl
    exact rf_load1 (guard_none rfl) rfl _ _ rfl _ _ h13 (run_ldPart ((Has.cell (S.pb.below hB S.pb.lt) 0).trans rfl)) rfl
  refine ⟨?_, ?_⟩
  · intro _a _w _hB hF _hd
    exact step_move (guard_none rfl) rfl _ rfl ((hF.other 3 rfl).trans S.v3)
  refine ⟨?_, ?_⟩
  · intro a _w _hB _hF hd
    have h15 : a.tmps.getD 15 undef = .pointer (some ⟨b, 0, none⟩) := hd.1 rfl
    exact rf_nilck (guard_none rfl) rfl _ rfl _ h15 rfl
  refine ⟨?_, ?_⟩
  · intro a _w _hB _hF hd
    have h16 : a.tmps.getD 16 undef = .pointer (some ⟨b, 0, none⟩) := hd.1 rfl
    exact rf_faddr (guard_none rfl) rfl _ _ _ rfl _ _ 5 _ h16 (by omega) (fun _ _ => by kernel_rfl) rfl
  refine ⟨?_, ?_⟩
  · intro a _w hB _hF hd
    have h17 : a.tmps.getD 17 undef = .pointer (some ⟨b, 5, none⟩) := hd.1 rfl
    exact rf_load1 (guard_none rfl) rfl _ _ rfl _ _ h17 (run_ldPart ((Has.cell (S.pb.below hB S.pb.lt) 5).trans rfl)) rfl
  refine ⟨?_, ?_⟩
  · intro a _w _hB _hF hd
    have h14 : a.tmps.getD 14 undef = .pointer p := hd.1 rfl
    exact step_assign (guard_none rfl) rfl _ rfl h14
  refine ⟨?_, ?_⟩
  · intro a _w _hB _hF hd
    have h18 : a.tmps.getD 18 undef = .pointer q := hd.1 rfl
    exact step_assign (guard_none rfl) rfl _ rfl h18
  trivial
theorem ta1_any {Q : Exit → Act → World → Prop} {l : List Oper} (hl : opsOf 1 Try.f92 = l) (hend : ∀ w : World, Below w0.heap.size w0 w → Q .normal (putAll a0 [(11, .pointer (some ⟨b, 0, none⟩)), (12, .pointer (some ⟨b, 0, none⟩)), (13, .pointer (some ⟨b, 0, none⟩)), (14, .pointer p), (15, .pointer (some ⟨b, 0, none⟩)), (16, .pointer (some ⟨b, 0, none⟩)), (17, .pointer (some ⟨b, 5, none⟩)), (18, .pointer q), (9, .pointer p), (10, .pointer q)]) w) :
    (Code.region 1 l.toArray true).wp Try.prog Q a0 w0 := by
  subst hl
  refine region_facts2 (ta1F b v av hk p q) ta1D 62 S.size rfl (by kernel_rfl) (by kernel_rfl) (ta1F_mono _ _ _ _ _ _) (ta1_ok S) fun a w hB hF h => ?_
  have hv : valsAre a [(11, .pointer (some ⟨b, 0, none⟩)), (12, .pointer (some ⟨b, 0, none⟩)), (13, .pointer (some ⟨b, 0, none⟩)), (14, .pointer p), (15, .pointer (some ⟨b, 0, none⟩)), (16, .pointer (some ⟨b, 0, none⟩)), (17, .pointer (some ⟨b, 5, none⟩)), (18, .pointer q), (9, .pointer p), (10, .pointer q)] := by
    refine ⟨?_, ?_, ?_, ?_, ?_, ?_, ?_, ?_, ?_, ?_, trivial⟩
    · exact h 0 (some 11) rfl
    · exact h 1 (some 12) rfl
    · exact h 2 (some 13) rfl
    · exact h 3 (some 14) rfl
    · exact h 4 (some 15) rfl
    · exact h 5 (some 16) rfl
    · exact h 6 (some 17) rfl
    · exact h 7 (some 18) rfl
    · exact h 8 (some 9) rfl
    · exact h 9 (some 10) rfl
  rw [frame_is hF _ hv (by rfl) (by rfl)]
  exact hend w hB
end

def tb1D : List (Option Tmp) := [some 11, some 12, some 13, some 14, some 15, some 16, some 17, some 18, some 9, some 10]
def tb1F (b : Nat) (_v : It) (_av : Ac) (_hk : Nat) (p q : Option Addr) : List Fact := [isV (.pointer (some ⟨b, 0, none⟩)), isV (.pointer (some ⟨b, 0, none⟩)), isV (.pointer (some ⟨b, 0, none⟩)), isV (.pointer p), isV (.pointer (some ⟨b, 0, none⟩)), isV (.pointer (some ⟨b, 0, none⟩)), isV (.pointer (some ⟨b, 5, none⟩)), isV (.pointer q), isV (.pointer p), isV (.pointer q)]
theorem tb1F_mono (b : Nat) (v : It) (av : Ac) (hk : Nat) (p q : Option Addr) : ∀ φ ∈ tb1F b v av hk p q, Mono φ := by
  unfold tb1F
  refine monos_cons (mono_isV _) ?_
  refine monos_cons (mono_isV _) ?_
  refine monos_cons (mono_isV _) ?_
  refine monos_cons (mono_isV _) ?_
  refine monos_cons (mono_isV _) ?_
  refine monos_cons (mono_isV _) ?_
  refine monos_cons (mono_isV _) ?_
  refine monos_cons (mono_isV _) ?_
  refine monos_cons (mono_isV _) ?_
  refine monos_cons (mono_isV _) ?_
  exact monos_nil
structure tb1S (b : Nat) (v : It) (av : Ac) (hk : Nat) (p q : Option Addr) (a0 : Act) (w0 : World) : Prop where
  size : a0.tmps.size = 62
  v1 : a0.tmps.getD 1 undef = .pointer (some ⟨b, 0, none⟩)
  pb : Has w0 b 107 (prtC p v q av hk)
section
variable {b : Nat} {v : It} {av : Ac} {hk : Nat} {p q : Option Addr} {a0 : Act} {w0 : World} (S : tb1S b v av hk p q a0 w0)
include S
set_option maxRecDepth 100000 in
set_option maxHeartbeats 8000000 in
theorem tb1_ok : AllOps (fun j o => ∀ (a : Act) (w : World), Below w0.heap.size w0 w → FrD tb1D a0 a → needs tb1D (tb1F b v av hk p q) a w o.after.toList → StepD Try.prog tb1D (factAt (tb1F b v av hk p q) j) o a w) 0 (opsOf 1 Try.f93) := by
  simp only [opsOf, Try.f93, opsAt, Option.bind, Option.or, Option.getD, reduceCtorEq, if_true, if_false, Nat.reduceEqDiff]
  refine ⟨?_, ?_⟩
  · intro _a _w _hB hF _hd
    exact step_move (guard_none rfl) rfl _ rfl ((hF.other 1 rfl).trans S.v1)
  refine ⟨?_, ?_⟩
  · intro a _w _hB _hF hd
    have h11 : a.tmps.getD 11 undef = .pointer (some ⟨b, 0, none⟩) := hd.1 rfl
    exact rf_nilck (guard_none rfl) rfl _ rfl _ h11 rfl
  refine ⟨?_, ?_⟩
  · intro a _w _hB _hF hd
    have h12 : a.tmps.getD 12 undef = .pointer (some ⟨b, 0, none⟩) := hd.1 rfl
    exact rf_faddr (guard_none rfl) rfl _ _ _ rfl _ _ 0 _ h12 (by omega) (fun _ _ => by kernel_rfl) rfl
  refine ⟨?_, ?_⟩
  · intro a _w hB _hF hd
    have h13 : a.tmps.getD 13 undef = .pointer (some ⟨b, 0, none⟩) := hd.1 rfl
    exact rf_load1 (guard_none rfl) rfl _ _ rfl _ _ h13 (run_ldPart ((Has.cell (S.pb.below hB S.pb.lt) 0).trans rfl)) rfl
  refine ⟨?_, ?_⟩
  · intro _a _w _hB hF _hd
    exact step_move (guard_none rfl) rfl _ rfl ((hF.other 1 rfl).trans S.v1)
  refine ⟨?_, ?_⟩
  · intro a _w _hB _hF hd
    have h15 : a.tmps.getD 15 undef = .pointer (some ⟨b, 0, none⟩) := hd.1 rfl
    exact rf_nilck (guard_none rfl) rfl _ rfl _ h15 rfl
  refine ⟨?_, ?_⟩
  · intro a _w _hB _hF hd
    have h16 : a.tmps.getD 16 undef = .pointer (some ⟨b, 0, none⟩) := hd.1 rfl
    exact rf_faddr (guard_none rfl) rfl _ _ _ rfl _ _ 5 _ h16 (by omega) (fun _ _ => by kernel_rfl) rfl
  refine ⟨?_, ?_⟩
  · intro a _w hB _hF hd
    have h17 : a.tmps.getD 17 undef = .pointer (some ⟨b, 5, none⟩) := hd.1 rfl
    exact rf_load1 (guard_none rfl) rfl _ _ rfl _ _ h17 (run_ldPart ((Has.cell (S.pb.below hB S.pb.lt) 5).trans rfl)) rfl
  refine ⟨?_, ?_⟩
  · intro a _w _hB _hF hd
    have h14 : a.tmps.getD 14 undef = .pointer p := hd.1 rfl
    exact step_assign (guard_none rfl) rfl _ rfl h14
  refine ⟨?_, ?_⟩
  · intro a _w _hB _hF hd
    have h18 : a.tmps.getD 18 undef = .pointer q := hd.1 rfl
    exact step_assign (guard_none rfl) rfl _ rfl h18
  trivial
theorem tb1_any {Q : Exit → Act → World → Prop} {l : List Oper} (hl : opsOf 1 Try.f93 = l) (hend : ∀ w : World, Below w0.heap.size w0 w → Q .normal (putAll a0 [(11, .pointer (some ⟨b, 0, none⟩)), (12, .pointer (some ⟨b, 0, none⟩)), (13, .pointer (some ⟨b, 0, none⟩)), (14, .pointer p), (15, .pointer (some ⟨b, 0, none⟩)), (16, .pointer (some ⟨b, 0, none⟩)), (17, .pointer (some ⟨b, 5, none⟩)), (18, .pointer q), (9, .pointer p), (10, .pointer q)]) w) :
    (Code.region 1 l.toArray true).wp Try.prog Q a0 w0 := by
  subst hl
  refine region_facts2 (tb1F b v av hk p q) tb1D 62 S.size rfl (by kernel_rfl) (by kernel_rfl) (tb1F_mono _ _ _ _ _ _) (tb1_ok S) fun a w hB hF h => ?_
  have hv : valsAre a [(11, .pointer (some ⟨b, 0, none⟩)), (12, .pointer (some ⟨b, 0, none⟩)), (13, .pointer (some ⟨b, 0, none⟩)), (14, .pointer p), (15, .pointer (some ⟨b, 0, none⟩)), (16, .pointer (some ⟨b, 0, none⟩)), (17, .pointer (some ⟨b, 5, none⟩)), (18, .pointer q), (9, .pointer p), (10, .pointer q)] := by
    refine ⟨?_, ?_, ?_, ?_, ?_, ?_, ?_, ?_, ?_, ?_, trivial⟩
    · exact h 0 (some 11) rfl
    · exact h 1 (some 12) rfl
    · exact h 2 (some 13) rfl
    · exact h 3 (some 14) rfl
    · exact h 4 (some 15) rfl
    · exact h 5 (some 16) rfl
    · exact h 6 (some 17) rfl
    · exact h 7 (some 18) rfl
    · exact h 8 (some 9) rfl
    · exact h 9 (some 10) rfl
  rw [frame_is hF _ hv (by rfl) (by rfl)]
  exact hend w hB
end

def ttaD : List (Option Tmp) := [some 25, some 26, some 27, some 28, some 29, some 30, some 31, some 32, some 33, some 34, some 35, some 36, some 8]
def ttaF (g _y b _z : Nat) (x v : It) (_av : Ac) (_hk : Nat) (_p _q : Option Addr) (bs : List Int) (P : Nat → Prop) (R1 R2 : List It) (pl pi po : Option Addr) : List Fact := [isV (.pointer (some ⟨g, 0, none⟩)), isV (.pointer (some ⟨g, 0, none⟩)), isV (.pointer pl), isV (.agg #[.int .i64 x.s, .int .i64 x.t, .int .i64 x.q, .int .i64 x.v]), isV (.pointer pi), trV bs P R1, isV (.pointer (some ⟨b, 0, none⟩)), isV (.pointer (some ⟨b, 0, none⟩)), isV (.pointer (some ⟨b, 1, none⟩)), isV (.agg #[.int .i64 v.s, .int .i64 v.t, .int .i64 v.q, .int .i64 v.v]), isV (.pointer po), trV bs P R2, trV bs P R2]
theorem ttaF_mono (g y b z : Nat) (x v : It) (av : Ac) (hk : Nat) (p q : Option Addr) (bs : List Int) (P : Nat → Prop) (R1 R2 : List It) (pl pi po : Option Addr) : ∀ φ ∈ ttaF g y b z x v av hk p q bs P R1 R2 pl pi po, Mono φ := by
  unfold ttaF
  refine monos_cons (mono_isV _) ?_
  refine monos_cons (mono_isV _) ?_
  refine monos_cons (mono_isV _) ?_
  refine monos_cons (mono_isV _) ?_
  refine monos_cons (mono_isV _) ?_
  refine monos_cons (trV_mono _ _ _) ?_
  refine monos_cons (mono_isV _) ?_
  refine monos_cons (mono_isV _) ?_
  refine monos_cons (mono_isV _) ?_
  refine monos_cons (mono_isV _) ?_
  refine monos_cons (mono_isV _) ?_
  refine monos_cons (trV_mono _ _ _) ?_
  refine monos_cons (trV_mono _ _ _) ?_
  exact monos_nil
structure ttaS (g y b z : Nat) (x v : It) (av : Ac) (hk : Nat) (p q : Option Addr) (bs : List Int) (P : Nat → Prop) (R1 R2 : List It) (pl pi po : Option Addr) (a0 : Act) (w0 : World) : Prop where
  size : a0.tmps.size = 62
  v0 : a0.tmps.getD 0 undef = .pointer (some ⟨g, 0, none⟩)
  v1 : a0.tmps.getD 1 undef = .pointer pl
  v3 : a0.tmps.getD 3 undef = .pointer (some ⟨b, 0, none⟩)
  v6 : a0.tmps.getD 6 undef = .pointer (some ⟨y, 0, none⟩)
  v9 : a0.tmps.getD 9 undef = .pointer pi
  v10 : a0.tmps.getD 10 undef = .pointer po
  bx : Has w0 y 47 #[.int .i64 x.s, .int .i64 x.t, .int .i64 x.q, .int .i64 x.v]
  pb : Has w0 b 107 (prtC p v q av hk)
  c1 : ∀ w, Below w0.heap.size w0 w → Calls Try.prog 76 #[.pointer (some ⟨g, 0, none⟩), .pointer pl, .agg #[.int .i64 x.s, .int .i64 x.t, .int .i64 x.q, .int .i64 x.v], .pointer pi] w (TrO bs P R1 w)
  c2 : ∀ (w : World) (T : Tr), Below w0.heap.size w0 w → T.At bs P w → T.row = R1 → Calls Try.prog 76 #[.pointer (some ⟨g, 0, none⟩), .pointer T.ptr, .agg #[.int .i64 v.s, .int .i64 v.t, .int .i64 v.q, .int .i64 v.v], .pointer po] w (TrO bs P R2 w)
section
variable {g y b z : Nat} {x v : It} {av : Ac} {hk : Nat} {p q : Option Addr} {bs : List Int} {P : Nat → Prop} {R1 R2 : List It} {pl pi po : Option Addr} {a0 : Act} {w0 : World} (S : ttaS g y b z x v av hk p q bs P R1 R2 pl pi po a0 w0)
include S
set_option maxRecDepth 100000 in
set_option maxHeartbeats 8000000 in
theorem tta_ok : AllOps (fun j o => ∀ (a : Act) (w : World), Below w0.heap.size w0 w → FrD ttaD a0 a → needs ttaD (ttaF g y b z x v av hk p q bs P R1 R2 pl pi po) a w o.after.toList → StepD Try.prog ttaD (factAt (ttaF g y b z x v av hk p q bs P R1 R2 pl pi po) j) o a w) 0 (opsOf 3 Try.f92) := by
  simp only [opsOf, Try.f92, opsAt, Option.bind, Option.or, Option.getD, reduceCtorEq, if_true, if_false, Nat.reduceEqDiff]
  refine ⟨?_, ?_⟩
  · intro _a _w _hB hF _hd
    exact step_move (guard_none rfl) rfl _ rfl ((hF.other 0 rfl).trans S.v0)
  refine ⟨?_, ?_⟩
  · intro _a _w _hB hF _hd
    exact step_move (guard_none rfl) rfl _ rfl ((hF.other 0 rfl).trans S.v0)
  refine ⟨?_, ?_⟩
  · intro _a _w _hB hF _hd
    exact step_move (guard_none rfl) rfl _ rfl ((hF.other 1 rfl).trans S.v1)
  refine ⟨?_, ?_⟩
  · intro _a _w hB hF _hd
    exact rf_loadS (guard_none rfl) rfl _ _ rfl _ _ ((hF.other 6 rfl).trans S.v6) _ (rf_range (S.bx.below hB S.bx.lt)) Try.underlying47 rfl (by kernel_rfl) rfl
  refine ⟨?_, ?_⟩
  · intro _a _w _hB hF _hd
    exact step_move (guard_none rfl) rfl _ rfl ((hF.other 9 rfl).trans S.v9)
  refine ⟨?_, ?_⟩
  · intro a w hB _hF hd
    have h26 : a.tmps.getD 26 undef = .pointer (some ⟨g, 0, none⟩) := hd.1 rfl
    have h27 : a.tmps.getD 27 undef = .pointer pl := hd.2.1 rfl
    have h28 : a.tmps.getD 28 undef = .agg #[.int .i64 x.s, .int .i64 x.t, .int .i64 x.q, .int .i64 x.v] := hd.2.2.1 rfl
    have h29 : a.tmps.getD 29 undef = .pointer pi := hd.2.2.2.1 rfl
    refine step_call (guard_none rfl) rfl _ _ (rf_call_run Try.func76 (by kernel_rfl) (by kernel_rfl) _ _ rfl) ?_
    simp only [List.map_toArray, List.map_cons, List.map_nil, Act.eval, h26, h27, h28, h29]
    exact (S.c1 w hB).mono (by rintro e w1 ⟨T, rfl, h1, h2, hb⟩; exact ⟨_, rfl, hb, T, rfl, h1, h2⟩)
  refine ⟨?_, ?_⟩
  · intro _a _w _hB hF _hd
    exact step_move (guard_none rfl) rfl _ rfl ((hF.other 3 rfl).trans S.v3)
  refine ⟨?_, ?_⟩
  · intro a _w _hB _hF hd
    have h31 : a.tmps.getD 31 undef = .pointer (some ⟨b, 0, none⟩) := hd.1 rfl
    exact rf_nilck (guard_none rfl) rfl _ rfl _ h31 rfl
  refine ⟨?_, ?_⟩
  · intro a _w _hB _hF hd
    have h32 : a.tmps.getD 32 undef = .pointer (some ⟨b, 0, none⟩) := hd.1 rfl
    exact rf_faddr (guard_none rfl) rfl _ _ _ rfl _ _ 1 _ h32 (by omega) (fun _ _ => by kernel_rfl) rfl
  refine ⟨?_, ?_⟩
  · intro a _w hB _hF hd
    have h33 : a.tmps.getD 33 undef = .pointer (some ⟨b, 1, none⟩) := hd.1 rfl
    exact rf_loadItP (guard_none rfl) rfl _ rfl _ _ h33 v (prtC_item _ _ _ _ _ (S.pb.below hB S.pb.lt)) rfl
  refine ⟨?_, ?_⟩
  · intro _a _w _hB hF _hd
    exact step_move (guard_none rfl) rfl _ rfl ((hF.other 10 rfl).trans S.v10)
  refine ⟨?_, ?_⟩
  · intro a w hB _hF hd
    have h25 : a.tmps.getD 25 undef = .pointer (some ⟨g, 0, none⟩) := hd.1 rfl
    obtain ⟨T30, h30, p30⟩ : trV bs P R1 (a.tmps.getD 30 undef) w := hd.2.1 rfl
    have h34 : a.tmps.getD 34 undef = .agg #[.int .i64 v.s, .int .i64 v.t, .int .i64 v.q, .int .i64 v.v] := hd.2.2.1 rfl
    have h35 : a.tmps.getD 35 undef = .pointer po := hd.2.2.2.1 rfl
    refine step_call (guard_none rfl) rfl _ _ (rf_call_run Try.func76 (by kernel_rfl) (by kernel_rfl) _ _ rfl) ?_
    simp only [List.map_toArray, List.map_cons, List.map_nil, Act.eval, h25, h30, h34, h35]
    exact (S.c2 w T30 hB p30.1 p30.2).mono (by rintro e w1 ⟨T, rfl, h1, h2, hb⟩; exact ⟨_, rfl, hb, T, rfl, h1, h2⟩)
  refine ⟨?_, ?_⟩
  · intro a w _hB _hF hd
    obtain ⟨T36, h36, p36⟩ : trV bs P R2 (a.tmps.getD 36 undef) w := hd.1 rfl
    exact step_assign (guard_none rfl) rfl _ rfl ⟨T36, h36, p36⟩
  trivial
theorem tta_any {Q : Exit → Act → World → Prop} {l : List Oper} (hl : opsOf 3 Try.f92 = l) (hend : ∀ (T30 : Tr), ∀ (T36 : Tr), ∀ (T8 : Tr), ∀ w : World, Below w0.heap.size w0 w → (T30.At bs P w ∧ T30.row = R1) → (T36.At bs P w ∧ T36.row = R2) → (T8.At bs P w ∧ T8.row = R2) → Q .normal (putAll a0 [(25, .pointer (some ⟨g, 0, none⟩)), (26, .pointer (some ⟨g, 0, none⟩)), (27, .pointer pl), (28, .agg #[.int .i64 x.s, .int .i64 x.t, .int .i64 x.q, .int .i64 x.v]), (29, .pointer pi), (30, .pointer T30.ptr), (31, .pointer (some ⟨b, 0, none⟩)), (32, .pointer (some ⟨b, 0, none⟩)), (33, .pointer (some ⟨b, 1, none⟩)), (34, .agg #[.int .i64 v.s, .int .i64 v.t, .int .i64 v.q, .int .i64 v.v]), (35, .pointer po), (36, .pointer T36.ptr), (8, .pointer T8.ptr)]) w) :
    (Code.region 3 l.toArray true).wp Try.prog Q a0 w0 := by
  subst hl
  refine region_facts2 (ttaF g y b z x v av hk p q bs P R1 R2 pl pi po) ttaD 62 S.size rfl (by kernel_rfl) (by kernel_rfl) (ttaF_mono _ _ _ _ _ _ _ _ _ _ _ _ _ _ _ _ _) (tta_ok S) fun a w hB hF h => ?_
  obtain ⟨T30, h30, p30⟩ : trV bs P R1 (a.tmps.getD 30 undef) w := h 5 (some 30) rfl
  obtain ⟨T36, h36, p36⟩ : trV bs P R2 (a.tmps.getD 36 undef) w := h 11 (some 36) rfl
  obtain ⟨T8, h8, p8⟩ : trV bs P R2 (a.tmps.getD 8 undef) w := h 12 (some 8) rfl
  have hv : valsAre a [(25, .pointer (some ⟨g, 0, none⟩)), (26, .pointer (some ⟨g, 0, none⟩)), (27, .pointer pl), (28, .agg #[.int .i64 x.s, .int .i64 x.t, .int .i64 x.q, .int .i64 x.v]), (29, .pointer pi), (30, .pointer T30.ptr), (31, .pointer (some ⟨b, 0, none⟩)), (32, .pointer (some ⟨b, 0, none⟩)), (33, .pointer (some ⟨b, 1, none⟩)), (34, .agg #[.int .i64 v.s, .int .i64 v.t, .int .i64 v.q, .int .i64 v.v]), (35, .pointer po), (36, .pointer T36.ptr), (8, .pointer T8.ptr)] := by
    refine ⟨?_, ?_, ?_, ?_, ?_, ?_, ?_, ?_, ?_, ?_, ?_, ?_, ?_, trivial⟩
    · exact h 0 (some 25) rfl
    · exact h 1 (some 26) rfl
    · exact h 2 (some 27) rfl
    · exact h 3 (some 28) rfl
    · exact h 4 (some 29) rfl
    · exact h30
    · exact h 6 (some 31) rfl
    · exact h 7 (some 32) rfl
    · exact h 8 (some 33) rfl
    · exact h 9 (some 34) rfl
    · exact h 10 (some 35) rfl
    · exact h36
    · exact h8
  rw [frame_is hF _ hv (by rfl) (by rfl)]
  exact hend T30 T36 T8 w hB p30 p36 p8
end

def ttbD : List (Option Tmp) := [some 25, some 26, some 27, some 28, some 29, some 30, some 31, some 32, some 33, some 34, some 35, some 36, some 8]
def ttbF (g _y b _z : Nat) (x v : It) (_av : Ac) (_hk : Nat) (_p _q : Option Addr) (bs : List Int) (P : Nat → Prop) (R1 R2 : List It) (pl pi po : Option Addr) : List Fact := [isV (.pointer (some ⟨g, 0, none⟩)), isV (.pointer po), isV (.pointer (some ⟨b, 0, none⟩)), isV (.pointer (some ⟨b, 0, none⟩)), isV (.pointer (some ⟨b, 1, none⟩)), isV (.agg #[.int .i64 v.s, .int .i64 v.t, .int .i64 v.q, .int .i64 v.v]), isV (.pointer (some ⟨g, 0, none⟩)), isV (.pointer pi), isV (.agg #[.int .i64 x.s, .int .i64 x.t, .int .i64 x.q, .int .i64 x.v]), isV (.pointer pl), trV bs P R1, trV bs P R2, trV bs P R2]
theorem ttbF_mono (g y b z : Nat) (x v : It) (av : Ac) (hk : Nat) (p q : Option Addr) (bs : List Int) (P : Nat → Prop) (R1 R2 : List It) (pl pi po : Option Addr) : ∀ φ ∈ ttbF g y b z x v av hk p q bs P R1 R2 pl pi po, Mono φ := by
  unfold ttbF
  refine monos_cons (mono_isV _) ?_
  refine monos_cons (mono_isV _) ?_
  refine monos_cons (mono_isV _) ?_
  refine monos_cons (mono_isV _) ?_
  refine monos_cons (mono_isV _) ?_
  refine monos_cons (mono_isV _) ?_
  refine monos_cons (mono_isV _) ?_
  refine monos_cons (mono_isV _) ?_
  refine monos_cons (mono_isV _) ?_
  refine monos_cons (mono_isV _) ?_
  refine monos_cons (trV_mono _ _ _) ?_
  refine monos_cons (trV_mono _ _ _) ?_
  refine monos_cons (trV_mono _ _ _) ?_
  exact monos_nil
structure ttbS (g y b z : Nat) (x v : It) (av : Ac) (hk : Nat) (p q : Option Addr) (bs : List Int) (P : Nat → Prop) (R1 R2 : List It) (pl pi po : Option Addr) (a0 : Act) (w0 : World) : Prop where
  size : a0.tmps.size = 62
  v0 : a0.tmps.getD 0 undef = .pointer (some ⟨g, 0, none⟩)
  v1 : a0.tmps.getD 1 undef = .pointer (some ⟨b, 0, none⟩)
  v3 : a0.tmps.getD 3 undef = .pointer pl
  v6 : a0.tmps.getD 6 undef = .pointer (some ⟨y, 0, none⟩)
  v9 : a0.tmps.getD 9 undef = .pointer po
  v10 : a0.tmps.getD 10 undef = .pointer pi
  bx : Has w0 y 47 #[.int .i64 x.s, .int .i64 x.t, .int .i64 x.q, .int .i64 x.v]
  pb : Has w0 b 107 (prtC p v q av hk)
  c1 : ∀ w, Below w0.heap.size w0 w → Calls Try.prog 76 #[.pointer (some ⟨g, 0, none⟩), .pointer pi, .agg #[.int .i64 x.s, .int .i64 x.t, .int .i64 x.q, .int .i64 x.v], .pointer pl] w (TrO bs P R1 w)
  c2 : ∀ (w : World) (T : Tr), Below w0.heap.size w0 w → T.At bs P w → T.row = R1 → Calls Try.prog 76 #[.pointer (some ⟨g, 0, none⟩), .pointer po, .agg #[.int .i64 v.s, .int .i64 v.t, .int .i64 v.q, .int .i64 v.v], .pointer T.ptr] w (TrO bs P R2 w)
section
variable {g y b z : Nat} {x v : It} {av : Ac} {hk : Nat} {p q : Option Addr} {bs : List Int} {P : Nat → Prop} {R1 R2 : List It} {pl pi po : Option Addr} {a0 : Act} {w0 : World} (S : ttbS g y b z x v av hk p q bs P R1 R2 pl pi po a0 w0)
include S
set_option maxRecDepth 100000 in
set_option maxHeartbeats 8000000 in
theorem ttb_ok : AllOps (fun j o => ∀ (a : Act) (w : World), Below w0.heap.size w0 w → FrD ttbD a0 a → needs ttbD (ttbF g y b z x v av hk p q bs P R1 R2 pl pi po) a w o.after.toList → StepD Try.prog ttbD (factAt (ttbF g y b z x v av hk p q bs P R1 R2 pl pi po) j) o a w) 0 (opsOf 3 Try.f93) := by
  simp only [opsOf, Try.f93, opsAt, Option.bind, Option.or, Option.getD, reduceCtorEq, if_true, if_false, Nat.reduceEqDiff]
  refine ⟨?_, ?_⟩
  · intro _a _w _hB hF _hd
    exact step_move (guard_none rfl) rfl _ rfl ((hF.other 0 rfl).trans S.v0)
  refine ⟨?_, ?_⟩
  · intro _a _w _hB hF _hd
    exact step_move (guard_none rfl) rfl _ rfl ((hF.other 9 rfl).trans S.v9)
  refine ⟨?_, ?_⟩
  · intro _a _w _hB hF _hd
    exact step_move (guard_none rfl) rfl _ rfl ((hF.other 1 rfl).trans S.v1)
  refine ⟨?_, ?_⟩
  · intro a _w _hB _hF hd
    have h27 : a.tmps.getD 27 undef = .pointer (some ⟨b, 0, none⟩) := hd.1 rfl
    exact rf_nilck (guard_none rfl) rfl _ rfl _ h27 rfl
  refine ⟨?_, ?_⟩
  · intro a _w _hB _hF hd
    have h28 : a.tmps.getD 28 undef = .pointer (some ⟨b, 0, none⟩) := hd.1 rfl
    exact rf_faddr (guard_none rfl) rfl _ _ _ rfl _ _ 1 _ h28 (by omega) (fun _ _ => by kernel_rfl) rfl
  refine ⟨?_, ?_⟩
  · intro a _w hB _hF hd
    have h29 : a.tmps.getD 29 undef = .pointer (some ⟨b, 1, none⟩) := hd.1 rfl
    exact rf_loadItP (guard_none rfl) rfl _ rfl _ _ h29 v (prtC_item _ _ _ _ _ (S.pb.below hB S.pb.lt)) rfl
  refine ⟨?_, ?_⟩
  · intro _a _w _hB hF _hd
    exact step_move (guard_none rfl) rfl _ rfl ((hF.other 0 rfl).trans S.v0)
  refine ⟨?_, ?_⟩
  · intro _a _w _hB hF _hd
    exact step_move (guard_none rfl) rfl _ rfl ((hF.other 10 rfl).trans S.v10)
  refine ⟨?_, ?_⟩
  · intro _a _w hB hF _hd
    exact rf_loadS (guard_none rfl) rfl _ _ rfl _ _ ((hF.other 6 rfl).trans S.v6) _ (rf_range (S.bx.below hB S.bx.lt)) Try.underlying47 rfl (by kernel_rfl) rfl
  refine ⟨?_, ?_⟩
  · intro _a _w _hB hF _hd
    exact step_move (guard_none rfl) rfl _ rfl ((hF.other 3 rfl).trans S.v3)
  refine ⟨?_, ?_⟩
  · intro a w hB _hF hd
    have h31 : a.tmps.getD 31 undef = .pointer (some ⟨g, 0, none⟩) := hd.1 rfl
    have h32 : a.tmps.getD 32 undef = .pointer pi := hd.2.1 rfl
    have h33 : a.tmps.getD 33 undef = .agg #[.int .i64 x.s, .int .i64 x.t, .int .i64 x.q, .int .i64 x.v] := hd.2.2.1 rfl
    have h34 : a.tmps.getD 34 undef = .pointer pl := hd.2.2.2.1 rfl
    refine step_call (guard_none rfl) rfl _ _ (rf_call_run Try.func76 (by kernel_rfl) (by kernel_rfl) _ _ rfl) ?_
    simp only [List.map_toArray, List.map_cons, List.map_nil, Act.eval, h31, h32, h33, h34]
    exact (S.c1 w hB).mono (by rintro e w1 ⟨T, rfl, h1, h2, hb⟩; exact ⟨_, rfl, hb, T, rfl, h1, h2⟩)
  refine ⟨?_, ?_⟩
  · intro a w hB _hF hd
    have h25 : a.tmps.getD 25 undef = .pointer (some ⟨g, 0, none⟩) := hd.1 rfl
    have h26 : a.tmps.getD 26 undef = .pointer po := hd.2.1 rfl
    have h30 : a.tmps.getD 30 undef = .agg #[.int .i64 v.s, .int .i64 v.t, .int .i64 v.q, .int .i64 v.v] := hd.2.2.1 rfl
    obtain ⟨T35, h35, p35⟩ : trV bs P R1 (a.tmps.getD 35 undef) w := hd.2.2.2.1 rfl
    refine step_call (guard_none rfl) rfl _ _ (rf_call_run Try.func76 (by kernel_rfl) (by kernel_rfl) _ _ rfl) ?_
    simp only [List.map_toArray, List.map_cons, List.map_nil, Act.eval, h25, h26, h30, h35]
    exact (S.c2 w T35 hB p35.1 p35.2).mono (by rintro e w1 ⟨T, rfl, h1, h2, hb⟩; exact ⟨_, rfl, hb, T, rfl, h1, h2⟩)
  refine ⟨?_, ?_⟩
  · intro a w _hB _hF hd
    obtain ⟨T36, h36, p36⟩ : trV bs P R2 (a.tmps.getD 36 undef) w := hd.1 rfl
    exact step_assign (guard_none rfl) rfl _ rfl ⟨T36, h36, p36⟩
  trivial
theorem ttb_any {Q : Exit → Act → World → Prop} {l : List Oper} (hl : opsOf 3 Try.f93 = l) (hend : ∀ (T35 : Tr), ∀ (T36 : Tr), ∀ (T8 : Tr), ∀ w : World, Below w0.heap.size w0 w → (T35.At bs P w ∧ T35.row = R1) → (T36.At bs P w ∧ T36.row = R2) → (T8.At bs P w ∧ T8.row = R2) → Q .normal (putAll a0 [(25, .pointer (some ⟨g, 0, none⟩)), (26, .pointer po), (27, .pointer (some ⟨b, 0, none⟩)), (28, .pointer (some ⟨b, 0, none⟩)), (29, .pointer (some ⟨b, 1, none⟩)), (30, .agg #[.int .i64 v.s, .int .i64 v.t, .int .i64 v.q, .int .i64 v.v]), (31, .pointer (some ⟨g, 0, none⟩)), (32, .pointer pi), (33, .agg #[.int .i64 x.s, .int .i64 x.t, .int .i64 x.q, .int .i64 x.v]), (34, .pointer pl), (35, .pointer T35.ptr), (36, .pointer T36.ptr), (8, .pointer T8.ptr)]) w) :
    (Code.region 3 l.toArray true).wp Try.prog Q a0 w0 := by
  subst hl
  refine region_facts2 (ttbF g y b z x v av hk p q bs P R1 R2 pl pi po) ttbD 62 S.size rfl (by kernel_rfl) (by kernel_rfl) (ttbF_mono _ _ _ _ _ _ _ _ _ _ _ _ _ _ _ _ _) (ttb_ok S) fun a w hB hF h => ?_
  obtain ⟨T35, h35, p35⟩ : trV bs P R1 (a.tmps.getD 35 undef) w := h 10 (some 35) rfl
  obtain ⟨T36, h36, p36⟩ : trV bs P R2 (a.tmps.getD 36 undef) w := h 11 (some 36) rfl
  obtain ⟨T8, h8, p8⟩ : trV bs P R2 (a.tmps.getD 8 undef) w := h 12 (some 8) rfl
  have hv : valsAre a [(25, .pointer (some ⟨g, 0, none⟩)), (26, .pointer po), (27, .pointer (some ⟨b, 0, none⟩)), (28, .pointer (some ⟨b, 0, none⟩)), (29, .pointer (some ⟨b, 1, none⟩)), (30, .agg #[.int .i64 v.s, .int .i64 v.t, .int .i64 v.q, .int .i64 v.v]), (31, .pointer (some ⟨g, 0, none⟩)), (32, .pointer pi), (33, .agg #[.int .i64 x.s, .int .i64 x.t, .int .i64 x.q, .int .i64 x.v]), (34, .pointer pl), (35, .pointer T35.ptr), (36, .pointer T36.ptr), (8, .pointer T8.ptr)] := by
    refine ⟨?_, ?_, ?_, ?_, ?_, ?_, ?_, ?_, ?_, ?_, ?_, ?_, ?_, trivial⟩
    · exact h 0 (some 25) rfl
    · exact h 1 (some 26) rfl
    · exact h 2 (some 27) rfl
    · exact h 3 (some 28) rfl
    · exact h 4 (some 29) rfl
    · exact h 5 (some 30) rfl
    · exact h 6 (some 31) rfl
    · exact h 7 (some 32) rfl
    · exact h 8 (some 33) rfl
    · exact h 9 (some 34) rfl
    · exact h35
    · exact h36
    · exact h8
  rw [frame_is hF _ hv (by rfl) (by rfl)]
  exact hend T35 T36 T8 w hB p35 p36 p8
end

def tuaD : List (Option Tmp) := [some 37, some 38, some 39, some 40, some 41, some 42, some 43, some 44, some 45, some 46, some 47, some 48, some 49, some 50, some 51, some 52, some 53, some 54, some 55, some 56, some 57, some 58, some 59, some 60, some 61, some 8]
def tuaF (g _y b b2 _z : Nat) (x v v2 : It) (_av _a2 : Ac) (_hk _h2 : Nat) (_p _q p2 q2 : Option Addr) (bs : List Int) (P : Nat → Prop) (R1 R2 R3 : List It) (pl po : Option Addr) : List Fact := [isV (.pointer (some ⟨g, 0, none⟩)), isV (.pointer (some ⟨g, 0, none⟩)), isV (.pointer pl), isV (.agg #[.int .i64 x.s, .int .i64 x.t, .int .i64 x.q, .int .i64 x.v]), isV (.pointer (some ⟨b2, 0, none⟩)), isV (.pointer (some ⟨b2, 0, none⟩)), isV (.pointer (some ⟨b2, 0, none⟩)), isV (.pointer p2), trV bs P R1, isV (.pointer (some ⟨b2, 0, none⟩)), isV (.pointer (some ⟨b2, 0, none⟩)), isV (.pointer (some ⟨b2, 1, none⟩)), isV (.agg #[.int .i64 v2.s, .int .i64 v2.t, .int .i64 v2.q, .int .i64 v2.v]), isV (.pointer (some ⟨g, 0, none⟩)), isV (.pointer (some ⟨b2, 0, none⟩)), isV (.pointer (some ⟨b2, 0, none⟩)), isV (.pointer (some ⟨b2, 5, none⟩)), isV (.pointer q2), isV (.pointer (some ⟨b, 0, none⟩)), isV (.pointer (some ⟨b, 0, none⟩)), isV (.pointer (some ⟨b, 1, none⟩)), isV (.agg #[.int .i64 v.s, .int .i64 v.t, .int .i64 v.q, .int .i64 v.v]), isV (.pointer po), trV bs P R2, trV bs P R3, trV bs P R3]
theorem tuaF_mono (g y b b2 z : Nat) (x v v2 : It) (av a2 : Ac) (hk h2 : Nat) (p q p2 q2 : Option Addr) (bs : List Int) (P : Nat → Prop) (R1 R2 R3 : List It) (pl po : Option Addr) : ∀ φ ∈ tuaF g y b b2 z x v v2 av a2 hk h2 p q p2 q2 bs P R1 R2 R3 pl po, Mono φ := by
  unfold tuaF
  refine monos_cons (mono_isV _) ?_
  refine monos_cons (mono_isV _) ?_
  refine monos_cons (mono_isV _) ?_
  refine monos_cons (mono_isV _) ?_
  refine monos_cons (mono_isV _) ?_
  refine monos_cons (mono_isV _) ?_
  refine monos_cons (mono_isV _) ?_
  refine monos_cons (mono_isV _) ?_
  refine monos_cons (trV_mono _ _ _) ?_
  refine monos_cons (mono_isV _) ?_
  refine monos_cons (mono_isV _) ?_
  refine monos_cons (mono_isV _) ?_
  refine monos_cons (mono_isV _) ?_
  refine monos_cons (mono_isV _) ?_
  refine monos_cons (mono_isV _) ?_
  refine monos_cons (mono_isV _) ?_
  refine monos_cons (mono_isV _) ?_
  refine monos_cons (mono_isV _) ?_
  refine monos_cons (mono_isV _) ?_
  refine monos_cons (mono_isV _) ?_
  refine monos_cons (mono_isV _) ?_
  refine monos_cons (mono_isV _) ?_
  refine monos_cons (mono_isV _) ?_
  refine monos_cons (trV_mono _ _ _) ?_
  refine monos_cons (trV_mono _ _ _) ?_
  refine monos_cons (trV_mono _ _ _) ?_
  exact monos_nil
structure tuaS (g y b b2 z : Nat) (x v v2 : It) (av a2 : Ac) (hk h2 : Nat) (p q p2 q2 : Option Addr) (bs : List Int) (P : Nat → Prop) (R1 R2 R3 : List It) (pl po : Option Addr) (a0 : Act) (w0 : World) : Prop where
  size : a0.tmps.size = 62
  v0 : a0.tmps.getD 0 undef = .pointer (some ⟨g, 0, none⟩)
  v1 : a0.tmps.getD 1 undef = .pointer pl
  v3 : a0.tmps.getD 3 undef = .pointer (some ⟨b, 0, none⟩)
  v6 : a0.tmps.getD 6 undef = .pointer (some ⟨y, 0, none⟩)
  v9 : a0.tmps.getD 9 undef = .pointer (some ⟨b2, 0, none⟩)
  v10 : a0.tmps.getD 10 undef = .pointer po
  bx : Has w0 y 47 #[.int .i64 x.s, .int .i64 x.t, .int .i64 x.q, .int .i64 x.v]
  pb : Has w0 b 107 (prtC p v q av hk)
  pb2 : Has w0 b2 107 (prtC p2 v2 q2 a2 h2)
  c1 : ∀ w, Below w0.heap.size w0 w → Calls Try.prog 76 #[.pointer (some ⟨g, 0, none⟩), .pointer pl, .agg #[.int .i64 x.s, .int .i64 x.t, .int .i64 x.q, .int .i64 x.v], .pointer p2] w (TrO bs P R1 w)
  c2 : ∀ w, Below w0.heap.size w0 w → Calls Try.prog 76 #[.pointer (some ⟨g, 0, none⟩), .pointer q2, .agg #[.int .i64 v.s, .int .i64 v.t, .int .i64 v.q, .int .i64 v.v], .pointer po] w (TrO bs P R2 w)
  c3 : ∀ (w : World) (T U : Tr), Below w0.heap.size w0 w → T.At bs P w → T.row = R1 → U.At bs P w → U.row = R2 → Calls Try.prog 76 #[.pointer (some ⟨g, 0, none⟩), .pointer T.ptr, .agg #[.int .i64 v2.s, .int .i64 v2.t, .int .i64 v2.q, .int .i64 v2.v], .pointer U.ptr] w (TrO bs P R3 w)
section
variable {g y b b2 z : Nat} {x v v2 : It} {av a2 : Ac} {hk h2 : Nat} {p q p2 q2 : Option Addr} {bs : List Int} {P : Nat → Prop} {R1 R2 R3 : List It} {pl po : Option Addr} {a0 : Act} {w0 : World} (S : tuaS g y b b2 z x v v2 av a2 hk h2 p q p2 q2 bs P R1 R2 R3 pl po a0 w0)
include S
set_option maxRecDepth 100000 in
set_option maxHeartbeats 8000000 in
theorem tua_ok : AllOps (fun j o => ∀ (a : Act) (w : World), Below w0.heap.size w0 w → FrD tuaD a0 a → needs tuaD (tuaF g y b b2 z x v v2 av a2 hk h2 p q p2 q2 bs P R1 R2 R3 pl po) a w o.after.toList → StepD Try.prog tuaD (factAt (tuaF g y b b2 z x v v2 av a2 hk h2 p q p2 q2 bs P R1 R2 R3 pl po) j) o a w) 0 (opsOf 4 Try.f92) := by
  simp only [opsOf, Try.f92, opsAt, Option.bind, Option.or, Option.getD, reduceCtorEq, if_true, if_false, Nat.reduceEqDiff]
  refine ⟨?_, ?_⟩
  · intro _a _w _hB hF _hd
    exact step_move (guard_none rfl) rfl _ rfl ((hF.other 0 rfl).trans S.v0)
  refine ⟨?_, ?_⟩
  · intro _a _w _hB hF _hd
    exact step_move (guard_none rfl) rfl _ rfl ((hF.other 0 rfl).trans S.v0)
  refine ⟨?_, ?_⟩
  · intro _a _w _hB hF _hd
    exact step_move (guard_none rfl) rfl _ rfl ((hF.other 1 rfl).trans S.v1)
  refine ⟨?_, ?_⟩
  · intro _a _w hB hF _hd
    exact rf_loadS (guard_none rfl) rfl _ _ rfl _ _ ((hF.other 6 rfl).trans S.v6) _ (rf_range (S.bx.below hB S.bx.lt)) Try.underlying47 rfl (by kernel_rfl) rfl
  refine ⟨?_, ?_⟩
  · intro _a _w _hB hF _hd
    exact step_move (guard_none rfl) rfl _ rfl ((hF.other 9 rfl).trans S.v9)
  refine ⟨?_, ?_⟩
  · intro a _w _hB _hF hd
    have h41 : a.tmps.getD 41 undef = .pointer (some ⟨b2, 0, none⟩) := hd.1 rfl
    exact rf_nilck (guard_none rfl) rfl _ rfl _ h41 rfl
  refine ⟨?_, ?_⟩
  · intro a _w _hB _hF hd
    have h42 : a.tmps.getD 42 undef = .pointer (some ⟨b2, 0, none⟩) := hd.1 rfl
    exact rf_faddr (guard_none rfl) rfl _ _ _ rfl _ _ 0 _ h42 (by omega) (fun _ _ => by kernel_rfl) rfl
  refine ⟨?_, ?_⟩
  · intro a _w hB _hF hd
    have h43 : a.tmps.getD 43 undef = .pointer (some ⟨b2, 0, none⟩) := hd.1 rfl
    exact rf_load1 (guard_none rfl) rfl _ _ rfl _ _ h43 (run_ldPart ((Has.cell (S.pb2.below hB S.pb2.lt) 0).trans rfl)) rfl
  refine ⟨?_, ?_⟩
  · intro a w hB _hF hd
    have h38 : a.tmps.getD 38 undef = .pointer (some ⟨g, 0, none⟩) := hd.1 rfl
    have h39 : a.tmps.getD 39 undef = .pointer pl := hd.2.1 rfl
    have h40 : a.tmps.getD 40 undef = .agg #[.int .i64 x.s, .int .i64 x.t, .int .i64 x.q, .int .i64 x.v] := hd.2.2.1 rfl
    have h44 : a.tmps.getD 44 undef = .pointer p2 := hd.2.2.2.1 rfl
    refine step_call (guard_none rfl) rfl _ _ (rf_call_run Try.func76 (by kernel_rfl) (by kernel_rfl) _ _ rfl) ?_
    simp only [List.map_toArray, List.map_cons, List.map_nil, Act.eval, h38, h39, h40, h44]
    exact (S.c1 w hB).mono (by rintro e w1 ⟨T, rfl, h1, h2, hb⟩; exact ⟨_, rfl, hb, T, rfl, h1, h2⟩)
  refine ⟨?_, ?_⟩
  · intro _a _w _hB hF _hd
    exact step_move (guard_none rfl) rfl _ rfl ((hF.other 9 rfl).trans S.v9)
  refine ⟨?_, ?_⟩
  · intro a _w _hB _hF hd
    have h46 : a.tmps.getD 46 undef = .pointer (some ⟨b2, 0, none⟩) := hd.1 rfl
    exact rf_nilck (guard_none rfl) rfl _ rfl _ h46 rfl
  refine ⟨?_, ?_⟩
  · intro a _w _hB _hF hd
    have h47 : a.tmps.getD 47 undef = .pointer (some ⟨b2, 0, none⟩) := hd.1 rfl
    exact rf_faddr (guard_none rfl) rfl _ _ _ rfl _ _ 1 _ h47 (by omega) (fun _ _ => by kernel_rfl) rfl
  refine ⟨?_, ?_⟩
  · intro a _w hB _hF hd
    have h48 : a.tmps.getD 48 undef = .pointer (some ⟨b2, 1, none⟩) := hd.1 rfl
    exact rf_loadItP (guard_none rfl) rfl _ rfl _ _ h48 v2 (prtC_item _ _ _ _ _ (S.pb2.below hB S.pb2.lt)) rfl
  refine ⟨?_, ?_⟩
  · intro _a _w _hB hF _hd
    exact step_move (guard_none rfl) rfl _ rfl ((hF.other 0 rfl).trans S.v0)
  refine ⟨?_, ?_⟩
  · intro _a _w _hB hF _hd
    exact step_move (guard_none rfl) rfl _ rfl ((hF.other 9 rfl).trans S.v9)
  refine ⟨?_, ?_⟩
  · intro a _w _hB _hF hd
    have h51 : a.tmps.getD 51 undef = .pointer (some ⟨b2, 0, none⟩) := hd.1 rfl
    exact rf_nilck (guard_none rfl) rfl _ rfl _ h51 rfl
  refine ⟨?_, ?_⟩
  · intro a _w _hB _hF hd
    have h52 : a.tmps.getD 52 undef = .pointer (some ⟨b2, 0, none⟩) := hd.1 rfl
    exact rf_faddr (guard_none rfl) rfl _ _ _ rfl _ _ 5 _ h52 (by omega) (fun _ _ => by kernel_rfl) rfl
  refine ⟨?_, ?_⟩
  · intro a _w hB _hF hd
    have h53 : a.tmps.getD 53 undef = .pointer (some ⟨b2, 5, none⟩) := hd.1 rfl
    exact rf_load1 (guard_none rfl) rfl _ _ rfl _ _ h53 (run_ldPart ((Has.cell (S.pb2.below hB S.pb2.lt) 5).trans rfl)) rfl
  refine ⟨?_, ?_⟩
  · intro _a _w _hB hF _hd
    exact step_move (guard_none rfl) rfl _ rfl ((hF.other 3 rfl).trans S.v3)
  refine ⟨?_, ?_⟩
  · intro a _w _hB _hF hd
    have h55 : a.tmps.getD 55 undef = .pointer (some ⟨b, 0, none⟩) := hd.1 rfl
    exact rf_nilck (guard_none rfl) rfl _ rfl _ h55 rfl
  refine ⟨?_, ?_⟩
  · intro a _w _hB _hF hd
    have h56 : a.tmps.getD 56 undef = .pointer (some ⟨b, 0, none⟩) := hd.1 rfl
    exact rf_faddr (guard_none rfl) rfl _ _ _ rfl _ _ 1 _ h56 (by omega) (fun _ _ => by kernel_rfl) rfl
  refine ⟨?_, ?_⟩
  · intro a _w hB _hF hd
    have h57 : a.tmps.getD 57 undef = .pointer (some ⟨b, 1, none⟩) := hd.1 rfl
    exact rf_loadItP (guard_none rfl) rfl _ rfl _ _ h57 v (prtC_item _ _ _ _ _ (S.pb.below hB S.pb.lt)) rfl
  refine ⟨?_, ?_⟩
  · intro _a _w _hB hF _hd
    exact step_move (guard_none rfl) rfl _ rfl ((hF.other 10 rfl).trans S.v10)
  refine ⟨?_, ?_⟩
  · intro a w hB _hF hd
    have h50 : a.tmps.getD 50 undef = .pointer (some ⟨g, 0, none⟩) := hd.1 rfl
    have h54 : a.tmps.getD 54 undef = .pointer q2 := hd.2.1 rfl
    have h58 : a.tmps.getD 58 undef = .agg #[.int .i64 v.s, .int .i64 v.t, .int .i64 v.q, .int .i64 v.v] := hd.2.2.1 rfl
    have h59 : a.tmps.getD 59 undef = .pointer po := hd.2.2.2.1 rfl
    refine step_call (guard_none rfl) rfl _ _ (rf_call_run Try.func76 (by kernel_rfl) (by kernel_rfl) _ _ rfl) ?_
    simp only [List.map_toArray, List.map_cons, List.map_nil, Act.eval, h50, h54, h58, h59]
    exact (S.c2 w hB).mono (by rintro e w1 ⟨T, rfl, h1, h2, hb⟩; exact ⟨_, rfl, hb, T, rfl, h1, h2⟩)
  refine ⟨?_, ?_⟩
  · intro a w hB _hF hd
    have h37 : a.tmps.getD 37 undef = .pointer (some ⟨g, 0, none⟩) := hd.1 rfl
    obtain ⟨T45, h45, p45⟩ : trV bs P R1 (a.tmps.getD 45 undef) w := hd.2.1 rfl
    have h49 : a.tmps.getD 49 undef = .agg #[.int .i64 v2.s, .int .i64 v2.t, .int .i64 v2.q, .int .i64 v2.v] := hd.2.2.1 rfl
    obtain ⟨T60, h60, p60⟩ : trV bs P R2 (a.tmps.getD 60 undef) w := hd.2.2.2.1 rfl
    refine step_call (guard_none rfl) rfl _ _ (rf_call_run Try.func76 (by kernel_rfl) (by kernel_rfl) _ _ rfl) ?_
    simp only [List.map_toArray, List.map_cons, List.map_nil, Act.eval, h37, h45, h49, h60]
    exact (S.c3 w T45 T60 hB p45.1 p45.2 p60.1 p60.2).mono (by rintro e w1 ⟨T, rfl, h1, h2, hb⟩; exact ⟨_, rfl, hb, T, rfl, h1, h2⟩)
  refine ⟨?_, ?_⟩
  · intro a w _hB _hF hd
    obtain ⟨T61, h61, p61⟩ : trV bs P R3 (a.tmps.getD 61 undef) w := hd.1 rfl
    exact step_assign (guard_none rfl) rfl _ rfl ⟨T61, h61, p61⟩
  trivial
theorem tua_any {Q : Exit → Act → World → Prop} {l : List Oper} (hl : opsOf 4 Try.f92 = l) (hend : ∀ (T45 : Tr), ∀ (T60 : Tr), ∀ (T61 : Tr), ∀ (T8 : Tr), ∀ w : World, Below w0.heap.size w0 w → (T45.At bs P w ∧ T45.row = R1) → (T60.At bs P w ∧ T60.row = R2) → (T61.At bs P w ∧ T61.row = R3) → (T8.At bs P w ∧ T8.row = R3) → Q .normal (putAll a0 [(37, .pointer (some ⟨g, 0, none⟩)), (38, .pointer (some ⟨g, 0, none⟩)), (39, .pointer pl), (40, .agg #[.int .i64 x.s, .int .i64 x.t, .int .i64 x.q, .int .i64 x.v]), (41, .pointer (some ⟨b2, 0, none⟩)), (42, .pointer (some ⟨b2, 0, none⟩)), (43, .pointer (some ⟨b2, 0, none⟩)), (44, .pointer p2), (45, .pointer T45.ptr), (46, .pointer (some ⟨b2, 0, none⟩)), (47, .pointer (some ⟨b2, 0, none⟩)), (48, .pointer (some ⟨b2, 1, none⟩)), (49, .agg #[.int .i64 v2.s, .int .i64 v2.t, .int .i64 v2.q, .int .i64 v2.v]), (50, .pointer (some ⟨g, 0, none⟩)), (51, .pointer (some ⟨b2, 0, none⟩)), (52, .pointer (some ⟨b2, 0, none⟩)), (53, .pointer (some ⟨b2, 5, none⟩)), (54, .pointer q2), (55, .pointer (some ⟨b, 0, none⟩)), (56, .pointer (some ⟨b, 0, none⟩)), (57, .pointer (some ⟨b, 1, none⟩)), (58, .agg #[.int .i64 v.s, .int .i64 v.t, .int .i64 v.q, .int .i64 v.v]), (59, .pointer po), (60, .pointer T60.ptr), (61, .pointer T61.ptr), (8, .pointer T8.ptr)]) w) :
    (Code.region 4 l.toArray true).wp Try.prog Q a0 w0 := by
  subst hl
  refine region_facts2 (tuaF g y b b2 z x v v2 av a2 hk h2 p q p2 q2 bs P R1 R2 R3 pl po) tuaD 62 S.size rfl (by kernel_rfl) (by kernel_rfl) (tuaF_mono _ _ _ _ _ _ _ _ _ _ _ _ _ _ _ _ _ _ _ _ _ _ _) (tua_ok S) fun a w hB hF h => ?_
  obtain ⟨T45, h45, p45⟩ : trV bs P R1 (a.tmps.getD 45 undef) w := h 8 (some 45) rfl
  obtain ⟨T60, h60, p60⟩ : trV bs P R2 (a.tmps.getD 60 undef) w := h 23 (some 60) rfl
  obtain ⟨T61, h61, p61⟩ : trV bs P R3 (a.tmps.getD 61 undef) w := h 24 (some 61) rfl
  obtain ⟨T8, h8, p8⟩ : trV bs P R3 (a.tmps.getD 8 undef) w := h 25 (some 8) rfl
  have hv : valsAre a [(37, .pointer (some ⟨g, 0, none⟩)), (38, .pointer (some ⟨g, 0, none⟩)), (39, .pointer pl), (40, .agg #[.int .i64 x.s, .int .i64 x.t, .int .i64 x.q, .int .i64 x.v]), (41, .pointer (some ⟨b2, 0, none⟩)), (42, .pointer (some ⟨b2, 0, none⟩)), (43, .pointer (some ⟨b2, 0, none⟩)), (44, .pointer p2), (45, .pointer T45.ptr), (46, .pointer (some ⟨b2, 0, none⟩)), (47, .pointer (some ⟨b2, 0, none⟩)), (48, .pointer (some ⟨b2, 1, none⟩)), (49, .agg #[.int .i64 v2.s, .int .i64 v2.t, .int .i64 v2.q, .int .i64 v2.v]), (50, .pointer (some ⟨g, 0, none⟩)), (51, .pointer (some ⟨b2, 0, none⟩)), (52, .pointer (some ⟨b2, 0, none⟩)), (53, .pointer (some ⟨b2, 5, none⟩)), (54, .pointer q2), (55, .pointer (some ⟨b, 0, none⟩)), (56, .pointer (some ⟨b, 0, none⟩)), (57, .pointer (some ⟨b, 1, none⟩)), (58, .agg #[.int .i64 v.s, .int .i64 v.t, .int .i64 v.q, .int .i64 v.v]), (59, .pointer po), (60, .pointer T60.ptr), (61, .pointer T61.ptr), (8, .pointer T8.ptr)] := by
    refine ⟨?_, ?_, ?_, ?_, ?_, ?_, ?_, ?_, ?_, ?_, ?_, ?_, ?_, ?_, ?_, ?_, ?_, ?_, ?_, ?_, ?_, ?_, ?_, ?_, ?_, ?_, trivial⟩
    · exact h 0 (some 37) rfl
    · exact h 1 (some 38) rfl
    · exact h 2 (some 39) rfl
    · exact h 3 (some 40) rfl
    · exact h 4 (some 41) rfl
    · exact h 5 (some 42) rfl
    · exact h 6 (some 43) rfl
    · exact h 7 (some 44) rfl
    · exact h45
    · exact h 9 (some 46) rfl
    · exact h 10 (some 47) rfl
    · exact h 11 (some 48) rfl
    · exact h 12 (some 49) rfl
    · exact h 13 (some 50) rfl
    · exact h 14 (some 51) rfl
    · exact h 15 (some 52) rfl
    · exact h 16 (some 53) rfl
    · exact h 17 (some 54) rfl
    · exact h 18 (some 55) rfl
    · exact h 19 (some 56) rfl
    · exact h 20 (some 57) rfl
    · exact h 21 (some 58) rfl
    · exact h 22 (some 59) rfl
    · exact h60
    · exact h61
    · exact h8
  rw [frame_is hF _ hv (by rfl) (by rfl)]
  exact hend T45 T60 T61 T8 w hB p45 p60 p61 p8
end

def tubD : List (Option Tmp) := [some 37, some 38, some 39, some 40, some 41, some 42, some 43, some 44, some 45, some 46, some 47, some 48, some 49, some 50, some 51, some 52, some 53, some 54, some 55, some 56, some 57, some 58, some 59, some 60, some 61, some 8]
def tubF (g _y b b2 _z : Nat) (x v v2 : It) (_av _a2 : Ac) (_hk _h2 : Nat) (_p _q p2 q2 : Option Addr) (bs : List Int) (P : Nat → Prop) (R1 R2 R3 : List It) (pl po : Option Addr) : List Fact := [isV (.pointer (some ⟨g, 0, none⟩)), isV (.pointer (some ⟨g, 0, none⟩)), isV (.pointer po), isV (.pointer (some ⟨b, 0, none⟩)), isV (.pointer (some ⟨b, 0, none⟩)), isV (.pointer (some ⟨b, 1, none⟩)), isV (.agg #[.int .i64 v.s, .int .i64 v.t, .int .i64 v.q, .int .i64 v.v]), isV (.pointer (some ⟨b2, 0, none⟩)), isV (.pointer (some ⟨b2, 0, none⟩)), isV (.pointer (some ⟨b2, 0, none⟩)), isV (.pointer p2), trV bs P R1, isV (.pointer (some ⟨b2, 0, none⟩)), isV (.pointer (some ⟨b2, 0, none⟩)), isV (.pointer (some ⟨b2, 1, none⟩)), isV (.agg #[.int .i64 v2.s, .int .i64 v2.t, .int .i64 v2.q, .int .i64 v2.v]), isV (.pointer (some ⟨g, 0, none⟩)), isV (.pointer (some ⟨b2, 0, none⟩)), isV (.pointer (some ⟨b2, 0, none⟩)), isV (.pointer (some ⟨b2, 5, none⟩)), isV (.pointer q2), isV (.agg #[.int .i64 x.s, .int .i64 x.t, .int .i64 x.q, .int .i64 x.v]), isV (.pointer pl), trV bs P R2, trV bs P R3, trV bs P R3]
theorem tubF_mono (g y b b2 z : Nat) (x v v2 : It) (av a2 : Ac) (hk h2 : Nat) (p q p2 q2 : Option Addr) (bs : List Int) (P : Nat → Prop) (R1 R2 R3 : List It) (pl po : Option Addr) : ∀ φ ∈ tubF g y b b2 z x v v2 av a2 hk h2 p q p2 q2 bs P R1 R2 R3 pl po, Mono φ := by
  unfold tubF
  refine monos_cons (mono_isV _) ?_
  refine monos_cons (mono_isV _) ?_
  refine monos_cons (mono_isV _) ?_
  refine monos_cons (mono_isV _) ?_
  refine monos_cons (mono_isV _) ?_
  refine monos_cons (mono_isV _) ?_
  refine monos_cons (mono_isV _) ?_
  refine monos_cons (mono_isV _) ?_
  refine monos_cons (mono_isV _) ?_
  refine monos_cons (mono_isV _) ?_
  refine monos_cons (mono_isV _) ?_
  refine monos_cons (trV_mono _ _ _) ?_
  refine monos_cons (mono_isV _) ?_
  refine monos_cons (mono_isV _) ?_
  refine monos_cons (mono_isV _) ?_
  refine monos_cons (mono_isV _) ?_
  refine monos_cons (mono_isV _) ?_
  refine monos_cons (mono_isV _) ?_
  refine monos_cons (mono_isV _) ?_
  refine monos_cons (mono_isV _) ?_
  refine monos_cons (mono_isV _) ?_
  refine monos_cons (mono_isV _) ?_
  refine monos_cons (mono_isV _) ?_
  refine monos_cons (trV_mono _ _ _) ?_
  refine monos_cons (trV_mono _ _ _) ?_
  refine monos_cons (trV_mono _ _ _) ?_
  exact monos_nil
structure tubS (g y b b2 z : Nat) (x v v2 : It) (av a2 : Ac) (hk h2 : Nat) (p q p2 q2 : Option Addr) (bs : List Int) (P : Nat → Prop) (R1 R2 R3 : List It) (pl po : Option Addr) (a0 : Act) (w0 : World) : Prop where
  size : a0.tmps.size = 62
  v0 : a0.tmps.getD 0 undef = .pointer (some ⟨g, 0, none⟩)
  v1 : a0.tmps.getD 1 undef = .pointer (some ⟨b, 0, none⟩)
  v3 : a0.tmps.getD 3 undef = .pointer pl
  v6 : a0.tmps.getD 6 undef = .pointer (some ⟨y, 0, none⟩)
  v9 : a0.tmps.getD 9 undef = .pointer po
  v10 : a0.tmps.getD 10 undef = .pointer (some ⟨b2, 0, none⟩)
  bx : Has w0 y 47 #[.int .i64 x.s, .int .i64 x.t, .int .i64 x.q, .int .i64 x.v]
  pb : Has w0 b 107 (prtC p v q av hk)
  pb2 : Has w0 b2 107 (prtC p2 v2 q2 a2 h2)
  c1 : ∀ w, Below w0.heap.size w0 w → Calls Try.prog 76 #[.pointer (some ⟨g, 0, none⟩), .pointer po, .agg #[.int .i64 v.s, .int .i64 v.t, .int .i64 v.q, .int .i64 v.v], .pointer p2] w (TrO bs P R1 w)
  c2 : ∀ w, Below w0.heap.size w0 w → Calls Try.prog 76 #[.pointer (some ⟨g, 0, none⟩), .pointer q2, .agg #[.int .i64 x.s, .int .i64 x.t, .int .i64 x.q, .int .i64 x.v], .pointer pl] w (TrO bs P R2 w)
  c3 : ∀ (w : World) (T U : Tr), Below w0.heap.size w0 w → T.At bs P w → T.row = R1 → U.At bs P w → U.row = R2 → Calls Try.prog 76 #[.pointer (some ⟨g, 0, none⟩), .pointer T.ptr, .agg #[.int .i64 v2.s, .int .i64 v2.t, .int .i64 v2.q, .int .i64 v2.v], .pointer U.ptr] w (TrO bs P R3 w)
section
variable {g y b b2 z : Nat} {x v v2 : It} {av a2 : Ac} {hk h2 : Nat} {p q p2 q2 : Option Addr} {bs : List Int} {P : Nat → Prop} {R1 R2 R3 : List It} {pl po : Option Addr} {a0 : Act} {w0 : World} (S : tubS g y b b2 z x v v2 av a2 hk h2 p q p2 q2 bs P R1 R2 R3 pl po a0 w0)
include S
set_option maxRecDepth 100000 in
set_option maxHeartbeats 8000000 in
theorem tub_ok : AllOps (fun j o => ∀ (a : Act) (w : World), Below w0.heap.size w0 w → FrD tubD a0 a → needs tubD (tubF g y b b2 z x v v2 av a2 hk h2 p q p2 q2 bs P R1 R2 R3 pl po) a w o.after.toList → StepD Try.prog tubD (factAt (tubF g y b b2 z x v v2 av a2 hk h2 p q p2 q2 bs P R1 R2 R3 pl po) j) o a w) 0 (opsOf 4 Try.f93) := by
  simp only [opsOf, Try.f93, opsAt, Option.bind, Option.or, Option.getD, reduceCtorEq, if_true, if_false, Nat.reduceEqDiff]
  refine ⟨?_, ?_⟩
  · intro _a _w _hB hF _hd
    exact step_move (guard_none rfl) rfl _ rfl ((hF.other 0 rfl).trans S.v0)
  refine ⟨?_, ?_⟩
  · intro _a _w _hB hF _hd
    exact step_move (guard_none rfl) rfl _ rfl ((hF.other 0 rfl).trans S.v0)
  refine ⟨?_, ?_⟩
  · intro _a _w _hB hF _hd
    exact step_move (guard_none rfl) rfl _ rfl ((hF.other 9 rfl).trans S.v9)
  refine ⟨?_, ?_⟩
  · intro _a _w _hB hF _hd
    exact step_move (guard_none rfl) rfl _ rfl ((hF.other 1 rfl).trans S.v1)
  refine ⟨?_, ?_⟩
  · intro a _w _hB _hF hd
    have h40 : a.tmps.getD 40 undef = .pointer (some ⟨b, 0, none⟩) := hd.1 rfl
    exact rf_nilck (guard_none rfl) rfl _ rfl _ h40 rfl
  refine ⟨?_, ?_⟩
  · intro a _w _hB _hF hd
    have h41 : a.tmps.getD 41 undef = .pointer (some ⟨b, 0, none⟩) := hd.1 rfl
    exact rf_faddr (guard_none rfl) rfl _ _ _ rfl _ _ 1 _ h41 (by omega) (fun _ _ => by kernel_rfl) rfl
  refine ⟨?_, ?_⟩
  · intro a _w hB _hF hd
    have h42 : a.tmps.getD 42 undef = .pointer (some ⟨b, 1, none⟩) := hd.1 rfl
    exact rf_loadItP (guard_none rfl) rfl _ rfl _ _ h42 v (prtC_item _ _ _ _ _ (S.pb.below hB S.pb.lt)) rfl
  refine ⟨?_, ?_⟩
  · intro _a _w _hB hF _hd
    exact step_move (guard_none rfl) rfl _ rfl ((hF.other 10 rfl).trans S.v10)
  refine ⟨?_, ?_⟩
  · intro a _w _hB _hF hd
    have h44 : a.tmps.getD 44 undef = .pointer (some ⟨b2, 0, none⟩) := hd.1 rfl
    exact rf_nilck (guard_none rfl) rfl _ rfl _ h44 rfl
  refine ⟨?_, ?_⟩
  · intro a _w _hB _hF hd
    have h45 : a.tmps.getD 45 undef = .pointer (some ⟨b2, 0, none⟩) := hd.1 rfl
    exact rf_faddr (guard_none rfl) rfl _ _ _ rfl _ _ 0 _ h45 (by omega) (fun _ _ => by kernel_rfl) rfl
  refine ⟨?_, ?_⟩
  · intro a _w hB _hF hd
    have h46 : a.tmps.getD 46 undef = .pointer (some ⟨b2, 0, none⟩) := hd.1 rfl
    exact rf_load1 (guard_none rfl) rfl _ _ rfl _ _ h46 (run_ldPart ((Has.cell (S.pb2.below hB S.pb2.lt) 0).trans rfl)) rfl
  refine ⟨?_, ?_⟩
  · intro a w hB _hF hd
    have h38 : a.tmps.getD 38 undef = .pointer (some ⟨g, 0, none⟩) := hd.1 rfl
    have h39 : a.tmps.getD 39 undef = .pointer po := hd.2.1 rfl
    have h43 : a.tmps.getD 43 undef = .agg #[.int .i64 v.s, .int .i64 v.t, .int .i64 v.q, .int .i64 v.v] := hd.2.2.1 rfl
    have h47 : a.tmps.getD 47 undef = .pointer p2 := hd.2.2.2.1 rfl
    refine step_call (guard_none rfl) rfl _ _ (rf_call_run Try.func76 (by kernel_rfl) (by kernel_rfl) _ _ rfl) ?_
    simp only [List.map_toArray, List.map_cons, List.map_nil, Act.eval, h38, h39, h43, h47]
    exact (S.c1 w hB).mono (by rintro e w1 ⟨T, rfl, h1, h2, hb⟩; exact ⟨_, rfl, hb, T, rfl, h1, h2⟩)
  refine ⟨?_, ?_⟩
  · intro _a _w _hB hF _hd
    exact step_move (guard_none rfl) rfl _ rfl ((hF.other 10 rfl).trans S.v10)
  refine ⟨?_, ?_⟩
  · intro a _w _hB _hF hd
    have h49 : a.tmps.getD 49 undef = .pointer (some ⟨b2, 0, none⟩) := hd.1 rfl
    exact rf_nilck (guard_none rfl) rfl _ rfl _ h49 rfl
  refine ⟨?_, ?_⟩
  · intro a _w _hB _hF hd
    have h50 : a.tmps.getD 50 undef = .pointer (some ⟨b2, 0, none⟩) := hd.1 rfl
    exact rf_faddr (guard_none rfl) rfl _ _ _ rfl _ _ 1 _ h50 (by omega) (fun _ _ => by kernel_rfl) rfl
  refine ⟨?_, ?_⟩
  · intro a _w hB _hF hd
    have h51 : a.tmps.getD 51 undef = .pointer (some ⟨b2, 1, none⟩) := hd.1 rfl
    exact rf_loadItP (guard_none rfl) rfl _ rfl _ _ h51 v2 (prtC_item _ _ _ _ _ (S.pb2.below hB S.pb2.lt)) rfl
  refine ⟨?_, ?_⟩
  · intro _a _w _hB hF _hd
    exact step_move (guard_none rfl) rfl _ rfl ((hF.other 0 rfl).trans S.v0)
  refine ⟨?_, ?_⟩
  · intro _a _w _hB hF _hd
    exact step_move (guard_none rfl) rfl _ rfl ((hF.other 10 rfl).trans S.v10)
  refine ⟨?_, ?_⟩
  · intro a _w _hB _hF hd
    have h54 : a.tmps.getD 54 undef = .pointer (some ⟨b2, 0, none⟩) := hd.1 rfl
    exact rf_nilck (guard_none rfl) rfl _ rfl _ h54 rfl
  refine ⟨?_, ?_⟩
  · intro a _w _hB _hF hd
    have h55 : a.tmps.getD 55 undef = .pointer (some ⟨b2, 0, none⟩) := hd.1 rfl
    exact rf_faddr (guard_none rfl) rfl _ _ _ rfl _ _ 5 _ h55 (by omega) (fun _ _ => by kernel_rfl) rfl
  refine ⟨?_, ?_⟩
  · intro a _w hB _hF hd
    have h56 : a.tmps.getD 56 undef = .pointer (some ⟨b2, 5, none⟩) := hd.1 rfl
    exact rf_load1 (guard_none rfl) rfl _ _ rfl _ _ h56 (run_ldPart ((Has.cell (S.pb2.below hB S.pb2.lt) 5).trans rfl)) rfl
  refine ⟨?_, ?_⟩
  · intro _a _w hB hF _hd
    exact rf_loadS (guard_none rfl) rfl _ _ rfl _ _ ((hF.other 6 rfl).trans S.v6) _ (rf_range (S.bx.below hB S.bx.lt)) Try.underlying47 rfl (by kernel_rfl) rfl
  refine ⟨?_, ?_⟩
  · intro _a _w _hB hF _hd
    exact step_move (guard_none rfl) rfl _ rfl ((hF.other 3 rfl).trans S.v3)
  refine ⟨?_, ?_⟩
  · intro a w hB _hF hd
    have h53 : a.tmps.getD 53 undef = .pointer (some ⟨g, 0, none⟩) := hd.1 rfl
    have h57 : a.tmps.getD 57 undef = .pointer q2 := hd.2.1 rfl
    have h58 : a.tmps.getD 58 undef = .agg #[.int .i64 x.s, .int .i64 x.t, .int .i64 x.q, .int .i64 x.v] := hd.2.2.1 rfl
    have h59 : a.tmps.getD 59 undef = .pointer pl := hd.2.2.2.1 rfl
    refine step_call (guard_none rfl) rfl _ _ (rf_call_run Try.func76 (by kernel_rfl) (by kernel_rfl) _ _ rfl) ?_
    simp only [List.map_toArray, List.map_cons, List.map_nil, Act.eval, h53, h57, h58, h59]
    exact (S.c2 w hB).mono (by rintro e w1 ⟨T, rfl, h1, h2, hb⟩; exact ⟨_, rfl, hb, T, rfl, h1, h2⟩)
  refine ⟨?_, ?_⟩
  · intro a w hB _hF hd
    have h37 : a.tmps.getD 37 undef = .pointer (some ⟨g, 0, none⟩) := hd.1 rfl
    obtain ⟨T48, h48, p48⟩ : trV bs P R1 (a.tmps.getD 48 undef) w := hd.2.1 rfl
    have h52 : a.tmps.getD 52 undef = .agg #[.int .i64 v2.s, .int .i64 v2.t, .int .i64 v2.q, .int .i64 v2.v] := hd.2.2.1 rfl
    obtain ⟨T60, h60, p60⟩ : trV bs P R2 (a.tmps.getD 60 undef) w := hd.2.2.2.1 rfl
    refine step_call (guard_none rfl) rfl _ _ (rf_call_run Try.func76 (by kernel_rfl) (by kernel_rfl) _ _ rfl) ?_
    simp only [List.map_toArray, List.map_cons, List.map_nil, Act.eval, h37, h48, h52, h60]
    exact (S.c3 w T48 T60 hB p48.1 p48.2 p60.1 p60.2).mono (by rintro e w1 ⟨T, rfl, h1, h2, hb⟩; exact ⟨_, rfl, hb, T, rfl, h1, h2⟩)
  refine ⟨?_, ?_⟩
  · intro a w _hB _hF hd
    obtain ⟨T61, h61, p61⟩ : trV bs P R3 (a.tmps.getD 61 undef) w := hd.1 rfl
    exact step_assign (guard_none rfl) rfl _ rfl ⟨T61, h61, p61⟩
  trivial
theorem tub_any {Q : Exit → Act → World → Prop} {l : List Oper} (hl : opsOf 4 Try.f93 = l) (hend : ∀ (T48 : Tr), ∀ (T60 : Tr), ∀ (T61 : Tr), ∀ (T8 : Tr), ∀ w : World, Below w0.heap.size w0 w → (T48.At bs P w ∧ T48.row = R1) → (T60.At bs P w ∧ T60.row = R2) → (T61.At bs P w ∧ T61.row = R3) → (T8.At bs P w ∧ T8.row = R3) → Q .normal (putAll a0 [(37, .pointer (some ⟨g, 0, none⟩)), (38, .pointer (some ⟨g, 0, none⟩)), (39, .pointer po), (40, .pointer (some ⟨b, 0, none⟩)), (41, .pointer (some ⟨b, 0, none⟩)), (42, .pointer (some ⟨b, 1, none⟩)), (43, .agg #[.int .i64 v.s, .int .i64 v.t, .int .i64 v.q, .int .i64 v.v]), (44, .pointer (some ⟨b2, 0, none⟩)), (45, .pointer (some ⟨b2, 0, none⟩)), (46, .pointer (some ⟨b2, 0, none⟩)), (47, .pointer p2), (48, .pointer T48.ptr), (49, .pointer (some ⟨b2, 0, none⟩)), (50, .pointer (some ⟨b2, 0, none⟩)), (51, .pointer (some ⟨b2, 1, none⟩)), (52, .agg #[.int .i64 v2.s, .int .i64 v2.t, .int .i64 v2.q, .int .i64 v2.v]), (53, .pointer (some ⟨g, 0, none⟩)), (54, .pointer (some ⟨b2, 0, none⟩)), (55, .pointer (some ⟨b2, 0, none⟩)), (56, .pointer (some ⟨b2, 5, none⟩)), (57, .pointer q2), (58, .agg #[.int .i64 x.s, .int .i64 x.t, .int .i64 x.q, .int .i64 x.v]), (59, .pointer pl), (60, .pointer T60.ptr), (61, .pointer T61.ptr), (8, .pointer T8.ptr)]) w) :
    (Code.region 4 l.toArray true).wp Try.prog Q a0 w0 := by
  subst hl
  refine region_facts2 (tubF g y b b2 z x v v2 av a2 hk h2 p q p2 q2 bs P R1 R2 R3 pl po) tubD 62 S.size rfl (by kernel_rfl) (by kernel_rfl) (tubF_mono _ _ _ _ _ _ _ _ _ _ _ _ _ _ _ _ _ _ _ _ _ _ _) (tub_ok S) fun a w hB hF h => ?_
  obtain ⟨T48, h48, p48⟩ : trV bs P R1 (a.tmps.getD 48 undef) w := h 11 (some 48) rfl
  obtain ⟨T60, h60, p60⟩ : trV bs P R2 (a.tmps.getD 60 undef) w := h 23 (some 60) rfl
  obtain ⟨T61, h61, p61⟩ : trV bs P R3 (a.tmps.getD 61 undef) w := h 24 (some 61) rfl
  obtain ⟨T8, h8, p8⟩ : trV bs P R3 (a.tmps.getD 8 undef) w := h 25 (some 8) rfl
  have hv : valsAre a [(37, .pointer (some ⟨g, 0, none⟩)), (38, .pointer (some ⟨g, 0, none⟩)), (39, .pointer po), (40, .pointer (some ⟨b, 0, none⟩)), (41, .pointer (some ⟨b, 0, none⟩)), (42, .pointer (some ⟨b, 1, none⟩)), (43, .agg #[.int .i64 v.s, .int .i64 v.t, .int .i64 v.q, .int .i64 v.v]), (44, .pointer (some ⟨b2, 0, none⟩)), (45, .pointer (some ⟨b2, 0, none⟩)), (46, .pointer (some ⟨b2, 0, none⟩)), (47, .pointer p2), (48, .pointer T48.ptr), (49, .pointer (some ⟨b2, 0, none⟩)), (50, .pointer (some ⟨b2, 0, none⟩)), (51, .pointer (some ⟨b2, 1, none⟩)), (52, .agg #[.int .i64 v2.s, .int .i64 v2.t, .int .i64 v2.q, .int .i64 v2.v]), (53, .pointer (some ⟨g, 0, none⟩)), (54, .pointer (some ⟨b2, 0, none⟩)), (55, .pointer (some ⟨b2, 0, none⟩)), (56, .pointer (some ⟨b2, 5, none⟩)), (57, .pointer q2), (58, .agg #[.int .i64 x.s, .int .i64 x.t, .int .i64 x.q, .int .i64 x.v]), (59, .pointer pl), (60, .pointer T60.ptr), (61, .pointer T61.ptr), (8, .pointer T8.ptr)] := by
    refine ⟨?_, ?_, ?_, ?_, ?_, ?_, ?_, ?_, ?_, ?_, ?_, ?_, ?_, ?_, ?_, ?_, ?_, ?_, ?_, ?_, ?_, ?_, ?_, ?_, ?_, ?_, trivial⟩
    · exact h 0 (some 37) rfl
    · exact h 1 (some 38) rfl
    · exact h 2 (some 39) rfl
    · exact h 3 (some 40) rfl
    · exact h 4 (some 41) rfl
    · exact h 5 (some 42) rfl
    · exact h 6 (some 43) rfl
    · exact h 7 (some 44) rfl
    · exact h 8 (some 45) rfl
    · exact h 9 (some 46) rfl
    · exact h 10 (some 47) rfl
    · exact h48
    · exact h 12 (some 49) rfl
    · exact h 13 (some 50) rfl
    · exact h 14 (some 51) rfl
    · exact h 15 (some 52) rfl
    · exact h 16 (some 53) rfl
    · exact h 17 (some 54) rfl
    · exact h 18 (some 55) rfl
    · exact h 19 (some 56) rfl
    · exact h 20 (some 57) rfl
    · exact h 21 (some 58) rfl
    · exact h 22 (some 59) rfl
    · exact h60
    · exact h61
    · exact h8
  rw [frame_is hF _ hv (by rfl) (by rfl)]
  exact hend T48 T60 T61 T8 w hB p48 p60 p61 p8
end

def tlkD : List (Option Tmp) := [some 18, some 19, some 20, some 21, some 22, some 23, some 24, some 25, some 26, some 27, some 28, some 29, some 30, some 31, some 32, some 33, some 34, some 35, some 8]
def tlkF (g _y b _z : Nat) (x v : It) (_av : Ac) (_hk : Nat) (p q : Option Addr) (bs : List Int) (P : Nat → Prop) (R1 R2 : List It) (pl : Option Addr) : List Fact := [isV (.pointer (some ⟨g, 0, none⟩)), isV (.pointer (some ⟨g, 0, none⟩)), isV (.pointer pl), isV (.agg #[.int .i64 x.s, .int .i64 x.t, .int .i64 x.q, .int .i64 x.v]), isV (.pointer (some ⟨b, 0, none⟩)), isV (.pointer (some ⟨b, 0, none⟩)), isV (.pointer (some ⟨b, 0, none⟩)), isV (.pointer p), trV bs P R1, isV (.pointer (some ⟨b, 0, none⟩)), isV (.pointer (some ⟨b, 0, none⟩)), isV (.pointer (some ⟨b, 1, none⟩)), isV (.agg #[.int .i64 v.s, .int .i64 v.t, .int .i64 v.q, .int .i64 v.v]), isV (.pointer (some ⟨b, 0, none⟩)), isV (.pointer (some ⟨b, 0, none⟩)), isV (.pointer (some ⟨b, 5, none⟩)), isV (.pointer q), trV bs P R2, trV bs P R2]
theorem tlkF_mono (g y b z : Nat) (x v : It) (av : Ac) (hk : Nat) (p q : Option Addr) (bs : List Int) (P : Nat → Prop) (R1 R2 : List It) (pl : Option Addr) : ∀ φ ∈ tlkF g y b z x v av hk p q bs P R1 R2 pl, Mono φ := by
  unfold tlkF
  refine monos_cons (mono_isV _) ?_
  refine monos_cons (mono_isV _) ?_
  refine monos_cons (mono_isV _) ?_
  refine monos_cons (mono_isV _) ?_
  refine monos_cons (mono_isV _) ?_
  refine monos_cons (mono_isV _) ?_
  refine monos_cons (mono_isV _) ?_
  refine monos_cons (mono_isV _) ?_
  refine monos_cons (trV_mono _ _ _) ?_
  refine monos_cons (mono_isV _) ?_
  refine monos_cons (mono_isV _) ?_
  refine monos_cons (mono_isV _) ?_
  refine monos_cons (mono_isV _) ?_
  refine monos_cons (mono_isV _) ?_
  refine monos_cons (mono_isV _) ?_
  refine monos_cons (mono_isV _) ?_
  refine monos_cons (mono_isV _) ?_
  refine monos_cons (trV_mono _ _ _) ?_
  refine monos_cons (trV_mono _ _ _) ?_
  exact monos_nil
structure tlkS (g y b z : Nat) (x v : It) (av : Ac) (hk : Nat) (p q : Option Addr) (bs : List Int) (P : Nat → Prop) (R1 R2 : List It) (pl : Option Addr) (a0 : Act) (w0 : World) : Prop where
  size : a0.tmps.size = 36
  v0 : a0.tmps.getD 0 undef = .pointer (some ⟨g, 0, none⟩)
  v1 : a0.tmps.getD 1 undef = .pointer pl
  v3 : a0.tmps.getD 3 undef = .pointer (some ⟨b, 0, none⟩)
  v6 : a0.tmps.getD 6 undef = .pointer (some ⟨y, 0, none⟩)
  bx : Has w0 y 47 #[.int .i64 x.s, .int .i64 x.t, .int .i64 x.q, .int .i64 x.v]
  pb : Has w0 b 107 (prtC p v q av hk)
  c1 : ∀ w, Below w0.heap.size w0 w → Calls Try.prog 80 #[.pointer (some ⟨g, 0, none⟩), .pointer pl, .agg #[.int .i64 x.s, .int .i64 x.t, .int .i64 x.q, .int .i64 x.v], .pointer p] w (TrO bs P R1 w)
  c2 : ∀ (w : World) (T : Tr), Below w0.heap.size w0 w → T.At bs P w → T.row = R1 → Calls Try.prog 77 #[.pointer (some ⟨g, 0, none⟩), .pointer T.ptr, .agg #[.int .i64 v.s, .int .i64 v.t, .int .i64 v.q, .int .i64 v.v], .pointer q] w (TrO bs P R2 w)
section
variable {g y b z : Nat} {x v : It} {av : Ac} {hk : Nat} {p q : Option Addr} {bs : List Int} {P : Nat → Prop} {R1 R2 : List It} {pl : Option Addr} {a0 : Act} {w0 : World} (S : tlkS g y b z x v av hk p q bs P R1 R2 pl a0 w0)
include S
set_option maxRecDepth 100000 in
set_option maxHeartbeats 8000000 in
theorem tlk_ok : AllOps (fun j o => ∀ (a : Act) (w : World), Below w0.heap.size w0 w → FrD tlkD a0 a → needs tlkD (tlkF g y b z x v av hk p q bs P R1 R2 pl) a w o.after.toList → StepD Try.prog tlkD (factAt (tlkF g y b z x v av hk p q bs P R1 R2 pl) j) o a w) 0 (opsOf 3 Try.f80) := by
  simp only [opsOf, Try.f80, opsAt, Option.bind, Option.or, Option.getD, reduceCtorEq, if_true, if_false, Nat.reduceEqDiff]
  refine ⟨?_, ?_⟩
  · intro _a _w _hB hF _hd
    exact step_move (guard_none rfl) rfl _ rfl ((hF.other 0 rfl).trans S.v0)
  refine ⟨?_, ?_⟩
  · intro _a _w _hB hF _hd
    exact step_move (guard_none rfl) rfl _ rfl ((hF.other 0 rfl).trans S.v0)
  refine ⟨?_, ?_⟩
  · intro _a _w _hB hF _hd
    exact step_move (guard_none rfl) rfl _ rfl ((hF.other 1 rfl).trans S.v1)
  refine ⟨?_, ?_⟩
  · intro _a _w hB hF _hd
    exact rf_loadS (guard_none rfl) rfl _ _ rfl _ _ ((hF.other 6 rfl).trans S.v6) _ (rf_range (S.bx.below hB S.bx.lt)) Try.underlying47 rfl (by kernel_rfl) rfl
  refine ⟨?_, ?_⟩
  · intro _a _w _hB hF _hd
    exact step_move (guard_none rfl) rfl _ rfl ((hF.other 3 rfl).trans S.v3)
  refine ⟨?_, ?_⟩
  · intro a _w _hB _hF hd
    have h22 : a.tmps.getD 22 undef = .pointer (some ⟨b, 0, none⟩) := hd.1 rfl
    exact rf_nilck (guard_none rfl) rfl _ rfl _ h22 rfl
  refine ⟨?_, ?_⟩
  · intro a _w _hB _hF hd
    have h23 : a.tmps.getD 23 undef = .pointer (some ⟨b, 0, none⟩) := hd.1 rfl
    exact rf_faddr (guard_none rfl) rfl _ _ _ rfl _ _ 0 _ h23 (by omega) (fun _ _ => by kernel_rfl) rfl
  refine ⟨?_, ?_⟩
  · intro a _w hB _hF hd
    have h24 : a.tmps.getD 24 undef = .pointer (some ⟨b, 0, none⟩) := hd.1 rfl
    exact rf_load1 (guard_none rfl) rfl _ _ rfl _ _ h24 (run_ldPart ((Has.cell (S.pb.below hB S.pb.lt) 0).trans rfl)) rfl
  refine ⟨?_, ?_⟩
  · intro a w hB _hF hd
    have h19 : a.tmps.getD 19 undef = .pointer (some ⟨g, 0, none⟩) := hd.1 rfl
    have h20 : a.tmps.getD 20 undef = .pointer pl := hd.2.1 rfl
    have h21 : a.tmps.getD 21 undef = .agg #[.int .i64 x.s, .int .i64 x.t, .int .i64 x.q, .int .i64 x.v] := hd.2.2.1 rfl
    have h25 : a.tmps.getD 25 undef = .pointer p := hd.2.2.2.1 rfl
    refine step_call (guard_none rfl) rfl _ _ (rf_call_run Try.func80 (by kernel_rfl) (by kernel_rfl) _ _ rfl) ?_
    simp only [List.map_toArray, List.map_cons, List.map_nil, Act.eval, h19, h20, h21, h25]
    exact (S.c1 w hB).mono (by rintro e w1 ⟨T, rfl, h1, h2, hb⟩; exact ⟨_, rfl, hb, T, rfl, h1, h2⟩)
  refine ⟨?_, ?_⟩
  · intro _a _w _hB hF _hd
    exact step_move (guard_none rfl) rfl _ rfl ((hF.other 3 rfl).trans S.v3)
  refine ⟨?_, ?_⟩
  · intro a _w _hB _hF hd
    have h27 : a.tmps.getD 27 undef = .pointer (some ⟨b, 0, none⟩) := hd.1 rfl
    exact rf_nilck (guard_none rfl) rfl _ rfl _ h27 rfl
  refine ⟨?_, ?_⟩
  · intro a _w _hB _hF hd
    have h28 : a.tmps.getD 28 undef = .pointer (some ⟨b, 0, none⟩) := hd.1 rfl
    exact rf_faddr (guard_none rfl) rfl _ _ _ rfl _ _ 1 _ h28 (by omega) (fun _ _ => by kernel_rfl) rfl
  refine ⟨?_, ?_⟩
  · intro a _w hB _hF hd
    have h29 : a.tmps.getD 29 undef = .pointer (some ⟨b, 1, none⟩) := hd.1 rfl
    exact rf_loadItP (guard_none rfl) rfl _ rfl _ _ h29 v (prtC_item _ _ _ _ _ (S.pb.below hB S.pb.lt)) rfl
  refine ⟨?_, ?_⟩
  · intro _a _w _hB hF _hd
    exact step_move (guard_none rfl) rfl _ rfl ((hF.other 3 rfl).trans S.v3)
  refine ⟨?_, ?_⟩
  · intro a _w _hB _hF hd
    have h31 : a.tmps.getD 31 undef = .pointer (some ⟨b, 0, none⟩) := hd.1 rfl
    exact rf_nilck (guard_none rfl) rfl _ rfl _ h31 rfl
  refine ⟨?_, ?_⟩
  · intro a _w _hB _hF hd
    have h32 : a.tmps.getD 32 undef = .pointer (some ⟨b, 0, none⟩) := hd.1 rfl
    exact rf_faddr (guard_none rfl) rfl _ _ _ rfl _ _ 5 _ h32 (by omega) (fun _ _ => by kernel_rfl) rfl
  refine ⟨?_, ?_⟩
  · intro a _w hB _hF hd
    have h33 : a.tmps.getD 33 undef = .pointer (some ⟨b, 5, none⟩) := hd.1 rfl
    exact rf_load1 (guard_none rfl) rfl _ _ rfl _ _ h33 (run_ldPart ((Has.cell (S.pb.below hB S.pb.lt) 5).trans rfl)) rfl
  refine ⟨?_, ?_⟩
  · intro a w hB _hF hd
    have h18 : a.tmps.getD 18 undef = .pointer (some ⟨g, 0, none⟩) := hd.1 rfl
    obtain ⟨T26, h26, p26⟩ : trV bs P R1 (a.tmps.getD 26 undef) w := hd.2.1 rfl
    have h30 : a.tmps.getD 30 undef = .agg #[.int .i64 v.s, .int .i64 v.t, .int .i64 v.q, .int .i64 v.v] := hd.2.2.1 rfl
    have h34 : a.tmps.getD 34 undef = .pointer q := hd.2.2.2.1 rfl
    refine step_call (guard_none rfl) rfl _ _ (rf_call_run Try.func77 (by kernel_rfl) (by kernel_rfl) _ _ rfl) ?_
    simp only [List.map_toArray, List.map_cons, List.map_nil, Act.eval, h18, h26, h30, h34]
    exact (S.c2 w T26 hB p26.1 p26.2).mono (by rintro e w1 ⟨T, rfl, h1, h2, hb⟩; exact ⟨_, rfl, hb, T, rfl, h1, h2⟩)
  refine ⟨?_, ?_⟩
  · intro a w _hB _hF hd
    obtain ⟨T35, h35, p35⟩ : trV bs P R2 (a.tmps.getD 35 undef) w := hd.1 rfl
    exact step_assign (guard_none rfl) rfl _ rfl ⟨T35, h35, p35⟩
  trivial
theorem tlk_any {Q : Exit → Act → World → Prop} {l : List Oper} (hl : opsOf 3 Try.f80 = l) (hend : ∀ (T26 : Tr), ∀ (T35 : Tr), ∀ (T8 : Tr), ∀ w : World, Below w0.heap.size w0 w → (T26.At bs P w ∧ T26.row = R1) → (T35.At bs P w ∧ T35.row = R2) → (T8.At bs P w ∧ T8.row = R2) → Q .normal (putAll a0 [(18, .pointer (some ⟨g, 0, none⟩)), (19, .pointer (some ⟨g, 0, none⟩)), (20, .pointer pl), (21, .agg #[.int .i64 x.s, .int .i64 x.t, .int .i64 x.q, .int .i64 x.v]), (22, .pointer (some ⟨b, 0, none⟩)), (23, .pointer (some ⟨b, 0, none⟩)), (24, .pointer (some ⟨b, 0, none⟩)), (25, .pointer p), (26, .pointer T26.ptr), (27, .pointer (some ⟨b, 0, none⟩)), (28, .pointer (some ⟨b, 0, none⟩)), (29, .pointer (some ⟨b, 1, none⟩)), (30, .agg #[.int .i64 v.s, .int .i64 v.t, .int .i64 v.q, .int .i64 v.v]), (31, .pointer (some ⟨b, 0, none⟩)), (32, .pointer (some ⟨b, 0, none⟩)), (33, .pointer (some ⟨b, 5, none⟩)), (34, .pointer q), (35, .pointer T35.ptr), (8, .pointer T8.ptr)]) w) :
    (Code.region 3 l.toArray true).wp Try.prog Q a0 w0 := by
  subst hl
  refine region_facts2 (tlkF g y b z x v av hk p q bs P R1 R2 pl) tlkD 36 S.size rfl (by kernel_rfl) (by kernel_rfl) (tlkF_mono _ _ _ _ _ _ _ _ _ _ _ _ _ _ _) (tlk_ok S) fun a w hB hF h => ?_
  obtain ⟨T26, h26, p26⟩ : trV bs P R1 (a.tmps.getD 26 undef) w := h 8 (some 26) rfl
  obtain ⟨T35, h35, p35⟩ : trV bs P R2 (a.tmps.getD 35 undef) w := h 17 (some 35) rfl
  obtain ⟨T8, h8, p8⟩ : trV bs P R2 (a.tmps.getD 8 undef) w := h 18 (some 8) rfl
  have hv : valsAre a [(18, .pointer (some ⟨g, 0, none⟩)), (19, .pointer (some ⟨g, 0, none⟩)), (20, .pointer pl), (21, .agg #[.int .i64 x.s, .int .i64 x.t, .int .i64 x.q, .int .i64 x.v]), (22, .pointer (some ⟨b, 0, none⟩)), (23, .pointer (some ⟨b, 0, none⟩)), (24, .pointer (some ⟨b, 0, none⟩)), (25, .pointer p), (26, .pointer T26.ptr), (27, .pointer (some ⟨b, 0, none⟩)), (28, .pointer (some ⟨b, 0, none⟩)), (29, .pointer (some ⟨b, 1, none⟩)), (30, .agg #[.int .i64 v.s, .int .i64 v.t, .int .i64 v.q, .int .i64 v.v]), (31, .pointer (some ⟨b, 0, none⟩)), (32, .pointer (some ⟨b, 0, none⟩)), (33, .pointer (some ⟨b, 5, none⟩)), (34, .pointer q), (35, .pointer T35.ptr), (8, .pointer T8.ptr)] := by
    refine ⟨?_, ?_, ?_, ?_, ?_, ?_, ?_, ?_, ?_, ?_, ?_, ?_, ?_, ?_, ?_, ?_, ?_, ?_, ?_, trivial⟩
    · exact h 0 (some 18) rfl
    · exact h 1 (some 19) rfl
    · exact h 2 (some 20) rfl
    · exact h 3 (some 21) rfl
    · exact h 4 (some 22) rfl
    · exact h 5 (some 23) rfl
    · exact h 6 (some 24) rfl
    · exact h 7 (some 25) rfl
    · exact h26
    · exact h 9 (some 27) rfl
    · exact h 10 (some 28) rfl
    · exact h 11 (some 29) rfl
    · exact h 12 (some 30) rfl
    · exact h 13 (some 31) rfl
    · exact h 14 (some 32) rfl
    · exact h 15 (some 33) rfl
    · exact h 16 (some 34) rfl
    · exact h35
    · exact h8
  rw [frame_is hF _ hv (by rfl) (by rfl)]
  exact hend T26 T35 T8 w hB p26 p35 p8
end

def tn4D : List (Option Tmp) := [some 19, some 20, some 21, some 22, some 23, some 24, some 25, some 26, some 27, some 28, some 29, some 30, some 31, some 32, some 33, some 34, some 35, some 6]
def tn4F (g _y b _z : Nat) (x v : It) (_av : Ac) (_hk : Nat) (p q : Option Addr) (bs : List Int) (P : Nat → Prop) (R1 R2 : List It) : List Fact := [isV (.pointer (some ⟨g, 0, none⟩)), isV (.pointer (some ⟨g, 0, none⟩)), isV (.pointer (some ⟨b, 0, none⟩)), isV (.pointer (some ⟨b, 0, none⟩)), isV (.pointer (some ⟨b, 0, none⟩)), isV (.pointer p), isV (.agg #[.int .i64 x.s, .int .i64 x.t, .int .i64 x.q, .int .i64 x.v]), trV bs P R1, isV (.pointer (some ⟨b, 0, none⟩)), isV (.pointer (some ⟨b, 0, none⟩)), isV (.pointer (some ⟨b, 1, none⟩)), isV (.agg #[.int .i64 v.s, .int .i64 v.t, .int .i64 v.q, .int .i64 v.v]), isV (.pointer (some ⟨b, 0, none⟩)), isV (.pointer (some ⟨b, 0, none⟩)), isV (.pointer (some ⟨b, 5, none⟩)), isV (.pointer q), trV bs P R2, trV bs P R2]
theorem tn4F_mono (g y b z : Nat) (x v : It) (av : Ac) (hk : Nat) (p q : Option Addr) (bs : List Int) (P : Nat → Prop) (R1 R2 : List It) : ∀ φ ∈ tn4F g y b z x v av hk p q bs P R1 R2, Mono φ := by
  unfold tn4F
  refine monos_cons (mono_isV _) ?_
  refine monos_cons (mono_isV _) ?_
  refine monos_cons (mono_isV _) ?_
  refine monos_cons (mono_isV _) ?_
  refine monos_cons (mono_isV _) ?_
  refine monos_cons (mono_isV _) ?_
  refine monos_cons (mono_isV _) ?_
  refine monos_cons (trV_mono _ _ _) ?_
  refine monos_cons (mono_isV _) ?_
  refine monos_cons (mono_isV _) ?_
  refine monos_cons (mono_isV _) ?_
  refine monos_cons (mono_isV _) ?_
  refine monos_cons (mono_isV _) ?_
  refine monos_cons (mono_isV _) ?_
  refine monos_cons (mono_isV _) ?_
  refine monos_cons (mono_isV _) ?_
  refine monos_cons (trV_mono _ _ _) ?_
  refine monos_cons (trV_mono _ _ _) ?_
  exact monos_nil
structure tn4S (g y b z : Nat) (x v : It) (av : Ac) (hk : Nat) (p q : Option Addr) (bs : List Int) (P : Nat → Prop) (R1 R2 : List It) (a0 : Act) (w0 : World) : Prop where
  size : a0.tmps.size = 53
  v0 : a0.tmps.getD 0 undef = .pointer (some ⟨g, 0, none⟩)
  v1 : a0.tmps.getD 1 undef = .pointer (some ⟨b, 0, none⟩)
  v5 : a0.tmps.getD 5 undef = .pointer (some ⟨y, 0, none⟩)
  bx : Has w0 y 47 #[.int .i64 x.s, .int .i64 x.t, .int .i64 x.q, .int .i64 x.v]
  pb : Has w0 b 107 (prtC p v q av hk)
  c1 : ∀ w, Below w0.heap.size w0 w → Calls Try.prog 46 #[.pointer (some ⟨g, 0, none⟩), .pointer p, .agg #[.int .i64 x.s, .int .i64 x.t, .int .i64 x.q, .int .i64 x.v]] w (TrO bs P R1 w)
  c2 : ∀ (w : World) (T : Tr), Below w0.heap.size w0 w → T.At bs P w → T.row = R1 → Calls Try.prog 77 #[.pointer (some ⟨g, 0, none⟩), .pointer T.ptr, .agg #[.int .i64 v.s, .int .i64 v.t, .int .i64 v.q, .int .i64 v.v], .pointer q] w (TrO bs P R2 w)
section
variable {g y b z : Nat} {x v : It} {av : Ac} {hk : Nat} {p q : Option Addr} {bs : List Int} {P : Nat → Prop} {R1 R2 : List It} {a0 : Act} {w0 : World} (S : tn4S g y b z x v av hk p q bs P R1 R2 a0 w0)
include S
set_option maxRecDepth 100000 in
set_option maxHeartbeats 8000000 in
theorem tn4_ok : AllOps (fun j o => ∀ (a : Act) (w : World), Below w0.heap.size w0 w → FrD tn4D a0 a → needs tn4D (tn4F g y b z x v av hk p q bs P R1 R2) a w o.after.toList → StepD Try.prog tn4D (factAt (tn4F g y b z x v av hk p q bs P R1 R2) j) o a w) 0 (opsOf 4 Try.f46) := by
  simp only [opsOf, Try.f46, opsAt, Option.bind, Option.or, Option.getD, reduceCtorEq, if_true, if_false, Nat.reduceEqDiff]
  refine ⟨?_, ?_⟩
  · intro _a _w _hB hF _hd
    exact step_move (guard_none rfl) rfl _ rfl ((hF.other 0 rfl).trans S.v0)
  refine ⟨?_, ?_⟩
  · intro _a _w _hB hF _hd
    exact step_move (guard_none rfl) rfl _ rfl ((hF.other 0 rfl).trans S.v0)
  refine ⟨?_, ?_⟩
  · intro _a _w _hB hF _hd
    exact step_move (guard_none rfl) rfl _ rfl ((hF.other 1 rfl).trans S.v1)
  refine ⟨?_, ?_⟩
  · intro a _w _hB _hF hd
    have h21 : a.tmps.getD 21 undef = .pointer (some ⟨b, 0, none⟩) := hd.1 rfl
    exact rf_nilck (guard_none rfl) rfl _ rfl _ h21 rfl
  refine ⟨?_, ?_⟩
  · intro a _w _hB _hF hd
    have h22 : a.tmps.getD 22 undef = .pointer (some ⟨b, 0, none⟩) := hd.1 rfl
    exact rf_faddr (guard_none rfl) rfl _ _ _ rfl _ _ 0 _ h22 (by omega) (fun _ _ => by kernel_rfl) rfl
  refine ⟨?_, ?_⟩
  · intro a _w hB _hF hd
    have h23 : a.tmps.getD 23 undef = .pointer (some ⟨b, 0, none⟩) := hd.1 rfl
    exact rf_load1 (guard_none rfl) rfl _ _ rfl _ _ h23 (run_ldPart ((Has.cell (S.pb.below hB S.pb.lt) 0).trans rfl)) rfl
  refine ⟨?_, ?_⟩
  · intro _a _w hB hF _hd
    exact rf_loadS (guard_none rfl) rfl _ _ rfl _ _ ((hF.other 5 rfl).trans S.v5) _ (rf_range (S.bx.below hB S.bx.lt)) Try.underlying47 rfl (by kernel_rfl) rfl
  refine ⟨?_, ?_⟩
  · intro a w hB _hF hd
    have h20 : a.tmps.getD 20 undef = .pointer (some ⟨g, 0, none⟩) := hd.1 rfl
    have h24 : a.tmps.getD 24 undef = .pointer p := hd.2.1 rfl
    have h25 : a.tmps.getD 25 undef = .agg #[.int .i64 x.s, .int .i64 x.t, .int .i64 x.q, .int .i64 x.v] := hd.2.2.1 rfl
    refine step_call (guard_none rfl) rfl _ _ (rf_call_run Try.func46 (by kernel_rfl) (by kernel_rfl) _ _ rfl) ?_
    simp only [List.map_toArray, List.map_cons, List.map_nil, Act.eval, h20, h24, h25]
    exact (S.c1 w hB).mono (by rintro e w1 ⟨T, rfl, h1, h2, hb⟩; exact ⟨_, rfl, hb, T, rfl, h1, h2⟩)
  refine ⟨?_, ?_⟩
  · intro _a _w _hB hF _hd
    exact step_move (guard_none rfl) rfl _ rfl ((hF.other 1 rfl).trans S.v1)
  refine ⟨?_, ?_⟩
  · intro a _w _hB _hF hd
    have h27 : a.tmps.getD 27 undef = .pointer (some ⟨b, 0, none⟩) := hd.1 rfl
    exact rf_nilck (guard_none rfl) rfl _ rfl _ h27 rfl
  refine ⟨?_, ?_⟩
  · intro a _w _hB _hF hd
    have h28 : a.tmps.getD 28 undef = .pointer (some ⟨b, 0, none⟩) := hd.1 rfl
    exact rf_faddr (guard_none rfl) rfl _ _ _ rfl _ _ 1 _ h28 (by omega) (fun _ _ => by kernel_rfl) rfl
  refine ⟨?_, ?_⟩
  · intro a _w hB _hF hd
    have h29 : a.tmps.getD 29 undef = .pointer (some ⟨b, 1, none⟩) := hd.1 rfl
    exact rf_loadItP (guard_none rfl) rfl _ rfl _ _ h29 v (prtC_item _ _ _ _ _ (S.pb.below hB S.pb.lt)) rfl
  refine ⟨?_, ?_⟩
  · intro _a _w _hB hF _hd
    exact step_move (guard_none rfl) rfl _ rfl ((hF.other 1 rfl).trans S.v1)
  refine ⟨?_, ?_⟩
  · intro a _w _hB _hF hd
    have h31 : a.tmps.getD 31 undef = .pointer (some ⟨b, 0, none⟩) := hd.1 rfl
    exact rf_nilck (guard_none rfl) rfl _ rfl _ h31 rfl
  refine ⟨?_, ?_⟩
  · intro a _w _hB _hF hd
    have h32 : a.tmps.getD 32 undef = .pointer (some ⟨b, 0, none⟩) := hd.1 rfl
    exact rf_faddr (guard_none rfl) rfl _ _ _ rfl _ _ 5 _ h32 (by omega) (fun _ _ => by kernel_rfl) rfl
  refine ⟨?_, ?_⟩
  · intro a _w hB _hF hd
    have h33 : a.tmps.getD 33 undef = .pointer (some ⟨b, 5, none⟩) := hd.1 rfl
    exact rf_load1 (guard_none rfl) rfl _ _ rfl _ _ h33 (run_ldPart ((Has.cell (S.pb.below hB S.pb.lt) 5).trans rfl)) rfl
  refine ⟨?_, ?_⟩
  · intro a w hB _hF hd
    have h19 : a.tmps.getD 19 undef = .pointer (some ⟨g, 0, none⟩) := hd.1 rfl
    obtain ⟨T26, h26, p26⟩ : trV bs P R1 (a.tmps.getD 26 undef) w := hd.2.1 rfl
    have h30 : a.tmps.getD 30 undef = .agg #[.int .i64 v.s, .int .i64 v.t, .int .i64 v.q, .int .i64 v.v] := hd.2.2.1 rfl
    have h34 : a.tmps.getD 34 undef = .pointer q := hd.2.2.2.1 rfl
    refine step_call (guard_none rfl) rfl _ _ (rf_call_run Try.func77 (by kernel_rfl) (by kernel_rfl) _ _ rfl) ?_
    simp only [List.map_toArray, List.map_cons, List.map_nil, Act.eval, h19, h26, h30, h34]
    exact (S.c2 w T26 hB p26.1 p26.2).mono (by rintro e w1 ⟨T, rfl, h1, h2, hb⟩; exact ⟨_, rfl, hb, T, rfl, h1, h2⟩)
  refine ⟨?_, ?_⟩
  · intro a w _hB _hF hd
    obtain ⟨T35, h35, p35⟩ : trV bs P R2 (a.tmps.getD 35 undef) w := hd.1 rfl
    exact step_assign (guard_none rfl) rfl _ rfl ⟨T35, h35, p35⟩
  trivial
theorem tn4_any {Q : Exit → Act → World → Prop} {l : List Oper} (hl : opsOf 4 Try.f46 = l) (hend : ∀ (T26 : Tr), ∀ (T35 : Tr), ∀ (T6 : Tr), ∀ w : World, Below w0.heap.size w0 w → (T26.At bs P w ∧ T26.row = R1) → (T35.At bs P w ∧ T35.row = R2) → (T6.At bs P w ∧ T6.row = R2) → Q .normal (putAll a0 [(19, .pointer (some ⟨g, 0, none⟩)), (20, .pointer (some ⟨g, 0, none⟩)), (21, .pointer (some ⟨b, 0, none⟩)), (22, .pointer (some ⟨b, 0, none⟩)), (23, .pointer (some ⟨b, 0, none⟩)), (24, .pointer p), (25, .agg #[.int .i64 x.s, .int .i64 x.t, .int .i64 x.q, .int .i64 x.v]), (26, .pointer T26.ptr), (27, .pointer (some ⟨b, 0, none⟩)), (28, .pointer (some ⟨b, 0, none⟩)), (29, .pointer (some ⟨b, 1, none⟩)), (30, .agg #[.int .i64 v.s, .int .i64 v.t, .int .i64 v.q, .int .i64 v.v]), (31, .pointer (some ⟨b, 0, none⟩)), (32, .pointer (some ⟨b, 0, none⟩)), (33, .pointer (some ⟨b, 5, none⟩)), (34, .pointer q), (35, .pointer T35.ptr), (6, .pointer T6.ptr)]) w) :
    (Code.region 4 l.toArray true).wp Try.prog Q a0 w0 := by
  subst hl
  refine region_facts2 (tn4F g y b z x v av hk p q bs P R1 R2) tn4D 53 S.size rfl (by kernel_rfl) (by kernel_rfl) (tn4F_mono _ _ _ _ _ _ _ _ _ _ _ _ _ _) (tn4_ok S) fun a w hB hF h => ?_
  obtain ⟨T26, h26, p26⟩ : trV bs P R1 (a.tmps.getD 26 undef) w := h 7 (some 26) rfl
  obtain ⟨T35, h35, p35⟩ : trV bs P R2 (a.tmps.getD 35 undef) w := h 16 (some 35) rfl
  obtain ⟨T6, h6, p6⟩ : trV bs P R2 (a.tmps.getD 6 undef) w := h 17 (some 6) rfl
  have hv : valsAre a [(19, .pointer (some ⟨g, 0, none⟩)), (20, .pointer (some ⟨g, 0, none⟩)), (21, .pointer (some ⟨b, 0, none⟩)), (22, .pointer (some ⟨b, 0, none⟩)), (23, .pointer (some ⟨b, 0, none⟩)), (24, .pointer p), (25, .agg #[.int .i64 x.s, .int .i64 x.t, .int .i64 x.q, .int .i64 x.v]), (26, .pointer T26.ptr), (27, .pointer (some ⟨b, 0, none⟩)), (28, .pointer (some ⟨b, 0, none⟩)), (29, .pointer (some ⟨b, 1, none⟩)), (30, .agg #[.int .i64 v.s, .int .i64 v.t, .int .i64 v.q, .int .i64 v.v]), (31, .pointer (some ⟨b, 0, none⟩)), (32, .pointer (some ⟨b, 0, none⟩)), (33, .pointer (some ⟨b, 5, none⟩)), (34, .pointer q), (35, .pointer T35.ptr), (6, .pointer T6.ptr)] := by
    refine ⟨?_, ?_, ?_, ?_, ?_, ?_, ?_, ?_, ?_, ?_, ?_, ?_, ?_, ?_, ?_, ?_, ?_, ?_, trivial⟩
    · exact h 0 (some 19) rfl
    · exact h 1 (some 20) rfl
    · exact h 2 (some 21) rfl
    · exact h 3 (some 22) rfl
    · exact h 4 (some 23) rfl
    · exact h 5 (some 24) rfl
    · exact h 6 (some 25) rfl
    · exact h26
    · exact h 8 (some 27) rfl
    · exact h 9 (some 28) rfl
    · exact h 10 (some 29) rfl
    · exact h 11 (some 30) rfl
    · exact h 12 (some 31) rfl
    · exact h 13 (some 32) rfl
    · exact h 14 (some 33) rfl
    · exact h 15 (some 34) rfl
    · exact h35
    · exact h6
  rw [frame_is hF _ hv (by rfl) (by rfl)]
  exact hend T26 T35 T6 w hB p26 p35 p6
end

def tn5D : List (Option Tmp) := [some 36, some 37, some 38, some 39, some 40, some 41, some 42, some 43, some 44, some 45, some 46, some 47, some 48, some 49, some 50, some 51, some 52, some 6]
def tn5F (g _y b _z : Nat) (x v : It) (_av : Ac) (_hk : Nat) (p q : Option Addr) (bs : List Int) (P : Nat → Prop) (R1 R2 : List It) : List Fact := [isV (.pointer (some ⟨g, 0, none⟩)), isV (.pointer (some ⟨b, 0, none⟩)), isV (.pointer (some ⟨b, 0, none⟩)), isV (.pointer (some ⟨b, 0, none⟩)), isV (.pointer p), isV (.pointer (some ⟨b, 0, none⟩)), isV (.pointer (some ⟨b, 0, none⟩)), isV (.pointer (some ⟨b, 1, none⟩)), isV (.agg #[.int .i64 v.s, .int .i64 v.t, .int .i64 v.q, .int .i64 v.v]), isV (.pointer (some ⟨g, 0, none⟩)), isV (.pointer (some ⟨b, 0, none⟩)), isV (.pointer (some ⟨b, 0, none⟩)), isV (.pointer (some ⟨b, 5, none⟩)), isV (.pointer q), isV (.agg #[.int .i64 x.s, .int .i64 x.t, .int .i64 x.q, .int .i64 x.v]), trV bs P R1, trV bs P R2, trV bs P R2]
theorem tn5F_mono (g y b z : Nat) (x v : It) (av : Ac) (hk : Nat) (p q : Option Addr) (bs : List Int) (P : Nat → Prop) (R1 R2 : List It) : ∀ φ ∈ tn5F g y b z x v av hk p q bs P R1 R2, Mono φ := by
  unfold tn5F
  refine monos_cons (mono_isV _) ?_
  refine monos_cons (mono_isV _) ?_
  refine monos_cons (mono_isV _) ?_
  refine monos_cons (mono_isV _) ?_
  refine monos_cons (mono_isV _) ?_
  refine monos_cons (mono_isV _) ?_
  refine monos_cons (mono_isV _) ?_
  refine monos_cons (mono_isV _) ?_
  refine monos_cons (mono_isV _) ?_
  refine monos_cons (mono_isV _) ?_
  refine monos_cons (mono_isV _) ?_
  refine monos_cons (mono_isV _) ?_
  refine monos_cons (mono_isV _) ?_
  refine monos_cons (mono_isV _) ?_
  refine monos_cons (mono_isV _) ?_
  refine monos_cons (trV_mono _ _ _) ?_
  refine monos_cons (trV_mono _ _ _) ?_
  refine monos_cons (trV_mono _ _ _) ?_
  exact monos_nil
structure tn5S (g y b z : Nat) (x v : It) (av : Ac) (hk : Nat) (p q : Option Addr) (bs : List Int) (P : Nat → Prop) (R1 R2 : List It) (a0 : Act) (w0 : World) : Prop where
  size : a0.tmps.size = 53
  v0 : a0.tmps.getD 0 undef = .pointer (some ⟨g, 0, none⟩)
  v1 : a0.tmps.getD 1 undef = .pointer (some ⟨b, 0, none⟩)
  v5 : a0.tmps.getD 5 undef = .pointer (some ⟨y, 0, none⟩)
  bx : Has w0 y 47 #[.int .i64 x.s, .int .i64 x.t, .int .i64 x.q, .int .i64 x.v]
  pb : Has w0 b 107 (prtC p v q av hk)
  c1 : ∀ w, Below w0.heap.size w0 w → Calls Try.prog 46 #[.pointer (some ⟨g, 0, none⟩), .pointer q, .agg #[.int .i64 x.s, .int .i64 x.t, .int .i64 x.q, .int .i64 x.v]] w (TrO bs P R1 w)
  c2 : ∀ (w : World) (T : Tr), Below w0.heap.size w0 w → T.At bs P w → T.row = R1 → Calls Try.prog 77 #[.pointer (some ⟨g, 0, none⟩), .pointer p, .agg #[.int .i64 v.s, .int .i64 v.t, .int .i64 v.q, .int .i64 v.v], .pointer T.ptr] w (TrO bs P R2 w)
section
variable {g y b z : Nat} {x v : It} {av : Ac} {hk : Nat} {p q : Option Addr} {bs : List Int} {P : Nat → Prop} {R1 R2 : List It} {a0 : Act} {w0 : World} (S : tn5S g y b z x v av hk p q bs P R1 R2 a0 w0)
include S
set_option maxRecDepth 100000 in
set_option maxHeartbeats 8000000 in
theorem tn5_ok : AllOps (fun j o => ∀ (a : Act) (w : World), Below w0.heap.size w0 w → FrD tn5D a0 a → needs tn5D (tn5F g y b z x v av hk p q bs P R1 R2) a w o.after.toList → StepD Try.prog tn5D (factAt (tn5F g y b z x v av hk p q bs P R1 R2) j) o a w) 0 (opsOf 5 Try.f46) := by
  simp only [opsOf, Try.f46, opsAt, Option.bind, Option.or, Option.getD, reduceCtorEq, if_true, if_false, Nat.reduceEqDiff]
  refine ⟨?_, ?_⟩
  · intro _a _w _hB hF _hd
    exact step_move (guard_none rfl) rfl _ rfl ((hF.other 0 rfl).trans S.v0)
  refine ⟨?_, ?_⟩
  · intro _a _w _hB hF _hd
    exact step_move (guard_none rfl) rfl _ rfl ((hF.other 1 rfl).trans S.v1)
  refine ⟨?_, ?_⟩
  · intro a _w _hB _hF hd
    have h37 : a.tmps.getD 37 undef = .pointer (some ⟨b, 0, none⟩) := hd.1 rfl
    exact rf_nilck (guard_none rfl) rfl _ rfl _ h37 rfl
  refine ⟨?_, ?_⟩
  · intro a _w _hB _hF hd
    have h38 : a.tmps.getD 38 undef = .pointer (some ⟨b, 0, none⟩) := hd.1 rfl
    exact rf_faddr (guard_none rfl) rfl _ _ _ rfl _ _ 0 _ h38 (by omega) (fun _ _ => by kernel_rfl) rfl
  refine ⟨?_, ?_⟩
  · intro a _w hB _hF hd
    have h39 : a.tmps.getD 39 undef = .pointer (some ⟨b, 0, none⟩) := hd.1 rfl
    exact rf_load1 (guard_none rfl) rfl _ _ rfl _ _ h39 (run_ldPart ((Has.cell (S.pb.below hB S.pb.lt) 0).trans rfl)) rfl
  refine ⟨?_, ?_⟩
  · intro _a _w _hB hF _hd
    exact step_move (guard_none rfl) rfl _ rfl ((hF.other 1 rfl).trans S.v1)
  refine ⟨?_, ?_⟩
  · intro a _w _hB _hF hd
    have h41 : a.tmps.getD 41 undef = .pointer (some ⟨b, 0, none⟩) := hd.1 rfl
    exact rf_nilck (guard_none rfl) rfl _ rfl _ h41 rfl
  refine ⟨?_, ?_⟩
  · intro a _w _hB _hF hd
    have h42 : a.tmps.getD 42 undef = .pointer (some ⟨b, 0, none⟩) := hd.1 rfl
    exact rf_faddr (guard_none rfl) rfl _ _ _ rfl _ _ 1 _ h42 (by omega) (fun _ _ => by kernel_rfl) rfl
  refine ⟨?_, ?_⟩
  · intro a _w hB _hF hd
    have h43 : a.tmps.getD 43 undef = .pointer (some ⟨b, 1, none⟩) := hd.1 rfl
    exact rf_loadItP (guard_none rfl) rfl _ rfl _ _ h43 v (prtC_item _ _ _ _ _ (S.pb.below hB S.pb.lt)) rfl
  refine ⟨?_, ?_⟩
  · intro _a _w _hB hF _hd
    exact step_move (guard_none rfl) rfl _ rfl ((hF.other 0 rfl).trans S.v0)
  refine ⟨?_, ?_⟩
  · intro _a _w _hB hF _hd
    exact step_move (guard_none rfl) rfl _ rfl ((hF.other 1 rfl).trans S.v1)
  refine ⟨?_, ?_⟩
  · intro a _w _hB _hF hd
    have h46 : a.tmps.getD 46 undef = .pointer (some ⟨b, 0, none⟩) := hd.1 rfl
    exact rf_nilck (guard_none rfl) rfl _ rfl _ h46 rfl
  refine ⟨?_, ?_⟩
  · intro a _w _hB _hF hd
    have h47 : a.tmps.getD 47 undef = .pointer (some ⟨b, 0, none⟩) := hd.1 rfl
    exact rf_faddr (guard_none rfl) rfl _ _ _ rfl _ _ 5 _ h47 (by omega) (fun _ _ => by kernel_rfl) rfl
  refine ⟨?_, ?_⟩
  · intro a _w hB _hF hd
    have h48 : a.tmps.getD 48 undef = .pointer (some ⟨b, 5, none⟩) := hd.1 rfl
    exact rf_load1 (guard_none rfl) rfl _ _ rfl _ _ h48 (run_ldPart ((Has.cell (S.pb.below hB S.pb.lt) 5).trans rfl)) rfl
  refine ⟨?_, ?_⟩
  · intro _a _w hB hF _hd
    exact rf_loadS (guard_none rfl) rfl _ _ rfl _ _ ((hF.other 5 rfl).trans S.v5) _ (rf_range (S.bx.below hB S.bx.lt)) Try.underlying47 rfl (by kernel_rfl) rfl
  refine ⟨?_, ?_⟩
  · intro a w hB _hF hd
    have h45 : a.tmps.getD 45 undef = .pointer (some ⟨g, 0, none⟩) := hd.1 rfl
    have h49 : a.tmps.getD 49 undef = .pointer q := hd.2.1 rfl
    have h50 : a.tmps.getD 50 undef = .agg #[.int .i64 x.s, .int .i64 x.t, .int .i64 x.q, .int .i64 x.v] := hd.2.2.1 rfl
    refine step_call (guard_none rfl) rfl _ _ (rf_call_run Try.func46 (by kernel_rfl) (by kernel_rfl) _ _ rfl) ?_
    simp only [List.map_toArray, List.map_cons, List.map_nil, Act.eval, h45, h49, h50]
    exact (S.c1 w hB).mono (by rintro e w1 ⟨T, rfl, h1, h2, hb⟩; exact ⟨_, rfl, hb, T, rfl, h1, h2⟩)
  refine ⟨?_, ?_⟩
  · intro a w hB _hF hd
    have h36 : a.tmps.getD 36 undef = .pointer (some ⟨g, 0, none⟩) := hd.1 rfl
    have h40 : a.tmps.getD 40 undef = .pointer p := hd.2.1 rfl
    have h44 : a.tmps.getD 44 undef = .agg #[.int .i64 v.s, .int .i64 v.t, .int .i64 v.q, .int .i64 v.v] := hd.2.2.1 rfl
    obtain ⟨T51, h51, p51⟩ : trV bs P R1 (a.tmps.getD 51 undef) w := hd.2.2.2.1 rfl
    refine step_call (guard_none rfl) rfl _ _ (rf_call_run Try.func77 (by kernel_rfl) (by kernel_rfl) _ _ rfl) ?_
    simp only [List.map_toArray, List.map_cons, List.map_nil, Act.eval, h36, h40, h44, h51]
    exact (S.c2 w T51 hB p51.1 p51.2).mono (by rintro e w1 ⟨T, rfl, h1, h2, hb⟩; exact ⟨_, rfl, hb, T, rfl, h1, h2⟩)
  refine ⟨?_, ?_⟩
  · intro a w _hB _hF hd
    obtain ⟨T52, h52, p52⟩ : trV bs P R2 (a.tmps.getD 52 undef) w := hd.1 rfl
    exact step_assign (guard_none rfl) rfl _ rfl ⟨T52, h52, p52⟩
  trivial
theorem tn5_any {Q : Exit → Act → World → Prop} {l : List Oper} (hl : opsOf 5 Try.f46 = l) (hend : ∀ (T51 : Tr), ∀ (T52 : Tr), ∀ (T6 : Tr), ∀ w : World, Below w0.heap.size w0 w → (T51.At bs P w ∧ T51.row = R1) → (T52.At bs P w ∧ T52.row = R2) → (T6.At bs P w ∧ T6.row = R2) → Q .normal (putAll a0 [(36, .pointer (some ⟨g, 0, none⟩)), (37, .pointer (some ⟨b, 0, none⟩)), (38, .pointer (some ⟨b, 0, none⟩)), (39, .pointer (some ⟨b, 0, none⟩)), (40, .pointer p), (41, .pointer (some ⟨b, 0, none⟩)), (42, .pointer (some ⟨b, 0, none⟩)), (43, .pointer (some ⟨b, 1, none⟩)), (44, .agg #[.int .i64 v.s, .int .i64 v.t, .int .i64 v.q, .int .i64 v.v]), (45, .pointer (some ⟨g, 0, none⟩)), (46, .pointer (some ⟨b, 0, none⟩)), (47, .pointer (some ⟨b, 0, none⟩)), (48, .pointer (some ⟨b, 5, none⟩)), (49, .pointer q), (50, .agg #[.int .i64 x.s, .int .i64 x.t, .int .i64 x.q, .int .i64 x.v]), (51, .pointer T51.ptr), (52, .pointer T52.ptr), (6, .pointer T6.ptr)]) w) :
    (Code.region 5 l.toArray true).wp Try.prog Q a0 w0 := by
  subst hl
  refine region_facts2 (tn5F g y b z x v av hk p q bs P R1 R2) tn5D 53 S.size rfl (by kernel_rfl) (by kernel_rfl) (tn5F_mono _ _ _ _ _ _ _ _ _ _ _ _ _ _) (tn5_ok S) fun a w hB hF h => ?_
  obtain ⟨T51, h51, p51⟩ : trV bs P R1 (a.tmps.getD 51 undef) w := h 15 (some 51) rfl
  obtain ⟨T52, h52, p52⟩ : trV bs P R2 (a.tmps.getD 52 undef) w := h 16 (some 52) rfl
  obtain ⟨T6, h6, p6⟩ : trV bs P R2 (a.tmps.getD 6 undef) w := h 17 (some 6) rfl
  have hv : valsAre a [(36, .pointer (some ⟨g, 0, none⟩)), (37, .pointer (some ⟨b, 0, none⟩)), (38, .pointer (some ⟨b, 0, none⟩)), (39, .pointer (some ⟨b, 0, none⟩)), (40, .pointer p), (41, .pointer (some ⟨b, 0, none⟩)), (42, .pointer (some ⟨b, 0, none⟩)), (43, .pointer (some ⟨b, 1, none⟩)), (44, .agg #[.int .i64 v.s, .int .i64 v.t, .int .i64 v.q, .int .i64 v.v]), (45, .pointer (some ⟨g, 0, none⟩)), (46, .pointer (some ⟨b, 0, none⟩)), (47, .pointer (some ⟨b, 0, none⟩)), (48, .pointer (some ⟨b, 5, none⟩)), (49, .pointer q), (50, .agg #[.int .i64 x.s, .int .i64 x.t, .int .i64 x.q, .int .i64 x.v]), (51, .pointer T51.ptr), (52, .pointer T52.ptr), (6, .pointer T6.ptr)] := by
    refine ⟨?_, ?_, ?_, ?_, ?_, ?_, ?_, ?_, ?_, ?_, ?_, ?_, ?_, ?_, ?_, ?_, ?_, ?_, trivial⟩
    · exact h 0 (some 36) rfl
    · exact h 1 (some 37) rfl
    · exact h 2 (some 38) rfl
    · exact h 3 (some 39) rfl
    · exact h 4 (some 40) rfl
    · exact h 5 (some 41) rfl
    · exact h 6 (some 42) rfl
    · exact h 7 (some 43) rfl
    · exact h 8 (some 44) rfl
    · exact h 9 (some 45) rfl
    · exact h 10 (some 46) rfl
    · exact h 11 (some 47) rfl
    · exact h 12 (some 48) rfl
    · exact h 13 (some 49) rfl
    · exact h 14 (some 50) rfl
    · exact h51
    · exact h52
    · exact h6
  rw [frame_is hF _ hv (by rfl) (by rfl)]
  exact hend T51 T52 T6 w hB p51 p52 p6
end

def tn3D : List (Option Tmp) := [some 12, some 13, some 14, some 15, some 16, some 17, some 18]
def tn3F (_g _y b _z : Nat) (x v : It) (_av : Ac) (_hk : Nat) (_p _q : Option Addr) (β : Bool) : List Fact := [isV (.agg #[.int .i64 x.s, .int .i64 x.t, .int .i64 x.q, .int .i64 x.v]), isV (.pointer (some ⟨b, 0, none⟩)), isV (.pointer (some ⟨b, 0, none⟩)), isV (.pointer (some ⟨b, 1, none⟩)), isV (.agg #[.int .i64 v.s, .int .i64 v.t, .int .i64 v.q, .int .i64 v.v]), isV (.int .i64 (cmpT x v)), isV (.bool β)]
theorem tn3F_mono (g y b z : Nat) (x v : It) (av : Ac) (hk : Nat) (p q : Option Addr) (β : Bool) : ∀ φ ∈ tn3F g y b z x v av hk p q β, Mono φ := by
  unfold tn3F
  refine monos_cons (mono_isV _) ?_
  refine monos_cons (mono_isV _) ?_
  refine monos_cons (mono_isV _) ?_
  refine monos_cons (mono_isV _) ?_
  refine monos_cons (mono_isV _) ?_
  refine monos_cons (mono_isV _) ?_
  refine monos_cons (mono_isV _) ?_
  exact monos_nil
structure tn3S (g y b z : Nat) (x v : It) (av : Ac) (hk : Nat) (p q : Option Addr) (β : Bool) (a0 : Act) (w0 : World) : Prop where
  size : a0.tmps.size = 53
  v1 : a0.tmps.getD 1 undef = .pointer (some ⟨b, 0, none⟩)
  v5 : a0.tmps.getD 5 undef = .pointer (some ⟨y, 0, none⟩)
  bx : Has w0 y 47 #[.int .i64 x.s, .int .i64 x.t, .int .i64 x.q, .int .i64 x.v]
  pb : Has w0 b 107 (prtC p v q av hk)
  ht : decide (cmpT x v < 0) = β
section
variable {g y b z : Nat} {x v : It} {av : Ac} {hk : Nat} {p q : Option Addr} {β : Bool} {a0 : Act} {w0 : World} (S : tn3S g y b z x v av hk p q β a0 w0)
include S
set_option maxRecDepth 100000 in
set_option maxHeartbeats 8000000 in
theorem tn3_ok : AllOps (fun j o => ∀ (a : Act) (w : World), Below w0.heap.size w0 w → FrD tn3D a0 a → needs tn3D (tn3F g y b z x v av hk p q β) a w o.after.toList → StepD Try.prog tn3D (factAt (tn3F g y b z x v av hk p q β) j) o a w) 0 (opsOf 3 Try.f46) := by
  simp only [opsOf, Try.f46, opsAt, Option.bind, Option.or, Option.getD, reduceCtorEq, if_true, if_false, Nat.reduceEqDiff]
  refine ⟨?_, ?_⟩
  · intro _a _w hB hF _hd
    exact rf_loadS (guard_none rfl) rfl _ _ rfl _ _ ((hF.other 5 rfl).trans S.v5) _ (rf_range (S.bx.below hB S.bx.lt)) Try.underlying47 rfl (by kernel_rfl) rfl
  refine ⟨?_, ?_⟩
  · intro _a _w _hB hF _hd
    exact step_move (guard_none rfl) rfl _ rfl ((hF.other 1 rfl).trans S.v1)
  refine ⟨?_, ?_⟩
  · intro a _w _hB _hF hd
    have h13 : a.tmps.getD 13 undef = .pointer (some ⟨b, 0, none⟩) := hd.1 rfl
    exact rf_nilck (guard_none rfl) rfl _ rfl _ h13 rfl
  refine ⟨?_, ?_⟩
  · intro a _w _hB _hF hd
    have h14 : a.tmps.getD 14 undef = .pointer (some ⟨b, 0, none⟩) := hd.1 rfl
    exact rf_faddr (guard_none rfl) rfl _ _ _ rfl _ _ 1 _ h14 (by omega) (fun _ _ => by kernel_rfl) rfl
  refine ⟨?_, ?_⟩
  · intro a _w hB _hF hd
    have h15 : a.tmps.getD 15 undef = .pointer (some ⟨b, 1, none⟩) := hd.1 rfl
    exact rf_loadItP (guard_none rfl) rfl _ rfl _ _ h15 v (prtC_item _ _ _ _ _ (S.pb.below hB S.pb.lt)) rfl
  refine ⟨?_, ?_⟩
  · intro a _w _hB _hF hd
    have h12 : a.tmps.getD 12 undef = .agg #[.int .i64 x.s, .int .i64 x.t, .int .i64 x.q, .int .i64 x.v] := hd.1 rfl
    have h16 : a.tmps.getD 16 undef = .agg #[.int .i64 v.s, .int .i64 v.t, .int .i64 v.q, .int .i64 v.v] := hd.2.1 rfl
    refine step_call (guard_none rfl) rfl _ _ (rf_call_run Try.func74 (by kernel_rfl) (by kernel_rfl) _ _ rfl) ?_
    simp only [List.map_toArray, List.map_cons, List.map_nil, Act.eval, h12, h16]
    exact (compare_any x v _).mono (by rintro e w1 ⟨rfl, hb⟩; exact ⟨_, rfl, hb, rfl⟩)
  refine ⟨?_, ?_⟩
  · intro a _w _hB _hF hd
    have h17 : a.tmps.getD 17 undef = .int .i64 (cmpT x v) := hd.1 rfl
    exact rf_lss (guard_none rfl) rfl _ _ rfl _ _ h17 rfl β S.ht rfl
  trivial
theorem tn3_any {Q : Exit → Act → World → Prop} {l : List Oper} (hl : opsOf 3 Try.f46 = l) (hend : ∀ w : World, Below w0.heap.size w0 w → Q .normal (putAll a0 [(12, .agg #[.int .i64 x.s, .int .i64 x.t, .int .i64 x.q, .int .i64 x.v]), (13, .pointer (some ⟨b, 0, none⟩)), (14, .pointer (some ⟨b, 0, none⟩)), (15, .pointer (some ⟨b, 1, none⟩)), (16, .agg #[.int .i64 v.s, .int .i64 v.t, .int .i64 v.q, .int .i64 v.v]), (17, .int .i64 (cmpT x v)), (18, .bool β)]) w) :
    (Code.region 3 l.toArray true).wp Try.prog Q a0 w0 := by
  subst hl
  refine region_facts2 (tn3F g y b z x v av hk p q β) tn3D 53 S.size rfl (by kernel_rfl) (by kernel_rfl) (tn3F_mono _ _ _ _ _ _ _ _ _ _ _) (tn3_ok S) fun a w hB hF h => ?_
  have hv : valsAre a [(12, .agg #[.int .i64 x.s, .int .i64 x.t, .int .i64 x.q, .int .i64 x.v]), (13, .pointer (some ⟨b, 0, none⟩)), (14, .pointer (some ⟨b, 0, none⟩)), (15, .pointer (some ⟨b, 1, none⟩)), (16, .agg #[.int .i64 v.s, .int .i64 v.t, .int .i64 v.q, .int .i64 v.v]), (17, .int .i64 (cmpT x v)), (18, .bool β)] := by
    refine ⟨?_, ?_, ?_, ?_, ?_, ?_, ?_, trivial⟩
    · exact h 0 (some 12) rfl
    · exact h 1 (some 13) rfl
    · exact h 2 (some 14) rfl
    · exact h 3 (some 15) rfl
    · exact h 4 (some 16) rfl
    · exact h 5 (some 17) rfl
    · exact h 6 (some 18) rfl
  rw [frame_is hF _ hv (by rfl) (by rfl)]
  exact hend w hB
end

def tevD : List (Option Tmp) := [some 34, some 35, some 36, some 37, some 38, some 39, some 40, some 41, some 42, some 43, some 44, some 45, some 46, some 47, some 48, some 49, some 50, some 6]
def tevF (g b _z : Nat) (u : Int) (v : It) (_av : Ac) (_hk : Nat) (p q : Option Addr) (bs : List Int) (P : Nat → Prop) (R1 R2 : List It) : List Fact := [isV (.pointer (some ⟨g, 0, none⟩)), isV (.pointer (some ⟨g, 0, none⟩)), isV (.pointer (some ⟨b, 0, none⟩)), isV (.pointer (some ⟨b, 0, none⟩)), isV (.pointer (some ⟨b, 0, none⟩)), isV (.pointer p), isV (.int .i64 u), trV bs P R1, isV (.pointer (some ⟨b, 0, none⟩)), isV (.pointer (some ⟨b, 0, none⟩)), isV (.pointer (some ⟨b, 1, none⟩)), isV (.agg #[.int .i64 v.s, .int .i64 v.t, .int .i64 v.q, .int .i64 v.v]), isV (.pointer (some ⟨b, 0, none⟩)), isV (.pointer (some ⟨b, 0, none⟩)), isV (.pointer (some ⟨b, 5, none⟩)), isV (.pointer q), trV bs P R2, trV bs P R2]
theorem tevF_mono (g b z : Nat) (u : Int) (v : It) (av : Ac) (hk : Nat) (p q : Option Addr) (bs : List Int) (P : Nat → Prop) (R1 R2 : List It) : ∀ φ ∈ tevF g b z u v av hk p q bs P R1 R2, Mono φ := by
  unfold tevF
  refine monos_cons (mono_isV _) ?_
  refine monos_cons (mono_isV _) ?_
  refine monos_cons (mono_isV _) ?_
  refine monos_cons (mono_isV _) ?_
  refine monos_cons (mono_isV _) ?_
  refine monos_cons (mono_isV _) ?_
  refine monos_cons (mono_isV _) ?_
  refine monos_cons (trV_mono _ _ _) ?_
  refine monos_cons (mono_isV _) ?_
  refine monos_cons (mono_isV _) ?_
  refine monos_cons (mono_isV _) ?_
  refine monos_cons (mono_isV _) ?_
  refine monos_cons (mono_isV _) ?_
  refine monos_cons (mono_isV _) ?_
  refine monos_cons (mono_isV _) ?_
  refine monos_cons (mono_isV _) ?_
  refine monos_cons (trV_mono _ _ _) ?_
  refine monos_cons (trV_mono _ _ _) ?_
  exact monos_nil
structure tevS (g b z : Nat) (u : Int) (v : It) (av : Ac) (hk : Nat) (p q : Option Addr) (bs : List Int) (P : Nat → Prop) (R1 R2 : List It) (a0 : Act) (w0 : World) : Prop where
  size : a0.tmps.size = 51
  v0 : a0.tmps.getD 0 undef = .pointer (some ⟨g, 0, none⟩)
  v1 : a0.tmps.getD 1 undef = .pointer (some ⟨b, 0, none⟩)
  v2 : a0.tmps.getD 2 undef = .int .i64 u
  pb : Has w0 b 107 (prtC p v q av hk)
  c1 : ∀ w, Below w0.heap.size w0 w → Calls Try.prog 54 #[.pointer (some ⟨g, 0, none⟩), .pointer p, .int .i64 u] w (TrO bs P R1 w)
  c2 : ∀ (w : World) (T : Tr), Below w0.heap.size w0 w → T.At bs P w → T.row = R1 → Calls Try.prog 80 #[.pointer (some ⟨g, 0, none⟩), .pointer T.ptr, .agg #[.int .i64 v.s, .int .i64 v.t, .int .i64 v.q, .int .i64 v.v], .pointer q] w (TrO bs P R2 w)
section
variable {g b z : Nat} {u : Int} {v : It} {av : Ac} {hk : Nat} {p q : Option Addr} {bs : List Int} {P : Nat → Prop} {R1 R2 : List It} {a0 : Act} {w0 : World} (S : tevS g b z u v av hk p q bs P R1 R2 a0 w0)
include S
set_option maxRecDepth 100000 in
set_option maxHeartbeats 8000000 in
theorem tev_ok : AllOps (fun j o => ∀ (a : Act) (w : World), Below w0.heap.size w0 w → FrD tevD a0 a → needs tevD (tevF g b z u v av hk p q bs P R1 R2) a w o.after.toList → StepD Try.prog tevD (factAt (tevF g b z u v av hk p q bs P R1 R2) j) o a w) 0 (opsOf 5 Try.f54) := by
  simp only [opsOf, Try.f54, opsAt, Option.bind, Option.or, Option.getD, reduceCtorEq, if_true, if_false, Nat.reduceEqDiff]
  refine ⟨?_, ?_⟩
  · intro _a _w _hB hF _hd
    exact step_move (guard_none rfl) rfl _ rfl ((hF.other 0 rfl).trans S.v0)
  refine ⟨?_, ?_⟩
  · intro _a _w _hB hF _hd
    exact step_move (guard_none rfl) rfl _ rfl ((hF.other 0 rfl).trans S.v0)
  refine ⟨?_, ?_⟩
  · intro _a _w _hB hF _hd
    exact step_move (guard_none rfl) rfl _ rfl ((hF.other 1 rfl).trans S.v1)
  refine ⟨?_, ?_⟩
  · intro a _w _hB _hF hd
    have h36 : a.tmps.getD 36 undef = .pointer (some ⟨b, 0, none⟩) := hd.1 rfl
    exact rf_nilck (guard_none rfl) rfl _ rfl _ h36 rfl
  refine ⟨?_, ?_⟩
  · intro a _w _hB _hF hd
    have h37 : a.tmps.getD 37 undef = .pointer (some ⟨b, 0, none⟩) := hd.1 rfl
    exact rf_faddr (guard_none rfl) rfl _ _ _ rfl _ _ 0 _ h37 (by omega) (fun _ _ => by kernel_rfl) rfl
  refine ⟨?_, ?_⟩
  · intro a _w hB _hF hd
    have h38 : a.tmps.getD 38 undef = .pointer (some ⟨b, 0, none⟩) := hd.1 rfl
    exact rf_load1 (guard_none rfl) rfl _ _ rfl _ _ h38 (run_ldPart ((Has.cell (S.pb.below hB S.pb.lt) 0).trans rfl)) rfl
  refine ⟨?_, ?_⟩
  · intro _a _w _hB hF _hd
    exact step_move (guard_none rfl) rfl _ rfl ((hF.other 2 rfl).trans S.v2)
  refine ⟨?_, ?_⟩
  · intro a w hB _hF hd
    have h35 : a.tmps.getD 35 undef = .pointer (some ⟨g, 0, none⟩) := hd.1 rfl
    have h39 : a.tmps.getD 39 undef = .pointer p := hd.2.1 rfl
    have h40 : a.tmps.getD 40 undef = .int .i64 u := hd.2.2.1 rfl
    refine step_call (guard_none rfl) rfl _ _ (rf_call_run Try.func54 (by kernel_rfl) (by kernel_rfl) _ _ rfl) ?_
    simp only [List.map_toArray, List.map_cons, List.map_nil, Act.eval, h35, h39, h40]
    exact (S.c1 w hB).mono (by rintro e w1 ⟨T, rfl, h1, h2, hb⟩; exact ⟨_, rfl, hb, T, rfl, h1, h2⟩)
  refine ⟨?_, ?_⟩
  · intro _a _w _hB hF _hd
    exact step_move (guard_none rfl) rfl _ rfl ((hF.other 1 rfl).trans S.v1)
  refine ⟨?_, ?_⟩
  · intro a _w _hB _hF hd
    have h42 : a.tmps.getD 42 undef = .pointer (some ⟨b, 0, none⟩) := hd.1 rfl
    exact rf_nilck (guard_none rfl) rfl _ rfl _ h42 rfl
  refine ⟨?_, ?_⟩
  · intro a _w _hB _hF hd
    have h43 : a.tmps.getD 43 undef = .pointer (some ⟨b, 0, none⟩) := hd.1 rfl
    exact rf_faddr (guard_none rfl) rfl _ _ _ rfl _ _ 1 _ h43 (by omega) (fun _ _ => by kernel_rfl) rfl
  refine ⟨?_, ?_⟩
  · intro a _w hB _hF hd
    have h44 : a.tmps.getD 44 undef = .pointer (some ⟨b, 1, none⟩) := hd.1 rfl
    exact rf_loadItP (guard_none rfl) rfl _ rfl _ _ h44 v (prtC_item _ _ _ _ _ (S.pb.below hB S.pb.lt)) rfl
  refine ⟨?_, ?_⟩
  · intro _a _w _hB hF _hd
    exact step_move (guard_none rfl) rfl _ rfl ((hF.other 1 rfl).trans S.v1)
  refine ⟨?_, ?_⟩
  · intro a _w _hB _hF hd
    have h46 : a.tmps.getD 46 undef = .pointer (some ⟨b, 0, none⟩) := hd.1 rfl
    exact rf_nilck (guard_none rfl) rfl _ rfl _ h46 rfl
  refine ⟨?_, ?_⟩
  · intro a _w _hB _hF hd
    have h47 : a.tmps.getD 47 undef = .pointer (some ⟨b, 0, none⟩) := hd.1 rfl
    exact rf_faddr (guard_none rfl) rfl _ _ _ rfl _ _ 5 _ h47 (by omega) (fun _ _ => by kernel_rfl) rfl
  refine ⟨?_, ?_⟩
  · intro a _w hB _hF hd
    have h48 : a.tmps.getD 48 undef = .pointer (some ⟨b, 5, none⟩) := hd.1 rfl
    exact rf_load1 (guard_none rfl) rfl _ _ rfl _ _ h48 (run_ldPart ((Has.cell (S.pb.below hB S.pb.lt) 5).trans rfl)) rfl
  refine ⟨?_, ?_⟩
  · intro a w hB _hF hd
    have h34 : a.tmps.getD 34 undef = .pointer (some ⟨g, 0, none⟩) := hd.1 rfl
    obtain ⟨T41, h41, p41⟩ : trV bs P R1 (a.tmps.getD 41 undef) w := hd.2.1 rfl
    have h45 : a.tmps.getD 45 undef = .agg #[.int .i64 v.s, .int .i64 v.t, .int .i64 v.q, .int .i64 v.v] := hd.2.2.1 rfl
    have h49 : a.tmps.getD 49 undef = .pointer q := hd.2.2.2.1 rfl
    refine step_call (guard_none rfl) rfl _ _ (rf_call_run Try.func80 (by kernel_rfl) (by kernel_rfl) _ _ rfl) ?_
    simp only [List.map_toArray, List.map_cons, List.map_nil, Act.eval, h34, h41, h45, h49]
    exact (S.c2 w T41 hB p41.1 p41.2).mono (by rintro e w1 ⟨T, rfl, h1, h2, hb⟩; exact ⟨_, rfl, hb, T, rfl, h1, h2⟩)
  refine ⟨?_, ?_⟩
  · intro a w _hB _hF hd
    obtain ⟨T50, h50, p50⟩ : trV bs P R2 (a.tmps.getD 50 undef) w := hd.1 rfl
    exact step_assign (guard_none rfl) rfl _ rfl ⟨T50, h50, p50⟩
  trivial
theorem tev_any {Q : Exit → Act → World → Prop} {l : List Oper} (hl : opsOf 5 Try.f54 = l) (hend : ∀ (T41 : Tr), ∀ (T50 : Tr), ∀ (T6 : Tr), ∀ w : World, Below w0.heap.size w0 w → (T41.At bs P w ∧ T41.row = R1) → (T50.At bs P w ∧ T50.row = R2) → (T6.At bs P w ∧ T6.row = R2) → Q .normal (putAll a0 [(34, .pointer (some ⟨g, 0, none⟩)), (35, .pointer (some ⟨g, 0, none⟩)), (36, .pointer (some ⟨b, 0, none⟩)), (37, .pointer (some ⟨b, 0, none⟩)), (38, .pointer (some ⟨b, 0, none⟩)), (39, .pointer p), (40, .int .i64 u), (41, .pointer T41.ptr), (42, .pointer (some ⟨b, 0, none⟩)), (43, .pointer (some ⟨b, 0, none⟩)), (44, .pointer (some ⟨b, 1, none⟩)), (45, .agg #[.int .i64 v.s, .int .i64 v.t, .int .i64 v.q, .int .i64 v.v]), (46, .pointer (some ⟨b, 0, none⟩)), (47, .pointer (some ⟨b, 0, none⟩)), (48, .pointer (some ⟨b, 5, none⟩)), (49, .pointer q), (50, .pointer T50.ptr), (6, .pointer T6.ptr)]) w) :
    (Code.region 5 l.toArray true).wp Try.prog Q a0 w0 := by
  subst hl
  refine region_facts2 (tevF g b z u v av hk p q bs P R1 R2) tevD 51 S.size rfl (by kernel_rfl) (by kernel_rfl) (tevF_mono _ _ _ _ _ _ _ _ _ _ _ _ _) (tev_ok S) fun a w hB hF h => ?_
  obtain ⟨T41, h41, p41⟩ : trV bs P R1 (a.tmps.getD 41 undef) w := h 7 (some 41) rfl
  obtain ⟨T50, h50, p50⟩ : trV bs P R2 (a.tmps.getD 50 undef) w := h 16 (some 50) rfl
  obtain ⟨T6, h6, p6⟩ : trV bs P R2 (a.tmps.getD 6 undef) w := h 17 (some 6) rfl
  have hv : valsAre a [(34, .pointer (some ⟨g, 0, none⟩)), (35, .pointer (some ⟨g, 0, none⟩)), (36, .pointer (some ⟨b, 0, none⟩)), (37, .pointer (some ⟨b, 0, none⟩)), (38, .pointer (some ⟨b, 0, none⟩)), (39, .pointer p), (40, .int .i64 u), (41, .pointer T41.ptr), (42, .pointer (some ⟨b, 0, none⟩)), (43, .pointer (some ⟨b, 0, none⟩)), (44, .pointer (some ⟨b, 1, none⟩)), (45, .agg #[.int .i64 v.s, .int .i64 v.t, .int .i64 v.q, .int .i64 v.v]), (46, .pointer (some ⟨b, 0, none⟩)), (47, .pointer (some ⟨b, 0, none⟩)), (48, .pointer (some ⟨b, 5, none⟩)), (49, .pointer q), (50, .pointer T50.ptr), (6, .pointer T6.ptr)] := by
    refine ⟨?_, ?_, ?_, ?_, ?_, ?_, ?_, ?_, ?_, ?_, ?_, ?_, ?_, ?_, ?_, ?_, ?_, ?_, trivial⟩
    · exact h 0 (some 34) rfl
    · exact h 1 (some 35) rfl
    · exact h 2 (some 36) rfl
    · exact h 3 (some 37) rfl
    · exact h 4 (some 38) rfl
    · exact h 5 (some 39) rfl
    · exact h 6 (some 40) rfl
    · exact h41
    · exact h 8 (some 42) rfl
    · exact h 9 (some 43) rfl
    · exact h 10 (some 44) rfl
    · exact h 11 (some 45) rfl
    · exact h 12 (some 46) rfl
    · exact h 13 (some 47) rfl
    · exact h 14 (some 48) rfl
    · exact h 15 (some 49) rfl
    · exact h50
    · exact h6
  rw [frame_is hF _ hv (by rfl) (by rfl)]
  exact hend T41 T50 T6 w hB p41 p50 p6
end

end Go.Proofs.Ytdoflmphkalicaa

namespace Go.Proofs.Ytdoflmphkalicaa
open Go.RowKit

/-- The call hands out this aggregate, its buckets in new memory. -/
def AcO (V : Ac) (w : World) (e : Ending) (w' : World) : Prop :=
  ∃ H, w.heap.size ≤ H ∧ e = .returned (accV V (some ⟨H, 0, none⟩) V.h.length V.h.length) ∧ Has w' H 3 (ints V.h) ∧ Below w.heap.size w w'

theorem made2 (w : World) (o : Obj) (t : TypeId) (cs : Array Value) : Has ((w.alloc o).alloc (.cells cs t)) (w.heap.size + 1) t cs := by
  have := Has.made (w.alloc o) t cs
  simpa using this
section
variable {P : Nat → Prop} {g m d : Nat} {A root : Option Addr} {bs : List Int} {w : World}
set_option maxRecDepth 100000 in
set_option maxHeartbeats 1000000 in
theorem tjoin_any (hT : TBd P w g bs A m d root) (C : Option Addr) (n c : Nat) (xs : List Ac) (hA : Accs w C n xs) (hn : n ≤ 17592186044416) (hJ : RowJ bs xs) :
    Calls Try.prog 50 #[.pointer (some ⟨g, 0, none⟩), .slice C n c] w (AcO (joinAc bs xs) w) := by
  have c0' : ∀ o, (w.alloc o).cell? ⟨g, 0, none⟩ = some (.slice A m d) := fun o => (hT.st.alloc o).cell 0
  have HJ : Hid (∀ w', Below w.heap.size w w' → Calls Try.prog 33 #[.slice A m d, .slice C n c] w' (GoodAcc (joinAc bs xs) w')) := fun w' hb => join_ok A m d bs C n c xs w' (hT.ints.below hb) (hA.below hb) hn hJ.bd hJ.tog hJ.tot
  have HAL : Hid (∀ o, Below w.heap.size w (w.alloc o)) := fun o => (Below.refl _ _).alloc (Nat.le_refl _) o
  clear hT hA hJ
  generalize joinAc bs xs = V at HJ ⊢
  go_enter Try.func50, Try.ntmps50
  go_wp2_with fail
  refine (HJ.out _ (HAL.out _)).mono ?_
  rintro e w2 ⟨H, hH, rfl, hh, hb⟩
  have H4 := Lib.hid (show Has w2 w.heap.size 49 (accC zeroAc none 0 0) from (Has.made w _ _).below hb (by simp))
  have HH := Lib.hid (show Has w2 H 3 (ints V.h) from hh)
  have HLT := Lib.hid (show w.heap.size + 1 ≤ H by simpa using hH)
  have HB := Lib.hid ((HAL.out _).trans (hb.mono (by simp)))
  clear hb hh hH HAL HJ
  go_wp2_with (first | (refine store_made rfl _ _ rfl (ac := V) (A := some ⟨H, 0, none⟩) (k := V.h.length) (c := V.h.length) rfl rfl rfl ?_) | (refine load_has rfl _ rfl w2.heap.size rfl (Has.made _ _ _) ?_) | (refine store_has rfl _ _ rfl w.heap.size rfl rfl (H4.out.alloc _) rfl ?_))
  refine bodyPost_ret (ret_row1 rfl _ _ _ 49 (accC V (some ⟨H, 0, none⟩) V.h.length V.h.length) _ rfl ((H4.out.alloc _).row _) Try.underlying49 rfl (by exact Try.sizeAcc)) rfl ?_
  have hlt := HLT.out
  exact ⟨H, by omega, rfl, (HH.out.alloc _).rowFar (by omega) _, below_row (below_alloc HB.out (Nat.le_refl _) _) (Nat.le_refl _) _⟩

set_option maxRecDepth 100000 in
set_option maxHeartbeats 1000000 in
theorem talone_any (hT : TBd P w g bs A m d root) (x : It) (hx : itemB x = true) (hb : boundsB bs = true) :
    Calls Try.prog 79 #[.pointer (some ⟨g, 0, none⟩), .agg #[.int .i64 x.s, .int .i64 x.t, .int .i64 x.q, .int .i64 x.v]] w (AcO (oneAc x bs) w) := by
  have HJ : Hid (∀ w', Below w.heap.size w w' → Calls Try.prog 31 #[.agg #[.int .i64 x.s, .int .i64 x.t, .int .i64 x.q, .int .i64 x.v], .slice A m d] w' (GoodAcc (oneAc x bs) w')) := fun w' hb2 => one_ok x A m d bs w' (hT.ints.below hb2) hx hb
  have HAL : Hid (∀ o o', Below w.heap.size w ((w.alloc o).alloc o')) := fun o o' => below_alloc ((Below.refl _ _).alloc (Nat.le_refl _) o) (Nat.le_refl _) o'
  have HST := Lib.hid hT.st
  clear hT hx hb
  generalize oneAc x bs = V at HJ ⊢
  go_enter Try.func79, Try.ntmps79
  go_upto_region 1 with fail
  refine tal_any (g := g) (y := w.heap.size) (m := m) (d := d) (z := w.heap.size + 2) (A := A) (root := root) (x := x) (V := V) ⟨rfl, rfl, rfl, (HST.out.alloc _).alloc _, (Has.made _ _ _).alloc _, by simp, fun w' hb => HJ.out w' ((HAL.out _ _).trans (hb.mono (by simp; omega)))⟩ (by kernel_rfl) ?_ ?_
  all_goals
    intro H13 H7 H14 y5 w9 hB9 _ _ hV hY
    have H4 := Lib.hid (show Has w9 (w.heap.size + 1) 49 (accC zeroAc none 0 0) from (made2 w _ _ _).below hB9 (by simp))
    have HB9 := Lib.hid ((HAL.out _ _).trans (hB9.mono (by simp; omega)))
    have HV := Lib.hid hV
    have HY := Lib.hid hY
    clear hB9 hV hY HAL HJ HST
    simp only [putAll, Act.put, List.setIfInBounds_toArray, List.set_cons_succ, List.set_cons_zero, List.drop_succ_cons, List.drop_zero, pickL, List.filterMap_cons, List.getElem?_cons_succ, List.getElem?_cons_zero, List.filterMap_nil]
    refine store_has rfl _ _ rfl y5 (ac := V) (A := some ⟨H14, 0, none⟩) (k := V.h.length) (c := V.h.length) rfl rfl HY.out.1 rfl ?_
    have HN := Lib.hid (show y5 ≠ w.heap.size + 1 from fun e => by have := HY.out.2; omega)
    go_wp2_with (first | (refine load_has rfl _ rfl y5 rfl (HY.out.1.row _) ?_) | (refine store_has rfl _ _ rfl (w.heap.size + 1) (ac := V) (A := some ⟨H14, 0, none⟩) (k := V.h.length) (c := V.h.length) rfl rfl (H4.out.rowFar (fun e => HN.out e.symm) _) rfl ?_))
    refine bodyPost_ret (ret_row1 rfl _ _ _ 49 (accC V (some ⟨H14, 0, none⟩) V.h.length V.h.length) _ rfl ((H4.out.rowFar (fun e => HN.out e.symm) _).row _) Try.underlying49 rfl (by exact Try.sizeAcc)) rfl ?_
    have h1 := HV.out.2
    have h2 := HY.out.2
    refine ⟨H14, by omega, rfl, (HV.out.1.rowFar (fun e => ?_) _).rowFar (by omega) _, below_row (below_row HB9.out (by omega) _) (by omega) _⟩
    exact has_types (e ▸ HV.out.1) HY.out.1 (by decide)
end

end Go.Proofs.Ytdoflmphkalicaa

namespace Go.Proofs.Ytdoflmphkalicaa
open Go.RowKit

/-- 'make([]Acc, 0, n)' in a walk. -/
theorem make_accs {ops : Array Oper} {rest : List Oper} {op : Oper} {a : Act} {w : World} {Q : Exit → Act → World → Prop} (hgd : op.guard = none) (l c : Operand) (ho : op.op = Op.makeSlice 65 l c) (n : Nat) (hl : a.eval l = .int .i64 0) (hc : a.eval c = .int .i64 (n : Int)) (hn : n ≤ 64)
    (hK : ∀ w', Own w' w.heap.size (.slice (some ⟨w.heap.size, 0, none⟩) 0 n) [] → Below w.heap.size w w' → w.heap.size < w'.heap.size → wpList Try.prog ops Q rest (a.put op.dst (.slice (some ⟨w.heap.size, 0, none⟩) 0 n)) w') : wpList Try.prog ops Q (op :: rest) a w := by
  obtain ⟨i0, hi, hz, hs0, hy0⟩ := info_parts Try.infoAcc
  exact wpList_make_own w hgd l c 65 ho w.heap.size 49 i0 _ 13 Try.underlying65 hi hz hs0 .i64 .i64 (n : Int) n hl hc rfl (by rw [hy0]; omega) (by unfold maxLen; omega) (Nat.le_refl _) fun w' h1 h2 => hK w' ⟨h1, fun p hp => by cases hp⟩ ⟨h2.os, h2.tape, h2.output, h2.size, fun k hk => h2.block k hk (by simp)⟩ (World.ownsRow.lt h1 w.heap.size rfl).2
set_option maxRecDepth 100000 in
set_option maxRecDepth 100000 in
set_option maxRecDepth 100000 in
/-- The load of a part's aggregate. -/
theorem load_accP {ops : Array Oper} {rest : List Oper} {op : Oper} {a : Act} {w : World} {Q : Exit → Act → World → Prop} (hgd : op.guard = none) (x : Operand) (ho : op.op = .load 49 x)
    (b : Nat) (hx : a.eval x = .pointer (some ⟨b, 6, none⟩)) {p q : Option Addr} {y : It} {ac : Ac} {H : Nat} {t : TypeId} (hc : Has w b t (prtC p y q ac H))
    (h : wpList Try.prog ops Q rest (a.put op.dst (.agg (accC ac (some ⟨H, 0, none⟩) ac.h.length ac.h.length))) w) : wpList Try.prog ops Q (op :: rest) a w :=
  wpList_load_mid hgd 49 x ho b 6 hx _ _ (prtC_acc _ _ _ _ _ hc) Try.underlying49 rfl Try.sizeAcc (by simpa using h)

section
variable {P : Nat → Prop} {g m d : Nat} {A root : Option Addr} {bs : List Int} {w : World}
theorem Tr.At.shape {t : Tr} (h : t.At bs P w) : (t.ptr = none ∧ t.row = []) ∨ ∃ b H p y q, t.ptr = some ⟨b, 0, none⟩ ∧ 0 < t.row.length ∧ ∀ w', Below w.heap.size w w' → Has w' b PT (prtC p y q (foldA bs t.row) H) ∧ Has w' H 3 (ints (foldA bs t.row).h) := by
  cases t with
  | nil => exact .inl ⟨rfl, rfl⟩
  | node b H l x r =>
    obtain ⟨_, _, h3, h4, _⟩ := h
    exact .inr ⟨b, H, l.ptr, x, r.ptr, rfl, by rw [Tr.row, List.length_append, List.length_cons]; omega, fun w' hb => ⟨h3.below hb h3.lt, h4.below hb h4.lt⟩⟩
/-- In the midst of a part's making: what lies side by side so far. -/
structure PuT (w : World) (x : It) (v : Value) (ps : List (Ac × Nat)) (wr : World) : Prop where
  box : Has wr w.heap.size 47 #[.int .i64 x.s, .int .i64 x.t, .int .i64 x.q, .int .i64 x.v]
  own : Own wr (w.heap.size + 1) v ps
  keep : Below w.heap.size w wr
theorem PuT.on {x : It} {v v' : Value} {ps ps' : List (Ac × Nat)} {wr wl w' : World} (h : PuT w x v ps wr) (hb : Below wr.heap.size wr wl) (ho : Own w' (w.heap.size + 1) v' ps') (h2 : Below (w.heap.size + 1) wl w') : PuT w x v' ps' w' :=
  ⟨(h.box.below hb h.box.lt).below h2 (by omega), ho, (h.keep.trans (hb.mono h.keep.size)).trans (h2.mono (by omega))⟩
theorem PuT.past {x : It} {v : Value} {ps : List (Ac × Nat)} {wr wl : World} (h : PuT w x v ps wr) (hb : Below wr.heap.size wr wl) : PuT w x v ps wl :=
  ⟨h.box.below hb h.box.lt, h.own.below hb, h.keep.trans (hb.mono h.keep.size)⟩
theorem PuT.size {x : It} {v : Value} {ps : List (Ac × Nat)} {wr : World} (h : PuT w x v ps wr) : w.heap.size + 1 ≤ wr.heap.size := by have := h.box.lt; omega

set_option maxRecDepth 100000 in
set_option maxHeartbeats 2000000 in
theorem tput_any (hT : TBd P w g bs A m d root) (L R : Tr) (x : It) (hL : L.At bs P w) (hR : R.At bs P w) (hP : ∀ k, w.heap.size ≤ k → P k) (h : ItsT bs (L.row ++ x :: R.row)) :
    Calls Try.prog 76 #[.pointer (some ⟨g, 0, none⟩), .pointer L.ptr, .agg #[.int .i64 x.s, .int .i64 x.t, .int .i64 x.q, .int .i64 x.v], .pointer R.ptr] w (TrO bs P (L.row ++ x :: R.row) w) := by
  have hx : itemB x = true := h.it x (by simp)
  have HA : Hid (∀ w', Below w.heap.size w w' → Calls Try.prog 79 #[.pointer (some ⟨g, 0, none⟩), .agg #[.int .i64 x.s, .int .i64 x.t, .int .i64 x.q, .int .i64 x.v]] w' (AcO (oneAc x bs) w')) := fun w' hb => talone_any (hT.below hb) x hx h.bd
  have HJ : Hid (∀ w' C n c (gs : List (List It)), Below w.heap.size w w' → Accs w' C n (gs.map (foldA bs)) → gs.flatten = L.row ++ x :: R.row → gs.length ≤ 3 → Calls Try.prog 50 #[.pointer (some ⟨g, 0, none⟩), .slice C n c] w' (AcO (foldA bs (L.row ++ x :: R.row)) w')) := fun w' C n c gs hb hA he hl => by
    have hg : ItsT bs gs.flatten := he ▸ h
    rw [← he, ← groups_join hg]
    exact tjoin_any (hT.below hb) C n c _ hA (by have := hA.1; rw [List.length_map] at this; omega) (groups_row hg)
  have HL := Lib.hid hL
  have HR := Lib.hid hR
  have HONE := Lib.hid (foldA_one (bs := bs) hx)
  have HBOX : Hid (Has (w.alloc (.cells #[.int .i64 x.s, .int .i64 x.t, .int .i64 x.q, .int .i64 x.v] 47)) w.heap.size 47 #[.int .i64 x.s, .int .i64 x.t, .int .i64 x.q, .int .i64 x.v] ∧ Below w.heap.size w (w.alloc (.cells #[.int .i64 x.s, .int .i64 x.t, .int .i64 x.q, .int .i64 x.v] 47))) := ⟨Has.made _ _ _, (Below.refl _ _).alloc (Nat.le_refl _) _⟩
  have H8 := Lib.hid (show ∀ a : List It, (foldA bs a).h.length ≤ maxLen from fun a => by
    rw [foldA_len]
    have := (boundsB_true h.bd).1
    unfold maxLen
    omega)
  have HSL := Lib.hid hL.shape
  have HSR := Lib.hid hR.shape
  clear hT hL hR h hx
  obtain ⟨lp, hlp⟩ : ∃ lp, L.ptr = lp := ⟨_, rfl⟩
  obtain ⟨rp, hrp⟩ : ∃ rp, R.ptr = rp := ⟨_, rfl⟩
  rw [hlp] at HSL ⊢
  rw [hrp] at HSR ⊢
  have HLP := Lib.hid hlp
  have HRP := Lib.hid hrp
  clear hlp hrp
  go_enter Try.func76, Try.ntmps76
  go_upto_region 2 with (refine make_accs rfl _ _ rfl 3 rfl rfl (by omega) ?_; intro w1 ho1 hb1 hs1)
  have S0 : Hid (PuT w x (.slice (some ⟨w.heap.size + 1, 0, none⟩) 0 3) [] w1) := ⟨HBOX.out.1.below hb1 (by simp), by simpa using ho1, HBOX.out.2.trans (hb1.mono (by simp))⟩
  clear ho1 hb1 hs1 HBOX
  rcases HSL.out with ⟨rfl, eL⟩ | ⟨b, H, p, y, q, rfl, _, HLn⟩
  · have EL := Lib.hid eL; clear eL HSL
    rcases HSR.out with ⟨rfl, eR⟩ | ⟨b2, H2, p2, y2, q2, rfl, _, HRn⟩
    · have ER := Lib.hid eR; clear eR HSR
      go_upto_region 4 with fail
      have hbx : ∀ i, w1.cell? ⟨w.heap.size, i, none⟩ = (#[.int .i64 x.s, .int .i64 x.t, .int .i64 x.q, .int .i64 x.v] : Array Value)[i]? := S0.out.box.cell
      go_upto_region 5 with (first | (refine (HA.out _ S0.out.keep).mono ?_; clear HA; rintro e w7 ⟨H7, _, rfl, hh7, hb7⟩) | (refine lit1 rfl _ rfl rfl ?_; intro wl hbl hvl) | (refine app_acc rfl _ _ rfl rfl ((S0.out.past hb7).own.below hbl) rfl hvl (hh7.below hbl hh7.lt) (by simp) (by have := (S0.out.past hb7).size; have := hbl.size; omega) ?_; intro v3 w4 ho hb; obtain ⟨D3, c3, rfl, _⟩ := ho.form; have S3 := Lib.hid ((S0.out.past hb7).on hbl ho hb); clear hbl hvl ho hb))
      clear hbx hb7 hh7
      go_upto_region 7 with fail
      have HAC := Lib.hid (show Accs w4 D3 1 (([[x]] : List (List It)).map (foldA bs)) by
        have := Own.accs S3.out.own (fun p hp => by
          simp only [List.nil_append, List.mem_cons, List.not_mem_nil, or_false] at hp
          rcases hp with rfl
          · exact HONE.out ▸ H8.out [x]
          )
        simpa [HONE.out] using this)
      refine (tpu_any (g := g) (y := w.heap.size) (z := w4.heap.size) (x := x) (V := foldA bs (L.row ++ x :: R.row)) (bs := bs) (P := P) (L := L) (R := R) (C := D3) (n := 1) (c := c3) ⟨rfl, rfl, by rw [HLP.out]; rfl, by rw [HRP.out]; rfl, rfl, rfl, S3.out.box, Nat.le_refl _, HL.out.below S3.out.keep, HR.out.below S3.out.keep, fun k hk => hP k (by have := S3.out.keep.size; omega), rfl, fun w' hb => HJ.out w' _ _ _ [[x]] (S3.out.keep.trans (hb.mono S3.out.keep.size)) (HAC.out.below hb) (by simp [EL.out, ER.out]) (by simp)⟩ (by kernel_rfl) ?_)
      intro H8a H9a T42 T8 w9 hB9 _ _ h42 h8
      have HB9 := Lib.hid (S3.out.keep.trans (hB9.mono S3.out.keep.size))
      have HT := Lib.hid h8
      clear hB9 h42 h8 HJ HAC
      simp only [putAll, Act.put, List.setIfInBounds_toArray, List.set_cons_succ, List.set_cons_zero]
      go_wp2_with fail
      go_ret
      exact ⟨T8, rfl, HT.out.1, HT.out.2, HB9.out⟩
    · clear HSR
      go_upto_region 4 with fail
      have hbx : ∀ i, w1.cell? ⟨w.heap.size, i, none⟩ = (#[.int .i64 x.s, .int .i64 x.t, .int .i64 x.q, .int .i64 x.v] : Array Value)[i]? := S0.out.box.cell
      go_upto_region 5 with (first | (refine (HA.out _ S0.out.keep).mono ?_; clear HA; rintro e w7 ⟨H7, _, rfl, hh7, hb7⟩) | (refine lit1 rfl _ rfl rfl ?_; intro wl hbl hvl) | (refine app_acc rfl _ _ rfl rfl ((S0.out.past hb7).own.below hbl) rfl hvl (hh7.below hbl hh7.lt) (by simp) (by have := (S0.out.past hb7).size; have := hbl.size; omega) ?_; intro v3 w4 ho hb; obtain ⟨D3, c3, rfl, _⟩ := ho.form; have S3 := Lib.hid ((S0.out.past hb7).on hbl ho hb); clear hbl hvl ho hb))
      clear hbx hb7 hh7
      go_upto_region 7 with (first | (refine load_accP rfl _ rfl b2 rfl (HRn _ S3.out.keep).1 ?_) | (refine lit1 rfl _ rfl rfl ?_; intro wl hbl hvl) | (refine app_acc rfl _ _ rfl rfl (S3.out.own.below hbl) rfl hvl ((HRn _ S3.out.keep).2.below hbl (HRn _ S3.out.keep).2.lt) (by simp) (by have := S3.out.size; have := hbl.size; omega) ?_; intro v5 w6 ho hb; obtain ⟨D5, c5, rfl, _⟩ := ho.form; have S5 := Lib.hid (S3.out.on hbl ho hb); clear hbl hvl ho hb))
      have HAC := Lib.hid (show Accs w6 D5 2 (([[x], R.row] : List (List It)).map (foldA bs)) by
        have := Own.accs S5.out.own (fun p hp => by
          simp only [List.nil_append, List.cons_append, List.mem_cons, List.not_mem_nil, or_false] at hp
          rcases hp with rfl | rfl
          · exact HONE.out ▸ H8.out [x]
          · exact H8.out _
          )
        simpa [HONE.out] using this)
      refine (tpu_any (g := g) (y := w.heap.size) (z := w6.heap.size) (x := x) (V := foldA bs (L.row ++ x :: R.row)) (bs := bs) (P := P) (L := L) (R := R) (C := D5) (n := 2) (c := c5) ⟨rfl, rfl, by rw [HLP.out]; rfl, by rw [HRP.out]; rfl, rfl, rfl, S5.out.box, Nat.le_refl _, HL.out.below S5.out.keep, HR.out.below S5.out.keep, fun k hk => hP k (by have := S5.out.keep.size; omega), rfl, fun w' hb => HJ.out w' _ _ _ [[x], R.row] (S5.out.keep.trans (hb.mono S5.out.keep.size)) (HAC.out.below hb) (by simp [EL.out]) (by simp)⟩ (by kernel_rfl) ?_)
      intro H8a H9a T42 T8 w9 hB9 _ _ h42 h8
      have HB9 := Lib.hid (S5.out.keep.trans (hB9.mono S5.out.keep.size))
      have HT := Lib.hid h8
      clear hB9 h42 h8 HJ HAC
      simp only [putAll, Act.put, List.setIfInBounds_toArray, List.set_cons_succ, List.set_cons_zero]
      go_wp2_with fail
      go_ret
      exact ⟨T8, rfl, HT.out.1, HT.out.2, HB9.out⟩
  · clear HSL
    rcases HSR.out with ⟨rfl, eR⟩ | ⟨b2, H2, p2, y2, q2, rfl, _, HRn⟩
    · have ER := Lib.hid eR; clear eR HSR
      go_upto_region 4 with (first | (refine load_accP rfl _ rfl b rfl (HLn _ S0.out.keep).1 ?_) | (refine lit1 rfl _ rfl rfl ?_; intro wl hbl hvl) | (refine app_acc rfl _ _ rfl rfl (S0.out.own.below hbl) rfl hvl ((HLn _ S0.out.keep).2.below hbl (HLn _ S0.out.keep).2.lt) (by simp) (by have := S0.out.size; have := hbl.size; omega) ?_; intro v1 w2 ho hb; obtain ⟨D1, c1, rfl, _⟩ := ho.form; have S1 := Lib.hid (S0.out.on hbl ho hb); clear hbl hvl ho hb))
      have hbx : ∀ i, w2.cell? ⟨w.heap.size, i, none⟩ = (#[.int .i64 x.s, .int .i64 x.t, .int .i64 x.q, .int .i64 x.v] : Array Value)[i]? := S1.out.box.cell
      go_upto_region 5 with (first | (refine (HA.out _ S1.out.keep).mono ?_; clear HA; rintro e w7 ⟨H7, _, rfl, hh7, hb7⟩) | (refine lit1 rfl _ rfl rfl ?_; intro wl hbl hvl) | (refine app_acc rfl _ _ rfl rfl ((S1.out.past hb7).own.below hbl) rfl hvl (hh7.below hbl hh7.lt) (by simp) (by have := (S1.out.past hb7).size; have := hbl.size; omega) ?_; intro v3 w4 ho hb; obtain ⟨D3, c3, rfl, _⟩ := ho.form; have S3 := Lib.hid ((S1.out.past hb7).on hbl ho hb); clear hbl hvl ho hb))
      clear hbx hb7 hh7
      go_upto_region 7 with fail
      have HAC := Lib.hid (show Accs w4 D3 2 (([L.row, [x]] : List (List It)).map (foldA bs)) by
        have := Own.accs S3.out.own (fun p hp => by
          simp only [List.nil_append, List.cons_append, List.mem_cons, List.not_mem_nil, or_false] at hp
          rcases hp with rfl | rfl
          · exact H8.out _
          · exact HONE.out ▸ H8.out [x]
          )
        simpa [HONE.out] using this)
      refine (tpu_any (g := g) (y := w.heap.size) (z := w4.heap.size) (x := x) (V := foldA bs (L.row ++ x :: R.row)) (bs := bs) (P := P) (L := L) (R := R) (C := D3) (n := 2) (c := c3) ⟨rfl, rfl, by rw [HLP.out]; rfl, by rw [HRP.out]; rfl, rfl, rfl, S3.out.box, Nat.le_refl _, HL.out.below S3.out.keep, HR.out.below S3.out.keep, fun k hk => hP k (by have := S3.out.keep.size; omega), rfl, fun w' hb => HJ.out w' _ _ _ [L.row, [x]] (S3.out.keep.trans (hb.mono S3.out.keep.size)) (HAC.out.below hb) (by simp [ER.out]) (by simp)⟩ (by kernel_rfl) ?_)
      intro H8a H9a T42 T8 w9 hB9 _ _ h42 h8
      have HB9 := Lib.hid (S3.out.keep.trans (hB9.mono S3.out.keep.size))
      have HT := Lib.hid h8
      clear hB9 h42 h8 HJ HAC
      simp only [putAll, Act.put, List.setIfInBounds_toArray, List.set_cons_succ, List.set_cons_zero]
      go_wp2_with fail
      go_ret
      exact ⟨T8, rfl, HT.out.1, HT.out.2, HB9.out⟩
    · clear HSR
      go_upto_region 4 with (first | (refine load_accP rfl _ rfl b rfl (HLn _ S0.out.keep).1 ?_) | (refine lit1 rfl _ rfl rfl ?_; intro wl hbl hvl) | (refine app_acc rfl _ _ rfl rfl (S0.out.own.below hbl) rfl hvl ((HLn _ S0.out.keep).2.below hbl (HLn _ S0.out.keep).2.lt) (by simp) (by have := S0.out.size; have := hbl.size; omega) ?_; intro v1 w2 ho hb; obtain ⟨D1, c1, rfl, _⟩ := ho.form; have S1 := Lib.hid (S0.out.on hbl ho hb); clear hbl hvl ho hb))
      have hbx : ∀ i, w2.cell? ⟨w.heap.size, i, none⟩ = (#[.int .i64 x.s, .int .i64 x.t, .int .i64 x.q, .int .i64 x.v] : Array Value)[i]? := S1.out.box.cell
      go_upto_region 5 with (first | (refine (HA.out _ S1.out.keep).mono ?_; clear HA; rintro e w7 ⟨H7, _, rfl, hh7, hb7⟩) | (refine lit1 rfl _ rfl rfl ?_; intro wl hbl hvl) | (refine app_acc rfl _ _ rfl rfl ((S1.out.past hb7).own.below hbl) rfl hvl (hh7.below hbl hh7.lt) (by simp) (by have := (S1.out.past hb7).size; have := hbl.size; omega) ?_; intro v3 w4 ho hb; obtain ⟨D3, c3, rfl, _⟩ := ho.form; have S3 := Lib.hid ((S1.out.past hb7).on hbl ho hb); clear hbl hvl ho hb))
      clear hbx hb7 hh7
      go_upto_region 7 with (first | (refine load_accP rfl _ rfl b2 rfl (HRn _ S3.out.keep).1 ?_) | (refine lit1 rfl _ rfl rfl ?_; intro wl hbl hvl) | (refine app_acc rfl _ _ rfl rfl (S3.out.own.below hbl) rfl hvl ((HRn _ S3.out.keep).2.below hbl (HRn _ S3.out.keep).2.lt) (by simp) (by have := S3.out.size; have := hbl.size; omega) ?_; intro v5 w6 ho hb; obtain ⟨D5, c5, rfl, _⟩ := ho.form; have S5 := Lib.hid (S3.out.on hbl ho hb); clear hbl hvl ho hb))
      have HAC := Lib.hid (show Accs w6 D5 3 (([L.row, [x], R.row] : List (List It)).map (foldA bs)) by
        have := Own.accs S5.out.own (fun p hp => by
          simp only [List.nil_append, List.cons_append, List.mem_cons, List.not_mem_nil, or_false] at hp
          rcases hp with rfl | rfl | rfl
          · exact H8.out _
          · exact HONE.out ▸ H8.out [x]
          · exact H8.out _
          )
        simpa [HONE.out] using this)
      refine (tpu_any (g := g) (y := w.heap.size) (z := w6.heap.size) (x := x) (V := foldA bs (L.row ++ x :: R.row)) (bs := bs) (P := P) (L := L) (R := R) (C := D5) (n := 3) (c := c5) ⟨rfl, rfl, by rw [HLP.out]; rfl, by rw [HRP.out]; rfl, rfl, rfl, S5.out.box, Nat.le_refl _, HL.out.below S5.out.keep, HR.out.below S5.out.keep, fun k hk => hP k (by have := S5.out.keep.size; omega), rfl, fun w' hb => HJ.out w' _ _ _ [L.row, [x], R.row] (S5.out.keep.trans (hb.mono S5.out.keep.size)) (HAC.out.below hb) (by simp) (by simp)⟩ (by kernel_rfl) ?_)
      intro H8a H9a T42 T8 w9 hB9 _ _ h42 h8
      have HB9 := Lib.hid (S5.out.keep.trans (hB9.mono S5.out.keep.size))
      have HT := Lib.hid h8
      clear hB9 h42 h8 HJ HAC
      simp only [putAll, Act.put, List.setIfInBounds_toArray, List.set_cons_succ, List.set_cons_zero]
      go_wp2_with fail
      go_ret
      exact ⟨T8, rfl, HT.out.1, HT.out.2, HB9.out⟩
end

end Go.Proofs.Ytdoflmphkalicaa

namespace Go.Proofs.Ytdoflmphkalicaa
open Go.RowKit

section
variable {P : Nat → Prop} {g m d : Nat} {A root : Option Addr} {bs : List Int} {w : World}
/-- A part may be made in any later world. -/
theorem put_later (hT : TBd P w g bs A m d root) (hP : ∀ k, w.heap.size ≤ k → P k) : ∀ (w' : World) (S T : Tr) (z : It), Below w.heap.size w w' → S.At bs P w' → T.At bs P w' → ItsT bs (S.row ++ z :: T.row) →
    Calls Try.prog 76 #[.pointer (some ⟨g, 0, none⟩), .pointer S.ptr, .agg #[.int .i64 z.s, .int .i64 z.t, .int .i64 z.q, .int .i64 z.v], .pointer T.ptr] w' (TrO bs P (S.row ++ z :: T.row) w') :=
  fun w' S T z hb hs ht h => tput_any (hT.below hb) S T z hs ht (fun k hk => hP k (by have := hb.size; omega)) h
set_option maxRecDepth 100000 in
set_option maxHeartbeats 2000000 in
theorem tturnA_any (hT : TBd P w g bs A m d root) (L B : Tr) (x : It) (hL : L.At bs P w) (hB : B.At bs P w) (hne : 0 < B.row.length) (hP : ∀ k, w.heap.size ≤ k → P k) (h : ItsT bs (L.row ++ x :: B.row)) :
    Calls Try.prog 92 #[.pointer (some ⟨g, 0, none⟩), .pointer L.ptr, .agg #[.int .i64 x.s, .int .i64 x.t, .int .i64 x.q, .int .i64 x.v], .pointer B.ptr] w (TrO bs P (L.row ++ x :: B.row) w) := by
  cases B with
  | nil => exact absurd hne (by simp [Tr.row])
  | node b H I v O =>
  obtain ⟨_, _, hb3, _, hc1, hc2⟩ := hB
  have HPUT := Lib.hid (put_later hT hP)
  have HBX : Hid (Has (w.alloc (.cells #[.int .i64 x.s, .int .i64 x.t, .int .i64 x.q, .int .i64 x.v] 47)) w.heap.size 47 #[.int .i64 x.s, .int .i64 x.t, .int .i64 x.q, .int .i64 x.v] ∧ Below w.heap.size w (w.alloc (.cells #[.int .i64 x.s, .int .i64 x.t, .int .i64 x.q, .int .i64 x.v] 47))) := ⟨Has.made _ _ _, (Below.refl _ _).alloc (Nat.le_refl _) _⟩
  have HL := Lib.hid (fun w' (hb : Below w.heap.size w w') => hL.below hb)
  have HI := Lib.hid (fun w' (hb : Below w.heap.size w w') => hc1.below hb)
  have HO := Lib.hid (fun w' (hb : Below w.heap.size w w') => hc2.below hb)
  have HB3 := Lib.hid (fun w' (hb : Below w.heap.size w w') => hb3.below hb hb3.lt)
  have HROW := Lib.hid h
  have n1 : I.row.length ≤ 8192 := by have := h.le; simp only [Tr.row, List.length_append, List.length_cons] at this; omega
  have n2 : O.row.length ≤ 8192 := by have := h.le; simp only [Tr.row, List.length_append, List.length_cons] at this; omega
  have HWI := Lib.hid (fun w' (hb : Below w.heap.size w w') => tweight_any bs P I w' (HI.out w' hb) n1)
  have HWO := Lib.hid (fun w' (hb : Below w.heap.size w w') => tweight_any bs P O w' (HO.out w' hb) n2)
  have n3 : (0 : Int) ≤ (I.row.length : Nat) ∧ ((I.row.length : Nat) : Int) ≤ 8192 ∧ (0 : Int) ≤ (O.row.length : Nat) ∧ ((O.row.length : Nat) : Int) ≤ 8192 := by omega
  clear hT hL hb3 hc1 hc2 hne hP h n1 n2
  have e0 : (Tr.node b H I v O).ptr = some ⟨b, 0, none⟩ := rfl
  rw [e0]; clear e0
  by_cases hW : I.row.length + 1 < 2 * (O.row.length + 1)
  · have hWB : decide ((I.row.length : Nat) + 1 < 2 * ((O.row.length : Nat) + 1 : Int)) = true := decide_eq_true (by omega)
    clear hW
    have HS1 := Lib.hid (show ItsT bs (L.row ++ x :: I.row) from ItsT.left (ys := v :: O.row) (by simpa [Tr.row] using HROW.out))
    generalize hip : I.ptr = ip at HWI
    generalize hop : O.ptr = op at HWO
    have EI := Lib.hid hip; clear hip
    have EO := Lib.hid hop; clear hop
    go_enter Try.func92, Try.ntmps92
    go_upto_region 1 with fail
    refine ta1_any (b := b) (v := v) (av := foldA bs (Tr.node b H I v O).row) (hk := H) (p := ip) (q := op) ⟨rfl, rfl, (by have := HB3.out _ HBX.out.2; rw [EI.out, EO.out] at this; exact this)⟩ (by kernel_rfl) ?_
    intro w3 hB3
    have HK := Lib.hid (HBX.out.2.trans (hB3.mono (by simp)))
    have HX3 := Lib.hid (HBX.out.1.below hB3 (by simp))
    clear hB3 HBX
    simp only [putAll, Act.put, List.setIfInBounds_toArray, List.set_cons_succ, List.set_cons_zero]
    go_upto_region 3 with (first | (refine (HWI.out _ HK.out).mono ?_; clear HWI; rintro e w4 ⟨rfl, rfl⟩) | (refine (HWO.out _ HK.out).mono ?_; clear HWO; rintro e w4 ⟨rfl, rfl⟩))
    refine tta_any (g := g) (z := 0) (y := w.heap.size) (b := b) (x := x) (v := v) (av := foldA bs (Tr.node b H I v O).row) (hk := H) (p := ip) (q := op) (bs := bs) (P := P) (R1 := L.row ++ x :: I.row) (R2 := (L.row ++ x :: I.row) ++ v :: O.row) (pl := L.ptr) (pi := ip) (po := op) ⟨rfl, rfl, rfl, rfl, rfl, rfl, rfl, HX3.out, (by have := HB3.out _ HK.out; rw [EI.out, EO.out] at this; exact this), fun w' hb => by rw [← EI.out]; exact HPUT.out w' L I x (HK.out.trans (hb.mono HK.out.size)) (HL.out _ (HK.out.trans (hb.mono HK.out.size))) (HI.out _ (HK.out.trans (hb.mono HK.out.size))) HS1.out, fun w' T hb ht hr => by rw [← EO.out, ← hr]; exact HPUT.out w' T O v (HK.out.trans (hb.mono HK.out.size)) ht (HO.out _ (HK.out.trans (hb.mono HK.out.size))) (by rw [hr]; simpa [Tr.row] using HROW.out)⟩ (by kernel_rfl) ?_
    intro T30 T36 T8 w9 hB9 _ _ h8
    have HB9 := Lib.hid (HK.out.trans (hB9.mono HK.out.size))
    have HT := Lib.hid h8
    clear hB9 h8 HPUT HL HO HB3 HX3 HK
    simp only [putAll, Act.put, List.setIfInBounds_toArray, List.set_cons_succ, List.set_cons_zero]
    go_wp2_with fail
    go_ret
    exact ⟨T8, rfl, HT.out.1, by rw [HT.out.2]; simp [Tr.row], HB9.out⟩
  · have hWB : decide ((I.row.length : Nat) + 1 < 2 * ((O.row.length : Nat) + 1 : Int)) = false := decide_eq_false (by omega)
    cases I with
    | nil => exact absurd (by simp [Tr.row]; omega) hW
    | node b2 H2 I1 v2 I2 =>
    have hi := HI.out w (Below.refl _ _)
    obtain ⟨_, _, hb4, _, hd1, hd2⟩ := hi
    have HB4 := Lib.hid (fun w' (hb : Below w.heap.size w w') => hb4.below hb hb4.lt)
    have HI1 := Lib.hid (fun w' (hb : Below w.heap.size w w') => hd1.below hb)
    have HI2 := Lib.hid (fun w' (hb : Below w.heap.size w w') => hd2.below hb)
    have e1 : (Tr.node b2 H2 I1 v2 I2).ptr = some ⟨b2, 0, none⟩ := rfl
    rw [e1] at HWI; clear e1 hb4 hd1 hd2
    clear hW
    have HS1 := Lib.hid (show ItsT bs (L.row ++ x :: I1.row) from ItsT.left (ys := v2 :: (I2.row ++ v :: O.row)) (by simpa [Tr.row] using HROW.out))
    have HS2 := Lib.hid (show ItsT bs (I2.row ++ v :: O.row) from ItsT.right (xs := (L.row ++ x :: I1.row) ++ [v2]) (by simpa [Tr.row] using HROW.out))
    generalize hop : O.ptr = op at HWO
    have EO := Lib.hid hop; clear hop
    go_enter Try.func92, Try.ntmps92
    go_upto_region 1 with fail
    refine ta1_any (b := b) (v := v) (av := foldA bs (Tr.node b H (.node b2 H2 I1 v2 I2) v O).row) (hk := H) (p := some ⟨b2, 0, none⟩) (q := op) ⟨rfl, rfl, (by have := HB3.out _ HBX.out.2; rw [EO.out] at this; exact this)⟩ (by kernel_rfl) ?_
    intro w3 hB3
    have HK := Lib.hid (HBX.out.2.trans (hB3.mono (by simp)))
    have HX3 := Lib.hid (HBX.out.1.below hB3 (by simp))
    clear hB3 HBX
    simp only [putAll, Act.put, List.setIfInBounds_toArray, List.set_cons_succ, List.set_cons_zero]
    go_upto_region 4 with (first | (refine (HWI.out _ HK.out).mono ?_; clear HWI; rintro e w4 ⟨rfl, rfl⟩) | (refine (HWO.out _ HK.out).mono ?_; clear HWO; rintro e w4 ⟨rfl, rfl⟩))
    refine tua_any (g := g) (z := 0) (y := w.heap.size) (b := b) (b2 := b2) (x := x) (v := v) (v2 := v2) (av := foldA bs (Tr.node b H (.node b2 H2 I1 v2 I2) v O).row) (a2 := foldA bs (Tr.node b2 H2 I1 v2 I2).row) (hk := H) (h2 := H2) (p := some ⟨b2, 0, none⟩) (q := op) (p2 := I1.ptr) (q2 := I2.ptr) (bs := bs) (P := P) (R1 := L.row ++ x :: I1.row) (R2 := I2.row ++ v :: O.row) (R3 := (L.row ++ x :: I1.row) ++ v2 :: (I2.row ++ v :: O.row)) (pl := L.ptr) (po := op) ⟨rfl, rfl, rfl, rfl, rfl, rfl, rfl, HX3.out, (by have := HB3.out _ HK.out; rw [EO.out] at this; exact this), HB4.out _ HK.out, fun w' hb => by exact HPUT.out w' L I1 x (HK.out.trans (hb.mono HK.out.size)) (HL.out _ (HK.out.trans (hb.mono HK.out.size))) (HI1.out _ (HK.out.trans (hb.mono HK.out.size))) HS1.out, fun w' hb => by rw [← EO.out]; exact HPUT.out w' I2 O v (HK.out.trans (hb.mono HK.out.size)) (HI2.out _ (HK.out.trans (hb.mono HK.out.size))) (HO.out _ (HK.out.trans (hb.mono HK.out.size))) HS2.out, fun w' T U hb ht hr hu hs => by rw [← hr, ← hs]; exact HPUT.out w' T U v2 (HK.out.trans (hb.mono HK.out.size)) ht hu (by rw [hr, hs]; simpa [Tr.row] using HROW.out)⟩ (by kernel_rfl) ?_
    intro T45 T60 T61 T8 w9 hB9 _ _ _ h8
    have HB9 := Lib.hid (HK.out.trans (hB9.mono HK.out.size))
    have HT := Lib.hid h8
    clear hB9 h8 HPUT HL HO HB3 HX3 HK
    simp only [putAll, Act.put, List.setIfInBounds_toArray, List.set_cons_succ, List.set_cons_zero]
    go_wp2_with fail
    go_ret
    exact ⟨T8, rfl, HT.out.1, by rw [HT.out.2]; simp [Tr.row], HB9.out⟩
set_option maxRecDepth 100000 in
set_option maxHeartbeats 2000000 in
theorem tturnB_any (hT : TBd P w g bs A m d root) (L B : Tr) (x : It) (hL : L.At bs P w) (hB : B.At bs P w) (hne : 0 < B.row.length) (hP : ∀ k, w.heap.size ≤ k → P k) (h : ItsT bs (B.row ++ x :: L.row)) :
    Calls Try.prog 93 #[.pointer (some ⟨g, 0, none⟩), .pointer B.ptr, .agg #[.int .i64 x.s, .int .i64 x.t, .int .i64 x.q, .int .i64 x.v], .pointer L.ptr] w (TrO bs P (B.row ++ x :: L.row) w) := by
  cases B with
  | nil => exact absurd hne (by simp [Tr.row])
  | node b H O v I =>
  obtain ⟨_, _, hb3, _, hc1, hc2⟩ := hB
  have HPUT := Lib.hid (put_later hT hP)
  have HBX : Hid (Has (w.alloc (.cells #[.int .i64 x.s, .int .i64 x.t, .int .i64 x.q, .int .i64 x.v] 47)) w.heap.size 47 #[.int .i64 x.s, .int .i64 x.t, .int .i64 x.q, .int .i64 x.v] ∧ Below w.heap.size w (w.alloc (.cells #[.int .i64 x.s, .int .i64 x.t, .int .i64 x.q, .int .i64 x.v] 47))) := ⟨Has.made _ _ _, (Below.refl _ _).alloc (Nat.le_refl _) _⟩
  have HL := Lib.hid (fun w' (hb : Below w.heap.size w w') => hL.below hb)
  have HI := Lib.hid (fun w' (hb : Below w.heap.size w w') => hc2.below hb)
  have HO := Lib.hid (fun w' (hb : Below w.heap.size w w') => hc1.below hb)
  have HB3 := Lib.hid (fun w' (hb : Below w.heap.size w w') => hb3.below hb hb3.lt)
  have HROW := Lib.hid h
  have n1 : I.row.length ≤ 8192 := by have := h.le; simp only [Tr.row, List.length_append, List.length_cons] at this; omega
  have n2 : O.row.length ≤ 8192 := by have := h.le; simp only [Tr.row, List.length_append, List.length_cons] at this; omega
  have HWI := Lib.hid (fun w' (hb : Below w.heap.size w w') => tweight_any bs P I w' (HI.out w' hb) n1)
  have HWO := Lib.hid (fun w' (hb : Below w.heap.size w w') => tweight_any bs P O w' (HO.out w' hb) n2)
  have n3 : (0 : Int) ≤ (I.row.length : Nat) ∧ ((I.row.length : Nat) : Int) ≤ 8192 ∧ (0 : Int) ≤ (O.row.length : Nat) ∧ ((O.row.length : Nat) : Int) ≤ 8192 := by omega
  clear hT hL hb3 hc1 hc2 hne hP h n1 n2
  have e0 : (Tr.node b H O v I).ptr = some ⟨b, 0, none⟩ := rfl
  rw [e0]; clear e0
  by_cases hW : I.row.length + 1 < 2 * (O.row.length + 1)
  · have hWB : decide ((I.row.length : Nat) + 1 < 2 * ((O.row.length : Nat) + 1 : Int)) = true := decide_eq_true (by omega)
    clear hW
    have HS1 := Lib.hid (show ItsT bs (I.row ++ x :: L.row) from ItsT.right (xs := O.row ++ [v]) (by simpa [Tr.row] using HROW.out))
    generalize hip : I.ptr = ip at HWI
    generalize hop : O.ptr = op at HWO
    have EI := Lib.hid hip; clear hip
    have EO := Lib.hid hop; clear hop
    go_enter Try.func93, Try.ntmps93
    go_upto_region 1 with fail
    refine tb1_any (b := b) (v := v) (av := foldA bs (Tr.node b H O v I).row) (hk := H) (p := op) (q := ip) ⟨rfl, rfl, (by have := HB3.out _ HBX.out.2; rw [EI.out, EO.out] at this; exact this)⟩ (by kernel_rfl) ?_
    intro w3 hB3
    have HK := Lib.hid (HBX.out.2.trans (hB3.mono (by simp)))
    have HX3 := Lib.hid (HBX.out.1.below hB3 (by simp))
    clear hB3 HBX
    simp only [putAll, Act.put, List.setIfInBounds_toArray, List.set_cons_succ, List.set_cons_zero]
    go_upto_region 3 with (first | (refine (HWI.out _ HK.out).mono ?_; clear HWI; rintro e w4 ⟨rfl, rfl⟩) | (refine (HWO.out _ HK.out).mono ?_; clear HWO; rintro e w4 ⟨rfl, rfl⟩))
    refine ttb_any (g := g) (z := 0) (y := w.heap.size) (b := b) (x := x) (v := v) (av := foldA bs (Tr.node b H O v I).row) (hk := H) (p := op) (q := ip) (bs := bs) (P := P) (R1 := I.row ++ x :: L.row) (R2 := O.row ++ v :: (I.row ++ x :: L.row)) (pl := L.ptr) (pi := ip) (po := op) ⟨rfl, rfl, rfl, rfl, rfl, rfl, rfl, HX3.out, (by have := HB3.out _ HK.out; rw [EI.out, EO.out] at this; exact this), fun w' hb => by rw [← EI.out]; exact HPUT.out w' I L x (HK.out.trans (hb.mono HK.out.size)) (HI.out _ (HK.out.trans (hb.mono HK.out.size))) (HL.out _ (HK.out.trans (hb.mono HK.out.size))) HS1.out, fun w' T hb ht hr => by rw [← EO.out, ← hr]; exact HPUT.out w' O T v (HK.out.trans (hb.mono HK.out.size)) (HO.out _ (HK.out.trans (hb.mono HK.out.size))) ht (by rw [hr]; simpa [Tr.row] using HROW.out)⟩ (by kernel_rfl) ?_
    intro T30 T36 T8 w9 hB9 _ _ h8
    have HB9 := Lib.hid (HK.out.trans (hB9.mono HK.out.size))
    have HT := Lib.hid h8
    clear hB9 h8 HPUT HL HO HB3 HX3 HK
    simp only [putAll, Act.put, List.setIfInBounds_toArray, List.set_cons_succ, List.set_cons_zero]
    go_wp2_with fail
    go_ret
    exact ⟨T8, rfl, HT.out.1, by rw [HT.out.2]; simp [Tr.row], HB9.out⟩
  · have hWB : decide ((I.row.length : Nat) + 1 < 2 * ((O.row.length : Nat) + 1 : Int)) = false := decide_eq_false (by omega)
    cases I with
    | nil => exact absurd (by simp [Tr.row]; omega) hW
    | node b2 H2 I1 v2 I2 =>
    have hi := HI.out w (Below.refl _ _)
    obtain ⟨_, _, hb4, _, hd1, hd2⟩ := hi
    have HB4 := Lib.hid (fun w' (hb : Below w.heap.size w w') => hb4.below hb hb4.lt)
    have HI1 := Lib.hid (fun w' (hb : Below w.heap.size w w') => hd1.below hb)
    have HI2 := Lib.hid (fun w' (hb : Below w.heap.size w w') => hd2.below hb)
    have e1 : (Tr.node b2 H2 I1 v2 I2).ptr = some ⟨b2, 0, none⟩ := rfl
    rw [e1] at HWI; clear e1 hb4 hd1 hd2
    clear hW
    have HS1 := Lib.hid (show ItsT bs (O.row ++ v :: I1.row) from ItsT.left (ys := v2 :: (I2.row ++ x :: L.row)) (by simpa [Tr.row] using HROW.out))
    have HS2 := Lib.hid (show ItsT bs (I2.row ++ x :: L.row) from ItsT.right (xs := (O.row ++ v :: I1.row) ++ [v2]) (by simpa [Tr.row] using HROW.out))
    generalize hop : O.ptr = op at HWO
    have EO := Lib.hid hop; clear hop
    go_enter Try.func93, Try.ntmps93
    go_upto_region 1 with fail
    refine tb1_any (b := b) (v := v) (av := foldA bs (Tr.node b H O v (.node b2 H2 I1 v2 I2)).row) (hk := H) (p := op) (q := some ⟨b2, 0, none⟩) ⟨rfl, rfl, (by have := HB3.out _ HBX.out.2; rw [EO.out] at this; exact this)⟩ (by kernel_rfl) ?_
    intro w3 hB3
    have HK := Lib.hid (HBX.out.2.trans (hB3.mono (by simp)))
    have HX3 := Lib.hid (HBX.out.1.below hB3 (by simp))
    clear hB3 HBX
    simp only [putAll, Act.put, List.setIfInBounds_toArray, List.set_cons_succ, List.set_cons_zero]
    go_upto_region 4 with (first | (refine (HWI.out _ HK.out).mono ?_; clear HWI; rintro e w4 ⟨rfl, rfl⟩) | (refine (HWO.out _ HK.out).mono ?_; clear HWO; rintro e w4 ⟨rfl, rfl⟩))
    refine tub_any (g := g) (z := 0) (y := w.heap.size) (b := b) (b2 := b2) (x := x) (v := v) (v2 := v2) (av := foldA bs (Tr.node b H O v (.node b2 H2 I1 v2 I2)).row) (a2 := foldA bs (Tr.node b2 H2 I1 v2 I2).row) (hk := H) (h2 := H2) (p := op) (q := some ⟨b2, 0, none⟩) (p2 := I1.ptr) (q2 := I2.ptr) (bs := bs) (P := P) (R1 := O.row ++ v :: I1.row) (R2 := I2.row ++ x :: L.row) (R3 := (O.row ++ v :: I1.row) ++ v2 :: (I2.row ++ x :: L.row)) (pl := L.ptr) (po := op) ⟨rfl, rfl, rfl, rfl, rfl, rfl, rfl, HX3.out, (by have := HB3.out _ HK.out; rw [EO.out] at this; exact this), HB4.out _ HK.out, fun w' hb => by rw [← EO.out]; exact HPUT.out w' O I1 v (HK.out.trans (hb.mono HK.out.size)) (HO.out _ (HK.out.trans (hb.mono HK.out.size))) (HI1.out _ (HK.out.trans (hb.mono HK.out.size))) HS1.out, fun w' hb => by exact HPUT.out w' I2 L x (HK.out.trans (hb.mono HK.out.size)) (HI2.out _ (HK.out.trans (hb.mono HK.out.size))) (HL.out _ (HK.out.trans (hb.mono HK.out.size))) HS2.out, fun w' T U hb ht hr hu hs => by rw [← hr, ← hs]; exact HPUT.out w' T U v2 (HK.out.trans (hb.mono HK.out.size)) ht hu (by rw [hr, hs]; simpa [Tr.row] using HROW.out)⟩ (by kernel_rfl) ?_
    intro T45 T60 T61 T8 w9 hB9 _ _ _ h8
    have HB9 := Lib.hid (HK.out.trans (hB9.mono HK.out.size))
    have HT := Lib.hid h8
    clear hB9 h8 HPUT HL HO HB3 HX3 HK
    simp only [putAll, Act.put, List.setIfInBounds_toArray, List.set_cons_succ, List.set_cons_zero]
    go_wp2_with fail
    go_ret
    exact ⟨T8, rfl, HT.out.1, by rw [HT.out.2]; simp [Tr.row], HB9.out⟩
end

end Go.Proofs.Ytdoflmphkalicaa

namespace Go.Proofs.Ytdoflmphkalicaa
open Go.RowKit

section
variable {P : Nat → Prop} {g m d : Nat} {A root : Option Addr} {bs : List Int} {w : World}
set_option maxRecDepth 100000 in
set_option maxHeartbeats 2000000 in
theorem tbal_any (hT : TBd P w g bs A m d root) (L R : Tr) (x : It) (hL : L.At bs P w) (hR : R.At bs P w) (hP : ∀ k, w.heap.size ≤ k → P k) (h : ItsT bs (L.row ++ x :: R.row)) :
    Calls Try.prog 77 #[.pointer (some ⟨g, 0, none⟩), .pointer L.ptr, .agg #[.int .i64 x.s, .int .i64 x.t, .int .i64 x.q, .int .i64 x.v], .pointer R.ptr] w (TrO bs P (L.row ++ x :: R.row) w) := by
  have HPUT := Lib.hid (fun w' (hb : Below w.heap.size w w') => put_later hT hP w' L R x hb (hL.below hb) (hR.below hb) h)
  have HBX := Lib.hid ((Below.refl _ w).alloc (Nat.le_refl _) (.cells #[.int .i64 x.s, .int .i64 x.t, .int .i64 x.q, .int .i64 x.v] 47))
  have n1 : L.row.length ≤ 8192 := by have := h.le; simp only [List.length_append, List.length_cons] at this; omega
  have n2 : R.row.length ≤ 8192 := by have := h.le; simp only [List.length_append, List.length_cons] at this; omega
  have HV1 := Lib.hid (fun w' (hb : Below w.heap.size w w') => theavy_any bs P R L w' (hR.below hb) (hL.below hb) n2 n1)
  have HV2 := Lib.hid (fun w' (hb : Below w.heap.size w w') => theavy_any bs P L R w' (hL.below hb) (hR.below hb) n1 n2)
  have HTA := Lib.hid (fun w' (hb : Below w.heap.size w w') hn => tturnA_any (hT.below hb) L R x (hL.below hb) (hR.below hb) hn (fun k hk => hP k (by have := hb.size; omega)) h)
  have HTB := Lib.hid (fun w' (hb : Below w.heap.size w w') hn => tturnB_any (hT.below hb) R L x (hR.below hb) (hL.below hb) hn (fun k hk => hP k (by have := hb.size; omega)) h)
  clear hT hL hR hP h
  generalize hR : L.row ++ x :: R.row = RR at HPUT HTA HTB ⊢
  clear hR
  by_cases hc1 : 3 * (L.row.length + 1) < R.row.length + 1
  · have hd1 : decide (3 * (L.row.length + 1) < R.row.length + 1) = true := decide_eq_true hc1
    have HC := Lib.hid (fun w' hb => HTA.out w' hb (by omega))
    clear HTA HTB HPUT HV2 hc1
    generalize decide (3 * (L.row.length + 1) < R.row.length + 1) = c1 at HV1 hd1
    generalize L.ptr = lp at HV1 HC ⊢
    generalize R.ptr = rp at HV1 HC ⊢
    go_enter Try.func77, Try.ntmps77
    go_wp2_with (first | (refine (HV1.out _ HBX.out).mono ?_; clear HV1; rintro e w2 ⟨rfl, rfl⟩) | (refine (HC.out _ HBX.out).mono ?_; clear HC; rintro e w3 ⟨T, rfl, h1, h2, h3⟩))
    go_ret
    exact ⟨T, rfl, h1, h2, HBX.out.trans (h3.mono (by simp))⟩
  · have hd1 : decide (3 * (L.row.length + 1) < R.row.length + 1) = false := decide_eq_false hc1
    by_cases hc2 : 3 * (R.row.length + 1) < L.row.length + 1
    · have hd2 : decide (3 * (R.row.length + 1) < L.row.length + 1) = true := decide_eq_true hc2
      have HC := Lib.hid (fun w' hb => HTB.out w' hb (by omega))
      clear HTA HTB HPUT hc1 hc2
      generalize decide (3 * (L.row.length + 1) < R.row.length + 1) = c1 at HV1 hd1
      generalize decide (3 * (R.row.length + 1) < L.row.length + 1) = c2 at HV2 hd2
      generalize L.ptr = lp at HV1 HV2 HC ⊢
      generalize R.ptr = rp at HV1 HV2 HC ⊢
      go_enter Try.func77, Try.ntmps77
      go_wp2_with (first | (refine (HV1.out _ HBX.out).mono ?_; clear HV1; rintro e w2 ⟨rfl, rfl⟩) | (refine (HV2.out _ HBX.out).mono ?_; clear HV2; rintro e w2 ⟨rfl, rfl⟩) | (refine (HC.out _ HBX.out).mono ?_; clear HC; rintro e w3 ⟨T, rfl, h1, h2, h3⟩))
      go_ret
      exact ⟨T, rfl, h1, h2, HBX.out.trans (h3.mono (by simp))⟩
    · have hd2 : decide (3 * (R.row.length + 1) < L.row.length + 1) = false := decide_eq_false hc2
      clear HTA HTB hc1 hc2
      generalize decide (3 * (L.row.length + 1) < R.row.length + 1) = c1 at HV1 hd1
      generalize decide (3 * (R.row.length + 1) < L.row.length + 1) = c2 at HV2 hd2
      generalize L.ptr = lp at HV1 HV2 HPUT ⊢
      generalize R.ptr = rp at HV1 HV2 HPUT ⊢
      go_enter Try.func77, Try.ntmps77
      go_wp2_with (first | (refine (HV1.out _ HBX.out).mono ?_; clear HV1; rintro e w2 ⟨rfl, rfl⟩) | (refine (HV2.out _ HBX.out).mono ?_; clear HV2; rintro e w2 ⟨rfl, rfl⟩) | (refine (HPUT.out _ HBX.out).mono ?_; clear HPUT; rintro e w3 ⟨T, rfl, h1, h2, h3⟩))
      go_ret
      exact ⟨T, rfl, h1, h2, HBX.out.trans (h3.mono (by simp))⟩

set_option maxRecDepth 100000 in
set_option maxHeartbeats 2000000 in
theorem tlink_any (L : Tr) (x : It) : ∀ (R : Tr) (w : World), TBd P w g bs A m d root → L.At bs P w → R.At bs P w → (∀ k, w.heap.size ≤ k → P k) → ItsT bs (L.row ++ x :: R.row) →
    Calls Try.prog 80 #[.pointer (some ⟨g, 0, none⟩), .pointer L.ptr, .agg #[.int .i64 x.s, .int .i64 x.t, .int .i64 x.q, .int .i64 x.v], .pointer R.ptr] w (TrO bs P (L.row ++ x :: R.row) w) := by
  intro R
  induction R with
  | nil =>
    intro w hT hL hR hP h
    have HPUT := Lib.hid (fun w' (hb : Below w.heap.size w w') => put_later hT hP w' L .nil x hb (hL.below hb) (hR.below hb) h)
    have HBX := Lib.hid ((Below.refl _ w).alloc (Nat.le_refl _) (.cells #[.int .i64 x.s, .int .i64 x.t, .int .i64 x.q, .int .i64 x.v] 47))
    have n1 : L.row.length ≤ 8192 := by have := h.le; simp only [List.length_append, List.length_cons] at this; omega
    have HV1 := Lib.hid (fun w' (hb : Below w.heap.size w w') => theavy_any bs P .nil L w' (hR.below hb) (hL.below hb) (by simp [Tr.row]) n1)
    have hd1 : decide (3 * (L.row.length + 1) < Tr.nil.row.length + 1) = false := decide_eq_false (by simp [Tr.row])
    clear hT hL hR hP h
    generalize hR : L.row ++ x :: Tr.nil.row = RR at HPUT ⊢
    clear hR
    generalize decide (3 * (L.row.length + 1) < Tr.nil.row.length + 1) = c1 at HV1 hd1
    generalize L.ptr = lp at HV1 HPUT ⊢
    generalize Tr.nil.ptr = rp at HV1 HPUT ⊢
    go_enter Try.func80, Try.ntmps80
    go_wp2_with (first | (refine (HV1.out _ HBX.out).mono ?_; clear HV1; rintro e w2 ⟨rfl, rfl⟩) | (refine (HPUT.out _ HBX.out).mono ?_; clear HPUT; rintro e w3 ⟨T, rfl, h1, h2, h3⟩))
    go_ret
    exact ⟨T, rfl, h1, h2, HBX.out.trans (h3.mono (by simp))⟩
  | node b H r1 v r2 ih1 _ =>
    intro w hT hL hR hP h
    have HPUT := Lib.hid (fun w' (hb : Below w.heap.size w w') => put_later hT hP w' L (.node b H r1 v r2) x hb (hL.below hb) (hR.below hb) h)
    have HBX : Hid (Has (w.alloc (.cells #[.int .i64 x.s, .int .i64 x.t, .int .i64 x.q, .int .i64 x.v] 47)) w.heap.size 47 #[.int .i64 x.s, .int .i64 x.t, .int .i64 x.q, .int .i64 x.v] ∧ Below w.heap.size w (w.alloc (.cells #[.int .i64 x.s, .int .i64 x.t, .int .i64 x.q, .int .i64 x.v] 47))) := ⟨Has.made _ _ _, (Below.refl _ _).alloc (Nat.le_refl _) _⟩
    have n1 : L.row.length ≤ 8192 := by have := h.le; simp only [List.length_append, List.length_cons] at this; omega
    have n2 : (Tr.node b H r1 v r2).row.length ≤ 8192 := by have := h.le; simp only [List.length_append, List.length_cons] at this; omega
    have HV1 := Lib.hid (fun w' (hb : Below w.heap.size w w') => theavy_any bs P (.node b H r1 v r2) L w' (hR.below hb) (hL.below hb) n2 n1)
    have hs : ItsT bs (L.row ++ x :: r1.row) := ItsT.left (ys := v :: r2.row) (by simpa [Tr.row] using h)
    have hPb : ∀ w', Below w.heap.size w w' → ∀ k, w'.heap.size ≤ k → P k := fun w' hb k hk => hP k (by have := hb.size; omega)
    have HL1 := Lib.hid (fun w' (hb : Below w.heap.size w w') => ih1 w' (hT.below hb) (hL.below hb) (hR.below hb).2.2.2.2.1 (hPb w' hb) hs)
    have HB2 := Lib.hid (fun w' (T : Tr) (hb : Below w.heap.size w w') (ht : T.At bs P w') (hr : T.row = L.row ++ x :: r1.row) => by
      have hh : ItsT bs (T.row ++ v :: r2.row) := by rw [hr]; simpa [Tr.row] using h
      have := tbal_any (hT.below hb) T r2 v ht (hR.below hb).2.2.2.2.2 (hPb w' hb) hh
      rw [hr] at this
      exact this)
    have HB3 := Lib.hid (fun w' (hb : Below w.heap.size w w') => (hR.below hb).2.2.1)
    clear hT hL hR hP h hPb ih1 hs n1 n2
    have hrow : (L.row ++ x :: r1.row) ++ v :: r2.row = L.row ++ x :: (Tr.node b H r1 v r2).row := by simp [Tr.row]
    rw [← hrow] at HPUT ⊢
    clear hrow
    have e0 : (Tr.node b H r1 v r2).ptr = some ⟨b, 0, none⟩ := rfl
    rw [e0] at HV1 HPUT ⊢
    clear e0
    generalize (L.row ++ x :: r1.row) ++ v :: r2.row = RR at HPUT HB2 ⊢
    by_cases hc1 : 3 * (L.row.length + 1) < (Tr.node b H r1 v r2).row.length + 1
    · have hd1 : decide (3 * (L.row.length + 1) < (Tr.node b H r1 v r2).row.length + 1) = true := decide_eq_true hc1
      clear hc1 HPUT
      generalize decide (3 * (L.row.length + 1) < (Tr.node b H r1 v r2).row.length + 1) = c1 at HV1 hd1
      go_enter Try.func80, Try.ntmps80
      go_upto_region 3 with (refine (HV1.out _ HBX.out.2).mono ?_; clear HV1; rintro e w2 ⟨rfl, rfl⟩)
      refine tlk_any (g := g) (z := 0) (y := w.heap.size) (b := b) (x := x) (v := v) (av := foldA bs (Tr.node b H r1 v r2).row) (hk := H) (p := r1.ptr) (q := r2.ptr) (bs := bs) (P := P) (R1 := L.row ++ x :: r1.row) (R2 := RR) (pl := L.ptr) ⟨rfl, rfl, rfl, rfl, rfl, HBX.out.1, HB3.out _ HBX.out.2, fun w' hb => HL1.out w' (HBX.out.2.trans (hb.mono (by simp))), fun w' T hb ht hr => HB2.out w' T (HBX.out.2.trans (hb.mono (by simp))) ht hr⟩ (by kernel_rfl) ?_
      intro T26 T35 T8 w9 hB9 _ _ h8
      have HB9 := Lib.hid (HBX.out.2.trans (hB9.mono (by simp)))
      have HT := Lib.hid h8
      clear hB9 h8 HL1 HB2 HB3 HBX
      simp only [putAll, Act.put, List.setIfInBounds_toArray, List.set_cons_succ, List.set_cons_zero]
      go_wp2_with fail
      go_ret
      exact ⟨T8, rfl, HT.out.1, HT.out.2, HB9.out⟩
    · have hd1 : decide (3 * (L.row.length + 1) < (Tr.node b H r1 v r2).row.length + 1) = false := decide_eq_false hc1
      clear hc1
      generalize decide (3 * (L.row.length + 1) < (Tr.node b H r1 v r2).row.length + 1) = c1 at HV1 hd1
      go_enter Try.func80, Try.ntmps80
      go_wp2_with (first | (refine (HV1.out _ HBX.out.2).mono ?_; clear HV1; rintro e w2 ⟨rfl, rfl⟩) | (refine (HPUT.out _ HBX.out.2).mono ?_; clear HPUT; rintro e w3 ⟨T, rfl, h1, h2, h3⟩))
      go_ret
      exact ⟨T, rfl, h1, h2, HBX.out.2.trans (h3.mono (by simp))⟩
end

end Go.Proofs.Ytdoflmphkalicaa

namespace Go.Proofs.Ytdoflmphkalicaa
open Go.RowKit

section
variable {P : Nat → Prop} {g m d : Nat} {A root : Option Addr} {bs : List Int} {w : World}
set_option maxRecDepth 100000 in
set_option maxHeartbeats 2000000 in
theorem tins_any (x : It) : ∀ (T : Tr) (w : World), TBd P w g bs A m d root → T.At bs P w → (∀ k, w.heap.size ≤ k → P k) → StrS T.row → ItsT bs (x :: T.row) →
    Calls Try.prog 46 #[.pointer (some ⟨g, 0, none⟩), .pointer T.ptr, .agg #[.int .i64 x.s, .int .i64 x.t, .int .i64 x.q, .int .i64 x.v]] w (TrO bs P (insB lt2 x T.row) w) := by
  intro T
  induction T with
  | nil =>
    intro w hT hA hP _ h
    have HBX := Lib.hid ((Below.refl _ w).alloc (Nat.le_refl _) (.cells #[.int .i64 x.s, .int .i64 x.t, .int .i64 x.q, .int .i64 x.v] 47))
    have HPUT := Lib.hid (fun w' (hb : Below w.heap.size w w') => show Calls Try.prog 76 #[.pointer (some ⟨g, 0, none⟩), .pointer none, .agg #[.int .i64 x.s, .int .i64 x.t, .int .i64 x.q, .int .i64 x.v], .pointer none] w' (TrO bs P [x] w') from put_later hT hP w' .nil .nil x hb trivial trivial h)
    clear hT hA hP h
    show Calls _ _ #[_, .pointer none, _] w (TrO bs P [x] w)
    go_enter Try.func46, Try.ntmps46
    go_wp2_with (refine (HPUT.out _ HBX.out).mono ?_; clear HPUT; rintro e w3 ⟨T, rfl, h1, h2, h3⟩)
    go_ret
    exact ⟨T, rfl, h1, h2, HBX.out.trans (h3.mono (by simp))⟩
  | node b H l v r ihl ihr =>
    intro w hT hA hP hS h
    have HBX : Hid (Has (w.alloc (.cells #[.int .i64 x.s, .int .i64 x.t, .int .i64 x.q, .int .i64 x.v] 47)) w.heap.size 47 #[.int .i64 x.s, .int .i64 x.t, .int .i64 x.q, .int .i64 x.v] ∧ Below w.heap.size w (w.alloc (.cells #[.int .i64 x.s, .int .i64 x.t, .int .i64 x.q, .int .i64 x.v] 47))) := ⟨Has.made _ _ _, (Below.refl _ _).alloc (Nat.le_refl _) _⟩
    have hPb : ∀ w', Below w.heap.size w w' → ∀ k, w'.heap.size ≤ k → P k := fun w' hb k hk => hP k (by have := hb.size; omega)
    have hSl : StrS l.row := StrS.left hS
    have hSr : StrS r.row := (StrS.right (xs := l.row ++ [v]) (by simpa [Tr.row] using hS))
    have hIl : ItsT bs (x :: l.row) := h.sublist (by simp [Tr.row])
    have hIr : ItsT bs (x :: r.row) := h.sublist (by simp [Tr.row])
    have HB3 := Lib.hid (fun w' (hb : Below w.heap.size w w') => (hA.below hb).2.2.1)
    have e0 : (Tr.node b H l v r).ptr = some ⟨b, 0, none⟩ := rfl
    rw [e0]
    clear e0
    cases hc : lt2 x v with
    | true =>
      have HI := Lib.hid (fun w' (hb : Below w.heap.size w w') => ihl w' (hT.below hb) (hA.below hb).2.2.2.2.1 (hPb w' hb) hSl hIl)
      have hrow : insB lt2 x (Tr.node b H l v r).row = insB lt2 x l.row ++ v :: r.row := insB_lo hS hc
      have hnew : ItsT bs (insB lt2 x l.row ++ v :: r.row) := hrow ▸ h.perm (insB_perm lt2 x _)
      have HBL := Lib.hid (fun w' (T : Tr) (hb : Below w.heap.size w w') (ht : T.At bs P w') (hr : T.row = insB lt2 x l.row) => by
        have := tbal_any (hT.below hb) T r v ht (hA.below hb).2.2.2.2.2 (hPb w' hb) (by rw [hr]; exact hnew)
        rw [hr] at this
        exact this)
      rw [hrow]
      have hβ : decide (cmpT x v < 0) = true := decide_eq_true (cmpT_neg.2 hc)
      clear hT hA hP hS h hPb hSl hSr hIl hIr hc hrow hnew ihl ihr
      go_enter Try.func46, Try.ntmps46
      go_upto_region 3 with fail
      refine tn3_any (g := g) (z := 0) (y := w.heap.size) (b := b) (x := x) (v := v) (av := foldA bs (Tr.node b H l v r).row) (hk := H) (p := l.ptr) (q := r.ptr) (β := true) ⟨rfl, rfl, rfl, HBX.out.1, HB3.out _ HBX.out.2, hβ⟩ (by kernel_rfl) ?_
      intro w4 hB4
      have HK := Lib.hid (HBX.out.2.trans (hB4.mono (by simp)))
      have HX4 := Lib.hid (HBX.out.1.below hB4 (by simp))
      clear hB4 HBX hβ
      simp only [putAll, Act.put, List.setIfInBounds_toArray, List.set_cons_succ, List.set_cons_zero]
      go_upto_region 4 with fail
      refine tn4_any (g := g) (z := 0) (y := w.heap.size) (b := b) (x := x) (v := v) (av := foldA bs (Tr.node b H l v r).row) (hk := H) (p := l.ptr) (q := r.ptr) (bs := bs) (P := P) (R1 := insB lt2 x l.row) (R2 := insB lt2 x l.row ++ v :: r.row) ⟨rfl, rfl, rfl, rfl, HX4.out, HB3.out _ HK.out, fun w' hb => HI.out w' (HK.out.trans (hb.mono HK.out.size)), fun w' T hb ht hr => HBL.out w' T (HK.out.trans (hb.mono HK.out.size)) ht hr⟩ (by kernel_rfl) ?_
      intro T26 T35 T6 w9 hB9 _ _ h8
      have HB9 := Lib.hid (HK.out.trans (hB9.mono HK.out.size))
      have HT := Lib.hid h8
      clear hB9 h8 HI HBL HB3 HX4 HK
      simp only [putAll, Act.put, List.setIfInBounds_toArray, List.set_cons_succ, List.set_cons_zero]
      go_wp2_with fail
      go_ret
      exact ⟨T6, rfl, HT.out.1, HT.out.2, HB9.out⟩
    | false =>
      have HI := Lib.hid (fun w' (hb : Below w.heap.size w w') => ihr w' (hT.below hb) (hA.below hb).2.2.2.2.2 (hPb w' hb) hSr hIr)
      have hrow : insB lt2 x (Tr.node b H l v r).row = l.row ++ v :: insB lt2 x r.row := insB_hi hS hc
      have hnew : ItsT bs (l.row ++ v :: insB lt2 x r.row) := hrow ▸ h.perm (insB_perm lt2 x _)
      have HBL := Lib.hid (fun w' (T : Tr) (hb : Below w.heap.size w w') (ht : T.At bs P w') (hr : T.row = insB lt2 x r.row) => by
        have := tbal_any (hT.below hb) l T v (hA.below hb).2.2.2.2.1 ht (hPb w' hb) (by rw [hr]; exact hnew)
        rw [hr] at this
        exact this)
      rw [hrow]
      have hβ : decide (cmpT x v < 0) = false := decide_eq_false (by rw [cmpT_neg, hc]; simp)
      clear hT hA hP hS h hPb hSl hSr hIl hIr hc hrow hnew ihl ihr
      go_enter Try.func46, Try.ntmps46
      go_upto_region 3 with fail
      refine tn3_any (g := g) (z := 0) (y := w.heap.size) (b := b) (x := x) (v := v) (av := foldA bs (Tr.node b H l v r).row) (hk := H) (p := l.ptr) (q := r.ptr) (β := false) ⟨rfl, rfl, rfl, HBX.out.1, HB3.out _ HBX.out.2, hβ⟩ (by kernel_rfl) ?_
      intro w4 hB4
      have HK := Lib.hid (HBX.out.2.trans (hB4.mono (by simp)))
      have HX4 := Lib.hid (HBX.out.1.below hB4 (by simp))
      clear hB4 HBX hβ
      simp only [putAll, Act.put, List.setIfInBounds_toArray, List.set_cons_succ, List.set_cons_zero]
      go_upto_region 5 with fail
      refine tn5_any (g := g) (z := 0) (y := w.heap.size) (b := b) (x := x) (v := v) (av := foldA bs (Tr.node b H l v r).row) (hk := H) (p := l.ptr) (q := r.ptr) (bs := bs) (P := P) (R1 := insB lt2 x r.row) (R2 := l.row ++ v :: insB lt2 x r.row) ⟨rfl, rfl, rfl, rfl, HX4.out, HB3.out _ HK.out, fun w' hb => HI.out w' (HK.out.trans (hb.mono HK.out.size)), fun w' T hb ht hr => HBL.out w' T (HK.out.trans (hb.mono HK.out.size)) ht hr⟩ (by kernel_rfl) ?_
      intro T51 T52 T6 w9 hB9 _ _ h8
      have HB9 := Lib.hid (HK.out.trans (hB9.mono HK.out.size))
      have HT := Lib.hid h8
      clear hB9 h8 HI HBL HB3 HX4 HK
      simp only [putAll, Act.put, List.setIfInBounds_toArray, List.set_cons_succ, List.set_cons_zero]
      go_wp2_with fail
      go_ret
      exact ⟨T6, rfl, HT.out.1, HT.out.2, HB9.out⟩

set_option maxRecDepth 100000 in
set_option maxHeartbeats 2000000 in
theorem tevict_any (u : Int) : ∀ (T : Tr) (w : World), TBd P w g bs A m d root → T.At bs P w → (∀ k, w.heap.size ≤ k → P k) → StrS T.row → ItsT bs T.row →
    Calls Try.prog 54 #[.pointer (some ⟨g, 0, none⟩), .pointer T.ptr, .int .i64 u] w (TrO bs P (stay u T.row) w) := by
  intro T
  induction T with
  | nil =>
    intro w _ _ _ _ _
    show Calls _ _ #[_, .pointer none, _] w (TrO bs P [] w)
    go_enter Try.func54, Try.ntmps54
    go_wp2_with fail
    go_ret
    exact ⟨.nil, rfl, trivial, rfl, Below.refl _ _⟩
  | node b H l v r ihl ihr =>
    intro w hT hA hP hS h
    have hends := foldA_ends h
    have htm := hS.times
    have hr5 : ItsT bs r.row := h.sublist (by simp [Tr.row])
    have hl5 : ItsT bs l.row := h.sublist (by simp [Tr.row])
    have hSl : StrS l.row := StrS.left hS
    have hSr : StrS r.row := (StrS.right (xs := l.row ++ [v]) (by simpa [Tr.row] using hS))
    have hb3 := hA.2.2.1
    have hc11 : w.cell? ⟨b, 11, none⟩ = some (.int .i64 (foldA bs (Tr.node b H l v r).row).f.t) := by rw [hb3.cell]; rfl
    have hc2 : w.cell? ⟨b, 2, none⟩ = some (.int .i64 v.t) := by rw [hb3.cell]; rfl
    have hc5 : w.cell? ⟨b, 5, none⟩ = some (.pointer r.ptr) := by rw [hb3.cell]; rfl
    have e0 : (Tr.node b H l v r).ptr = some ⟨b, 0, none⟩ := rfl
    rw [e0]
    clear e0
    by_cases h1 : u ≤ (foldA bs (Tr.node b H l v r).row).f.t
    · have hrow : stay u (Tr.node b H l v r).row = (Tr.node b H l v r).row := stay_all fun x hx => by have := hends x hx; omega
      rw [hrow]
      have HA := Lib.hid hA
      clear hT hA hP hS h hends htm hr5 hl5 hSl hSr hb3 hc2 hc5 hrow ihl ihr
      generalize (foldA bs (Tr.node b H l v r).row).f.t = ft at hc11 h1
      go_enter Try.func54, Try.ntmps54
      go_wp2_with fail
      go_ret
      exact ⟨.node b H l v r, rfl, HA.out, rfl, Below.refl _ _⟩
    · by_cases h2 : v.t < u
      · have hrow : stay u (Tr.node b H l v r).row = stay u r.row := by
          have e1 : stay u l.row = [] := stay_none fun a ha => by have := htm.1 a ha; omega
          have e2 : stay u (l.row ++ v :: r.row) = stay u l.row ++ stay u (v :: r.row) := List.filter_append ..
          have e3 : stay u (v :: r.row) = stay u r.row := List.filter_cons_of_neg (by simp; omega)
          show stay u (l.row ++ v :: r.row) = _
          rw [e2, e1, e3]
          rfl
        rw [hrow]
        have HI := Lib.hid (ihr w hT hA.2.2.2.2.2 hP hSr hr5)
        clear hT hA hP hS h hends htm hr5 hl5 hSl hSr hb3 hrow ihl ihr
        generalize (foldA bs (Tr.node b H l v r).row).f.t = ft at hc11 h1
        generalize v.t = vt at hc2 h2
        go_enter Try.func54, Try.ntmps54
        go_wp2_with (refine HI.out.mono ?_; clear HI; rintro e w3 ⟨T, rfl, k1, k2, k3⟩)
        go_ret
        exact ⟨T, rfl, k1, k2, k3⟩
      · have hrow : stay u (Tr.node b H l v r).row = stay u l.row ++ v :: r.row := by
          have e1 : stay u r.row = r.row := stay_all fun a ha => by have := htm.2 a ha; omega
          have e2 : stay u (l.row ++ v :: r.row) = stay u l.row ++ stay u (v :: r.row) := List.filter_append ..
          have e3 : stay u (v :: r.row) = v :: stay u r.row := List.filter_cons_of_pos (by simp; omega)
          show stay u (l.row ++ v :: r.row) = _
          rw [e2, e3, e1]
        have hnew : ItsT bs (stay u l.row ++ v :: r.row) := hrow ▸ h.sublist List.filter_sublist
        rw [hrow]
        have hPb : ∀ w', Below w.heap.size w w' → ∀ k, w'.heap.size ≤ k → P k := fun w' hb k hk => hP k (by have := hb.size; omega)
        have HI := Lib.hid (fun w' (hb : Below w.heap.size w w') => ihl w' (hT.below hb) (hA.below hb).2.2.2.2.1 (hPb w' hb) hSl hl5)
        have HLK := Lib.hid (fun w' (T : Tr) (hb : Below w.heap.size w w') (ht : T.At bs P w') (hr : T.row = stay u l.row) => by
          have := tlink_any T v r w' (hT.below hb) ht (hA.below hb).2.2.2.2.2 (hPb w' hb) (by rw [hr]; exact hnew)
          rw [hr] at this
          exact this)
        have HB3 := Lib.hid hb3
        clear hT hA hP hS h hends htm hr5 hl5 hSl hSr hb3 hrow hnew ihl ihr hPb hc5
        generalize hft : (foldA bs (Tr.node b H l v r).row).f.t = ft at hc11 h1
        clear hft
        generalize hvt : v.t = vt at hc2 h2
        clear hvt
        go_enter Try.func54, Try.ntmps54
        go_upto_region 5 with fail
        refine tev_any (g := g) (z := 0) (b := b) (u := u) (v := v) (av := foldA bs (Tr.node b H l v r).row) (hk := H) (p := l.ptr) (q := r.ptr) (bs := bs) (P := P) (R1 := stay u l.row) (R2 := stay u l.row ++ v :: r.row) ⟨rfl, rfl, rfl, rfl, HB3.out, fun w' hb => HI.out w' hb, fun w' T hb ht hr => HLK.out w' T hb ht hr⟩ (by kernel_rfl) ?_
        intro T41 T50 T6 w9 hB9 _ _ h8
        have HB9 := Lib.hid hB9
        have HT := Lib.hid h8
        clear hB9 h8 HI HLK HB3 hc11 hc2
        simp only [putAll, Act.put, List.setIfInBounds_toArray, List.set_cons_succ, List.set_cons_zero]
        go_wp2_with fail
        go_ret
        exact ⟨T6, rfl, HT.out.1, HT.out.2, HB9.out⟩
end

end Go.Proofs.Ytdoflmphkalicaa
