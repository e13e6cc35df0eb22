/-
  The drawn region of the reference's Cut: may a span be a window? Its facts, one by one (written by gen/slref_cut.py).
-/
import Derived.Test.YtkbocjmdbfddhaaRf
import Derived.Test.YtkbocjmdbfddhaaWRef2
import Derived.Test.YtkbocjmdbfddhaaSlDef
namespace Go.Proofs.Ytkbocjmdbfddhaa
open Go.RowKit

def rc2D : List (Option Tmp) := [some 15, some 16, some 17, some 18, some 19, some 20, some 21, some 22, some 23, some 24, some 25, some 26, some 27, some 28, some 29, some 30, some 31, some 32, some 33, some 34, some 35, some 36, some 37, some 38, some 39, some 40, some 41, some 42, some 43, some 44, some 45, some 46, some 47, some 48, some 49]
def rc2F (kd ag sz sl rk s : Int) (B : Option Addr) (m d g gs : Nat) (V : Bool) : List Fact := [isV (.int .i64 0), isV (.bool false), isV (.bool false), isV (.pointer (some ⟨gs, 0, none⟩)), isV (.int .i64 s), isV (.bool false), isV (.bool false), isV (.bool false), isV (.pointer (some ⟨gs, 0, none⟩)), isV (.int .i64 s), isV (.bool false), isV (.bool false), isV (.bool false), isV (.pointer (some ⟨gs, 1, none⟩)), isV (.int .i64 (s + sz)), isV (.pointer (some ⟨gs, 0, none⟩)), isV (.int .i64 s), isV (.pointer (some ⟨g, 2, none⟩)), isV (.int .i64 sz), isV (.int .i64 (s + sz)), isV (.bool false), isV (.bool false), isV (.bool false), isV (.pointer (some ⟨gs, 1, none⟩)), isV (.int .i64 (s + sz)), isV (.bool false), isV (.bool false), isV (.bool false), isV (.pointer (some ⟨gs, 0, none⟩)), isV (.int .i64 s), isV (.agg #[.int .i64 kd, .int .i64 ag, .int .i64 sz, .int .i64 sl, .slice B m d, .int .i64 rk]), isV (.int .i64 (stepQ kd sz sl)), isV (.int .i64 (s.tmod (stepQ kd sz sl))), isV (.bool V), isV (.bool V)]
theorem rc2F_mono (kd ag sz sl rk s : Int) (B : Option Addr) (m d g gs : Nat) (V : Bool) : ∀ φ ∈ rc2F kd ag sz sl rk s B m d g gs V, Mono φ := by
  unfold rc2F
  repeat (first | exact monos_nil | (refine monos_cons (mono_isV _) ?_))
structure rc2S (kd ag sz sl rk s : Int) (B : Option Addr) (m d g gs : Nat) (V : Bool) (a0 : Act) (w0 : World) : Prop where
  size : a0.tmps.size = 68
  v2 : a0.tmps.getD 2 undef = .pointer (some ⟨g, 0, none⟩)
  v3 : a0.tmps.getD 3 undef = .pointer (some ⟨gs, 0, none⟩)
  v7 : a0.tmps.getD 7 undef = .int .i64 0
  box : Has w0 g 24 #[.int .i64 kd, .int .i64 ag, .int .i64 sz, .int .i64 sl, .slice B m d, .int .i64 rk]
  sp : Has w0 gs 38 #[.int .i64 s, .int .i64 (s + sz)]
  c1 : -1100585369600 ≤ s
  c2 : s ≤ 1099511627776
  c3 : 1 ≤ sz ∧ sz ≤ 1073741824
  c4 : -1099511627776 < s + sz
  c5 : 0 < stepQ kd sz sl
  hk : kd = 0 ∨ kd = 1
  eV : (s.tmod (stepQ kd sz sl) != 0) = V
section
variable {kd ag sz sl rk s : Int} {B : Option Addr} {m d g gs : Nat} {V : Bool} {a0 : Act} {w0 : World} (S : rc2S kd ag sz sl rk s B m d g gs V a0 w0)
include S
set_option maxRecDepth 100000 in
set_option maxHeartbeats 8000000 in
theorem rc2_ok : AllOps (fun j o => ∀ (a : Act) (w : World), Below w0.heap.size w0 w → FrD rc2D a0 a → needs rc2D (rc2F kd ag sz sl rk s B m d g gs V) a w o.after.toList → StepD Try.prog rc2D (factAt (rc2F kd ag sz sl rk s B m d g gs V) j) o a w) 0 (opsOf 2 Try.f27) := by
  simp only [opsOf, Try.f27, opsAt, Option.bind, Option.or, Option.getD, reduceCtorEq, if_true, if_false, Nat.reduceEqDiff]
  refine ⟨?_, ?_⟩
  · intro _a _w _hB hF _hd
    exact step_move (guard_none rfl) rfl _ rfl ((hF.other 7 rfl).trans S.v7)
  refine ⟨?_, ?_⟩
  · intro a _w _hB _hF hd
    have h15 : a.tmps.getD 15 undef = .int .i64 0 := hd.1 rfl
    exact rf_neq (guard_none rfl) rfl _ _ rfl _ _ h15 rfl false rfl rfl
  refine ⟨?_, ?_⟩
  · intro a _w _hB _hF hd
    have h16 : a.tmps.getD 16 undef = .bool false := hd.1 rfl
    exact step_move (guard_none rfl) rfl _ rfl h16
  refine ⟨?_, ?_⟩
  · intro a _w _hB hF hd
    have h17 : a.tmps.getD 17 undef = .bool false := hd.1 rfl
    exact rf_faddr (rf_open false rfl rfl h17) rfl _ _ _ rfl _ _ 0 _ ((hF.other 3 rfl).trans S.v3) (by omega) (fun _ _ => by kernel_rfl) rfl
  refine ⟨?_, ?_⟩
  · intro a _w hB _hF hd
    have h17 : a.tmps.getD 17 undef = .bool false := hd.2.1 rfl
    have h18 : a.tmps.getD 18 undef = .pointer (some ⟨gs, 0, none⟩) := hd.1 rfl
    exact rf_loadi (rf_open false rfl rfl h17) rfl _ rfl _ _ h18 _ ((Has.cell (S.sp.below hB S.sp.lt) 0).trans rfl) rfl
  refine ⟨?_, ?_⟩
  · intro a _w _hB _hF hd
    have h17 : a.tmps.getD 17 undef = .bool false := hd.2.1 rfl
    have h19 : a.tmps.getD 19 undef = .int .i64 s := hd.1 rfl
    exact rf_lss (rf_open false rfl rfl h17) rfl _ _ rfl _ _ h19 rfl false (decide_eq_false (by have := S.c1; omega)) rfl
  refine ⟨?_, ?_⟩
  · intro a _w _hB _hF hd
    have h17 : a.tmps.getD 17 undef = .bool false := hd.1 rfl
    have h20 : a.tmps.getD 20 undef = .bool false := hd.2.1 rfl
    exact rf_pick (guard_none rfl) rfl _ _ _ rfl false h17 h20
  refine ⟨?_, ?_⟩
  · intro a _w _hB _hF hd
    have h21 : a.tmps.getD 21 undef = .bool false := hd.1 rfl
    exact step_move (guard_none rfl) rfl _ rfl h21
  refine ⟨?_, ?_⟩
  · intro a _w _hB hF hd
    have h22 : a.tmps.getD 22 undef = .bool false := hd.1 rfl
    exact rf_faddr (rf_open false rfl rfl h22) rfl _ _ _ rfl _ _ 0 _ ((hF.other 3 rfl).trans S.v3) (by omega) (fun _ _ => by kernel_rfl) rfl
  refine ⟨?_, ?_⟩
  · intro a _w hB _hF hd
    have h22 : a.tmps.getD 22 undef = .bool false := hd.2.1 rfl
    have h23 : a.tmps.getD 23 undef = .pointer (some ⟨gs, 0, none⟩) := hd.1 rfl
    exact rf_loadi (rf_open false rfl rfl h22) rfl _ rfl _ _ h23 _ ((Has.cell (S.sp.below hB S.sp.lt) 0).trans rfl) rfl
  refine ⟨?_, ?_⟩
  · intro a _w _hB _hF hd
    have h22 : a.tmps.getD 22 undef = .bool false := hd.2.1 rfl
    have h24 : a.tmps.getD 24 undef = .int .i64 s := hd.1 rfl
    exact rf_gtr (rf_open false rfl rfl h22) rfl _ _ rfl _ _ h24 rfl false (decide_eq_false (by have := S.c2; omega)) rfl
  refine ⟨?_, ?_⟩
  · intro a _w _hB _hF hd
    have h22 : a.tmps.getD 22 undef = .bool false := hd.1 rfl
    have h25 : a.tmps.getD 25 undef = .bool false := hd.2.1 rfl
    exact rf_pick (guard_none rfl) rfl _ _ _ rfl false h22 h25
  refine ⟨?_, ?_⟩
  · intro a _w _hB _hF hd
    have h26 : a.tmps.getD 26 undef = .bool false := hd.1 rfl
    exact step_move (guard_none rfl) rfl _ rfl h26
  refine ⟨?_, ?_⟩
  · intro a _w _hB hF hd
    have h27 : a.tmps.getD 27 undef = .bool false := hd.1 rfl
    exact rf_faddr (rf_open false rfl rfl h27) rfl _ _ _ rfl _ _ 1 _ ((hF.other 3 rfl).trans S.v3) (by omega) (fun _ _ => by kernel_rfl) rfl
  refine ⟨?_, ?_⟩
  · intro a _w hB _hF hd
    have h27 : a.tmps.getD 27 undef = .bool false := hd.2.1 rfl
    have h28 : a.tmps.getD 28 undef = .pointer (some ⟨gs, 1, none⟩) := hd.1 rfl
    exact rf_loadi (rf_open false rfl rfl h27) rfl _ rfl _ _ h28 _ ((Has.cell (S.sp.below hB S.sp.lt) 1).trans rfl) rfl
  refine ⟨?_, ?_⟩
  · intro a _w _hB hF hd
    have h27 : a.tmps.getD 27 undef = .bool false := hd.1 rfl
    exact rf_faddr (rf_open false rfl rfl h27) rfl _ _ _ rfl _ _ 0 _ ((hF.other 3 rfl).trans S.v3) (by omega) (fun _ _ => by kernel_rfl) rfl
  refine ⟨?_, ?_⟩
  · intro a _w hB _hF hd
    have h27 : a.tmps.getD 27 undef = .bool false := hd.2.1 rfl
    have h30 : a.tmps.getD 30 undef = .pointer (some ⟨gs, 0, none⟩) := hd.1 rfl
    exact rf_loadi (rf_open false rfl rfl h27) rfl _ rfl _ _ h30 _ ((Has.cell (S.sp.below hB S.sp.lt) 0).trans rfl) rfl
  refine ⟨?_, ?_⟩
  · intro a _w _hB hF hd
    have h27 : a.tmps.getD 27 undef = .bool false := hd.1 rfl
    exact rf_faddr (rf_open false rfl rfl h27) rfl _ _ _ rfl _ _ 2 _ ((hF.other 2 rfl).trans S.v2) (by omega) (fun _ _ => by kernel_rfl) rfl
  refine ⟨?_, ?_⟩
  · intro a _w hB _hF hd
    have h27 : a.tmps.getD 27 undef = .bool false := hd.2.1 rfl
    have h32 : a.tmps.getD 32 undef = .pointer (some ⟨g, 2, none⟩) := hd.1 rfl
    exact rf_loadi (rf_open false rfl rfl h27) rfl _ rfl _ _ h32 _ ((Has.cell (S.box.below hB S.box.lt) 2).trans rfl) rfl
  refine ⟨?_, ?_⟩
  · intro a _w _hB _hF hd
    have h27 : a.tmps.getD 27 undef = .bool false := hd.2.2.1 rfl
    have h31 : a.tmps.getD 31 undef = .int .i64 s := hd.1 rfl
    have h33 : a.tmps.getD 33 undef = .int .i64 sz := hd.2.1 rfl
    exact rf_add (rf_open false rfl rfl h27) rfl _ _ rfl _ _ h31 h33 (by have := S.c1; have := S.c2; have := S.c3; omega) (by have := S.c1; have := S.c2; have := S.c3; omega) rfl
  refine ⟨?_, ?_⟩
  · intro a _w _hB _hF hd
    have h27 : a.tmps.getD 27 undef = .bool false := hd.2.2.1 rfl
    have h29 : a.tmps.getD 29 undef = .int .i64 (s + sz) := hd.1 rfl
    have h34 : a.tmps.getD 34 undef = .int .i64 (s + sz) := hd.2.1 rfl
    exact rf_neq (rf_open false rfl rfl h27) rfl _ _ rfl _ _ h29 h34 false (by simp) rfl
  refine ⟨?_, ?_⟩
  · intro a _w _hB _hF hd
    have h27 : a.tmps.getD 27 undef = .bool false := hd.1 rfl
    have h35 : a.tmps.getD 35 undef = .bool false := hd.2.1 rfl
    exact rf_pick (guard_none rfl) rfl _ _ _ rfl false h27 h35
  refine ⟨?_, ?_⟩
  · intro a _w _hB _hF hd
    have h36 : a.tmps.getD 36 undef = .bool false := hd.1 rfl
    exact step_move (guard_none rfl) rfl _ rfl h36
  refine ⟨?_, ?_⟩
  · intro a _w _hB hF hd
    have h37 : a.tmps.getD 37 undef = .bool false := hd.1 rfl
    exact rf_faddr (rf_open false rfl rfl h37) rfl _ _ _ rfl _ _ 1 _ ((hF.other 3 rfl).trans S.v3) (by omega) (fun _ _ => by kernel_rfl) rfl
  refine ⟨?_, ?_⟩
  · intro a _w hB _hF hd
    have h37 : a.tmps.getD 37 undef = .bool false := hd.2.1 rfl
    have h38 : a.tmps.getD 38 undef = .pointer (some ⟨gs, 1, none⟩) := hd.1 rfl
    exact rf_loadi (rf_open false rfl rfl h37) rfl _ rfl _ _ h38 _ ((Has.cell (S.sp.below hB S.sp.lt) 1).trans rfl) rfl
  refine ⟨?_, ?_⟩
  · intro a _w _hB _hF hd
    have h37 : a.tmps.getD 37 undef = .bool false := hd.2.1 rfl
    have h39 : a.tmps.getD 39 undef = .int .i64 (s + sz) := hd.1 rfl
    exact rf_leq (rf_open false rfl rfl h37) rfl _ _ rfl _ _ h39 rfl false (decide_eq_false (by have := S.c4; omega)) rfl
  refine ⟨?_, ?_⟩
  · intro a _w _hB _hF hd
    have h37 : a.tmps.getD 37 undef = .bool false := hd.1 rfl
    have h40 : a.tmps.getD 40 undef = .bool false := hd.2.1 rfl
    exact rf_pick (guard_none rfl) rfl _ _ _ rfl false h37 h40
  refine ⟨?_, ?_⟩
  · intro a _w _hB _hF hd
    have h41 : a.tmps.getD 41 undef = .bool false := hd.1 rfl
    exact step_move (guard_none rfl) rfl _ rfl h41
  refine ⟨?_, ?_⟩
  · intro a _w _hB hF hd
    have h42 : a.tmps.getD 42 undef = .bool false := hd.1 rfl
    exact rf_faddr (rf_open false rfl rfl h42) rfl _ _ _ rfl _ _ 0 _ ((hF.other 3 rfl).trans S.v3) (by omega) (fun _ _ => by kernel_rfl) rfl
  refine ⟨?_, ?_⟩
  · intro a _w hB _hF hd
    have h42 : a.tmps.getD 42 undef = .bool false := hd.2.1 rfl
    have h43 : a.tmps.getD 43 undef = .pointer (some ⟨gs, 0, none⟩) := hd.1 rfl
    exact rf_loadi (rf_open false rfl rfl h42) rfl _ rfl _ _ h43 _ ((Has.cell (S.sp.below hB S.sp.lt) 0).trans rfl) rfl
  refine ⟨?_, ?_⟩
  · intro a _w hB hF hd
    have h42 : a.tmps.getD 42 undef = .bool false := hd.1 rfl
    exact rf_loadS (rf_open false rfl rfl h42) rfl _ _ rfl _ _ ((hF.other 2 rfl).trans S.v2) _ (rf_range (S.box.below hB S.box.lt)) Try.underlying24 rfl (by kernel_rfl) rfl
  refine ⟨?_, ?_⟩
  · intro a _w _hB _hF hd
    have h42 : a.tmps.getD 42 undef = .bool false := hd.2.1 rfl
    have h45 : a.tmps.getD 45 undef = .agg #[.int .i64 kd, .int .i64 ag, .int .i64 sz, .int .i64 sl, .slice B m d, .int .i64 rk] := hd.1 rfl
    refine step_call (rf_open false rfl rfl h42) rfl _ _ (rf_call_run Try.func46 (by kernel_rfl) (by kernel_rfl) _ _ rfl) ?_
    simp only [List.map_toArray, List.map_cons, List.map_nil, Act.eval, h45]
    exact (rstep_any kd ag sz sl rk B m d _ S.hk).mono (by rintro e w1 ⟨rfl, hb⟩; exact ⟨_, rfl, hb, rfl⟩)
  refine ⟨?_, ?_⟩
  · intro a _w _hB _hF hd
    have h42 : a.tmps.getD 42 undef = .bool false := hd.2.2.1 rfl
    have h44 : a.tmps.getD 44 undef = .int .i64 s := hd.1 rfl
    have h46 : a.tmps.getD 46 undef = .int .i64 (stepQ kd sz sl) := hd.2.1 rfl
    exact rf_rem (rf_open false rfl rfl h42) rfl _ _ rfl _ _ h44 h46 S.c5 rfl
  refine ⟨?_, ?_⟩
  · intro a _w _hB _hF hd
    have h42 : a.tmps.getD 42 undef = .bool false := hd.2.1 rfl
    have h47 : a.tmps.getD 47 undef = .int .i64 (s.tmod (stepQ kd sz sl)) := hd.1 rfl
    exact rf_neq (rf_open false rfl rfl h42) rfl _ _ rfl _ _ h47 rfl V S.eV rfl
  refine ⟨?_, ?_⟩
  · intro a _w _hB _hF hd
    have h42 : a.tmps.getD 42 undef = .bool false := hd.1 rfl
    have h48 : a.tmps.getD 48 undef = .bool V := hd.2.1 rfl
    exact rf_pick (guard_none rfl) rfl _ _ _ rfl false h42 h48
  trivial
theorem rc2_any {Q : Exit → Act → World → Prop} {l : List Oper} (hl : opsOf 2 Try.f27 = l) (hend : ∀ w : World, Below w0.heap.size w0 w → Q .normal (putAll a0 [(15, .int .i64 0), (16, .bool false), (17, .bool false), (18, .pointer (some ⟨gs, 0, none⟩)), (19, .int .i64 s), (20, .bool false), (21, .bool false), (22, .bool false), (23, .pointer (some ⟨gs, 0, none⟩)), (24, .int .i64 s), (25, .bool false), (26, .bool false), (27, .bool false), (28, .pointer (some ⟨gs, 1, none⟩)), (29, .int .i64 (s + sz)), (30, .pointer (some ⟨gs, 0, none⟩)), (31, .int .i64 s), (32, .pointer (some ⟨g, 2, none⟩)), (33, .int .i64 sz), (34, .int .i64 (s + sz)), (35, .bool false), (36, .bool false), (37, .bool false), (38, .pointer (some ⟨gs, 1, none⟩)), (39, .int .i64 (s + sz)), (40, .bool false), (41, .bool false), (42, .bool false), (43, .pointer (some ⟨gs, 0, none⟩)), (44, .int .i64 s), (45, .agg #[.int .i64 kd, .int .i64 ag, .int .i64 sz, .int .i64 sl, .slice B m d, .int .i64 rk]), (46, .int .i64 (stepQ kd sz sl)), (47, .int .i64 (s.tmod (stepQ kd sz sl))), (48, .bool V), (49, .bool V)]) w) :
    (Code.region 2 l.toArray true).wp Try.prog Q a0 w0 := by
  subst hl
  refine region_facts2 (rc2F kd ag sz sl rk s B m d g gs V) rc2D 68 S.size rfl (by kernel_rfl) (by kernel_rfl) (rc2F_mono _ _ _ _ _ _ _ _ _ _ _ _) (rc2_ok S) fun a w hB hF h => ?_
  have hv : valsAre a [(15, .int .i64 0), (16, .bool false), (17, .bool false), (18, .pointer (some ⟨gs, 0, none⟩)), (19, .int .i64 s), (20, .bool false), (21, .bool false), (22, .bool false), (23, .pointer (some ⟨gs, 0, none⟩)), (24, .int .i64 s), (25, .bool false), (26, .bool false), (27, .bool false), (28, .pointer (some ⟨gs, 1, none⟩)), (29, .int .i64 (s + sz)), (30, .pointer (some ⟨gs, 0, none⟩)), (31, .int .i64 s), (32, .pointer (some ⟨g, 2, none⟩)), (33, .int .i64 sz), (34, .int .i64 (s + sz)), (35, .bool false), (36, .bool false), (37, .bool false), (38, .pointer (some ⟨gs, 1, none⟩)), (39, .int .i64 (s + sz)), (40, .bool false), (41, .bool false), (42, .bool false), (43, .pointer (some ⟨gs, 0, none⟩)), (44, .int .i64 s), (45, .agg #[.int .i64 kd, .int .i64 ag, .int .i64 sz, .int .i64 sl, .slice B m d, .int .i64 rk]), (46, .int .i64 (stepQ kd sz sl)), (47, .int .i64 (s.tmod (stepQ kd sz sl))), (48, .bool V), (49, .bool V)] := by
    refine ⟨?_, ?_, ?_, ?_, ?_, ?_, ?_, ?_, ?_, ?_, ?_, ?_, ?_, ?_, ?_, ?_, ?_, ?_, ?_, ?_, ?_, ?_, ?_, ?_, ?_, ?_, ?_, ?_, ?_, ?_, ?_, ?_, ?_, ?_, ?_, trivial⟩
    · exact h 0 (some 15) rfl
    · exact h 1 (some 16) rfl
    · exact h 2 (some 17) rfl
    · exact h 3 (some 18) rfl
    · exact h 4 (some 19) rfl
    · exact h 5 (some 20) rfl
    · exact h 6 (some 21) rfl
    · exact h 7 (some 22) rfl
    · exact h 8 (some 23) rfl
    · exact h 9 (some 24) rfl
    · exact h 10 (some 25) rfl
    · exact h 11 (some 26) rfl
    · exact h 12 (some 27) rfl
    · exact h 13 (some 28) rfl
    · exact h 14 (some 29) rfl
    · exact h 15 (some 30) rfl
    · exact h 16 (some 31) rfl
    · exact h 17 (some 32) rfl
    · exact h 18 (some 33) rfl
    · exact h 19 (some 34) rfl
    · exact h 20 (some 35) rfl
    · exact h 21 (some 36) rfl
    · exact h 22 (some 37) rfl
    · exact h 23 (some 38) rfl
    · exact h 24 (some 39) rfl
    · exact h 25 (some 40) rfl
    · exact h 26 (some 41) rfl
    · exact h 27 (some 42) rfl
    · exact h 28 (some 43) rfl
    · exact h 29 (some 44) rfl
    · exact h 30 (some 45) rfl
    · exact h 31 (some 46) rfl
    · exact h 32 (some 47) rfl
    · exact h 33 (some 48) rfl
    · exact h 34 (some 49) rfl
  rw [frame_is hF _ hv (by rfl) (by rfl)]
  exact hend w hB
end

end Go.Proofs.Ytkbocjmdbfddhaa
