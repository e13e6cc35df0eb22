/-
  SameSessions' and CopySessions' drawn regions: their facts, one by one (written by gen/sesh.py).
  Walks: the laws' helpers SameSessions of like ones, CopySessions; rows of sessions put together.
-/
import Derived.Test.YtgdeaddfkcokpaaG7h
import Derived.Test.YtgdeaddfkcokpaaG6f
import Derived.Test.YtgdeaddfkcokpaaSame
import Derived.Test.YtgdeaddfkcokpaaG6k
namespace Go.Proofs.Ytgdeaddfkcokpaa
open Go.RowKit

def ssmD : List (Option Tmp) := [some 17, some 18, some 19, some 20, some 21, some 22, some 23, some 24, some 25, some 26, some 27, some 28, some 29, some 30, some 31, some 32, some 33, some 34, some 35, some 36, some 37, some 38, some 39, some 40, some 41, some 42, some 43, some 44, some 45, some 46, some 47, some 48, some 49, some 50, some 51, some 52, some 53, some 54]
def ssmF (s : Se) (B1 B2 : Option Addr) (k c1 c2 b1 o1 b2 o2 n e1 e2 q : Nat) : List Fact := [isV (.slice (some ⟨b1, o1, none⟩) n e1), isV (.int .i64 q), isV (.pointer (some ⟨b1, o1 + q * 15, none⟩)), isV (.pointer (some ⟨b1, o1 + q * 15, none⟩)), isV (.int .i64 s.f), isV (.slice (some ⟨b2, o2, none⟩) n e2), isV (.int .i64 q), isV (.pointer (some ⟨b2, o2 + q * 15, none⟩)), isV (.pointer (some ⟨b2, o2 + q * 15, none⟩)), isV (.int .i64 s.f), isV (.bool false), isV (.bool false), isV (.slice (some ⟨b1, o1, none⟩) n e1), isV (.int .i64 q), isV (.pointer (some ⟨b1, o1 + q * 15, none⟩)), isV (.pointer (some ⟨b1, o1 + q * 15 + 1, none⟩)), isV (.int .i64 s.l), isV (.slice (some ⟨b2, o2, none⟩) n e2), isV (.int .i64 q), isV (.pointer (some ⟨b2, o2 + q * 15, none⟩)), isV (.pointer (some ⟨b2, o2 + q * 15 + 1, none⟩)), isV (.int .i64 s.l), isV (.bool false), isV (.bool false), isV (.bool false), isV (.slice (some ⟨b1, o1, none⟩) n e1), isV (.int .i64 q), isV (.pointer (some ⟨b1, o1 + q * 15, none⟩)), isV (.pointer (some ⟨b1, o1 + q * 15 + 2, none⟩)), isV (.agg (accC s.a B1 k c1)), isV (.slice (some ⟨b2, o2, none⟩) n e2), isV (.int .i64 q), isV (.pointer (some ⟨b2, o2 + q * 15, none⟩)), isV (.pointer (some ⟨b2, o2 + q * 15 + 2, none⟩)), isV (.agg (accC s.a B2 k c2)), isV (.bool true), isV (.bool false), isV (.bool false)]
theorem ssmF_mono (s : Se) (B1 B2 : Option Addr) (k c1 c2 b1 o1 b2 o2 n e1 e2 q : Nat) : ∀ φ ∈ ssmF s B1 B2 k c1 c2 b1 o1 b2 o2 n e1 e2 q, Mono φ := by
  unfold ssmF
  repeat (first | exact monos_nil | (refine monos_cons (mono_isV _) ?_))
structure ssmS (s : Se) (B1 B2 : Option Addr) (k c1 c2 b1 o1 b2 o2 n e1 e2 q : Nat) (a0 : Act) (w0 : World) : Prop where
  size : a0.tmps.size = 55
  v0 : a0.tmps.getD 0 undef = .slice (some ⟨b1, o1, none⟩) n e1
  v1 : a0.tmps.getD 1 undef = .slice (some ⟨b2, o2, none⟩) n e2
  v5 : a0.tmps.getD 5 undef = .int .i64 q
  x1 : SesAt w0 b1 (o1 + q * 15) s B1 k c1
  x2 : SesAt w0 b2 (o2 + q * 15) s B2 k c2
  hq : q < n
section
variable {s : Se} {B1 B2 : Option Addr} {k c1 c2 b1 o1 b2 o2 n e1 e2 q : Nat} {a0 : Act} {w0 : World} (S : ssmS s B1 B2 k c1 c2 b1 o1 b2 o2 n e1 e2 q a0 w0)
include S
set_option maxRecDepth 100000 in
set_option maxHeartbeats 8000000 in
theorem ssm_ok : AllOps (fun j o => ∀ (a : Act) (w : World), Below w0.heap.size w0 w → FrD ssmD a0 a → needs ssmD (ssmF s B1 B2 k c1 c2 b1 o1 b2 o2 n e1 e2 q) a w o.after.toList → StepD Try.prog ssmD (factAt (ssmF s B1 B2 k c1 c2 b1 o1 b2 o2 n e1 e2 q) j) o a w) 0 (opsOf 6 Try.f28) := by
  simp only [opsOf, Try.f28, opsAt, Option.bind, Option.or, Option.getD, reduceCtorEq, if_true, if_false, Nat.reduceEqDiff]
  refine ⟨?_, ?_⟩
  · intro _a _w _hB hF _hd
    exact step_move (guard_none rfl) rfl _ rfl ((hF.other 0 rfl).trans S.v0)
  refine ⟨?_, ?_⟩
  · intro _a _w _hB hF _hd
    exact step_move (guard_none rfl) rfl _ rfl ((hF.other 5 rfl).trans S.v5)
  refine ⟨?_, ?_⟩
  · intro a _w _hB _hF hd
    have h17 : a.tmps.getD 17 undef = .slice (some ⟨b1, o1, none⟩) n e1 := hd.1 rfl
    have h18 : a.tmps.getD 18 undef = .int .i64 q := hd.2.1 rfl
    exact rf_index (guard_none rfl) rfl _ _ _ rfl Try.underlying45 15 (fun _ => by kernel_rfl) _ _ _ _ q _ h17 h18 rfl S.hq rfl
  refine ⟨?_, ?_⟩
  · intro a _w _hB _hF hd
    have h19 : a.tmps.getD 19 undef = .pointer (some ⟨b1, o1 + q * 15, none⟩) := hd.1 rfl
    exact rf_faddr (guard_none rfl) rfl _ _ _ rfl _ _ 0 _ h19 (by omega) (fun _ _ => by kernel_rfl) rfl
  refine ⟨?_, ?_⟩
  · intro a _w hB _hF hd
    have h20 : a.tmps.getD 20 undef = .pointer (some ⟨b1, o1 + q * 15, none⟩) := hd.1 rfl
    exact rf_loadi (guard_none rfl) rfl _ rfl _ _ h20 _ (rf_cell hB (S.x1.cell)) rfl
  refine ⟨?_, ?_⟩
  · intro _a _w _hB hF _hd
    exact step_move (guard_none rfl) rfl _ rfl ((hF.other 1 rfl).trans S.v1)
  refine ⟨?_, ?_⟩
  · intro _a _w _hB hF _hd
    exact step_move (guard_none rfl) rfl _ rfl ((hF.other 5 rfl).trans S.v5)
  refine ⟨?_, ?_⟩
  · intro a _w _hB _hF hd
    have h22 : a.tmps.getD 22 undef = .slice (some ⟨b2, o2, none⟩) n e2 := hd.1 rfl
    have h23 : a.tmps.getD 23 undef = .int .i64 q := hd.2.1 rfl
    exact rf_index (guard_none rfl) rfl _ _ _ rfl Try.underlying45 15 (fun _ => by kernel_rfl) _ _ _ _ q _ h22 h23 rfl S.hq rfl
  refine ⟨?_, ?_⟩
  · intro a _w _hB _hF hd
    have h24 : a.tmps.getD 24 undef = .pointer (some ⟨b2, o2 + q * 15, none⟩) := hd.1 rfl
    exact rf_faddr (guard_none rfl) rfl _ _ _ rfl _ _ 0 _ h24 (by omega) (fun _ _ => by kernel_rfl) rfl
  refine ⟨?_, ?_⟩
  · intro a _w hB _hF hd
    have h25 : a.tmps.getD 25 undef = .pointer (some ⟨b2, o2 + q * 15, none⟩) := hd.1 rfl
    exact rf_loadi (guard_none rfl) rfl _ rfl _ _ h25 _ (rf_cell hB (S.x2.cell)) rfl
  refine ⟨?_, ?_⟩
  · intro a _w _hB _hF hd
    have h21 : a.tmps.getD 21 undef = .int .i64 s.f := hd.1 rfl
    have h26 : a.tmps.getD 26 undef = .int .i64 s.f := hd.2.1 rfl
    exact rf_neq (guard_none rfl) rfl _ _ rfl _ _ h21 h26 false (by simp) rfl
  refine ⟨?_, ?_⟩
  · intro a _w _hB _hF hd
    have h27 : a.tmps.getD 27 undef = .bool false := hd.1 rfl
    exact step_move (guard_none rfl) rfl _ rfl h27
  refine ⟨?_, ?_⟩
  · intro a _w _hB hF hd
    have h28 : a.tmps.getD 28 undef = .bool false := hd.1 rfl
    exact step_move (rf_open false rfl rfl h28) rfl _ rfl ((hF.other 0 rfl).trans S.v0)
  refine ⟨?_, ?_⟩
  · intro a _w _hB hF hd
    have h28 : a.tmps.getD 28 undef = .bool false := hd.1 rfl
    exact step_move (rf_open false rfl rfl h28) rfl _ rfl ((hF.other 5 rfl).trans S.v5)
  refine ⟨?_, ?_⟩
  · intro a _w _hB _hF hd
    have h28 : a.tmps.getD 28 undef = .bool false := hd.2.2.1 rfl
    have h29 : a.tmps.getD 29 undef = .slice (some ⟨b1, o1, none⟩) n e1 := hd.1 rfl
    have h30 : a.tmps.getD 30 undef = .int .i64 q := hd.2.1 rfl
    exact rf_index (rf_open false rfl rfl h28) rfl _ _ _ rfl Try.underlying45 15 (fun _ => by kernel_rfl) _ _ _ _ q _ h29 h30 rfl S.hq rfl
  refine ⟨?_, ?_⟩
  · intro a _w _hB _hF hd
    have h28 : a.tmps.getD 28 undef = .bool false := hd.2.1 rfl
    have h31 : a.tmps.getD 31 undef = .pointer (some ⟨b1, o1 + q * 15, none⟩) := hd.1 rfl
    exact rf_faddr (rf_open false rfl rfl h28) rfl _ _ _ rfl _ _ 1 _ h31 (by omega) (fun _ _ => by kernel_rfl) rfl
  refine ⟨?_, ?_⟩
  · intro a _w hB _hF hd
    have h28 : a.tmps.getD 28 undef = .bool false := hd.2.1 rfl
    have h32 : a.tmps.getD 32 undef = .pointer (some ⟨b1, o1 + q * 15 + 1, none⟩) := hd.1 rfl
    exact rf_loadi (rf_open false rfl rfl h28) rfl _ rfl _ _ h32 _ (rf_cell hB (S.x1.at_ 1 (sesC_1 _ _ _ _))) rfl
  refine ⟨?_, ?_⟩
  · intro a _w _hB hF hd
    have h28 : a.tmps.getD 28 undef = .bool false := hd.1 rfl
    exact step_move (rf_open false rfl rfl h28) rfl _ rfl ((hF.other 1 rfl).trans S.v1)
  refine ⟨?_, ?_⟩
  · intro a _w _hB hF hd
    have h28 : a.tmps.getD 28 undef = .bool false := hd.1 rfl
    exact step_move (rf_open false rfl rfl h28) rfl _ rfl ((hF.other 5 rfl).trans S.v5)
  refine ⟨?_, ?_⟩
  · intro a _w _hB _hF hd
    have h28 : a.tmps.getD 28 undef = .bool false := hd.2.2.1 rfl
    have h34 : a.tmps.getD 34 undef = .slice (some ⟨b2, o2, none⟩) n e2 := hd.1 rfl
    have h35 : a.tmps.getD 35 undef = .int .i64 q := hd.2.1 rfl
    exact rf_index (rf_open false rfl rfl h28) rfl _ _ _ rfl Try.underlying45 15 (fun _ => by kernel_rfl) _ _ _ _ q _ h34 h35 rfl S.hq rfl
  refine ⟨?_, ?_⟩
  · intro a _w _hB _hF hd
    have h28 : a.tmps.getD 28 undef = .bool false := hd.2.1 rfl
    have h36 : a.tmps.getD 36 undef = .pointer (some ⟨b2, o2 + q * 15, none⟩) := hd.1 rfl
    exact rf_faddr (rf_open false rfl rfl h28) rfl _ _ _ rfl _ _ 1 _ h36 (by omega) (fun _ _ => by kernel_rfl) rfl
  refine ⟨?_, ?_⟩
  · intro a _w hB _hF hd
    have h28 : a.tmps.getD 28 undef = .bool false := hd.2.1 rfl
    have h37 : a.tmps.getD 37 undef = .pointer (some ⟨b2, o2 + q * 15 + 1, none⟩) := hd.1 rfl
    exact rf_loadi (rf_open false rfl rfl h28) rfl _ rfl _ _ h37 _ (rf_cell hB (S.x2.at_ 1 (sesC_1 _ _ _ _))) rfl
  refine ⟨?_, ?_⟩
  · intro a _w _hB _hF hd
    have h28 : a.tmps.getD 28 undef = .bool false := hd.2.2.1 rfl
    have h33 : a.tmps.getD 33 undef = .int .i64 s.l := hd.1 rfl
    have h38 : a.tmps.getD 38 undef = .int .i64 s.l := hd.2.1 rfl
    exact rf_neq (rf_open false rfl rfl h28) rfl _ _ rfl _ _ h33 h38 false (by simp) rfl
  refine ⟨?_, ?_⟩
  · intro a _w _hB _hF hd
    have h28 : a.tmps.getD 28 undef = .bool false := hd.1 rfl
    have h39 : a.tmps.getD 39 undef = .bool false := hd.2.1 rfl
    exact rf_pick (guard_none rfl) rfl _ _ _ rfl false h28 h39
  refine ⟨?_, ?_⟩
  · intro a _w _hB _hF hd
    have h40 : a.tmps.getD 40 undef = .bool false := hd.1 rfl
    exact step_move (guard_none rfl) rfl _ rfl h40
  refine ⟨?_, ?_⟩
  · intro a _w _hB hF hd
    have h41 : a.tmps.getD 41 undef = .bool false := hd.1 rfl
    exact step_move (rf_open false rfl rfl h41) rfl _ rfl ((hF.other 0 rfl).trans S.v0)
  refine ⟨?_, ?_⟩
  · intro a _w _hB hF hd
    have h41 : a.tmps.getD 41 undef = .bool false := hd.1 rfl
    exact step_move (rf_open false rfl rfl h41) rfl _ rfl ((hF.other 5 rfl).trans S.v5)
  refine ⟨?_, ?_⟩
  · intro a _w _hB _hF hd
    have h41 : a.tmps.getD 41 undef = .bool false := hd.2.2.1 rfl
    have h42 : a.tmps.getD 42 undef = .slice (some ⟨b1, o1, none⟩) n e1 := hd.1 rfl
    have h43 : a.tmps.getD 43 undef = .int .i64 q := hd.2.1 rfl
    exact rf_index (rf_open false rfl rfl h41) rfl _ _ _ rfl Try.underlying45 15 (fun _ => by kernel_rfl) _ _ _ _ q _ h42 h43 rfl S.hq rfl
  refine ⟨?_, ?_⟩
  · intro a _w _hB _hF hd
    have h41 : a.tmps.getD 41 undef = .bool false := hd.2.1 rfl
    have h44 : a.tmps.getD 44 undef = .pointer (some ⟨b1, o1 + q * 15, none⟩) := hd.1 rfl
    exact rf_faddr (rf_open false rfl rfl h41) rfl _ _ _ rfl _ _ 2 _ h44 (by omega) (fun _ _ => by kernel_rfl) rfl
  refine ⟨?_, ?_⟩
  · intro a _w hB _hF hd
    have h41 : a.tmps.getD 41 undef = .bool false := hd.2.1 rfl
    have h45 : a.tmps.getD 45 undef = .pointer (some ⟨b1, o1 + q * 15 + 2, none⟩) := hd.1 rfl
    exact rf_loadS (rf_open false rfl rfl h41) rfl _ _ rfl _ _ h45 _ (AccAt.down S.x1.acc hB).1 Try.underlying29 rfl Try.sizeAcc rfl
  refine ⟨?_, ?_⟩
  · intro a _w _hB hF hd
    have h41 : a.tmps.getD 41 undef = .bool false := hd.1 rfl
    exact step_move (rf_open false rfl rfl h41) rfl _ rfl ((hF.other 1 rfl).trans S.v1)
  refine ⟨?_, ?_⟩
  · intro a _w _hB hF hd
    have h41 : a.tmps.getD 41 undef = .bool false := hd.1 rfl
    exact step_move (rf_open false rfl rfl h41) rfl _ rfl ((hF.other 5 rfl).trans S.v5)
  refine ⟨?_, ?_⟩
  · intro a _w _hB _hF hd
    have h41 : a.tmps.getD 41 undef = .bool false := hd.2.2.1 rfl
    have h47 : a.tmps.getD 47 undef = .slice (some ⟨b2, o2, none⟩) n e2 := hd.1 rfl
    have h48 : a.tmps.getD 48 undef = .int .i64 q := hd.2.1 rfl
    exact rf_index (rf_open false rfl rfl h41) rfl _ _ _ rfl Try.underlying45 15 (fun _ => by kernel_rfl) _ _ _ _ q _ h47 h48 rfl S.hq rfl
  refine ⟨?_, ?_⟩
  · intro a _w _hB _hF hd
    have h41 : a.tmps.getD 41 undef = .bool false := hd.2.1 rfl
    have h49 : a.tmps.getD 49 undef = .pointer (some ⟨b2, o2 + q * 15, none⟩) := hd.1 rfl
    exact rf_faddr (rf_open false rfl rfl h41) rfl _ _ _ rfl _ _ 2 _ h49 (by omega) (fun _ _ => by kernel_rfl) rfl
  refine ⟨?_, ?_⟩
  · intro a _w hB _hF hd
    have h41 : a.tmps.getD 41 undef = .bool false := hd.2.1 rfl
    have h50 : a.tmps.getD 50 undef = .pointer (some ⟨b2, o2 + q * 15 + 2, none⟩) := hd.1 rfl
    exact rf_loadS (rf_open false rfl rfl h41) rfl _ _ rfl _ _ h50 _ (AccAt.down S.x2.acc hB).1 Try.underlying29 rfl Try.sizeAcc rfl
  refine ⟨?_, ?_⟩
  · intro a _w hB _hF hd
    have h41 : a.tmps.getD 41 undef = .bool false := hd.2.2.1 rfl
    have h46 : a.tmps.getD 46 undef = .agg (accC s.a B1 k c1) := hd.1 rfl
    have h51 : a.tmps.getD 51 undef = .agg (accC s.a B2 k c2) := hd.2.1 rfl
    refine step_call (rf_open false rfl rfl h41) rfl _ _ (rf_call_run Try.func16 (by kernel_rfl) (by kernel_rfl) _ _ rfl) ?_
    simp only [List.map_toArray, List.map_cons, List.map_nil, Act.eval, h46, h51]
    exact (sameAcc_true s.a B1 B2 k c1 c2 _ (S.x1.2.1.below hB) (S.x2.2.1.below hB) (Nat.le_trans S.x1.2.2.1 S.x1.2.2.2)).mono (by rintro x w1 ⟨rfl, hb⟩; exact ⟨_, rfl, hb, rfl⟩)
  refine ⟨?_, ?_⟩
  · intro a _w _hB _hF hd
    have h41 : a.tmps.getD 41 undef = .bool false := hd.2.1 rfl
    have h52 : a.tmps.getD 52 undef = .bool true := hd.1 rfl
    exact step_not (rf_open false rfl rfl h41) rfl _ _ rfl h52 rfl
  refine ⟨?_, ?_⟩
  · intro a _w _hB _hF hd
    have h41 : a.tmps.getD 41 undef = .bool false := hd.1 rfl
    have h53 : a.tmps.getD 53 undef = .bool false := hd.2.1 rfl
    exact rf_pick (guard_none rfl) rfl _ _ _ rfl false h41 h53
  trivial
theorem ssm_any {Q : Exit → Act → World → Prop} {l : List Oper} (hl : opsOf 6 Try.f28 = l) (hend : ∀ w : World, Below w0.heap.size w0 w → Q .normal (putAll a0 [(17, .slice (some ⟨b1, o1, none⟩) n e1), (18, .int .i64 q), (19, .pointer (some ⟨b1, o1 + q * 15, none⟩)), (20, .pointer (some ⟨b1, o1 + q * 15, none⟩)), (21, .int .i64 s.f), (22, .slice (some ⟨b2, o2, none⟩) n e2), (23, .int .i64 q), (24, .pointer (some ⟨b2, o2 + q * 15, none⟩)), (25, .pointer (some ⟨b2, o2 + q * 15, none⟩)), (26, .int .i64 s.f), (27, .bool false), (28, .bool false), (29, .slice (some ⟨b1, o1, none⟩) n e1), (30, .int .i64 q), (31, .pointer (some ⟨b1, o1 + q * 15, none⟩)), (32, .pointer (some ⟨b1, o1 + q * 15 + 1, none⟩)), (33, .int .i64 s.l), (34, .slice (some ⟨b2, o2, none⟩) n e2), (35, .int .i64 q), (36, .pointer (some ⟨b2, o2 + q * 15, none⟩)), (37, .pointer (some ⟨b2, o2 + q * 15 + 1, none⟩)), (38, .int .i64 s.l), (39, .bool false), (40, .bool false), (41, .bool false), (42, .slice (some ⟨b1, o1, none⟩) n e1), (43, .int .i64 q), (44, .pointer (some ⟨b1, o1 + q * 15, none⟩)), (45, .pointer (some ⟨b1, o1 + q * 15 + 2, none⟩)), (46, .agg (accC s.a B1 k c1)), (47, .slice (some ⟨b2, o2, none⟩) n e2), (48, .int .i64 q), (49, .pointer (some ⟨b2, o2 + q * 15, none⟩)), (50, .pointer (some ⟨b2, o2 + q * 15 + 2, none⟩)), (51, .agg (accC s.a B2 k c2)), (52, .bool true), (53, .bool false), (54, .bool false)]) w) :
    (Code.region 6 l.toArray true).wp Try.prog Q a0 w0 := by
  subst hl
  refine region_facts2 (ssmF s B1 B2 k c1 c2 b1 o1 b2 o2 n e1 e2 q) ssmD 55 S.size rfl (by kernel_rfl) (by kernel_rfl) (ssmF_mono _ _ _ _ _ _ _ _ _ _ _ _ _ _) (ssm_ok S) fun a w hB hF h => ?_
  have hv : valsAre a [(17, .slice (some ⟨b1, o1, none⟩) n e1), (18, .int .i64 q), (19, .pointer (some ⟨b1, o1 + q * 15, none⟩)), (20, .pointer (some ⟨b1, o1 + q * 15, none⟩)), (21, .int .i64 s.f), (22, .slice (some ⟨b2, o2, none⟩) n e2), (23, .int .i64 q), (24, .pointer (some ⟨b2, o2 + q * 15, none⟩)), (25, .pointer (some ⟨b2, o2 + q * 15, none⟩)), (26, .int .i64 s.f), (27, .bool false), (28, .bool false), (29, .slice (some ⟨b1, o1, none⟩) n e1), (30, .int .i64 q), (31, .pointer (some ⟨b1, o1 + q * 15, none⟩)), (32, .pointer (some ⟨b1, o1 + q * 15 + 1, none⟩)), (33, .int .i64 s.l), (34, .slice (some ⟨b2, o2, none⟩) n e2), (35, .int .i64 q), (36, .pointer (some ⟨b2, o2 + q * 15, none⟩)), (37, .pointer (some ⟨b2, o2 + q * 15 + 1, none⟩)), (38, .int .i64 s.l), (39, .bool false), (40, .bool false), (41, .bool false), (42, .slice (some ⟨b1, o1, none⟩) n e1), (43, .int .i64 q), (44, .pointer (some ⟨b1, o1 + q * 15, none⟩)), (45, .pointer (some ⟨b1, o1 + q * 15 + 2, none⟩)), (46, .agg (accC s.a B1 k c1)), (47, .slice (some ⟨b2, o2, none⟩) n e2), (48, .int .i64 q), (49, .pointer (some ⟨b2, o2 + q * 15, none⟩)), (50, .pointer (some ⟨b2, o2 + q * 15 + 2, none⟩)), (51, .agg (accC s.a B2 k c2)), (52, .bool true), (53, .bool false), (54, .bool false)] := by
    refine ⟨?_, ?_, ?_, ?_, ?_, ?_, ?_, ?_, ?_, ?_, ?_, ?_, ?_, ?_, ?_, ?_, ?_, ?_, ?_, ?_, ?_, ?_, ?_, ?_, ?_, ?_, ?_, ?_, ?_, ?_, ?_, ?_, ?_, ?_, ?_, ?_, ?_, ?_, trivial⟩
    · exact h 0 (some 17) rfl
    · exact h 1 (some 18) rfl
    · exact h 2 (some 19) rfl
    · exact h 3 (some 20) rfl
    · exact h 4 (some 21) rfl
    · exact h 5 (some 22) rfl
    · exact h 6 (some 23) rfl
    · exact h 7 (some 24) rfl
    · exact h 8 (some 25) rfl
    · exact h 9 (some 26) rfl
    · exact h 10 (some 27) rfl
    · exact h 11 (some 28) rfl
    · exact h 12 (some 29) rfl
    · exact h 13 (some 30) rfl
    · exact h 14 (some 31) rfl
    · exact h 15 (some 32) rfl
    · exact h 16 (some 33) rfl
    · exact h 17 (some 34) rfl
    · exact h 18 (some 35) rfl
    · exact h 19 (some 36) rfl
    · exact h 20 (some 37) rfl
    · exact h 21 (some 38) rfl
    · exact h 22 (some 39) rfl
    · exact h 23 (some 40) rfl
    · exact h 24 (some 41) rfl
    · exact h 25 (some 42) rfl
    · exact h 26 (some 43) rfl
    · exact h 27 (some 44) rfl
    · exact h 28 (some 45) rfl
    · exact h 29 (some 46) rfl
    · exact h 30 (some 47) rfl
    · exact h 31 (some 48) rfl
    · exact h 32 (some 49) rfl
    · exact h 33 (some 50) rfl
    · exact h 34 (some 51) rfl
    · exact h 35 (some 52) rfl
    · exact h 36 (some 53) rfl
    · exact h 37 (some 54) rfl
  rw [frame_is hF _ hv (by rfl) (by rfl)]
  exact hend w hB
end

/-- An aggregate, a session, a row of one session, their buckets the call's own. -/
def accX (N : Nat) (a : Ac) : Fact := fun v w => ∃ A k c, v = .agg (accC a A k c) ∧ OwnI w N (.slice A k c) a.h
def sesX (N : Nat) (s : Se) : Fact := fun v w => ∃ A k c, v = .agg (sesC s A k c) ∧ OwnI w N (.slice A k c) s.a.h
def boxX (N : Nat) (s : Se) : Fact := fun v w => ∃ g A k c, v = .slice (some ⟨g, 0, none⟩) 1 1 ∧ Has w g 60 (sesC s A k c) ∧ OwnI w N (.slice A k c) s.a.h
theorem mono_accX (N : Nat) (a : Ac) : Mono (accX N a) := fun _ _ _ hb ⟨A, k, c, e, h⟩ => ⟨A, k, c, e, h.below hb⟩
theorem mono_sesX (N : Nat) (s : Se) : Mono (sesX N s) := fun _ _ _ hb ⟨A, k, c, e, h⟩ => ⟨A, k, c, e, h.below hb⟩
theorem mono_boxX (N : Nat) (s : Se) : Mono (boxX N s) := fun _ _ _ hb ⟨g, A, k, c, e, h1, h2⟩ => ⟨g, A, k, c, e, has_below h1 hb, h2.below hb⟩
section
variable {D : List (Option Tmp)} {Φ : Fact} {o : Oper} {a : Act} {w : World}
theorem build3_run (f l : Int) (z : Ac) (B : Option Addr) (k c : Nat) (w : World) : (Instr.build 60 #[(0, .int .i64 f), (1, .int .i64 l), (2, .agg (accC z B k c))]).run Try.prog w = .ok (.agg (sesC ⟨f, l, z⟩ B k c)) w := by kernel_rfl
theorem rf_build3 (hw : Region.wanted o (yieldD D a.tmps) = true) {t : Tmp} (hd : o.dst = some t) (x y z : Operand) (ho : o.op = .build 60 #[(0, x), (1, y), (2, z)]) {f l : Int} {q : Ac} {B : Option Addr} {k c : Nat} (hx : a.eval x = .int .i64 f) (hy : a.eval y = .int .i64 l) (hz : a.eval z = .agg (accC q B k c))
    (h : Φ (.agg (sesC ⟨f, l, q⟩ B k c)) w) : StepD Try.prog D Φ o a w :=
  step_val hw hd _ w (by
    unfold execOp
    rw [ho]
    simp only [List.map_toArray, List.map_cons, List.map_nil, hx, hy, hz, Sem.run_bind, build3_run, Result.andThen_ok]
    rfl) (Below.refl _ _) h
theorem rf_box (hw : Region.wanted o (yieldD D a.tmps) = true) {t : Tmp} (hd : o.dst = some t) (x : Operand) (ho : o.op = .buildSlice 45 1 #[(0, x)]) {s : Se} {B : Option Addr} {k c : Nat} (hx : a.eval x = .agg (sesC s B k c))
    (h : ∀ w', Below w.heap.size w w' → Has w' w.heap.size 60 (sesC s B k c) → Φ (.slice (some ⟨w.heap.size, 0, none⟩) 1 1) w') : StepD Try.prog D Φ o a w :=
  step_val hw hd _ (w.alloc (.cells (sesC s B k c) 60)) (by
    unfold execOp
    rw [ho]
    simp only [List.map_toArray, List.map_cons, List.map_nil, hx, Sem.run_bind, lit1s_run, Result.andThen_ok]
    rfl) ((Below.refl _ _).alloc (Nat.le_refl _) _) (h _ ((Below.refl _ _).alloc (Nat.le_refl _) _) (Has.made _ _ _))
end
def scpD : List (Option Tmp) := [some 11, some 12, some 13, some 14, some 15, some 16, some 17, some 18, some 19, some 20, some 21, some 22, some 23, some 24, some 25, some 26, some 27, some 28, some 29, some 30, some 3]
def scpF (s : Se) (B D : Option Addr) (k c b fo n e N ld d q : Nat) : List Fact := [isV (.slice D ld d), isV (.slice (some ⟨b, fo, none⟩) n e), isV (.int .i64 q), isV (.pointer (some ⟨b, fo + q * 15, none⟩)), isV (.pointer (some ⟨b, fo + q * 15, none⟩)), isV (.int .i64 s.f), isV (.slice (some ⟨b, fo, none⟩) n e), isV (.int .i64 q), isV (.pointer (some ⟨b, fo + q * 15, none⟩)), isV (.pointer (some ⟨b, fo + q * 15 + 1, none⟩)), isV (.int .i64 s.l), isV (.slice (some ⟨b, fo, none⟩) n e), isV (.int .i64 q), isV (.pointer (some ⟨b, fo + q * 15, none⟩)), isV (.pointer (some ⟨b, fo + q * 15 + 2, none⟩)), isV (.agg (accC s.a B k c)), accX N s.a, sesX N s, boxX N s]
theorem scpF_mono (s : Se) (B D : Option Addr) (k c b fo n e N ld d q : Nat) : ∀ φ ∈ scpF s B D k c b fo n e N ld d q, Mono φ := by
  unfold scpF
  repeat (first | exact monos_nil | (refine monos_cons (mono_isV _) ?_) | (refine monos_cons (mono_accX _ _) ?_) | (refine monos_cons (mono_sesX _ _) ?_) | (refine monos_cons (mono_boxX _ _) ?_))
structure scpS (s : Se) (B D : Option Addr) (k c b fo n e N ld d q : Nat) (a0 : Act) (w0 : World) : Prop where
  size : a0.tmps.size = 32
  v0 : a0.tmps.getD 0 undef = .slice (some ⟨b, fo, none⟩) n e
  v3 : a0.tmps.getD 3 undef = .slice D ld d
  v4 : a0.tmps.getD 4 undef = .int .i64 q
  hN : N ≤ w0.heap.size
  x1 : SesAt w0 b (fo + q * 15) s B k c
  hq : q < n
  hk : k * 8 ≤ 140737488351232
  hnil : B = none → c = 0
section
variable {s : Se} {B D : Option Addr} {k c b fo n e N ld d q : Nat} {a0 : Act} {w0 : World} (S : scpS s B D k c b fo n e N ld d q a0 w0)
include S
set_option maxRecDepth 100000 in
set_option maxHeartbeats 8000000 in
theorem scp_ok : AllOps (fun j o => ∀ (a : Act) (w : World), Below w0.heap.size w0 w → FrD (scpD.take 19) a0 a → needs scpD (scpF s B D k c b fo n e N ld d q) a w o.after.toList → StepD Try.prog scpD (factAt (scpF s B D k c b fo n e N ld d q) j) o a w) 0 ((opsOf 5 Try.f24).take 19) := by
  simp only [opsOf, Try.f24, opsAt, Option.bind, Option.or, Option.getD, reduceCtorEq, if_true, if_false, Nat.reduceEqDiff, List.take_succ_cons, List.take_zero]
  refine ⟨?_, ?_⟩
  · intro _a _w _hB hF _hd
    exact step_move (guard_none rfl) rfl _ rfl ((hF.other 3 rfl).trans S.v3)
  refine ⟨?_, ?_⟩
  · intro _a _w _hB hF _hd
    exact step_move (guard_none rfl) rfl _ rfl ((hF.other 0 rfl).trans S.v0)
  refine ⟨?_, ?_⟩
  · intro _a _w _hB hF _hd
    exact step_move (guard_none rfl) rfl _ rfl ((hF.other 4 rfl).trans S.v4)
  refine ⟨?_, ?_⟩
  · intro a _w _hB _hF hd
    have h12 : a.tmps.getD 12 undef = .slice (some ⟨b, fo, none⟩) n e := hd.1 rfl
    have h13 : a.tmps.getD 13 undef = .int .i64 q := hd.2.1 rfl
    exact rf_index (guard_none rfl) rfl _ _ _ rfl Try.underlying45 15 (fun _ => by kernel_rfl) _ _ _ _ q _ h12 h13 rfl S.hq rfl
  refine ⟨?_, ?_⟩
  · intro a _w _hB _hF hd
    have h14 : a.tmps.getD 14 undef = .pointer (some ⟨b, fo + q * 15, none⟩) := hd.1 rfl
    exact rf_faddr (guard_none rfl) rfl _ _ _ rfl _ _ 0 _ h14 (by omega) (fun _ _ => by kernel_rfl) rfl
  refine ⟨?_, ?_⟩
  · intro a _w hB _hF hd
    have h15 : a.tmps.getD 15 undef = .pointer (some ⟨b, fo + q * 15, none⟩) := hd.1 rfl
    exact rf_loadi (guard_none rfl) rfl _ rfl _ _ h15 _ (rf_cell hB (S.x1.cell)) rfl
  refine ⟨?_, ?_⟩
  · intro _a _w _hB hF _hd
    exact step_move (guard_none rfl) rfl _ rfl ((hF.other 0 rfl).trans S.v0)
  refine ⟨?_, ?_⟩
  · intro _a _w _hB hF _hd
    exact step_move (guard_none rfl) rfl _ rfl ((hF.other 4 rfl).trans S.v4)
  refine ⟨?_, ?_⟩
  · intro a _w _hB _hF hd
    have h17 : a.tmps.getD 17 undef = .slice (some ⟨b, fo, none⟩) n e := hd.1 rfl
    have h18 : a.tmps.getD 18 undef = .int .i64 q := hd.2.1 rfl
    exact rf_index (guard_none rfl) rfl _ _ _ rfl Try.underlying45 15 (fun _ => by kernel_rfl) _ _ _ _ q _ h17 h18 rfl S.hq rfl
  refine ⟨?_, ?_⟩
  · intro a _w _hB _hF hd
    have h19 : a.tmps.getD 19 undef = .pointer (some ⟨b, fo + q * 15, none⟩) := hd.1 rfl
    exact rf_faddr (guard_none rfl) rfl _ _ _ rfl _ _ 1 _ h19 (by omega) (fun _ _ => by kernel_rfl) rfl
  refine ⟨?_, ?_⟩
  · intro a _w hB _hF hd
    have h20 : a.tmps.getD 20 undef = .pointer (some ⟨b, fo + q * 15 + 1, none⟩) := hd.1 rfl
    exact rf_loadi (guard_none rfl) rfl _ rfl _ _ h20 _ (rf_cell hB (S.x1.at_ 1 (sesC_1 _ _ _ _))) rfl
  refine ⟨?_, ?_⟩
  · intro _a _w _hB hF _hd
    exact step_move (guard_none rfl) rfl _ rfl ((hF.other 0 rfl).trans S.v0)
  refine ⟨?_, ?_⟩
  · intro _a _w _hB hF _hd
    exact step_move (guard_none rfl) rfl _ rfl ((hF.other 4 rfl).trans S.v4)
  refine ⟨?_, ?_⟩
  · intro a _w _hB _hF hd
    have h22 : a.tmps.getD 22 undef = .slice (some ⟨b, fo, none⟩) n e := hd.1 rfl
    have h23 : a.tmps.getD 23 undef = .int .i64 q := hd.2.1 rfl
    exact rf_index (guard_none rfl) rfl _ _ _ rfl Try.underlying45 15 (fun _ => by kernel_rfl) _ _ _ _ q _ h22 h23 rfl S.hq rfl
  refine ⟨?_, ?_⟩
  · intro a _w _hB _hF hd
    have h24 : a.tmps.getD 24 undef = .pointer (some ⟨b, fo + q * 15, none⟩) := hd.1 rfl
    exact rf_faddr (guard_none rfl) rfl _ _ _ rfl _ _ 2 _ h24 (by omega) (fun _ _ => by kernel_rfl) rfl
  refine ⟨?_, ?_⟩
  · intro a _w hB _hF hd
    have h25 : a.tmps.getD 25 undef = .pointer (some ⟨b, fo + q * 15 + 2, none⟩) := hd.1 rfl
    exact rf_loadS (guard_none rfl) rfl _ _ rfl _ _ h25 _ (AccAt.down S.x1.acc hB).1 Try.underlying29 rfl Try.sizeAcc rfl
  refine ⟨?_, ?_⟩
  · intro a _w hB _hF hd
    have h26 : a.tmps.getD 26 undef = .agg (accC s.a B k c) := hd.1 rfl
    refine step_call (guard_none rfl) rfl _ _ (rf_call_run Try.func36 (by kernel_rfl) (by kernel_rfl) _ _ rfl) ?_
    simp only [List.map_toArray, List.map_cons, List.map_nil, Act.eval, h26]
    exact (copyown_any s.a B k c _ (S.x1.2.1.below hB) S.hk S.hnil).mono (by rintro e w1 ⟨A, k2, c2, rfl, ho, hb⟩; exact ⟨_, rfl, hb, A, k2, c2, rfl, ho.mono (Nat.le_trans S.hN hB.size)⟩)
  refine ⟨?_, ?_⟩
  · intro a w _hB _hF hd
    have h16 : a.tmps.getD 16 undef = .int .i64 s.f := hd.1 rfl
    have h21 : a.tmps.getD 21 undef = .int .i64 s.l := hd.2.1 rfl
    obtain ⟨A27, k27, c27, h27, p27⟩ : accX N s.a (a.tmps.getD 27 undef) w := hd.2.2.1 rfl
    exact rf_build3 (guard_none rfl) rfl _ _ _ rfl h16 h21 h27 ⟨_, _, _, rfl, p27⟩
  refine ⟨?_, ?_⟩
  · intro a w _hB _hF hd
    obtain ⟨A28, k28, c28, h28, p28⟩ : sesX N s (a.tmps.getD 28 undef) w := hd.1 rfl
    exact rf_box (guard_none rfl) rfl _ rfl h28 (fun w' hb hh => ⟨_, _, _, _, rfl, hh, p28.below hb⟩)
  trivial
theorem scp_any {Q : Exit → Act → World → Prop} {l : List Oper} (hl : opsOf 5 Try.f24 = l) (hend : ∀ (A27 : Option Addr) (k27 : Nat) (c27 : Nat), ∀ (A28 : Option Addr) (k28 : Nat) (c28 : Nat), ∀ (g29 : Nat) (A29 : Option Addr) (k29 : Nat) (c29 : Nat), ∀ w : World, Below w0.heap.size w0 w → OwnI w N (.slice A27 k27 c27) s.a.h → OwnI w N (.slice A28 k28 c28) s.a.h → (Has w g29 60 (sesC s A29 k29 c29) ∧ OwnI w N (.slice A29 k29 c29) s.a.h) → wpList Try.prog l.toArray Q (l.drop 19) (putAll a0 [(11, .slice D ld d), (12, .slice (some ⟨b, fo, none⟩) n e), (13, .int .i64 q), (14, .pointer (some ⟨b, fo + q * 15, none⟩)), (15, .pointer (some ⟨b, fo + q * 15, none⟩)), (16, .int .i64 s.f), (17, .slice (some ⟨b, fo, none⟩) n e), (18, .int .i64 q), (19, .pointer (some ⟨b, fo + q * 15, none⟩)), (20, .pointer (some ⟨b, fo + q * 15 + 1, none⟩)), (21, .int .i64 s.l), (22, .slice (some ⟨b, fo, none⟩) n e), (23, .int .i64 q), (24, .pointer (some ⟨b, fo + q * 15, none⟩)), (25, .pointer (some ⟨b, fo + q * 15 + 2, none⟩)), (26, .agg (accC s.a B k c)), (27, .agg (accC s.a A27 k27 c27)), (28, .agg (sesC s A28 k28 c28)), (29, .slice (some ⟨g29, 0, none⟩) 1 1)]) w) :
    (Code.region 5 l.toArray true).wp Try.prog Q a0 w0 := by
  subst hl
  refine region_head2 (scpF s B D k c b fo n e N ld d q) scpD 19 32 S.size rfl (by kernel_rfl) (by kernel_rfl) (by kernel_rfl) (scpF_mono _ _ _ _ _ _ _ _ _ _ _ _ _) (scp_ok S) fun a w hB hF h => ?_
  obtain ⟨A27, k27, c27, h27, p27⟩ : accX N s.a (a.tmps.getD 27 undef) w := h 16 (some 27) (by omega) rfl
  obtain ⟨A28, k28, c28, h28, p28⟩ : sesX N s (a.tmps.getD 28 undef) w := h 17 (some 28) (by omega) rfl
  obtain ⟨g29, A29, k29, c29, h29, p29⟩ : boxX N s (a.tmps.getD 29 undef) w := h 18 (some 29) (by omega) rfl
  have hv : valsAre a [(11, .slice D ld d), (12, .slice (some ⟨b, fo, none⟩) n e), (13, .int .i64 q), (14, .pointer (some ⟨b, fo + q * 15, none⟩)), (15, .pointer (some ⟨b, fo + q * 15, none⟩)), (16, .int .i64 s.f), (17, .slice (some ⟨b, fo, none⟩) n e), (18, .int .i64 q), (19, .pointer (some ⟨b, fo + q * 15, none⟩)), (20, .pointer (some ⟨b, fo + q * 15 + 1, none⟩)), (21, .int .i64 s.l), (22, .slice (some ⟨b, fo, none⟩) n e), (23, .int .i64 q), (24, .pointer (some ⟨b, fo + q * 15, none⟩)), (25, .pointer (some ⟨b, fo + q * 15 + 2, none⟩)), (26, .agg (accC s.a B k c)), (27, .agg (accC s.a A27 k27 c27)), (28, .agg (sesC s A28 k28 c28)), (29, .slice (some ⟨g29, 0, none⟩) 1 1)] := by
    refine ⟨?_, ?_, ?_, ?_, ?_, ?_, ?_, ?_, ?_, ?_, ?_, ?_, ?_, ?_, ?_, ?_, ?_, ?_, ?_, trivial⟩
    · exact h 0 (some 11) (by omega) rfl
    · exact h 1 (some 12) (by omega) rfl
    · exact h 2 (some 13) (by omega) rfl
    · exact h 3 (some 14) (by omega) rfl
    · exact h 4 (some 15) (by omega) rfl
    · exact h 5 (some 16) (by omega) rfl
    · exact h 6 (some 17) (by omega) rfl
    · exact h 7 (some 18) (by omega) rfl
    · exact h 8 (some 19) (by omega) rfl
    · exact h 9 (some 20) (by omega) rfl
    · exact h 10 (some 21) (by omega) rfl
    · exact h 11 (some 22) (by omega) rfl
    · exact h 12 (some 23) (by omega) rfl
    · exact h 13 (some 24) (by omega) rfl
    · exact h 14 (some 25) (by omega) rfl
    · exact h 15 (some 26) (by omega) rfl
    · exact h27
    · exact h28
    · exact h29
  rw [frame_is hF _ hv (by rfl) (by rfl)]
  exact hend A27 k27 c27 A28 k28 c28 g29 A29 k29 c29 w hB p27 p28 p29
end

end Go.Proofs.Ytgdeaddfkcokpaa

namespace Go.Proofs.Ytgdeaddfkcokpaa
open Go.RowKit

set_option maxRecDepth 100000 in
set_option maxHeartbeats 2000000 in
theorem samesess_any (A B : Option Addr) (n c d : Nat) (ss : List Se) (w : World) (h1 : Sess w A n ss) (h2 : Sess w B n ss) (hn : n ≤ 1000000000) :
    Calls Try.prog 28 #[.slice A n c, .slice B n d] w fun e w' => e = .returned (.bool true) ∧ Below w.heap.size w w' := by
  have H1 := Lib.hid h1; clear h1
  have H2 := Lib.hid h2; clear h2
  go_enter Try.func28, Try.ntmps28
  go_wp2_with fail
  go_loopw [5] (fun i wr => ∃ j : Nat, j ≤ n ∧ i = .int .i64 j ∧ Hid (Below w.heap.size w wr)) (fun i _ => n - (intOf i).toNat)
  case atStart => exact ⟨0, Nat.zero_le _, rfl, Below.refl _ _⟩
  case round =>
    obtain ⟨j, hj, rfl, HW⟩ := hrel
    by_cases hlt : j < n
    · obtain ⟨b1, o1, rfl, i1⟩ := (H1.out.below HW.out).2 (by omega)
      obtain ⟨B1, k1, c1, x1⟩ := i1 j hlt
      obtain ⟨b2, o2, rfl, i2⟩ := (H2.out.below HW.out).2 (by omega)
      obtain ⟨B2, k2, c2, x2⟩ := i2 j hlt
      obtain rfl : k2 = k1 := x2.2.1.1.symm.trans x1.2.1.1
      have X1 := Lib.hid x1; clear x1 i1
      have X2 := Lib.hid x2; clear x2 i2
      go_upto_region 6 with fail
      refine ssm_any (s := nthE ss j) (B1 := B1) (B2 := B2) (k := k2) (c1 := c1) (c2 := c2) (b1 := b1) (o1 := o1) (b2 := b2) (o2 := o2) (n := n) (e1 := c) (e2 := d) (q := j) ⟨rfl, rfl, rfl, rfl, X1.out, X2.out, hlt⟩ (by kernel_rfl) ?_
      intro w9 hB9
      have HB9 := Lib.hid (HW.out.trans (hB9.mono HW.out.size))
      clear hB9 X1 X2 HW
      simp only [putAll, Act.put, List.setIfInBounds_toArray, List.set_cons_succ, List.set_cons_zero]
      go_wp2_with fail
      go_roundw
      case rel => exact ⟨j + 1, by omega, by go_num, HB9⟩
      case measure => simp [intOf]; omega
    · have hjn : j = n := by omega
      subst hjn
      go_wp2_with fail
      go_ret
      exact ⟨rfl, HW.out⟩

/-- A slice of sessions that came in: each with buckets that memory bears. -/
def SessR (w : World) (A : Option Addr) (n : Nat) (ss : List Se) : Prop :=
  ss.length = n ∧ (0 < n → ∃ b o : Nat, A = some ⟨b, o, none⟩ ∧ ∀ i, i < n → ∃ B k c, SesAt w b (o + i * 15) (nthE ss i) B k c ∧ (B = none → c = 0) ∧ k * 8 ≤ 140737488351232)
theorem SessR.sess {w : World} {A : Option Addr} {n : Nat} {ss : List Se} (h : SessR w A n ss) : Sess w A n ss :=
  ⟨h.1, fun hn => by
    obtain ⟨b, o, e, hi⟩ := h.2 hn
    exact ⟨b, o, e, fun i hlt => by obtain ⟨B, k, c, hx, _⟩ := hi i hlt; exact ⟨B, k, c, hx⟩⟩⟩
theorem SessR.below {w w' : World} {A : Option Addr} {n : Nat} {ss : List Se} (h : SessR w A n ss) (hb : Below w.heap.size w w') : SessR w' A n ss :=
  ⟨h.1, fun hn => by
    obtain ⟨b, o, e, hi⟩ := h.2 hn
    exact ⟨b, o, e, fun i hlt => by obtain ⟨B, k, c, hx, hy⟩ := hi i hlt; exact ⟨B, k, c, hx.below hb, hy⟩⟩⟩
/-- The row of copies so far. -/
structure CeS (w : World) (ss : List Se) (j : Nat) (v : Value) (rs : List Rs) (wr : World) : Prop where
  own : OwnE wr w.heap.size v rs
  ses : rs.map (·.s) = ss.take j
  keep : Below w.heap.size w wr

set_option maxRecDepth 100000 in
set_option maxHeartbeats 4000000 in
theorem copysess_any (A : Option Addr) (n c : Nat) (ss : List Se) (w : World) (hr : SessR w A n ss) (hn : n ≤ 1000000000) :
    Calls Try.prog 24 #[.slice A n c] w fun e w' => ∃ A' c' rs, e = .returned (.slice A' n c') ∧ OwnE w' w.heap.size (.slice A' n c') rs ∧ rs.map (·.s) = ss ∧ Below w.heap.size w w' := by
  have HR := Lib.hid hr
  have HL := Lib.hid hr.1
  have hP0 : Hid (CeS w ss 0 (.slice none 0 0) [] w) := ⟨OwnE.nil _ _, rfl, Below.refl _ _⟩
  clear hr
  go_enter Try.func24, Try.ntmps24
  go_wp2_with fail
  go_loopw [3, 4] (fun x i wr => ∃ (j : Nat) (D : Option Addr) (e : Nat) (rs : List Rs), j ≤ n ∧ i = .int .i64 j ∧ x = .slice D j e ∧ Hid (CeS w ss j (.slice D j e) rs wr)) (fun _ i _ => n - (intOf i).toNat)
  case atStart => exact ⟨0, none, 0, [], Nat.zero_le _, rfl, rfl, hP0⟩
  case round =>
    clear hP0
    obtain ⟨j, D, e, rs, hj, rfl, rfl, HP⟩ := hrel
    by_cases hlt : j < n
    · obtain ⟨b, o, rfl, hi⟩ := (HR.out.below HP.out.keep).2 (by omega)
      obtain ⟨Bj, kj, cj, hAt, hnil, hk8⟩ := hi j hlt
      clear hi
      have HTK : Hid (ss.take (j + 1) = ss.take j ++ [nthE ss j]) := by
        have hjl : j < ss.length := by rw [HL.out]; exact hlt
        rw [Hid, List.take_succ_eq_append_getElem hjl]
        simp [nthE, hjl]
      generalize nthE ss j = s at hAt HTK
      have HAT := Lib.hid hAt; clear hAt
      have HNIL := Lib.hid hnil; clear hnil
      have HSZ : Hid (w.heap.size ≤ wr.heap.size) := HP.out.keep.size
      go_upto_region 5 with fail
      refine scp_any (s := s) (B := Bj) (D := D) (k := kj) (c := cj) (b := b) (fo := o) (n := n) (e := c) (N := w.heap.size) (ld := j) (d := e) (q := j) ⟨rfl, rfl, rfl, rfl, HSZ.out, HAT.out, hlt, hk8, HNIL.out⟩ (by kernel_rfl) ?_
      intro A27 k27 c27 A28 k28 c28 g29 A29 k29 c29 w2 hb2 _ _ h29
      obtain ⟨h29, o29⟩ := h29
      have HP2 : Hid (CeS w ss j (.slice D j e) rs w2) := ⟨HP.out.own.below hb2, HP.out.ses, HP.out.keep.trans (hb2.mono HP.out.keep.size)⟩
      have H29 := Lib.hid h29
      have O29 := Lib.hid o29
      have HNE : Hid (0 < k29 → ∀ ad, A29 = some ad → (Value.slice D j e).ownBlock ≠ some ad.block) := fun _ ad ea => HP2.out.own.row.other O29.out ad.block (by rw [ea]; rfl)
      have HRL : Hid (rs.length = j) := HP2.out.own.row.cap.2
      clear hb2 h29 o29 HP HAT HNIL HSZ
      simp only [putAll, Act.put, List.setIfInBounds_toArray, List.set_cons_succ, List.set_cons_zero, List.drop_succ_cons, List.drop_zero]
      refine app_rowE (v := .slice D j e) rfl _ _ rfl rfl HP2.out.own.row rfl (r := ⟨s, A29, k29, c29⟩) H29.out O29.out.ints O29.out.caps.2 HNE.out (by rw [HRL.out]; omega) HP2.out.keep.size ?_
      intro v' w' hown hgr
      obtain ⟨D2, e2, rfl, _⟩ := hown.form
      have HP3 : Hid (CeS w ss (j + 1) (.slice D2 (j + 1) e2) (rs ++ [⟨s, A29, k29, c29⟩]) w') := by
        have h := HP2.out.own.put (r := ⟨s, A29, k29, c29⟩) O29.out hown hgr
        rw [show (rs ++ [(⟨s, A29, k29, c29⟩ : Rs)]).length = j + 1 by simp [HRL.out]] at h
        exact ⟨h, by rw [List.map_append, HP2.out.ses, HTK.out]; rfl, HP2.out.keep.trans hgr.below⟩
      clear hown hgr HP2 H29 O29 HNE
      go_wp2_with fail
      go_roundw
      case rel => exact ⟨j + 1, D2, e2, _, by omega, by go_num, by simp [HRL.out], HP3⟩
      case measure => simp [intOf]; omega
    · have hjm : j = n := by omega
      subst hjm
      go_wp2
      go_ret
      exact ⟨D, e, rs, rfl, HP.out.own, by rw [HP.out.ses, List.take_of_length_le (by rw [HL.out]; exact Nat.le_refl _)], HP.out.keep⟩

/-- What a call made may be copied. -/
theorem OwnE.sessR {w : World} {base : Nat} {A : Option Addr} {n c : Nat} {rs : List Rs} {T : List Se} (h : OwnE w base (.slice A n c) rs) (e : rs.map (·.s) = T) (hk : ∀ s, s ∈ T → s.a.h.length ≤ 9) : SessR w A n T := by
  refine ⟨(h.sess e).1, fun hn => ?_⟩
  obtain ⟨hl, g, rfl, _, hi⟩ := h.row.cells hn
  refine ⟨g, 0, rfl, fun i hlt => ?_⟩
  have hi2 : i < rs.length := by omega
  have hx := hi i hi2
  have hm : rs[i] ∈ rs := List.getElem_mem hi2
  have es : nthE T i = rs[i].s := by rw [← e]; simp [nthE, hi2]
  rw [es, Nat.zero_add]
  refine ⟨_, _, _, hx, fun hA => ?_, ?_⟩
  · have ho := h.own _ hm
    rcases ho.2 with ⟨e0, _⟩ | ⟨g', cap, cur, e0, _⟩
    · injection e0
    · injection e0 with e1; rw [e1] at hA; cases hA
  · have h1 := (h.own _ hm).caps.1
    have h2 := hk rs[i].s (by rw [← e]; exact List.mem_map.2 ⟨_, hm, rfl⟩)
    omega
theorem rowE_mk {w : World} {base b2 : Nat} {v : Value} {rs : List Rs} (hrow : w.ownsRow base 60 15 v rs.length (rowE rs)) (hist : ∀ r, r ∈ rs → OwnI w b2 (.slice r.A r.k r.c) r.s.a.h) : RowE w base v rs := by
  refine ⟨hrow, fun r hr => ⟨(hist r hr).ints, (hist r hr).caps.2⟩, fun r hr h0 ad ea e => ?_⟩
  rcases hrow.2 with ⟨ev, _⟩ | ⟨g', cap, cur, ev, _, hh, _⟩
  · simp [ev, Value.ownBlock] at e
  · have e1 : g' = ad.block := by simpa [ev, Value.ownBlock] using e
    rcases (hist r hr).2 with ⟨eu, _⟩ | ⟨g2, cap2, cur2, eu, _, hh2, _⟩
    · injection eu with eu; rw [eu] at ea; cases ea
    · injection eu with eu
      rw [eu] at ea
      injection ea with ea
      subst ea
      subst e1
      exact has_types (show Has w _ 3 cur2 from hh2) (show Has w _ 60 cur from hh) (by decide)
/-- 's = append(s, t...)' of two rows of sessions in a walk. -/
theorem app_rowsE {ops : Array Oper} {rest : List Oper} {op : Oper} {p : Act} {w : World} {Q : Exit → Act → World → Prop} (hgd : op.guard = none) (s x : Operand)
    (ho : op.op = .call { callee := .builtin .append, args := #[s, x], argTypes := #[45, 45] })
    {base n c : Nat} {A : Option Addr} {rs : List Rs} (hs : p.eval s = .slice A n c) (hown : OwnE w base (.slice A n c) rs) {b2 n2 c2 : Nat} {A2 : Option Addr} {rt : List Rs} (hx : p.eval x = .slice A2 n2 c2) (hy : OwnE w b2 (.slice A2 n2 c2) rt)
    (hn : n + n2 ≤ 1000000000) (hbase : base ≤ w.heap.size)
    (h : ∀ A' c' w', Sess w' A' (n + n2) (rs.map (·.s) ++ rt.map (·.s)) → Grew w w' base (.slice A n c) (.slice A' (n + n2) c') → wpList Try.prog ops Q rest (p.put op.dst (.slice A' (n + n2) c')) w') : wpList Try.prog ops Q (op :: rest) p w := by
  obtain ⟨i0, hi, hz, hs0, hy0⟩ := info_parts Try.infoSes
  have l1 := hown.row.cap.2
  have l2 := hy.row.cap.2
  cases A2 with
  | none =>
    have hc : c2 = 0 ∧ n2 = 0 := by
      rcases hy.row.row.2 with ⟨e0, h0⟩ | ⟨g', cap, cur, e0, _⟩
      · injection e0 with _ e2 e3; omega
      · injection e0 with e1; cases e1
    obtain ⟨rfl, rfl⟩ := hc
    obtain rfl : rt = [] := List.eq_nil_of_length_eq_zero l2
    exact wpList_append_own_none hgd s x 45 ho base 60 i0 15 Try.underlying45 hi (.slice A n c) rs.length (rowE rs) hs hown.row.row hx (h A c w (by rw [List.map_nil, List.append_nil]; exact hown.row.reads) ⟨Below.refl _ _, fun _ _ _ => rfl, .inl rfl⟩)
  | some ad =>
    refine wpList_append_own_at w hgd s x 45 ho base 60 i0 _ 15 136 Try.underlying45 hi hz hs0 hy0 rfl (by omega) (.slice A n c) rs.length (rowE rs) hs hown.row.row ad n2 c2 (rowE rt) hx (by rw [rowE_len, l2])
      (fun j u hu => ?_) (fun u hu => ?_) (by unfold maxLen; omega) (by omega) hbase (fun v' w' h1 h2 _ h4 => ?_)
    · have hj : j < n2 * 15 := by have := (List.getElem?_eq_some_iff.1 hu).1; rwa [rowE_len, l2] at this
      obtain ⟨_, g, eg, _, _⟩ := hy.row.cells (by omega)
      injection eg with eg
      subst eg
      have hq := hy.row.row
      rw [l2] at hq
      rw [Addr.add_mid, Nat.zero_add, hq.cellAt j (by omega)]
      exact hu
    · obtain ⟨z, _, hz⟩ := List.mem_flatMap.1 hu
      have := sesC_one z.s z.A z.k z.c
      rw [Array.all_eq_true_iff_forall_mem] at this
      exact this u (by simpa using hz)
    · have hg : Grew w w' base (.slice A n c) v' := ⟨⟨h2.os, h2.tape, h2.output, h2.size, fun k hk => h2.block k (by omega) (fun e => by have := hown.row.row.lt k e.symm; omega)⟩, fun k hk hne => h2.block k hk (fun e => hne e.symm), h4⟩
      have hrow : RowE w' base v' (rs ++ rt) := rowE_mk (b2 := 0) (by rw [List.length_append, l2, rowE_append]; exact h1) fun r hr => by
        rcases List.mem_append.1 hr with hr | hr
        · exact ((hown.own r hr).grew hg (hown.row.other (hown.own r hr))).mono (Nat.zero_le _)
        · exact ((hy.own r hr).grew hg (hown.row.other (hy.own r hr))).mono (Nat.zero_le _)
      obtain ⟨A', c', rfl, _⟩ := hrow.form
      have e : (rs ++ rt).length = n + n2 := by rw [List.length_append, l1, l2]
      rw [e] at hrow hg ⊢
      have hrd := hrow.reads
      rw [List.map_append] at hrd
      exact h A' c' w' hrd hg

end Go.Proofs.Ytgdeaddfkcokpaa
