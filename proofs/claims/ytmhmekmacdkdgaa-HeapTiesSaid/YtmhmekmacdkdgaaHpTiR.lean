/-
  HeapTies' drawn region that pushes: the facts of its reading head (written by gen/hplaw.py).
-/
import Derived.Test.YtmhmekmacdkdgaaHpBits
import Derived.Test.YtmhmekmacdkdgaaHpOne
import Derived.Test.YtmhmekmacdkdgaaHead2
namespace Go.Proofs.Ytmhmekmacdkdgaa
open Go.RowKit

def hti10D : List (Option Tmp) := [some 34, some 35, some 36, some 37, some 38, some 39, some 40, some 41, some 42, some 43, some 44, some 45, some 46, some 47, some 48, some 49, some 50, some 51, some 52, some 53, some 54, some 55, some 7]
def hti10F (g b f n c k1 B : Nat) (x r1 r2 q v : Int) : List Fact := [isV (.pointer (some ⟨g, 0, none⟩)), isV (.slice (some ⟨b, f, none⟩) n c), isV (.int .i64 k1), isV (.pointer (some ⟨b, f + k1, none⟩)), isV (.int .i64 x), isV (.int .i64 r1), isV (.slice (some ⟨b, f, none⟩) n c), isV (.int .i64 k1), isV (.pointer (some ⟨b, f + k1, none⟩)), isV (.int .i64 x), isV (.int .i64 (x / 2)), isV (.int .i64 r2), isV (.int .i64 q), isV (.slice (some ⟨b, f, none⟩) n c), isV (.int .i64 k1), isV (.pointer (some ⟨b, f + k1, none⟩)), isV (.int .i64 x), isV (.int .i64 (x / 4)), isV (.int .i64 v), isV (.agg #[.int .i64 r1, .int .i64 0, .int .i64 q, .int .i64 v]), row1B B ⟨r1, 0, q, v⟩]
theorem hti10F_mono (g b f n c k1 B : Nat) (x r1 r2 q v : Int) : ∀ φ ∈ hti10F g b f n c k1 B x r1 r2 q v, Mono φ := by
  unfold hti10F
  repeat (first | exact monos_nil | (refine monos_cons (mono_isV _) ?_) | (refine monos_cons (row1B_mono _ _) ?_))
structure hti10S (g b f n c k1 B : Nat) (x r1 r2 q v : Int) (a0 : Act) (w0 : World) : Prop where
  size : a0.tmps.size = 91
  v0 : a0.tmps.getD 0 undef = .slice (some ⟨b, f, none⟩) n c
  v3 : a0.tmps.getD 3 undef = .pointer (some ⟨g, 0, none⟩)
  v6 : a0.tmps.getD 6 undef = .int .i64 k1
  eB : w0.heap.size = B
  cx : w0.cell? ⟨b, f + k1, none⟩ = some (.int .i64 x)
  lk : k1 < n
  e1 : bits .and .i64 x 1 = r1
  e2 : bits .and .i64 (x / 2) 1 = r2
  e3 : 1 + r2 = q
  e31 : 1 ≤ q ∧ q ≤ 2
  e4 : bits .and .i64 (x / 4) 3 = v
section
variable {g b f n c k1 B : Nat} {x r1 r2 q v : Int} {a0 : Act} {w0 : World} (S : hti10S g b f n c k1 B x r1 r2 q v a0 w0)
include S
set_option maxRecDepth 100000 in
set_option maxHeartbeats 8000000 in
theorem hti10_ok : AllOps (fun j o => ∀ (a : Act) (w : World), Below w0.heap.size w0 w → FrD (hti10D.take 21) a0 a → needs hti10D (hti10F g b f n c k1 B x r1 r2 q v) a w o.after.toList → StepD Try.prog hti10D (factAt (hti10F g b f n c k1 B x r1 r2 q v) j) o a w) 0 ((opsOf 10 Try.f6).take 21) := by
  simp only [opsOf, Try.f6, opsAt, Option.bind, Option.or, Option.getD, reduceCtorEq, if_true, if_false, Nat.reduceEqDiff, List.take_succ_cons, List.take_zero]
  refine ⟨?_, ?_⟩
  · intro _a _w _hB hF _hd
    exact step_move (guard_none rfl) rfl _ rfl ((hF.other 3 rfl).trans S.v3)
  refine ⟨?_, ?_⟩
  · intro _a _w _hB hF _hd
    exact step_move (guard_none rfl) rfl _ rfl ((hF.other 0 rfl).trans S.v0)
  refine ⟨?_, ?_⟩
  · intro _a _w _hB hF _hd
    exact step_move (guard_none rfl) rfl _ rfl ((hF.other 6 rfl).trans S.v6)
  refine ⟨?_, ?_⟩
  · intro a _w _hB _hF hd
    have h35 : a.tmps.getD 35 undef = .slice (some ⟨b, f, none⟩) n c := hd.1 rfl
    have h36 : a.tmps.getD 36 undef = .int .i64 k1 := hd.2.1 rfl
    exact rf_indexN (guard_none rfl) rfl _ _ rfl b f n c k1 _ h35 h36 rfl S.lk rfl
  refine ⟨?_, ?_⟩
  · intro a _w hB _hF hd
    have h37 : a.tmps.getD 37 undef = .pointer (some ⟨b, f + k1, none⟩) := hd.1 rfl
    exact rf_loadi (guard_none rfl) rfl _ rfl _ _ h37 _ ((hB.cell (block_lt_of_cell S.cx)).trans S.cx) rfl
  refine ⟨?_, ?_⟩
  · intro a _w _hB _hF hd
    have h38 : a.tmps.getD 38 undef = .int .i64 x := hd.1 rfl
    exact rf_and (guard_none rfl) rfl _ _ rfl x 1 r1 h38 rfl S.e1 rfl
  refine ⟨?_, ?_⟩
  · intro _a _w _hB hF _hd
    exact step_move (guard_none rfl) rfl _ rfl ((hF.other 0 rfl).trans S.v0)
  refine ⟨?_, ?_⟩
  · intro _a _w _hB hF _hd
    exact step_move (guard_none rfl) rfl _ rfl ((hF.other 6 rfl).trans S.v6)
  refine ⟨?_, ?_⟩
  · intro a _w _hB _hF hd
    have h40 : a.tmps.getD 40 undef = .slice (some ⟨b, f, none⟩) n c := hd.1 rfl
    have h41 : a.tmps.getD 41 undef = .int .i64 k1 := hd.2.1 rfl
    exact rf_indexN (guard_none rfl) rfl _ _ rfl b f n c k1 _ h40 h41 rfl S.lk rfl
  refine ⟨?_, ?_⟩
  · intro a _w hB _hF hd
    have h42 : a.tmps.getD 42 undef = .pointer (some ⟨b, f + k1, none⟩) := hd.1 rfl
    exact rf_loadi (guard_none rfl) rfl _ rfl _ _ h42 _ ((hB.cell (block_lt_of_cell S.cx)).trans S.cx) rfl
  refine ⟨?_, ?_⟩
  · intro a _w _hB _hF hd
    have h43 : a.tmps.getD 43 undef = .int .i64 x := hd.1 rfl
    exact rf_shr1 (guard_none rfl) rfl _ _ rfl x h43 rfl rfl
  refine ⟨?_, ?_⟩
  · intro a _w _hB _hF hd
    have h44 : a.tmps.getD 44 undef = .int .i64 (x / 2) := hd.1 rfl
    exact rf_and (guard_none rfl) rfl _ _ rfl (x / 2) 1 r2 h44 rfl S.e2 rfl
  refine ⟨?_, ?_⟩
  · intro a _w _hB _hF hd
    have h45 : a.tmps.getD 45 undef = .int .i64 r2 := hd.1 rfl
    exact rf_addr (guard_none rfl) rfl _ _ rfl 1 r2 q rfl h45 S.e3 (by have := S.e31; omega) (by have := S.e31; omega) rfl
  refine ⟨?_, ?_⟩
  · intro _a _w _hB hF _hd
    exact step_move (guard_none rfl) rfl _ rfl ((hF.other 0 rfl).trans S.v0)
  refine ⟨?_, ?_⟩
  · intro _a _w _hB hF _hd
    exact step_move (guard_none rfl) rfl _ rfl ((hF.other 6 rfl).trans S.v6)
  refine ⟨?_, ?_⟩
  · intro a _w _hB _hF hd
    have h47 : a.tmps.getD 47 undef = .slice (some ⟨b, f, none⟩) n c := hd.1 rfl
    have h48 : a.tmps.getD 48 undef = .int .i64 k1 := hd.2.1 rfl
    exact rf_indexN (guard_none rfl) rfl _ _ rfl b f n c k1 _ h47 h48 rfl S.lk rfl
  refine ⟨?_, ?_⟩
  · intro a _w hB _hF hd
    have h49 : a.tmps.getD 49 undef = .pointer (some ⟨b, f + k1, none⟩) := hd.1 rfl
    exact rf_loadi (guard_none rfl) rfl _ rfl _ _ h49 _ ((hB.cell (block_lt_of_cell S.cx)).trans S.cx) rfl
  refine ⟨?_, ?_⟩
  · intro a _w _hB _hF hd
    have h50 : a.tmps.getD 50 undef = .int .i64 x := hd.1 rfl
    exact rf_shr2 (guard_none rfl) rfl _ _ rfl x h50 rfl rfl
  refine ⟨?_, ?_⟩
  · intro a _w _hB _hF hd
    have h51 : a.tmps.getD 51 undef = .int .i64 (x / 4) := hd.1 rfl
    exact rf_and (guard_none rfl) rfl _ _ rfl (x / 4) 3 v h51 rfl S.e4 rfl
  refine ⟨?_, ?_⟩
  · intro a _w _hB _hF hd
    have h39 : a.tmps.getD 39 undef = .int .i64 r1 := hd.1 rfl
    have h46 : a.tmps.getD 46 undef = .int .i64 q := hd.2.1 rfl
    have h52 : a.tmps.getD 52 undef = .int .i64 v := hd.2.2.1 rfl
    refine step_call (guard_none rfl) rfl _ _ (rf_call_run Try.func22 (by kernel_rfl) (by kernel_rfl) _ _ rfl) ?_
    simp only [List.map_toArray, List.map_cons, List.map_nil, Act.eval, h39, h46, h52]
    exact (item0_any _ _ _ _ _).mono (by rintro e w1 ⟨rfl, hb⟩; exact ⟨_, rfl, hb, rfl⟩)
  refine ⟨?_, ?_⟩
  · intro a _w hB _hF hd
    have h53 : a.tmps.getD 53 undef = .agg #[.int .i64 r1, .int .i64 0, .int .i64 q, .int .i64 v] := hd.1 rfl
    exact rf_oneB (guard_none rfl) rfl _ rfl ⟨r1, 0, q, v⟩ h53 (by rw [← S.eB]; exact hB.size) (fun _ _ h => h)
  trivial
theorem hti10_any {Q : Exit → Act → World → Prop} {l : List Oper} (hl : opsOf 10 Try.f6 = l) (hend : ∀ (e54 : Nat), ∀ w : World, Below w0.heap.size w0 w → (B ≤ e54 ∧ Has w e54 34 (itemL ⟨r1, 0, q, v⟩).toArray) → wpList Try.prog l.toArray Q (l.drop 21) (putAll a0 [(34, .pointer (some ⟨g, 0, none⟩)), (35, .slice (some ⟨b, f, none⟩) n c), (36, .int .i64 k1), (37, .pointer (some ⟨b, f + k1, none⟩)), (38, .int .i64 x), (39, .int .i64 r1), (40, .slice (some ⟨b, f, none⟩) n c), (41, .int .i64 k1), (42, .pointer (some ⟨b, f + k1, none⟩)), (43, .int .i64 x), (44, .int .i64 (x / 2)), (45, .int .i64 r2), (46, .int .i64 q), (47, .slice (some ⟨b, f, none⟩) n c), (48, .int .i64 k1), (49, .pointer (some ⟨b, f + k1, none⟩)), (50, .int .i64 x), (51, .int .i64 (x / 4)), (52, .int .i64 v), (53, .agg #[.int .i64 r1, .int .i64 0, .int .i64 q, .int .i64 v]), (54, .slice (some ⟨e54, 0, none⟩) 1 1)]) w) :
    (Code.region 10 l.toArray true).wp Try.prog Q a0 w0 := by
  subst hl
  refine region_head2 (hti10F g b f n c k1 B x r1 r2 q v) hti10D 21 91 S.size rfl (by kernel_rfl) (by kernel_rfl) (by kernel_rfl) (hti10F_mono _ _ _ _ _ _ _ _ _ _ _ _) (hti10_ok S) fun a w hB hF h => ?_
  obtain ⟨e54, h54, p54⟩ : row1B B ⟨r1, 0, q, v⟩ (a.tmps.getD 54 undef) w := h 20 (some 54) (by omega) rfl
  have hv : valsAre a [(34, .pointer (some ⟨g, 0, none⟩)), (35, .slice (some ⟨b, f, none⟩) n c), (36, .int .i64 k1), (37, .pointer (some ⟨b, f + k1, none⟩)), (38, .int .i64 x), (39, .int .i64 r1), (40, .slice (some ⟨b, f, none⟩) n c), (41, .int .i64 k1), (42, .pointer (some ⟨b, f + k1, none⟩)), (43, .int .i64 x), (44, .int .i64 (x / 2)), (45, .int .i64 r2), (46, .int .i64 q), (47, .slice (some ⟨b, f, none⟩) n c), (48, .int .i64 k1), (49, .pointer (some ⟨b, f + k1, none⟩)), (50, .int .i64 x), (51, .int .i64 (x / 4)), (52, .int .i64 v), (53, .agg #[.int .i64 r1, .int .i64 0, .int .i64 q, .int .i64 v]), (54, .slice (some ⟨e54, 0, none⟩) 1 1)] := by
    refine ⟨?_, ?_, ?_, ?_, ?_, ?_, ?_, ?_, ?_, ?_, ?_, ?_, ?_, ?_, ?_, ?_, ?_, ?_, ?_, ?_, ?_, trivial⟩
    · exact h 0 (some 34) (by omega) rfl
    · exact h 1 (some 35) (by omega) rfl
    · exact h 2 (some 36) (by omega) rfl
    · exact h 3 (some 37) (by omega) rfl
    · exact h 4 (some 38) (by omega) rfl
    · exact h 5 (some 39) (by omega) rfl
    · exact h 6 (some 40) (by omega) rfl
    · exact h 7 (some 41) (by omega) rfl
    · exact h 8 (some 42) (by omega) rfl
    · exact h 9 (some 43) (by omega) rfl
    · exact h 10 (some 44) (by omega) rfl
    · exact h 11 (some 45) (by omega) rfl
    · exact h 12 (some 46) (by omega) rfl
    · exact h 13 (some 47) (by omega) rfl
    · exact h 14 (some 48) (by omega) rfl
    · exact h 15 (some 49) (by omega) rfl
    · exact h 16 (some 50) (by omega) rfl
    · exact h 17 (some 51) (by omega) rfl
    · exact h 18 (some 52) (by omega) rfl
    · exact h 19 (some 53) (by omega) rfl
    · exact h54
  rw [frame_is hF _ hv (by rfl) (by rfl)]
  exact hend e54 w hB p54
end

end Go.Proofs.Ytmhmekmacdkdgaa
