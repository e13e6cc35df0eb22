/-
  HeapSorts' drawn region that pushes: the facts of its reading head (written by gen/hplaw.py).
-/
import Derived.Test.YtmhmekmacdkdgaaHpBits
import Derived.Test.YtmhmekmacdkdgaaHpOne
import Derived.Test.YtmhmekmacdkdgaaHead2
namespace Go.Proofs.Ytmhmekmacdkdgaa
open Go.RowKit

def hso11D : List (Option Tmp) := [some 34, some 35, some 36, some 37, some 38, some 39, some 40, some 41, some 42, some 43, some 44, some 45, some 46, some 47, some 48, some 49, some 50, some 51, some 52, some 53, some 8]
def hso11F (g b f n c k1 B : Nat) (x r1 r0 t r2 q : Int) : List Fact := [isV (.pointer (some ⟨g, 0, none⟩)), isV (.int .i64 k1), isV (.int .i64 r1), isV (.slice (some ⟨b, f, none⟩) n c), isV (.int .i64 k1), isV (.pointer (some ⟨b, f + k1, none⟩)), isV (.int .i64 x), isV (.int .i64 r0), isV (.int .i64 t), isV (.slice (some ⟨b, f, none⟩) n c), isV (.int .i64 k1), isV (.pointer (some ⟨b, f + k1, none⟩)), isV (.int .i64 x), isV (.int .i64 (x / 128)), isV (.int .i64 r2), isV (.int .i64 q), isV (.int .i64 k1), isV (.agg #[.int .i64 r1, .int .i64 t, .int .i64 q, .int .i64 k1]), row1B B ⟨r1, t, q, (k1 : Int)⟩]
theorem hso11F_mono (g b f n c k1 B : Nat) (x r1 r0 t r2 q : Int) : ∀ φ ∈ hso11F g b f n c k1 B x r1 r0 t r2 q, Mono φ := by
  unfold hso11F
  repeat (first | exact monos_nil | (refine monos_cons (mono_isV _) ?_) | (refine monos_cons (row1B_mono _ _) ?_))
structure hso11S (g b f n c k1 B : Nat) (x r1 r0 t r2 q : Int) (a0 : Act) (w0 : World) : Prop where
  size : a0.tmps.size = 94
  v0 : a0.tmps.getD 0 undef = .slice (some ⟨b, f, none⟩) n c
  v3 : a0.tmps.getD 3 undef = .pointer (some ⟨g, 0, none⟩)
  v7 : a0.tmps.getD 7 undef = .int .i64 k1
  eB : w0.heap.size = B
  cx : w0.cell? ⟨b, f + k1, none⟩ = some (.int .i64 x)
  lk : k1 < n
  e1 : bits .and .i64 k1 3 = r1
  e0 : bits .and .i64 x 127 = r0
  e5 : r0 - 60 = t
  e51 : -60 ≤ t ∧ t ≤ 67
  e2 : bits .and .i64 (x / 128) 31 = r2
  e3 : 1 + r2 = q
  e31 : 1 ≤ q ∧ q ≤ 32
section
variable {g b f n c k1 B : Nat} {x r1 r0 t r2 q : Int} {a0 : Act} {w0 : World} (S : hso11S g b f n c k1 B x r1 r0 t r2 q a0 w0)
include S
set_option maxRecDepth 100000 in
set_option maxHeartbeats 8000000 in
theorem hso11_ok : AllOps (fun j o => ∀ (a : Act) (w : World), Below w0.heap.size w0 w → FrD (hso11D.take 19) a0 a → needs hso11D (hso11F g b f n c k1 B x r1 r0 t r2 q) a w o.after.toList → StepD Try.prog hso11D (factAt (hso11F g b f n c k1 B x r1 r0 t r2 q) j) o a w) 0 ((opsOf 11 Try.f4).take 19) := by
  simp only [opsOf, Try.f4, opsAt, Option.bind, Option.or, Option.getD, reduceCtorEq, if_true, if_false, Nat.reduceEqDiff, List.take_succ_cons, List.take_zero]
  refine ⟨?_, ?_⟩
  · intro _a _w _hB hF _hd
    exact step_move (guard_none rfl) rfl _ rfl ((hF.other 3 rfl).trans S.v3)
  refine ⟨?_, ?_⟩
  · intro _a _w _hB hF _hd
    exact step_move (guard_none rfl) rfl _ rfl ((hF.other 7 rfl).trans S.v7)
  refine ⟨?_, ?_⟩
  · intro a _w _hB _hF hd
    have h35 : a.tmps.getD 35 undef = .int .i64 k1 := hd.1 rfl
    exact rf_and (guard_none rfl) rfl _ _ rfl k1 3 r1 h35 rfl S.e1 rfl
  refine ⟨?_, ?_⟩
  · intro _a _w _hB hF _hd
    exact step_move (guard_none rfl) rfl _ rfl ((hF.other 0 rfl).trans S.v0)
  refine ⟨?_, ?_⟩
  · intro _a _w _hB hF _hd
    exact step_move (guard_none rfl) rfl _ rfl ((hF.other 7 rfl).trans S.v7)
  refine ⟨?_, ?_⟩
  · intro a _w _hB _hF hd
    have h37 : a.tmps.getD 37 undef = .slice (some ⟨b, f, none⟩) n c := hd.1 rfl
    have h38 : a.tmps.getD 38 undef = .int .i64 k1 := hd.2.1 rfl
    exact rf_indexN (guard_none rfl) rfl _ _ rfl b f n c k1 _ h37 h38 rfl S.lk rfl
  refine ⟨?_, ?_⟩
  · intro a _w hB _hF hd
    have h39 : a.tmps.getD 39 undef = .pointer (some ⟨b, f + k1, none⟩) := hd.1 rfl
    exact rf_loadi (guard_none rfl) rfl _ rfl _ _ h39 _ ((hB.cell (block_lt_of_cell S.cx)).trans S.cx) rfl
  refine ⟨?_, ?_⟩
  · intro a _w _hB _hF hd
    have h40 : a.tmps.getD 40 undef = .int .i64 x := hd.1 rfl
    exact rf_and (guard_none rfl) rfl _ _ rfl x 127 r0 h40 rfl S.e0 rfl
  refine ⟨?_, ?_⟩
  · intro a _w _hB _hF hd
    have h41 : a.tmps.getD 41 undef = .int .i64 r0 := hd.1 rfl
    exact rf_subq (guard_none rfl) rfl _ _ rfl r0 60 t h41 rfl S.e5 (by have := S.e51; omega) (by have := S.e51; omega) rfl
  refine ⟨?_, ?_⟩
  · intro _a _w _hB hF _hd
    exact step_move (guard_none rfl) rfl _ rfl ((hF.other 0 rfl).trans S.v0)
  refine ⟨?_, ?_⟩
  · intro _a _w _hB hF _hd
    exact step_move (guard_none rfl) rfl _ rfl ((hF.other 7 rfl).trans S.v7)
  refine ⟨?_, ?_⟩
  · intro a _w _hB _hF hd
    have h43 : a.tmps.getD 43 undef = .slice (some ⟨b, f, none⟩) n c := hd.1 rfl
    have h44 : a.tmps.getD 44 undef = .int .i64 k1 := hd.2.1 rfl
    exact rf_indexN (guard_none rfl) rfl _ _ rfl b f n c k1 _ h43 h44 rfl S.lk rfl
  refine ⟨?_, ?_⟩
  · intro a _w hB _hF hd
    have h45 : a.tmps.getD 45 undef = .pointer (some ⟨b, f + k1, none⟩) := hd.1 rfl
    exact rf_loadi (guard_none rfl) rfl _ rfl _ _ h45 _ ((hB.cell (block_lt_of_cell S.cx)).trans S.cx) rfl
  refine ⟨?_, ?_⟩
  · intro a _w _hB _hF hd
    have h46 : a.tmps.getD 46 undef = .int .i64 x := hd.1 rfl
    exact rf_shr7 (guard_none rfl) rfl _ _ rfl x h46 rfl rfl
  refine ⟨?_, ?_⟩
  · intro a _w _hB _hF hd
    have h47 : a.tmps.getD 47 undef = .int .i64 (x / 128) := hd.1 rfl
    exact rf_and (guard_none rfl) rfl _ _ rfl (x / 128) 31 r2 h47 rfl S.e2 rfl
  refine ⟨?_, ?_⟩
  · intro a _w _hB _hF hd
    have h48 : a.tmps.getD 48 undef = .int .i64 r2 := hd.1 rfl
    exact rf_addr (guard_none rfl) rfl _ _ rfl 1 r2 q rfl h48 S.e3 (by have := S.e31; omega) (by have := S.e31; omega) rfl
  refine ⟨?_, ?_⟩
  · intro _a _w _hB hF _hd
    exact step_move (guard_none rfl) rfl _ rfl ((hF.other 7 rfl).trans S.v7)
  refine ⟨?_, ?_⟩
  · intro a _w _hB _hF hd
    have h36 : a.tmps.getD 36 undef = .int .i64 r1 := hd.1 rfl
    have h42 : a.tmps.getD 42 undef = .int .i64 t := hd.2.1 rfl
    have h49 : a.tmps.getD 49 undef = .int .i64 q := hd.2.2.1 rfl
    have h50 : a.tmps.getD 50 undef = .int .i64 k1 := hd.2.2.2.1 rfl
    refine step_call (guard_none rfl) rfl _ _ (rf_call_run Try.func22 (by kernel_rfl) (by kernel_rfl) _ _ rfl) ?_
    simp only [List.map_toArray, List.map_cons, List.map_nil, Act.eval, h36, h42, h49, h50]
    exact (item0_any _ _ _ _ _).mono (by rintro e w1 ⟨rfl, hb⟩; exact ⟨_, rfl, hb, rfl⟩)
  refine ⟨?_, ?_⟩
  · intro a _w hB _hF hd
    have h51 : a.tmps.getD 51 undef = .agg #[.int .i64 r1, .int .i64 t, .int .i64 q, .int .i64 k1] := hd.1 rfl
    exact rf_oneB (guard_none rfl) rfl _ rfl ⟨r1, t, q, (k1 : Int)⟩ h51 (by rw [← S.eB]; exact hB.size) (fun _ _ h => h)
  trivial
theorem hso11_any {Q : Exit → Act → World → Prop} {l : List Oper} (hl : opsOf 11 Try.f4 = l) (hend : ∀ (e52 : Nat), ∀ w : World, Below w0.heap.size w0 w → (B ≤ e52 ∧ Has w e52 34 (itemL ⟨r1, t, q, (k1 : Int)⟩).toArray) → wpList Try.prog l.toArray Q (l.drop 19) (putAll a0 [(34, .pointer (some ⟨g, 0, none⟩)), (35, .int .i64 k1), (36, .int .i64 r1), (37, .slice (some ⟨b, f, none⟩) n c), (38, .int .i64 k1), (39, .pointer (some ⟨b, f + k1, none⟩)), (40, .int .i64 x), (41, .int .i64 r0), (42, .int .i64 t), (43, .slice (some ⟨b, f, none⟩) n c), (44, .int .i64 k1), (45, .pointer (some ⟨b, f + k1, none⟩)), (46, .int .i64 x), (47, .int .i64 (x / 128)), (48, .int .i64 r2), (49, .int .i64 q), (50, .int .i64 k1), (51, .agg #[.int .i64 r1, .int .i64 t, .int .i64 q, .int .i64 k1]), (52, .slice (some ⟨e52, 0, none⟩) 1 1)]) w) :
    (Code.region 11 l.toArray true).wp Try.prog Q a0 w0 := by
  subst hl
  refine region_head2 (hso11F g b f n c k1 B x r1 r0 t r2 q) hso11D 19 94 S.size rfl (by kernel_rfl) (by kernel_rfl) (by kernel_rfl) (hso11F_mono _ _ _ _ _ _ _ _ _ _ _ _ _) (hso11_ok S) fun a w hB hF h => ?_
  obtain ⟨e52, h52, p52⟩ : row1B B ⟨r1, t, q, (k1 : Int)⟩ (a.tmps.getD 52 undef) w := h 18 (some 52) (by omega) rfl
  have hv : valsAre a [(34, .pointer (some ⟨g, 0, none⟩)), (35, .int .i64 k1), (36, .int .i64 r1), (37, .slice (some ⟨b, f, none⟩) n c), (38, .int .i64 k1), (39, .pointer (some ⟨b, f + k1, none⟩)), (40, .int .i64 x), (41, .int .i64 r0), (42, .int .i64 t), (43, .slice (some ⟨b, f, none⟩) n c), (44, .int .i64 k1), (45, .pointer (some ⟨b, f + k1, none⟩)), (46, .int .i64 x), (47, .int .i64 (x / 128)), (48, .int .i64 r2), (49, .int .i64 q), (50, .int .i64 k1), (51, .agg #[.int .i64 r1, .int .i64 t, .int .i64 q, .int .i64 k1]), (52, .slice (some ⟨e52, 0, none⟩) 1 1)] := by
    refine ⟨?_, ?_, ?_, ?_, ?_, ?_, ?_, ?_, ?_, ?_, ?_, ?_, ?_, ?_, ?_, ?_, ?_, ?_, ?_, trivial⟩
    · exact h 0 (some 34) (by omega) rfl
    · exact h 1 (some 35) (by omega) rfl
    · exact h 2 (some 36) (by omega) rfl
    · exact h 3 (some 37) (by omega) rfl
    · exact h 4 (some 38) (by omega) rfl
    · exact h 5 (some 39) (by omega) rfl
    · exact h 6 (some 40) (by omega) rfl
    · exact h 7 (some 41) (by omega) rfl
    · exact h 8 (some 42) (by omega) rfl
    · exact h 9 (some 43) (by omega) rfl
    · exact h 10 (some 44) (by omega) rfl
    · exact h 11 (some 45) (by omega) rfl
    · exact h 12 (some 46) (by omega) rfl
    · exact h 13 (some 47) (by omega) rfl
    · exact h 14 (some 48) (by omega) rfl
    · exact h 15 (some 49) (by omega) rfl
    · exact h 16 (some 50) (by omega) rfl
    · exact h 17 (some 51) (by omega) rfl
    · exact h52
  rw [frame_is hF _ hv (by rfl) (by rfl)]
  exact hend e52 w hB p52
end

end Go.Proofs.Ytmhmekmacdkdgaa
