/-
  The drawn regions of TreeRows (written by gen/trlaws.py).
-/
import Derived.Test.YtjgjbhbpndjnnaaG25
import Derived.Test.YtjgjbhbpndjnnaaG4
import Derived.Test.YtjgjbhbpndjnnaaG49
import Derived.Test.YtjgjbhbpndjnnaaTrEvR
import Derived.Test.YtjgjbhbpndjnnaaItM
namespace Go.Proofs.Ytjgjbhbpndjnnaa
open Go.RowKit

def tr12D : List (Option Tmp) := [some 55, some 56, some 57, some 58, some 59, some 60, some 61, some 62, some 63, some 64, some 65, some 66, some 67, some 68, some 69, some 70, some 71, some 72, some 10]
def tr12F (b oo n c jj : Nat) (x t1 sh v1 : Int) (vo : Value) : List Fact := [isV (vo), isV (.slice (some ⟨b, oo, none⟩) n c), isV (.int .i64 ((jj : Int))), isV (.pointer (some ⟨b, oo + jj, none⟩)), isV (.int .i64 x), isV (.int .i64 t1), isV (.int .i64 ((jj : Int))), isV (.int .i64 ((jj : Int) + 1)), isV (.slice (some ⟨b, oo, none⟩) n c), isV (.int .i64 ((jj : Int))), isV (.pointer (some ⟨b, oo + jj, none⟩)), isV (.int .i64 x), isV (.int .i64 (x / 64)), isV (.int .i64 sh), isV (.int .i64 v1), isV (.agg #[.int .i64 1, .int .i64 t1, .int .i64 ((jj : Int) + 1), .int .i64 v1]), itmV (.slice none 0 0) ⟨1, t1, (jj : Int) + 1, v1⟩]
theorem tr12F_mono (b oo n c jj : Nat) (x t1 sh v1 : Int) (vo : Value) : ∀ φ ∈ tr12F b oo n c jj x t1 sh v1 vo, Mono φ := by
  unfold tr12F
  refine monos_cons (mono_isV _) ?_
  refine monos_cons (mono_isV _) ?_
  refine monos_cons (mono_isV _) ?_
  refine monos_cons (mono_isV _) ?_
  refine monos_cons (mono_isV _) ?_
  refine monos_cons (mono_isV _) ?_
  refine monos_cons (mono_isV _) ?_
  refine monos_cons (mono_isV _) ?_
  refine monos_cons (mono_isV _) ?_
  refine monos_cons (mono_isV _) ?_
  refine monos_cons (mono_isV _) ?_
  refine monos_cons (mono_isV _) ?_
  refine monos_cons (mono_isV _) ?_
  refine monos_cons (mono_isV _) ?_
  refine monos_cons (mono_isV _) ?_
  refine monos_cons (mono_isV _) ?_
  refine monos_cons (itmV_mono _ _) ?_
  exact monos_nil
structure tr12S (b oo n c jj : Nat) (x t1 sh v1 : Int) (vo : Value) (a0 : Act) (w0 : World) : Prop where
  size : a0.tmps.size = 176
  v0 : a0.tmps.getD 0 undef = .slice (some ⟨b, oo, none⟩) n c
  v10 : a0.tmps.getD 10 undef = vo
  v11 : a0.tmps.getD 11 undef = .int .i64 ((jj : Int))
  lj : jj < n
  lm : jj < 64
  cx : ∀ w, Below w0.heap.size w0 w → w.cell? ⟨b, oo + jj, none⟩ = some (.int .i64 x)
  e1 : bits .and .i64 x 15 = t1
  e2 : bits .and .i64 (x / 64) 63 = sh
  e3 : sh - 30 = v1
  bv : -1000 ≤ v1 ∧ v1 ≤ 1000
section
variable {b oo n c jj : Nat} {x t1 sh v1 : Int} {vo : Value} {a0 : Act} {w0 : World} (S : tr12S b oo n c jj x t1 sh v1 vo a0 w0)
include S
set_option maxRecDepth 100000 in
set_option maxHeartbeats 8000000 in
theorem tr12_ok : AllOps (fun j o => ∀ (a : Act) (w : World), Below w0.heap.size w0 w → FrD (tr12D.take 17) a0 a → needs tr12D (tr12F b oo n c jj x t1 sh v1 vo) a w o.after.toList → StepD Try.prog tr12D (factAt (tr12F b oo n c jj x t1 sh v1 vo) j) o a w) 0 ((opsOf 12 Try.f8).take 17) := by
  simp only [opsOf, Try.f8, opsAt, Option.bind, Option.or, Option.getD, reduceCtorEq, if_true, if_false, Nat.reduceEqDiff, List.take_succ_cons, List.take_zero]
  refine ⟨?_, ?_⟩
  · intro _a _w _hB hF _hd
    exact step_move (guard_none rfl) rfl _ rfl ((hF.other 10 rfl).trans S.v10)
  refine ⟨?_, ?_⟩
  · intro _a _w _hB hF _hd
    exact step_move (guard_none rfl) rfl _ rfl ((hF.other 0 rfl).trans S.v0)
  refine ⟨?_, ?_⟩
  · intro _a _w _hB hF _hd
    exact step_move (guard_none rfl) rfl _ rfl ((hF.other 11 rfl).trans S.v11)
  refine ⟨?_, ?_⟩
  · intro a _w _hB _hF hd
    have h56 : a.tmps.getD 56 undef = .slice (some ⟨b, oo, none⟩) n c := hd.1 rfl
    have h57 : a.tmps.getD 57 undef = .int .i64 ((jj : Int)) := hd.2.1 rfl
    exact rf_indexN (guard_none rfl) rfl _ _ rfl b oo n c jj _ h56 h57 rfl S.lj rfl
  refine ⟨?_, ?_⟩
  · intro a w hB _hF hd
    have h58 : a.tmps.getD 58 undef = .pointer (some ⟨b, oo + jj, none⟩) := hd.1 rfl
    exact rf_loadi (guard_none rfl) rfl _ rfl _ _ h58 _ (S.cx w hB) rfl
  refine ⟨?_, ?_⟩
  · intro a _w _hB _hF hd
    have h59 : a.tmps.getD 59 undef = .int .i64 x := hd.1 rfl
    exact rf_and (guard_none rfl) rfl _ _ rfl x 15 t1 h59 rfl S.e1 rfl
  refine ⟨?_, ?_⟩
  · intro _a _w _hB hF _hd
    exact step_move (guard_none rfl) rfl _ rfl ((hF.other 11 rfl).trans S.v11)
  refine ⟨?_, ?_⟩
  · intro a _w _hB _hF hd
    have h61 : a.tmps.getD 61 undef = .int .i64 ((jj : Int)) := hd.1 rfl
    exact rf_addr (guard_none rfl) rfl _ _ rfl (jj : Int) 1 ((jj : Int) + 1) h61 rfl rfl (by omega) (by have := S.lm; omega) rfl
  refine ⟨?_, ?_⟩
  · intro _a _w _hB hF _hd
    exact step_move (guard_none rfl) rfl _ rfl ((hF.other 0 rfl).trans S.v0)
  refine ⟨?_, ?_⟩
  · intro _a _w _hB hF _hd
    exact step_move (guard_none rfl) rfl _ rfl ((hF.other 11 rfl).trans S.v11)
  refine ⟨?_, ?_⟩
  · intro a _w _hB _hF hd
    have h63 : a.tmps.getD 63 undef = .slice (some ⟨b, oo, none⟩) n c := hd.1 rfl
    have h64 : a.tmps.getD 64 undef = .int .i64 ((jj : Int)) := hd.2.1 rfl
    exact rf_indexN (guard_none rfl) rfl _ _ rfl b oo n c jj _ h63 h64 rfl S.lj rfl
  refine ⟨?_, ?_⟩
  · intro a w hB _hF hd
    have h65 : a.tmps.getD 65 undef = .pointer (some ⟨b, oo + jj, none⟩) := hd.1 rfl
    exact rf_loadi (guard_none rfl) rfl _ rfl _ _ h65 _ (S.cx w hB) rfl
  refine ⟨?_, ?_⟩
  · intro a _w _hB _hF hd
    have h66 : a.tmps.getD 66 undef = .int .i64 x := hd.1 rfl
    exact rf_shr6 (guard_none rfl) rfl _ _ rfl x h66 rfl rfl
  refine ⟨?_, ?_⟩
  · intro a _w _hB _hF hd
    have h67 : a.tmps.getD 67 undef = .int .i64 (x / 64) := hd.1 rfl
    exact rf_and (guard_none rfl) rfl _ _ rfl (x / 64) 63 sh h67 rfl S.e2 rfl
  refine ⟨?_, ?_⟩
  · intro a _w _hB _hF hd
    have h68 : a.tmps.getD 68 undef = .int .i64 sh := hd.1 rfl
    exact rf_subq (guard_none rfl) rfl _ _ rfl sh 30 v1 h68 rfl S.e3 (by have := S.bv; omega) (by have := S.bv; omega) rfl
  refine ⟨?_, ?_⟩
  · intro a _w _hB _hF hd
    have h60 : a.tmps.getD 60 undef = .int .i64 t1 := hd.1 rfl
    have h62 : a.tmps.getD 62 undef = .int .i64 ((jj : Int) + 1) := hd.2.1 rfl
    have h69 : a.tmps.getD 69 undef = .int .i64 v1 := hd.2.2.1 rfl
    refine step_call (guard_none rfl) rfl _ _ (rf_call_run Try.func37 (by kernel_rfl) (by kernel_rfl) _ _ rfl) ?_
    simp only [List.map_toArray, List.map_cons, List.map_nil, Act.eval, h60, h62, h69]
    exact (item19_any _ _ _ _ _).mono (by rintro e w1 ⟨rfl, hb⟩; exact ⟨_, rfl, hb, rfl⟩)
  refine ⟨?_, ?_⟩
  · intro a _w _hB _hF hd
    have h70 : a.tmps.getD 70 undef = .agg #[.int .i64 1, .int .i64 t1, .int .i64 ((jj : Int) + 1), .int .i64 v1] := hd.1 rfl
    exact rf_itm (guard_none rfl) rfl _ rfl ⟨1, t1, (jj : Int) + 1, v1⟩ h70 (.slice none 0 0) (fun k hk => by simp [Value.ownBlock] at hk) (fun _ _ h => h)
  trivial
set_option maxRecDepth 100000 in
set_option maxHeartbeats 2000000 in
theorem tr12_any {Q : Exit → Act → World → Prop} {l : List Oper} (hl : opsOf 12 Try.f8 = l) {W : Act → World → Prop} (hW : ∀ a w, W a w → wpList Try.prog l.toArray Q (l.drop 17) a w) (hend : ∀ (e71 : Nat), ∀ w : World, Below w0.heap.size w0 w → (Has w e71 23 (itemL ⟨1, t1, (jj : Int) + 1, v1⟩).toArray ∧ (Value.slice none 0 0).ownBlock ≠ some e71) → W (putAll a0 [(55, vo), (56, .slice (some ⟨b, oo, none⟩) n c), (57, .int .i64 ((jj : Int))), (58, .pointer (some ⟨b, oo + jj, none⟩)), (59, .int .i64 x), (60, .int .i64 t1), (61, .int .i64 ((jj : Int))), (62, .int .i64 ((jj : Int) + 1)), (63, .slice (some ⟨b, oo, none⟩) n c), (64, .int .i64 ((jj : Int))), (65, .pointer (some ⟨b, oo + jj, none⟩)), (66, .int .i64 x), (67, .int .i64 (x / 64)), (68, .int .i64 sh), (69, .int .i64 v1), (70, .agg #[.int .i64 1, .int .i64 t1, .int .i64 ((jj : Int) + 1), .int .i64 v1]), (71, .slice (some ⟨e71, 0, none⟩) 1 1)]) w) :
    (Code.region 12 l.toArray true).wp Try.prog Q a0 w0 := by
  subst hl
  refine region_head2 (tr12F b oo n c jj x t1 sh v1 vo) tr12D 17 176 S.size rfl (by kernel_rfl) (by kernel_rfl) (by kernel_rfl) (tr12F_mono _ _ _ _ _ _ _ _ _ _) (tr12_ok S) fun a w hB hF h => ?_
  obtain ⟨e71, h71, p71⟩ : itmV (.slice none 0 0) ⟨1, t1, (jj : Int) + 1, v1⟩ (a.tmps.getD 71 undef) w := h 16 (some 71) (by omega) rfl
  have hv : valsAre a [(55, vo), (56, .slice (some ⟨b, oo, none⟩) n c), (57, .int .i64 ((jj : Int))), (58, .pointer (some ⟨b, oo + jj, none⟩)), (59, .int .i64 x), (60, .int .i64 t1), (61, .int .i64 ((jj : Int))), (62, .int .i64 ((jj : Int) + 1)), (63, .slice (some ⟨b, oo, none⟩) n c), (64, .int .i64 ((jj : Int))), (65, .pointer (some ⟨b, oo + jj, none⟩)), (66, .int .i64 x), (67, .int .i64 (x / 64)), (68, .int .i64 sh), (69, .int .i64 v1), (70, .agg #[.int .i64 1, .int .i64 t1, .int .i64 ((jj : Int) + 1), .int .i64 v1]), (71, .slice (some ⟨e71, 0, none⟩) 1 1)] := by
    refine ⟨?_, ?_, ?_, ?_, ?_, ?_, ?_, ?_, ?_, ?_, ?_, ?_, ?_, ?_, ?_, ?_, ?_, trivial⟩
    · exact h 0 (some 55) (by omega) rfl
    · exact h 1 (some 56) (by omega) rfl
    · exact h 2 (some 57) (by omega) rfl
    · exact h 3 (some 58) (by omega) rfl
    · exact h 4 (some 59) (by omega) rfl
    · exact h 5 (some 60) (by omega) rfl
    · exact h 6 (some 61) (by omega) rfl
    · exact h 7 (some 62) (by omega) rfl
    · exact h 8 (some 63) (by omega) rfl
    · exact h 9 (some 64) (by omega) rfl
    · exact h 10 (some 65) (by omega) rfl
    · exact h 11 (some 66) (by omega) rfl
    · exact h 12 (some 67) (by omega) rfl
    · exact h 13 (some 68) (by omega) rfl
    · exact h 14 (some 69) (by omega) rfl
    · exact h 15 (some 70) (by omega) rfl
    · exact h71
  refine hW _ _ ?_
  rw [frame_is hF _ hv (by rfl) (by rfl)]
  exact hend e71 w hB p71
end

def tr21eD : List (Option Tmp) := [some 101, some 102, some 103, some 104, some 105, some 106, some 107, some 108, some 109, some 110, some 111, some 112, some 113, some 114, some 115, some 116, some 117, some 118, some 119, some 120, some 121, some 122, some 123, some 124, some 125, some 126, some 127, some 128, some 129, some 130, some 131, some 132, some 133, some 134, some 135, some 136, some 137, some 138, some 139, some 140]
def tr21eF (b oo n c jj jp : Nat) (ta qa tp qp : Int) : List Fact := [isV (.slice (some ⟨b, oo, none⟩) n c), isV (.int .i64 ((jj : Int))), isV (.pointer (some ⟨b, oo + jj * 4, none⟩)), isV (.pointer (some ⟨b, oo + jj * 4 + 1, none⟩)), isV (.int .i64 ta), isV (.slice (some ⟨b, oo, none⟩) n c), isV (.int .i64 ((jj : Int))), isV (.int .i64 ((jp : Int))), isV (.pointer (some ⟨b, oo + jp * 4, none⟩)), isV (.pointer (some ⟨b, oo + jp * 4 + 1, none⟩)), isV (.int .i64 tp), isV (.bool false), isV (.bool false), isV (.slice (some ⟨b, oo, none⟩) n c), isV (.int .i64 ((jj : Int))), isV (.pointer (some ⟨b, oo + jj * 4, none⟩)), isV (.pointer (some ⟨b, oo + jj * 4 + 1, none⟩)), isV (.int .i64 ta), isV (.slice (some ⟨b, oo, none⟩) n c), isV (.int .i64 ((jj : Int))), isV (.int .i64 ((jp : Int))), isV (.pointer (some ⟨b, oo + jp * 4, none⟩)), isV (.pointer (some ⟨b, oo + jp * 4 + 1, none⟩)), isV (.int .i64 tp), isV (.bool true), isV (.bool true), isV (.slice (some ⟨b, oo, none⟩) n c), isV (.int .i64 ((jj : Int))), isV (.pointer (some ⟨b, oo + jj * 4, none⟩)), isV (.pointer (some ⟨b, oo + jj * 4 + 2, none⟩)), isV (.int .i64 qa), isV (.slice (some ⟨b, oo, none⟩) n c), isV (.int .i64 ((jj : Int))), isV (.int .i64 ((jp : Int))), isV (.pointer (some ⟨b, oo + jp * 4, none⟩)), isV (.pointer (some ⟨b, oo + jp * 4 + 2, none⟩)), isV (.int .i64 qp), isV (.bool false), isV (.bool false), isV (.bool false)]
theorem tr21eF_mono (b oo n c jj jp : Nat) (ta qa tp qp : Int) : ∀ φ ∈ tr21eF b oo n c jj jp ta qa tp qp, Mono φ := by
  unfold tr21eF
  refine monos_cons (mono_isV _) ?_
  refine monos_cons (mono_isV _) ?_
  refine monos_cons (mono_isV _) ?_
  refine monos_cons (mono_isV _) ?_
  refine monos_cons (mono_isV _) ?_
  refine monos_cons (mono_isV _) ?_
  refine monos_cons (mono_isV _) ?_
  refine monos_cons (mono_isV _) ?_
  refine monos_cons (mono_isV _) ?_
  refine monos_cons (mono_isV _) ?_
  refine monos_cons (mono_isV _) ?_
  refine monos_cons (mono_isV _) ?_
  refine monos_cons (mono_isV _) ?_
  refine monos_cons (mono_isV _) ?_
  refine monos_cons (mono_isV _) ?_
  refine monos_cons (mono_isV _) ?_
  refine monos_cons (mono_isV _) ?_
  refine monos_cons (mono_isV _) ?_
  refine monos_cons (mono_isV _) ?_
  refine monos_cons (mono_isV _) ?_
  refine monos_cons (mono_isV _) ?_
  refine monos_cons (mono_isV _) ?_
  refine monos_cons (mono_isV _) ?_
  refine monos_cons (mono_isV _) ?_
  refine monos_cons (mono_isV _) ?_
  refine monos_cons (mono_isV _) ?_
  refine monos_cons (mono_isV _) ?_
  refine monos_cons (mono_isV _) ?_
  refine monos_cons (mono_isV _) ?_
  refine monos_cons (mono_isV _) ?_
  refine monos_cons (mono_isV _) ?_
  refine monos_cons (mono_isV _) ?_
  refine monos_cons (mono_isV _) ?_
  refine monos_cons (mono_isV _) ?_
  refine monos_cons (mono_isV _) ?_
  refine monos_cons (mono_isV _) ?_
  refine monos_cons (mono_isV _) ?_
  refine monos_cons (mono_isV _) ?_
  refine monos_cons (mono_isV _) ?_
  refine monos_cons (mono_isV _) ?_
  exact monos_nil
structure tr21eS (b oo n c jj jp : Nat) (ta qa tp qp : Int) (a0 : Act) (w0 : World) : Prop where
  size : a0.tmps.size = 176
  v16 : a0.tmps.getD 16 undef = .slice (some ⟨b, oo, none⟩) n c
  v17 : a0.tmps.getD 17 undef = .int .i64 ((jj : Int))
  lj : jj < n
  lp : jp < n
  ep : jp + 1 = jj
  lm : jj < 10000
  ca : ∀ w, Below w0.heap.size w0 w → w.cell? ⟨b, oo + jj * 4 + 1, none⟩ = some (.int .i64 ta)
  cp : ∀ w, Below w0.heap.size w0 w → w.cell? ⟨b, oo + jp * 4 + 1, none⟩ = some (.int .i64 tp)
  da : ∀ w, Below w0.heap.size w0 w → w.cell? ⟨b, oo + jj * 4 + 2, none⟩ = some (.int .i64 qa)
  dp : ∀ w, Below w0.heap.size w0 w → w.cell? ⟨b, oo + jp * 4 + 2, none⟩ = some (.int .i64 qp)
  e1 : decide (ta < tp) = false
  e2 : decide (ta = tp) = true
  e3 : decide (qa ≤ qp) = false
section
variable {b oo n c jj jp : Nat} {ta qa tp qp : Int} {a0 : Act} {w0 : World} (S : tr21eS b oo n c jj jp ta qa tp qp a0 w0)
include S
set_option maxRecDepth 100000 in
set_option maxHeartbeats 8000000 in
theorem tr21e_ok : AllOps (fun j o => ∀ (a : Act) (w : World), Below w0.heap.size w0 w → FrD tr21eD a0 a → needs tr21eD (tr21eF b oo n c jj jp ta qa tp qp) a w o.after.toList → StepD Try.prog tr21eD (factAt (tr21eF b oo n c jj jp ta qa tp qp) j) o a w) 0 (opsOf 21 Try.f8) := by
  simp only [opsOf, Try.f8, opsAt, Option.bind, Option.or, Option.getD, reduceCtorEq, if_true, if_false, Nat.reduceEqDiff]
  refine ⟨?_, ?_⟩
  · intro _a _w _hB hF _hd
    exact step_move (guard_none rfl) rfl _ rfl ((hF.other 16 rfl).trans S.v16)
  refine ⟨?_, ?_⟩
  · intro _a _w _hB hF _hd
    exact step_move (guard_none rfl) rfl _ rfl ((hF.other 17 rfl).trans S.v17)
  refine ⟨?_, ?_⟩
  · intro a _w _hB _hF hd
    have h101 : a.tmps.getD 101 undef = .slice (some ⟨b, oo, none⟩) n c := hd.1 rfl
    have h102 : a.tmps.getD 102 undef = .int .i64 ((jj : Int)) := hd.2.1 rfl
    exact rf_indexIt (guard_none rfl) rfl _ _ rfl b oo n c jj _ h101 h102 rfl S.lj rfl
  refine ⟨?_, ?_⟩
  · intro a _w _hB _hF hd
    have h103 : a.tmps.getD 103 undef = .pointer (some ⟨b, oo + jj * 4, none⟩) := hd.1 rfl
    exact rf_faddr (guard_none rfl) rfl _ _ _ rfl _ _ 1 _ h103 (by omega) (fun _ _ => by kernel_rfl) rfl
  refine ⟨?_, ?_⟩
  · intro a w hB _hF hd
    have h104 : a.tmps.getD 104 undef = .pointer (some ⟨b, oo + jj * 4 + 1, none⟩) := hd.1 rfl
    exact rf_loadi (guard_none rfl) rfl _ rfl _ _ h104 _ (S.ca w hB) rfl
  refine ⟨?_, ?_⟩
  · intro _a _w _hB hF _hd
    exact step_move (guard_none rfl) rfl _ rfl ((hF.other 16 rfl).trans S.v16)
  refine ⟨?_, ?_⟩
  · intro _a _w _hB hF _hd
    exact step_move (guard_none rfl) rfl _ rfl ((hF.other 17 rfl).trans S.v17)
  refine ⟨?_, ?_⟩
  · intro a _w _hB _hF hd
    have h107 : a.tmps.getD 107 undef = .int .i64 ((jj : Int)) := hd.1 rfl
    exact rf_subr (guard_none rfl) rfl _ _ rfl (jj : Int) 1 (jp : Int) h107 rfl (by have := S.ep; omega) (by omega) (by have := S.ep; have := S.lm; omega) rfl
  refine ⟨?_, ?_⟩
  · intro a _w _hB _hF hd
    have h106 : a.tmps.getD 106 undef = .slice (some ⟨b, oo, none⟩) n c := hd.1 rfl
    have h108 : a.tmps.getD 108 undef = .int .i64 ((jp : Int)) := hd.2.1 rfl
    exact rf_indexIt (guard_none rfl) rfl _ _ rfl b oo n c jp _ h106 h108 rfl S.lp rfl
  refine ⟨?_, ?_⟩
  · intro a _w _hB _hF hd
    have h109 : a.tmps.getD 109 undef = .pointer (some ⟨b, oo + jp * 4, none⟩) := hd.1 rfl
    exact rf_faddr (guard_none rfl) rfl _ _ _ rfl _ _ 1 _ h109 (by omega) (fun _ _ => by kernel_rfl) rfl
  refine ⟨?_, ?_⟩
  · intro a w hB _hF hd
    have h110 : a.tmps.getD 110 undef = .pointer (some ⟨b, oo + jp * 4 + 1, none⟩) := hd.1 rfl
    exact rf_loadi (guard_none rfl) rfl _ rfl _ _ h110 _ (S.cp w hB) rfl
  refine ⟨?_, ?_⟩
  · intro a _w _hB _hF hd
    have h105 : a.tmps.getD 105 undef = .int .i64 ta := hd.1 rfl
    have h111 : a.tmps.getD 111 undef = .int .i64 tp := hd.2.1 rfl
    exact rf_lss (guard_none rfl) rfl _ _ rfl _ _ h105 h111 false S.e1 rfl
  refine ⟨?_, ?_⟩
  · intro a _w _hB _hF hd
    have h112 : a.tmps.getD 112 undef = .bool false := hd.1 rfl
    exact step_move (guard_none rfl) rfl _ rfl h112
  refine ⟨?_, ?_⟩
  · intro a _w _hB hF hd
    have h113 : a.tmps.getD 113 undef = .bool false := hd.1 rfl
    exact step_move (rf_open false rfl rfl h113) rfl _ rfl ((hF.other 16 rfl).trans S.v16)
  refine ⟨?_, ?_⟩
  · intro a _w _hB hF hd
    have h113 : a.tmps.getD 113 undef = .bool false := hd.1 rfl
    exact step_move (rf_open false rfl rfl h113) rfl _ rfl ((hF.other 17 rfl).trans S.v17)
  refine ⟨?_, ?_⟩
  · intro a _w _hB _hF hd
    have h113 : a.tmps.getD 113 undef = .bool false := hd.2.2.1 rfl
    have h114 : a.tmps.getD 114 undef = .slice (some ⟨b, oo, none⟩) n c := hd.1 rfl
    have h115 : a.tmps.getD 115 undef = .int .i64 ((jj : Int)) := hd.2.1 rfl
    exact rf_indexIt (rf_open false rfl rfl h113) rfl _ _ rfl b oo n c jj _ h114 h115 rfl S.lj rfl
  refine ⟨?_, ?_⟩
  · intro a _w _hB _hF hd
    have h113 : a.tmps.getD 113 undef = .bool false := hd.2.1 rfl
    have h116 : a.tmps.getD 116 undef = .pointer (some ⟨b, oo + jj * 4, none⟩) := hd.1 rfl
    exact rf_faddr (rf_open false rfl rfl h113) rfl _ _ _ rfl _ _ 1 _ h116 (by omega) (fun _ _ => by kernel_rfl) rfl
  refine ⟨?_, ?_⟩
  · intro a w hB _hF hd
    have h113 : a.tmps.getD 113 undef = .bool false := hd.2.1 rfl
    have h117 : a.tmps.getD 117 undef = .pointer (some ⟨b, oo + jj * 4 + 1, none⟩) := hd.1 rfl
    exact rf_loadi (rf_open false rfl rfl h113) rfl _ rfl _ _ h117 _ (S.ca w hB) rfl
  refine ⟨?_, ?_⟩
  · intro a _w _hB hF hd
    have h113 : a.tmps.getD 113 undef = .bool false := hd.1 rfl
    exact step_move (rf_open false rfl rfl h113) rfl _ rfl ((hF.other 16 rfl).trans S.v16)
  refine ⟨?_, ?_⟩
  · intro a _w _hB hF hd
    have h113 : a.tmps.getD 113 undef = .bool false := hd.1 rfl
    exact step_move (rf_open false rfl rfl h113) rfl _ rfl ((hF.other 17 rfl).trans S.v17)
  refine ⟨?_, ?_⟩
  · intro a _w _hB _hF hd
    have h113 : a.tmps.getD 113 undef = .bool false := hd.2.1 rfl
    have h120 : a.tmps.getD 120 undef = .int .i64 ((jj : Int)) := hd.1 rfl
    exact rf_subr (rf_open false rfl rfl h113) rfl _ _ rfl (jj : Int) 1 (jp : Int) h120 rfl (by have := S.ep; omega) (by omega) (by have := S.ep; have := S.lm; omega) rfl
  refine ⟨?_, ?_⟩
  · intro a _w _hB _hF hd
    have h113 : a.tmps.getD 113 undef = .bool false := hd.2.2.1 rfl
    have h119 : a.tmps.getD 119 undef = .slice (some ⟨b, oo, none⟩) n c := hd.1 rfl
    have h121 : a.tmps.getD 121 undef = .int .i64 ((jp : Int)) := hd.2.1 rfl
    exact rf_indexIt (rf_open false rfl rfl h113) rfl _ _ rfl b oo n c jp _ h119 h121 rfl S.lp rfl
  refine ⟨?_, ?_⟩
  · intro a _w _hB _hF hd
    have h113 : a.tmps.getD 113 undef = .bool false := hd.2.1 rfl
    have h122 : a.tmps.getD 122 undef = .pointer (some ⟨b, oo + jp * 4, none⟩) := hd.1 rfl
    exact rf_faddr (rf_open false rfl rfl h113) rfl _ _ _ rfl _ _ 1 _ h122 (by omega) (fun _ _ => by kernel_rfl) rfl
  refine ⟨?_, ?_⟩
  · intro a w hB _hF hd
    have h113 : a.tmps.getD 113 undef = .bool false := hd.2.1 rfl
    have h123 : a.tmps.getD 123 undef = .pointer (some ⟨b, oo + jp * 4 + 1, none⟩) := hd.1 rfl
    exact rf_loadi (rf_open false rfl rfl h113) rfl _ rfl _ _ h123 _ (S.cp w hB) rfl
  refine ⟨?_, ?_⟩
  · intro a _w _hB _hF hd
    have h113 : a.tmps.getD 113 undef = .bool false := hd.2.2.1 rfl
    have h118 : a.tmps.getD 118 undef = .int .i64 ta := hd.1 rfl
    have h124 : a.tmps.getD 124 undef = .int .i64 tp := hd.2.1 rfl
    exact rf_eql (rf_open false rfl rfl h113) rfl _ _ rfl _ _ h118 h124 true S.e2 rfl
  refine ⟨?_, ?_⟩
  · intro a _w _hB _hF hd
    have h113 : a.tmps.getD 113 undef = .bool false := hd.2.1 rfl
    have h125 : a.tmps.getD 125 undef = .bool true := hd.1 rfl
    exact step_move (rf_open false rfl rfl h113) rfl _ rfl h125
  refine ⟨?_, ?_⟩
  · intro a _w _hB hF hd
    have h126 : a.tmps.getD 126 undef = .bool true := hd.1 rfl
    exact step_move (rf_open true rfl rfl h126) rfl _ rfl ((hF.other 16 rfl).trans S.v16)
  refine ⟨?_, ?_⟩
  · intro a _w _hB hF hd
    have h126 : a.tmps.getD 126 undef = .bool true := hd.1 rfl
    exact step_move (rf_open true rfl rfl h126) rfl _ rfl ((hF.other 17 rfl).trans S.v17)
  refine ⟨?_, ?_⟩
  · intro a _w _hB _hF hd
    have h126 : a.tmps.getD 126 undef = .bool true := hd.2.2.1 rfl
    have h127 : a.tmps.getD 127 undef = .slice (some ⟨b, oo, none⟩) n c := hd.1 rfl
    have h128 : a.tmps.getD 128 undef = .int .i64 ((jj : Int)) := hd.2.1 rfl
    exact rf_indexIt (rf_open true rfl rfl h126) rfl _ _ rfl b oo n c jj _ h127 h128 rfl S.lj rfl
  refine ⟨?_, ?_⟩
  · intro a _w _hB _hF hd
    have h126 : a.tmps.getD 126 undef = .bool true := hd.2.1 rfl
    have h129 : a.tmps.getD 129 undef = .pointer (some ⟨b, oo + jj * 4, none⟩) := hd.1 rfl
    exact rf_faddr (rf_open true rfl rfl h126) rfl _ _ _ rfl _ _ 2 _ h129 (by omega) (fun _ _ => by kernel_rfl) rfl
  refine ⟨?_, ?_⟩
  · intro a w hB _hF hd
    have h126 : a.tmps.getD 126 undef = .bool true := hd.2.1 rfl
    have h130 : a.tmps.getD 130 undef = .pointer (some ⟨b, oo + jj * 4 + 2, none⟩) := hd.1 rfl
    exact rf_loadi (rf_open true rfl rfl h126) rfl _ rfl _ _ h130 _ (S.da w hB) rfl
  refine ⟨?_, ?_⟩
  · intro a _w _hB hF hd
    have h126 : a.tmps.getD 126 undef = .bool true := hd.1 rfl
    exact step_move (rf_open true rfl rfl h126) rfl _ rfl ((hF.other 16 rfl).trans S.v16)
  refine ⟨?_, ?_⟩
  · intro a _w _hB hF hd
    have h126 : a.tmps.getD 126 undef = .bool true := hd.1 rfl
    exact step_move (rf_open true rfl rfl h126) rfl _ rfl ((hF.other 17 rfl).trans S.v17)
  refine ⟨?_, ?_⟩
  · intro a _w _hB _hF hd
    have h126 : a.tmps.getD 126 undef = .bool true := hd.2.1 rfl
    have h133 : a.tmps.getD 133 undef = .int .i64 ((jj : Int)) := hd.1 rfl
    exact rf_subr (rf_open true rfl rfl h126) rfl _ _ rfl (jj : Int) 1 (jp : Int) h133 rfl (by have := S.ep; omega) (by omega) (by have := S.ep; have := S.lm; omega) rfl
  refine ⟨?_, ?_⟩
  · intro a _w _hB _hF hd
    have h126 : a.tmps.getD 126 undef = .bool true := hd.2.2.1 rfl
    have h132 : a.tmps.getD 132 undef = .slice (some ⟨b, oo, none⟩) n c := hd.1 rfl
    have h134 : a.tmps.getD 134 undef = .int .i64 ((jp : Int)) := hd.2.1 rfl
    exact rf_indexIt (rf_open true rfl rfl h126) rfl _ _ rfl b oo n c jp _ h132 h134 rfl S.lp rfl
  refine ⟨?_, ?_⟩
  · intro a _w _hB _hF hd
    have h126 : a.tmps.getD 126 undef = .bool true := hd.2.1 rfl
    have h135 : a.tmps.getD 135 undef = .pointer (some ⟨b, oo + jp * 4, none⟩) := hd.1 rfl
    exact rf_faddr (rf_open true rfl rfl h126) rfl _ _ _ rfl _ _ 2 _ h135 (by omega) (fun _ _ => by kernel_rfl) rfl
  refine ⟨?_, ?_⟩
  · intro a w hB _hF hd
    have h126 : a.tmps.getD 126 undef = .bool true := hd.2.1 rfl
    have h136 : a.tmps.getD 136 undef = .pointer (some ⟨b, oo + jp * 4 + 2, none⟩) := hd.1 rfl
    exact rf_loadi (rf_open true rfl rfl h126) rfl _ rfl _ _ h136 _ (S.dp w hB) rfl
  refine ⟨?_, ?_⟩
  · intro a _w _hB _hF hd
    have h126 : a.tmps.getD 126 undef = .bool true := hd.2.2.1 rfl
    have h131 : a.tmps.getD 131 undef = .int .i64 qa := hd.1 rfl
    have h137 : a.tmps.getD 137 undef = .int .i64 qp := hd.2.1 rfl
    exact rf_leq (rf_open true rfl rfl h126) rfl _ _ rfl _ _ h131 h137 false S.e3 rfl
  refine ⟨?_, ?_⟩
  · intro a _w _hB _hF hd
    have h113 : a.tmps.getD 113 undef = .bool false := hd.2.2.1 rfl
    have h126 : a.tmps.getD 126 undef = .bool true := hd.1 rfl
    have h138 : a.tmps.getD 138 undef = .bool false := hd.2.1 rfl
    exact rf_pick (rf_open false rfl rfl h113) rfl _ _ _ rfl true h126 h138
  refine ⟨?_, ?_⟩
  · intro a _w _hB _hF hd
    have h113 : a.tmps.getD 113 undef = .bool false := hd.1 rfl
    have h139 : a.tmps.getD 139 undef = .bool false := hd.2.1 rfl
    exact rf_pick (guard_none rfl) rfl _ _ _ rfl false h113 h139
  trivial
set_option maxRecDepth 100000 in
set_option maxHeartbeats 2000000 in
theorem tr21e_any {Q : Exit → Act → World → Prop} {l : List Oper} (hl : opsOf 21 Try.f8 = l) (hend : ∀ w : World, Below w0.heap.size w0 w → Q .normal (putAll a0 [(101, .slice (some ⟨b, oo, none⟩) n c), (102, .int .i64 ((jj : Int))), (103, .pointer (some ⟨b, oo + jj * 4, none⟩)), (104, .pointer (some ⟨b, oo + jj * 4 + 1, none⟩)), (105, .int .i64 ta), (106, .slice (some ⟨b, oo, none⟩) n c), (107, .int .i64 ((jj : Int))), (108, .int .i64 ((jp : Int))), (109, .pointer (some ⟨b, oo + jp * 4, none⟩)), (110, .pointer (some ⟨b, oo + jp * 4 + 1, none⟩)), (111, .int .i64 tp), (112, .bool false), (113, .bool false), (114, .slice (some ⟨b, oo, none⟩) n c), (115, .int .i64 ((jj : Int))), (116, .pointer (some ⟨b, oo + jj * 4, none⟩)), (117, .pointer (some ⟨b, oo + jj * 4 + 1, none⟩)), (118, .int .i64 ta), (119, .slice (some ⟨b, oo, none⟩) n c), (120, .int .i64 ((jj : Int))), (121, .int .i64 ((jp : Int))), (122, .pointer (some ⟨b, oo + jp * 4, none⟩)), (123, .pointer (some ⟨b, oo + jp * 4 + 1, none⟩)), (124, .int .i64 tp), (125, .bool true), (126, .bool true), (127, .slice (some ⟨b, oo, none⟩) n c), (128, .int .i64 ((jj : Int))), (129, .pointer (some ⟨b, oo + jj * 4, none⟩)), (130, .pointer (some ⟨b, oo + jj * 4 + 2, none⟩)), (131, .int .i64 qa), (132, .slice (some ⟨b, oo, none⟩) n c), (133, .int .i64 ((jj : Int))), (134, .int .i64 ((jp : Int))), (135, .pointer (some ⟨b, oo + jp * 4, none⟩)), (136, .pointer (some ⟨b, oo + jp * 4 + 2, none⟩)), (137, .int .i64 qp), (138, .bool false), (139, .bool false), (140, .bool false)]) w) :
    (Code.region 21 l.toArray true).wp Try.prog Q a0 w0 := by
  subst hl
  refine region_facts2 (tr21eF b oo n c jj jp ta qa tp qp) tr21eD 176 S.size rfl (by kernel_rfl) (by kernel_rfl) (tr21eF_mono _ _ _ _ _ _ _ _ _ _) (tr21e_ok S) fun a w hB hF h => ?_
  have hv : valsAre a [(101, .slice (some ⟨b, oo, none⟩) n c), (102, .int .i64 ((jj : Int))), (103, .pointer (some ⟨b, oo + jj * 4, none⟩)), (104, .pointer (some ⟨b, oo + jj * 4 + 1, none⟩)), (105, .int .i64 ta), (106, .slice (some ⟨b, oo, none⟩) n c), (107, .int .i64 ((jj : Int))), (108, .int .i64 ((jp : Int))), (109, .pointer (some ⟨b, oo + jp * 4, none⟩)), (110, .pointer (some ⟨b, oo + jp * 4 + 1, none⟩)), (111, .int .i64 tp), (112, .bool false), (113, .bool false), (114, .slice (some ⟨b, oo, none⟩) n c), (115, .int .i64 ((jj : Int))), (116, .pointer (some ⟨b, oo + jj * 4, none⟩)), (117, .pointer (some ⟨b, oo + jj * 4 + 1, none⟩)), (118, .int .i64 ta), (119, .slice (some ⟨b, oo, none⟩) n c), (120, .int .i64 ((jj : Int))), (121, .int .i64 ((jp : Int))), (122, .pointer (some ⟨b, oo + jp * 4, none⟩)), (123, .pointer (some ⟨b, oo + jp * 4 + 1, none⟩)), (124, .int .i64 tp), (125, .bool true), (126, .bool true), (127, .slice (some ⟨b, oo, none⟩) n c), (128, .int .i64 ((jj : Int))), (129, .pointer (some ⟨b, oo + jj * 4, none⟩)), (130, .pointer (some ⟨b, oo + jj * 4 + 2, none⟩)), (131, .int .i64 qa), (132, .slice (some ⟨b, oo, none⟩) n c), (133, .int .i64 ((jj : Int))), (134, .int .i64 ((jp : Int))), (135, .pointer (some ⟨b, oo + jp * 4, none⟩)), (136, .pointer (some ⟨b, oo + jp * 4 + 2, none⟩)), (137, .int .i64 qp), (138, .bool false), (139, .bool false), (140, .bool false)] := by
    refine ⟨?_, ?_, ?_, ?_, ?_, ?_, ?_, ?_, ?_, ?_, ?_, ?_, ?_, ?_, ?_, ?_, ?_, ?_, ?_, ?_, ?_, ?_, ?_, ?_, ?_, ?_, ?_, ?_, ?_, ?_, ?_, ?_, ?_, ?_, ?_, ?_, ?_, ?_, ?_, ?_, trivial⟩
    · exact h 0 (some 101) rfl
    · exact h 1 (some 102) rfl
    · exact h 2 (some 103) rfl
    · exact h 3 (some 104) rfl
    · exact h 4 (some 105) rfl
    · exact h 5 (some 106) rfl
    · exact h 6 (some 107) rfl
    · exact h 7 (some 108) rfl
    · exact h 8 (some 109) rfl
    · exact h 9 (some 110) rfl
    · exact h 10 (some 111) rfl
    · exact h 11 (some 112) rfl
    · exact h 12 (some 113) rfl
    · exact h 13 (some 114) rfl
    · exact h 14 (some 115) rfl
    · exact h 15 (some 116) rfl
    · exact h 16 (some 117) rfl
    · exact h 17 (some 118) rfl
    · exact h 18 (some 119) rfl
    · exact h 19 (some 120) rfl
    · exact h 20 (some 121) rfl
    · exact h 21 (some 122) rfl
    · exact h 22 (some 123) rfl
    · exact h 23 (some 124) rfl
    · exact h 24 (some 125) rfl
    · exact h 25 (some 126) rfl
    · exact h 26 (some 127) rfl
    · exact h 27 (some 128) rfl
    · exact h 28 (some 129) rfl
    · exact h 29 (some 130) rfl
    · exact h 30 (some 131) rfl
    · exact h 31 (some 132) rfl
    · exact h 32 (some 133) rfl
    · exact h 33 (some 134) rfl
    · exact h 34 (some 135) rfl
    · exact h 35 (some 136) rfl
    · exact h 36 (some 137) rfl
    · exact h 37 (some 138) rfl
    · exact h 38 (some 139) rfl
    · exact h 39 (some 140) rfl
  rw [frame_is hF _ hv (by rfl) (by rfl)]
  exact hend w hB
end

def tr21nD : List (Option Tmp) := [some 101, some 102, some 103, some 104, some 105, some 106, some 107, some 108, some 109, some 110, some 111, some 112, some 113, some 114, some 115, some 116, some 117, some 118, some 119, some 120, some 121, some 122, some 123, some 124, some 125, some 126, some 127, some 128, some 129, some 130, some 131, some 132, some 133, some 134, some 135, some 136, some 137, some 138, some 139, some 140]
def tr21nF (b oo n c jj jp : Nat) (ta _qa tp _qp : Int) : List Fact := [isV (.slice (some ⟨b, oo, none⟩) n c), isV (.int .i64 ((jj : Int))), isV (.pointer (some ⟨b, oo + jj * 4, none⟩)), isV (.pointer (some ⟨b, oo + jj * 4 + 1, none⟩)), isV (.int .i64 ta), isV (.slice (some ⟨b, oo, none⟩) n c), isV (.int .i64 ((jj : Int))), isV (.int .i64 ((jp : Int))), isV (.pointer (some ⟨b, oo + jp * 4, none⟩)), isV (.pointer (some ⟨b, oo + jp * 4 + 1, none⟩)), isV (.int .i64 tp), isV (.bool false), isV (.bool false), isV (.slice (some ⟨b, oo, none⟩) n c), isV (.int .i64 ((jj : Int))), isV (.pointer (some ⟨b, oo + jj * 4, none⟩)), isV (.pointer (some ⟨b, oo + jj * 4 + 1, none⟩)), isV (.int .i64 ta), isV (.slice (some ⟨b, oo, none⟩) n c), isV (.int .i64 ((jj : Int))), isV (.int .i64 ((jp : Int))), isV (.pointer (some ⟨b, oo + jp * 4, none⟩)), isV (.pointer (some ⟨b, oo + jp * 4 + 1, none⟩)), isV (.int .i64 tp), isV (.bool false), isV (.bool false), isV (undef), isV (undef), isV (undef), isV (undef), isV (undef), isV (undef), isV (undef), isV (undef), isV (undef), isV (undef), isV (undef), isV (undef), isV (.bool false), isV (.bool false)]
theorem tr21nF_mono (b oo n c jj jp : Nat) (ta qa tp qp : Int) : ∀ φ ∈ tr21nF b oo n c jj jp ta qa tp qp, Mono φ := by
  unfold tr21nF
  refine monos_cons (mono_isV _) ?_
  refine monos_cons (mono_isV _) ?_
  refine monos_cons (mono_isV _) ?_
  refine monos_cons (mono_isV _) ?_
  refine monos_cons (mono_isV _) ?_
  refine monos_cons (mono_isV _) ?_
  refine monos_cons (mono_isV _) ?_
  refine monos_cons (mono_isV _) ?_
  refine monos_cons (mono_isV _) ?_
  refine monos_cons (mono_isV _) ?_
  refine monos_cons (mono_isV _) ?_
  refine monos_cons (mono_isV _) ?_
  refine monos_cons (mono_isV _) ?_
  refine monos_cons (mono_isV _) ?_
  refine monos_cons (mono_isV _) ?_
  refine monos_cons (mono_isV _) ?_
  refine monos_cons (mono_isV _) ?_
  refine monos_cons (mono_isV _) ?_
  refine monos_cons (mono_isV _) ?_
  refine monos_cons (mono_isV _) ?_
  refine monos_cons (mono_isV _) ?_
  refine monos_cons (mono_isV _) ?_
  refine monos_cons (mono_isV _) ?_
  refine monos_cons (mono_isV _) ?_
  refine monos_cons (mono_isV _) ?_
  refine monos_cons (mono_isV _) ?_
  refine monos_cons (mono_isV _) ?_
  refine monos_cons (mono_isV _) ?_
  refine monos_cons (mono_isV _) ?_
  refine monos_cons (mono_isV _) ?_
  refine monos_cons (mono_isV _) ?_
  refine monos_cons (mono_isV _) ?_
  refine monos_cons (mono_isV _) ?_
  refine monos_cons (mono_isV _) ?_
  refine monos_cons (mono_isV _) ?_
  refine monos_cons (mono_isV _) ?_
  refine monos_cons (mono_isV _) ?_
  refine monos_cons (mono_isV _) ?_
  refine monos_cons (mono_isV _) ?_
  refine monos_cons (mono_isV _) ?_
  exact monos_nil
structure tr21nS (b oo n c jj jp : Nat) (ta qa tp qp : Int) (a0 : Act) (w0 : World) : Prop where
  size : a0.tmps.size = 176
  v16 : a0.tmps.getD 16 undef = .slice (some ⟨b, oo, none⟩) n c
  v17 : a0.tmps.getD 17 undef = .int .i64 ((jj : Int))
  lj : jj < n
  lp : jp < n
  ep : jp + 1 = jj
  lm : jj < 10000
  ca : ∀ w, Below w0.heap.size w0 w → w.cell? ⟨b, oo + jj * 4 + 1, none⟩ = some (.int .i64 ta)
  cp : ∀ w, Below w0.heap.size w0 w → w.cell? ⟨b, oo + jp * 4 + 1, none⟩ = some (.int .i64 tp)
  e1 : decide (ta < tp) = false
  e2 : decide (ta = tp) = false
section
variable {b oo n c jj jp : Nat} {ta qa tp qp : Int} {a0 : Act} {w0 : World} (S : tr21nS b oo n c jj jp ta qa tp qp a0 w0)
include S
set_option maxRecDepth 100000 in
set_option maxHeartbeats 8000000 in
theorem tr21n_ok : AllOps (fun j o => ∀ (a : Act) (w : World), Below w0.heap.size w0 w → FrD tr21nD a0 a → needs tr21nD (tr21nF b oo n c jj jp ta qa tp qp) a w o.after.toList → StepD Try.prog tr21nD (factAt (tr21nF b oo n c jj jp ta qa tp qp) j) o a w) 0 (opsOf 21 Try.f8) := by
  simp only [opsOf, Try.f8, opsAt, Option.bind, Option.or, Option.getD, reduceCtorEq, if_true, if_false, Nat.reduceEqDiff]
  refine ⟨?_, ?_⟩
  · intro _a _w _hB hF _hd
    exact step_move (guard_none rfl) rfl _ rfl ((hF.other 16 rfl).trans S.v16)
  refine ⟨?_, ?_⟩
  · intro _a _w _hB hF _hd
    exact step_move (guard_none rfl) rfl _ rfl ((hF.other 17 rfl).trans S.v17)
  refine ⟨?_, ?_⟩
  · intro a _w _hB _hF hd
    have h101 : a.tmps.getD 101 undef = .slice (some ⟨b, oo, none⟩) n c := hd.1 rfl
    have h102 : a.tmps.getD 102 undef = .int .i64 ((jj : Int)) := hd.2.1 rfl
    exact rf_indexIt (guard_none rfl) rfl _ _ rfl b oo n c jj _ h101 h102 rfl S.lj rfl
  refine ⟨?_, ?_⟩
  · intro a _w _hB _hF hd
    have h103 : a.tmps.getD 103 undef = .pointer (some ⟨b, oo + jj * 4, none⟩) := hd.1 rfl
    exact rf_faddr (guard_none rfl) rfl _ _ _ rfl _ _ 1 _ h103 (by omega) (fun _ _ => by kernel_rfl) rfl
  refine ⟨?_, ?_⟩
  · intro a w hB _hF hd
    have h104 : a.tmps.getD 104 undef = .pointer (some ⟨b, oo + jj * 4 + 1, none⟩) := hd.1 rfl
    exact rf_loadi (guard_none rfl) rfl _ rfl _ _ h104 _ (S.ca w hB) rfl
  refine ⟨?_, ?_⟩
  · intro _a _w _hB hF _hd
    exact step_move (guard_none rfl) rfl _ rfl ((hF.other 16 rfl).trans S.v16)
  refine ⟨?_, ?_⟩
  · intro _a _w _hB hF _hd
    exact step_move (guard_none rfl) rfl _ rfl ((hF.other 17 rfl).trans S.v17)
  refine ⟨?_, ?_⟩
  · intro a _w _hB _hF hd
    have h107 : a.tmps.getD 107 undef = .int .i64 ((jj : Int)) := hd.1 rfl
    exact rf_subr (guard_none rfl) rfl _ _ rfl (jj : Int) 1 (jp : Int) h107 rfl (by have := S.ep; omega) (by omega) (by have := S.ep; have := S.lm; omega) rfl
  refine ⟨?_, ?_⟩
  · intro a _w _hB _hF hd
    have h106 : a.tmps.getD 106 undef = .slice (some ⟨b, oo, none⟩) n c := hd.1 rfl
    have h108 : a.tmps.getD 108 undef = .int .i64 ((jp : Int)) := hd.2.1 rfl
    exact rf_indexIt (guard_none rfl) rfl _ _ rfl b oo n c jp _ h106 h108 rfl S.lp rfl
  refine ⟨?_, ?_⟩
  · intro a _w _hB _hF hd
    have h109 : a.tmps.getD 109 undef = .pointer (some ⟨b, oo + jp * 4, none⟩) := hd.1 rfl
    exact rf_faddr (guard_none rfl) rfl _ _ _ rfl _ _ 1 _ h109 (by omega) (fun _ _ => by kernel_rfl) rfl
  refine ⟨?_, ?_⟩
  · intro a w hB _hF hd
    have h110 : a.tmps.getD 110 undef = .pointer (some ⟨b, oo + jp * 4 + 1, none⟩) := hd.1 rfl
    exact rf_loadi (guard_none rfl) rfl _ rfl _ _ h110 _ (S.cp w hB) rfl
  refine ⟨?_, ?_⟩
  · intro a _w _hB _hF hd
    have h105 : a.tmps.getD 105 undef = .int .i64 ta := hd.1 rfl
    have h111 : a.tmps.getD 111 undef = .int .i64 tp := hd.2.1 rfl
    exact rf_lss (guard_none rfl) rfl _ _ rfl _ _ h105 h111 false S.e1 rfl
  refine ⟨?_, ?_⟩
  · intro a _w _hB _hF hd
    have h112 : a.tmps.getD 112 undef = .bool false := hd.1 rfl
    exact step_move (guard_none rfl) rfl _ rfl h112
  refine ⟨?_, ?_⟩
  · intro a _w _hB hF hd
    have h113 : a.tmps.getD 113 undef = .bool false := hd.1 rfl
    exact step_move (rf_open false rfl rfl h113) rfl _ rfl ((hF.other 16 rfl).trans S.v16)
  refine ⟨?_, ?_⟩
  · intro a _w _hB hF hd
    have h113 : a.tmps.getD 113 undef = .bool false := hd.1 rfl
    exact step_move (rf_open false rfl rfl h113) rfl _ rfl ((hF.other 17 rfl).trans S.v17)
  refine ⟨?_, ?_⟩
  · intro a _w _hB _hF hd
    have h113 : a.tmps.getD 113 undef = .bool false := hd.2.2.1 rfl
    have h114 : a.tmps.getD 114 undef = .slice (some ⟨b, oo, none⟩) n c := hd.1 rfl
    have h115 : a.tmps.getD 115 undef = .int .i64 ((jj : Int)) := hd.2.1 rfl
    exact rf_indexIt (rf_open false rfl rfl h113) rfl _ _ rfl b oo n c jj _ h114 h115 rfl S.lj rfl
  refine ⟨?_, ?_⟩
  · intro a _w _hB _hF hd
    have h113 : a.tmps.getD 113 undef = .bool false := hd.2.1 rfl
    have h116 : a.tmps.getD 116 undef = .pointer (some ⟨b, oo + jj * 4, none⟩) := hd.1 rfl
    exact rf_faddr (rf_open false rfl rfl h113) rfl _ _ _ rfl _ _ 1 _ h116 (by omega) (fun _ _ => by kernel_rfl) rfl
  refine ⟨?_, ?_⟩
  · intro a w hB _hF hd
    have h113 : a.tmps.getD 113 undef = .bool false := hd.2.1 rfl
    have h117 : a.tmps.getD 117 undef = .pointer (some ⟨b, oo + jj * 4 + 1, none⟩) := hd.1 rfl
    exact rf_loadi (rf_open false rfl rfl h113) rfl _ rfl _ _ h117 _ (S.ca w hB) rfl
  refine ⟨?_, ?_⟩
  · intro a _w _hB hF hd
    have h113 : a.tmps.getD 113 undef = .bool false := hd.1 rfl
    exact step_move (rf_open false rfl rfl h113) rfl _ rfl ((hF.other 16 rfl).trans S.v16)
  refine ⟨?_, ?_⟩
  · intro a _w _hB hF hd
    have h113 : a.tmps.getD 113 undef = .bool false := hd.1 rfl
    exact step_move (rf_open false rfl rfl h113) rfl _ rfl ((hF.other 17 rfl).trans S.v17)
  refine ⟨?_, ?_⟩
  · intro a _w _hB _hF hd
    have h113 : a.tmps.getD 113 undef = .bool false := hd.2.1 rfl
    have h120 : a.tmps.getD 120 undef = .int .i64 ((jj : Int)) := hd.1 rfl
    exact rf_subr (rf_open false rfl rfl h113) rfl _ _ rfl (jj : Int) 1 (jp : Int) h120 rfl (by have := S.ep; omega) (by omega) (by have := S.ep; have := S.lm; omega) rfl
  refine ⟨?_, ?_⟩
  · intro a _w _hB _hF hd
    have h113 : a.tmps.getD 113 undef = .bool false := hd.2.2.1 rfl
    have h119 : a.tmps.getD 119 undef = .slice (some ⟨b, oo, none⟩) n c := hd.1 rfl
    have h121 : a.tmps.getD 121 undef = .int .i64 ((jp : Int)) := hd.2.1 rfl
    exact rf_indexIt (rf_open false rfl rfl h113) rfl _ _ rfl b oo n c jp _ h119 h121 rfl S.lp rfl
  refine ⟨?_, ?_⟩
  · intro a _w _hB _hF hd
    have h113 : a.tmps.getD 113 undef = .bool false := hd.2.1 rfl
    have h122 : a.tmps.getD 122 undef = .pointer (some ⟨b, oo + jp * 4, none⟩) := hd.1 rfl
    exact rf_faddr (rf_open false rfl rfl h113) rfl _ _ _ rfl _ _ 1 _ h122 (by omega) (fun _ _ => by kernel_rfl) rfl
  refine ⟨?_, ?_⟩
  · intro a w hB _hF hd
    have h113 : a.tmps.getD 113 undef = .bool false := hd.2.1 rfl
    have h123 : a.tmps.getD 123 undef = .pointer (some ⟨b, oo + jp * 4 + 1, none⟩) := hd.1 rfl
    exact rf_loadi (rf_open false rfl rfl h113) rfl _ rfl _ _ h123 _ (S.cp w hB) rfl
  refine ⟨?_, ?_⟩
  · intro a _w _hB _hF hd
    have h113 : a.tmps.getD 113 undef = .bool false := hd.2.2.1 rfl
    have h118 : a.tmps.getD 118 undef = .int .i64 ta := hd.1 rfl
    have h124 : a.tmps.getD 124 undef = .int .i64 tp := hd.2.1 rfl
    exact rf_eql (rf_open false rfl rfl h113) rfl _ _ rfl _ _ h118 h124 false S.e2 rfl
  refine ⟨?_, ?_⟩
  · intro a _w _hB _hF hd
    have h113 : a.tmps.getD 113 undef = .bool false := hd.2.1 rfl
    have h125 : a.tmps.getD 125 undef = .bool false := hd.1 rfl
    exact step_move (rf_open false rfl rfl h113) rfl _ rfl h125
  refine ⟨?_, ?_⟩
  · intro a _w _hB _hF hd
    have h126 : a.tmps.getD 126 undef = .bool false := hd.1 rfl
    exact rf_shut true rfl rfl h126 rfl
  refine ⟨?_, ?_⟩
  · intro a _w _hB _hF hd
    have h126 : a.tmps.getD 126 undef = .bool false := hd.1 rfl
    exact rf_shut true rfl rfl h126 rfl
  refine ⟨?_, ?_⟩
  · intro a _w _hB _hF hd
    have h126 : a.tmps.getD 126 undef = .bool false := hd.2.2.1 rfl
    exact rf_shut true rfl rfl h126 rfl
  refine ⟨?_, ?_⟩
  · intro a _w _hB _hF hd
    have h126 : a.tmps.getD 126 undef = .bool false := hd.2.1 rfl
    exact rf_shut true rfl rfl h126 rfl
  refine ⟨?_, ?_⟩
  · intro a _w _hB _hF hd
    have h126 : a.tmps.getD 126 undef = .bool false := hd.2.1 rfl
    exact rf_shut true rfl rfl h126 rfl
  refine ⟨?_, ?_⟩
  · intro a _w _hB _hF hd
    have h126 : a.tmps.getD 126 undef = .bool false := hd.1 rfl
    exact rf_shut true rfl rfl h126 rfl
  refine ⟨?_, ?_⟩
  · intro a _w _hB _hF hd
    have h126 : a.tmps.getD 126 undef = .bool false := hd.1 rfl
    exact rf_shut true rfl rfl h126 rfl
  refine ⟨?_, ?_⟩
  · intro a _w _hB _hF hd
    have h126 : a.tmps.getD 126 undef = .bool false := hd.2.1 rfl
    exact rf_shut true rfl rfl h126 rfl
  refine ⟨?_, ?_⟩
  · intro a _w _hB _hF hd
    have h126 : a.tmps.getD 126 undef = .bool false := hd.2.2.1 rfl
    exact rf_shut true rfl rfl h126 rfl
  refine ⟨?_, ?_⟩
  · intro a _w _hB _hF hd
    have h126 : a.tmps.getD 126 undef = .bool false := hd.2.1 rfl
    exact rf_shut true rfl rfl h126 rfl
  refine ⟨?_, ?_⟩
  · intro a _w _hB _hF hd
    have h126 : a.tmps.getD 126 undef = .bool false := hd.2.1 rfl
    exact rf_shut true rfl rfl h126 rfl
  refine ⟨?_, ?_⟩
  · intro a _w _hB _hF hd
    have h126 : a.tmps.getD 126 undef = .bool false := hd.2.2.1 rfl
    exact rf_shut true rfl rfl h126 rfl
  refine ⟨?_, ?_⟩
  · intro a _w _hB _hF hd
    have h113 : a.tmps.getD 113 undef = .bool false := hd.2.2.1 rfl
    have h126 : a.tmps.getD 126 undef = .bool false := hd.1 rfl
    exact rf_pick (rf_open false rfl rfl h113) rfl _ _ _ rfl false h126 rfl
  refine ⟨?_, ?_⟩
  · intro a _w _hB _hF hd
    have h113 : a.tmps.getD 113 undef = .bool false := hd.1 rfl
    have h139 : a.tmps.getD 139 undef = .bool false := hd.2.1 rfl
    exact rf_pick (guard_none rfl) rfl _ _ _ rfl false h113 h139
  trivial
set_option maxRecDepth 100000 in
set_option maxHeartbeats 2000000 in
theorem tr21n_any {Q : Exit → Act → World → Prop} {l : List Oper} (hl : opsOf 21 Try.f8 = l) (hend : ∀ w : World, Below w0.heap.size w0 w → Q .normal (putAll a0 [(101, .slice (some ⟨b, oo, none⟩) n c), (102, .int .i64 ((jj : Int))), (103, .pointer (some ⟨b, oo + jj * 4, none⟩)), (104, .pointer (some ⟨b, oo + jj * 4 + 1, none⟩)), (105, .int .i64 ta), (106, .slice (some ⟨b, oo, none⟩) n c), (107, .int .i64 ((jj : Int))), (108, .int .i64 ((jp : Int))), (109, .pointer (some ⟨b, oo + jp * 4, none⟩)), (110, .pointer (some ⟨b, oo + jp * 4 + 1, none⟩)), (111, .int .i64 tp), (112, .bool false), (113, .bool false), (114, .slice (some ⟨b, oo, none⟩) n c), (115, .int .i64 ((jj : Int))), (116, .pointer (some ⟨b, oo + jj * 4, none⟩)), (117, .pointer (some ⟨b, oo + jj * 4 + 1, none⟩)), (118, .int .i64 ta), (119, .slice (some ⟨b, oo, none⟩) n c), (120, .int .i64 ((jj : Int))), (121, .int .i64 ((jp : Int))), (122, .pointer (some ⟨b, oo + jp * 4, none⟩)), (123, .pointer (some ⟨b, oo + jp * 4 + 1, none⟩)), (124, .int .i64 tp), (125, .bool false), (126, .bool false), (127, undef), (128, undef), (129, undef), (130, undef), (131, undef), (132, undef), (133, undef), (134, undef), (135, undef), (136, undef), (137, undef), (138, undef), (139, .bool false), (140, .bool false)]) w) :
    (Code.region 21 l.toArray true).wp Try.prog Q a0 w0 := by
  subst hl
  refine region_facts2 (tr21nF b oo n c jj jp ta qa tp qp) tr21nD 176 S.size rfl (by kernel_rfl) (by kernel_rfl) (tr21nF_mono _ _ _ _ _ _ _ _ _ _) (tr21n_ok S) fun a w hB hF h => ?_
  have hv : valsAre a [(101, .slice (some ⟨b, oo, none⟩) n c), (102, .int .i64 ((jj : Int))), (103, .pointer (some ⟨b, oo + jj * 4, none⟩)), (104, .pointer (some ⟨b, oo + jj * 4 + 1, none⟩)), (105, .int .i64 ta), (106, .slice (some ⟨b, oo, none⟩) n c), (107, .int .i64 ((jj : Int))), (108, .int .i64 ((jp : Int))), (109, .pointer (some ⟨b, oo + jp * 4, none⟩)), (110, .pointer (some ⟨b, oo + jp * 4 + 1, none⟩)), (111, .int .i64 tp), (112, .bool false), (113, .bool false), (114, .slice (some ⟨b, oo, none⟩) n c), (115, .int .i64 ((jj : Int))), (116, .pointer (some ⟨b, oo + jj * 4, none⟩)), (117, .pointer (some ⟨b, oo + jj * 4 + 1, none⟩)), (118, .int .i64 ta), (119, .slice (some ⟨b, oo, none⟩) n c), (120, .int .i64 ((jj : Int))), (121, .int .i64 ((jp : Int))), (122, .pointer (some ⟨b, oo + jp * 4, none⟩)), (123, .pointer (some ⟨b, oo + jp * 4 + 1, none⟩)), (124, .int .i64 tp), (125, .bool false), (126, .bool false), (127, undef), (128, undef), (129, undef), (130, undef), (131, undef), (132, undef), (133, undef), (134, undef), (135, undef), (136, undef), (137, undef), (138, undef), (139, .bool false), (140, .bool false)] := by
    refine ⟨?_, ?_, ?_, ?_, ?_, ?_, ?_, ?_, ?_, ?_, ?_, ?_, ?_, ?_, ?_, ?_, ?_, ?_, ?_, ?_, ?_, ?_, ?_, ?_, ?_, ?_, ?_, ?_, ?_, ?_, ?_, ?_, ?_, ?_, ?_, ?_, ?_, ?_, ?_, ?_, trivial⟩
    · exact h 0 (some 101) rfl
    · exact h 1 (some 102) rfl
    · exact h 2 (some 103) rfl
    · exact h 3 (some 104) rfl
    · exact h 4 (some 105) rfl
    · exact h 5 (some 106) rfl
    · exact h 6 (some 107) rfl
    · exact h 7 (some 108) rfl
    · exact h 8 (some 109) rfl
    · exact h 9 (some 110) rfl
    · exact h 10 (some 111) rfl
    · exact h 11 (some 112) rfl
    · exact h 12 (some 113) rfl
    · exact h 13 (some 114) rfl
    · exact h 14 (some 115) rfl
    · exact h 15 (some 116) rfl
    · exact h 16 (some 117) rfl
    · exact h 17 (some 118) rfl
    · exact h 18 (some 119) rfl
    · exact h 19 (some 120) rfl
    · exact h 20 (some 121) rfl
    · exact h 21 (some 122) rfl
    · exact h 22 (some 123) rfl
    · exact h 23 (some 124) rfl
    · exact h 24 (some 125) rfl
    · exact h 25 (some 126) rfl
    · exact h 26 (some 127) rfl
    · exact h 27 (some 128) rfl
    · exact h 28 (some 129) rfl
    · exact h 29 (some 130) rfl
    · exact h 30 (some 131) rfl
    · exact h 31 (some 132) rfl
    · exact h 32 (some 133) rfl
    · exact h 33 (some 134) rfl
    · exact h 34 (some 135) rfl
    · exact h 35 (some 136) rfl
    · exact h 36 (some 137) rfl
    · exact h 37 (some 138) rfl
    · exact h 38 (some 139) rfl
    · exact h 39 (some 140) rfl
  rw [frame_is hF _ hv (by rfl) (by rfl)]
  exact hend w hB
end

def tr24D : List (Option Tmp) := [some 142, some 143, some 144, some 145, some 146, some 147, some 148, some 149, some 150, some 151, some 152, some 153, some 154, some 155, some 156, some 157, some 158, some 159, some 160, some 161, some 162, some 163, some 164, some 165, some 166, some 167, some 168, some 169, some 170, some 171, some 172, some 173, some 174, some 175, some 4]
def tr24F (g gu _sp c : Nat) (A : Option Addr) (sa sb : Int) (R : List It) (V : Ac) : List Fact := [isV (.int .i64 0), isV (.int .i64 0), isV (.bool true), isV (.bool true), isV (.int .i64 0), isV (.int .i64 0), isV (.bool true), isV (.bool true), isV (.bool true), isV (.int .i64 0), isV (.int .i64 0), isV (.bool true), isV (.bool true), isV (.bool true), isV (.slice A R.length c), isV (.int .i64 R.length), isV (.int .i64 R.length), isV (.bool true), isV (.bool true), isV (.bool true), isV (.slice A R.length c), isV (.pointer (some ⟨gu, 0, none⟩)), itsX R, isV (.bool true), isV (.bool true), isV (.bool true), isV (.pointer (some ⟨g, 0, none⟩)), isV (.agg #[.int .i64 sa, .int .i64 sb]), accH V, isV (.pointer (some ⟨gu, 0, none⟩)), isV (.agg #[.int .i64 sa, .int .i64 sb]), accH V, isV (.bool true), isV (.bool true), isV (.bool true)]
theorem tr24F_mono (g gu sp c : Nat) (A : Option Addr) (sa sb : Int) (R : List It) (V : Ac) : ∀ φ ∈ tr24F g gu sp c A sa sb R V, Mono φ := by
  unfold tr24F
  refine monos_cons (mono_isV _) ?_
  refine monos_cons (mono_isV _) ?_
  refine monos_cons (mono_isV _) ?_
  refine monos_cons (mono_isV _) ?_
  refine monos_cons (mono_isV _) ?_
  refine monos_cons (mono_isV _) ?_
  refine monos_cons (mono_isV _) ?_
  refine monos_cons (mono_isV _) ?_
  refine monos_cons (mono_isV _) ?_
  refine monos_cons (mono_isV _) ?_
  refine monos_cons (mono_isV _) ?_
  refine monos_cons (mono_isV _) ?_
  refine monos_cons (mono_isV _) ?_
  refine monos_cons (mono_isV _) ?_
  refine monos_cons (mono_isV _) ?_
  refine monos_cons (mono_isV _) ?_
  refine monos_cons (mono_isV _) ?_
  refine monos_cons (mono_isV _) ?_
  refine monos_cons (mono_isV _) ?_
  refine monos_cons (mono_isV _) ?_
  refine monos_cons (mono_isV _) ?_
  refine monos_cons (mono_isV _) ?_
  refine monos_cons (itsX_mono _) ?_
  refine monos_cons (mono_isV _) ?_
  refine monos_cons (mono_isV _) ?_
  refine monos_cons (mono_isV _) ?_
  refine monos_cons (mono_isV _) ?_
  refine monos_cons (mono_isV _) ?_
  refine monos_cons (accH_mono _) ?_
  refine monos_cons (mono_isV _) ?_
  refine monos_cons (mono_isV _) ?_
  refine monos_cons (accH_mono _) ?_
  refine monos_cons (mono_isV _) ?_
  refine monos_cons (mono_isV _) ?_
  refine monos_cons (mono_isV _) ?_
  exact monos_nil
structure tr24S (g gu sp c : Nat) (A : Option Addr) (sa sb : Int) (R : List It) (V : Ac) (a0 : Act) (w0 : World) : Prop where
  size : a0.tmps.size = 176
  v5 : a0.tmps.getD 5 undef = .pointer (some ⟨g, 0, none⟩)
  v7 : a0.tmps.getD 7 undef = .pointer (some ⟨gu, 0, none⟩)
  v9 : a0.tmps.getD 9 undef = .int .i64 R.length
  v13 : a0.tmps.getD 13 undef = .int .i64 0
  v14 : a0.tmps.getD 14 undef = .int .i64 0
  v15 : a0.tmps.getD 15 undef = .int .i64 0
  v16 : a0.tmps.getD 16 undef = .slice A R.length c
  v18 : a0.tmps.getD 18 undef = .pointer (some ⟨sp, 0, none⟩)
  bs : Has w0 sp 54 #[.int .i64 sa, .int .i64 sb]
  it : Items w0 A R.length R
  lV : V.h.length ≤ maxLen
  lR : R.length ≤ 17592186044416
  i2 : ∀ w, Below w0.heap.size w0 w → Calls Try.prog 35 #[.pointer (some ⟨gu, 0, none⟩)] w fun e w1 => ∃ A c, e = .returned (.slice A (R).length c) ∧ OwnIt w1 w.heap.size (.slice A (R).length c) R ∧ Below w.heap.size w w1
  r1 : ∀ w, Below w0.heap.size w0 w → Calls Try.prog 31 #[.pointer (some ⟨g, 0, none⟩), .agg #[.int .i64 sa, .int .i64 sb]] w (AcO V w)
  r2 : ∀ w, Below w0.heap.size w0 w → Calls Try.prog 31 #[.pointer (some ⟨gu, 0, none⟩), .agg #[.int .i64 sa, .int .i64 sb]] w (AcO V w)
section
variable {g gu sp c : Nat} {A : Option Addr} {sa sb : Int} {R : List It} {V : Ac} {a0 : Act} {w0 : World} (S : tr24S g gu sp c A sa sb R V a0 w0)
include S
set_option maxRecDepth 100000 in
set_option maxHeartbeats 8000000 in
theorem tr24_ok : AllOps (fun j o => ∀ (a : Act) (w : World), Below w0.heap.size w0 w → FrD tr24D a0 a → needs tr24D (tr24F g gu sp c A sa sb R V) a w o.after.toList → StepD Try.prog tr24D (factAt (tr24F g gu sp c A sa sb R V) j) o a w) 0 (opsOf 24 Try.f8) := by
  simp only [opsOf, Try.f8, opsAt, Option.bind, Option.or, Option.getD, reduceCtorEq, if_true, if_false, Nat.reduceEqDiff]
  refine ⟨?_, ?_⟩
  · intro _a _w _hB hF _hd
    exact step_move (guard_none rfl) rfl _ rfl ((hF.other 13 rfl).trans S.v13)
  refine ⟨?_, ?_⟩
  · intro a _w _hB _hF hd
    have h142 : a.tmps.getD 142 undef = .int .i64 0 := hd.1 rfl
    refine step_call (guard_none rfl) rfl _ _ (rf_call_run Try.func16 (by kernel_rfl) (by kernel_rfl) _ _ rfl) ?_
    simp only [List.map_toArray, List.map_cons, List.map_nil, Act.eval, h142]
    exact (num0_any _ _).mono (by rintro e w1 ⟨rfl, rfl⟩; exact ⟨_, rfl, Below.refl _ _, rfl⟩)
  refine ⟨?_, ?_⟩
  · intro a _w _hB _hF hd
    have h143 : a.tmps.getD 143 undef = .int .i64 0 := hd.1 rfl
    exact rf_eql (guard_none rfl) rfl _ _ rfl _ _ h143 rfl true rfl rfl
  refine ⟨?_, ?_⟩
  · intro a _w _hB _hF hd
    have h144 : a.tmps.getD 144 undef = .bool true := hd.1 rfl
    exact step_move (guard_none rfl) rfl _ rfl h144
  refine ⟨?_, ?_⟩
  · intro a _w _hB hF hd
    have h145 : a.tmps.getD 145 undef = .bool true := hd.1 rfl
    exact step_move (rf_open true rfl rfl h145) rfl _ rfl ((hF.other 14 rfl).trans S.v14)
  refine ⟨?_, ?_⟩
  · intro a _w _hB _hF hd
    have h145 : a.tmps.getD 145 undef = .bool true := hd.2.1 rfl
    have h146 : a.tmps.getD 146 undef = .int .i64 0 := hd.1 rfl
    refine step_call (rf_open true rfl rfl h145) rfl _ _ (rf_call_run Try.func16 (by kernel_rfl) (by kernel_rfl) _ _ rfl) ?_
    simp only [List.map_toArray, List.map_cons, List.map_nil, Act.eval, h146]
    exact (num0_any _ _).mono (by rintro e w1 ⟨rfl, rfl⟩; exact ⟨_, rfl, Below.refl _ _, rfl⟩)
  refine ⟨?_, ?_⟩
  · intro a _w _hB _hF hd
    have h145 : a.tmps.getD 145 undef = .bool true := hd.2.1 rfl
    have h147 : a.tmps.getD 147 undef = .int .i64 0 := hd.1 rfl
    exact rf_eql (rf_open true rfl rfl h145) rfl _ _ rfl _ _ h147 rfl true rfl rfl
  refine ⟨?_, ?_⟩
  · intro a _w _hB _hF hd
    have h145 : a.tmps.getD 145 undef = .bool true := hd.1 rfl
    have h148 : a.tmps.getD 148 undef = .bool true := hd.2.1 rfl
    exact rf_pick (guard_none rfl) rfl _ _ _ rfl true h145 h148
  refine ⟨?_, ?_⟩
  · intro a _w _hB _hF hd
    have h149 : a.tmps.getD 149 undef = .bool true := hd.1 rfl
    exact step_move (guard_none rfl) rfl _ rfl h149
  refine ⟨?_, ?_⟩
  · intro a _w _hB hF hd
    have h150 : a.tmps.getD 150 undef = .bool true := hd.1 rfl
    exact step_move (rf_open true rfl rfl h150) rfl _ rfl ((hF.other 15 rfl).trans S.v15)
  refine ⟨?_, ?_⟩
  · intro a _w _hB _hF hd
    have h150 : a.tmps.getD 150 undef = .bool true := hd.2.1 rfl
    have h151 : a.tmps.getD 151 undef = .int .i64 0 := hd.1 rfl
    refine step_call (rf_open true rfl rfl h150) rfl _ _ (rf_call_run Try.func16 (by kernel_rfl) (by kernel_rfl) _ _ rfl) ?_
    simp only [List.map_toArray, List.map_cons, List.map_nil, Act.eval, h151]
    exact (num0_any _ _).mono (by rintro e w1 ⟨rfl, rfl⟩; exact ⟨_, rfl, Below.refl _ _, rfl⟩)
  refine ⟨?_, ?_⟩
  · intro a _w _hB _hF hd
    have h150 : a.tmps.getD 150 undef = .bool true := hd.2.1 rfl
    have h152 : a.tmps.getD 152 undef = .int .i64 0 := hd.1 rfl
    exact rf_eql (rf_open true rfl rfl h150) rfl _ _ rfl _ _ h152 rfl true rfl rfl
  refine ⟨?_, ?_⟩
  · intro a _w _hB _hF hd
    have h150 : a.tmps.getD 150 undef = .bool true := hd.1 rfl
    have h153 : a.tmps.getD 153 undef = .bool true := hd.2.1 rfl
    exact rf_pick (guard_none rfl) rfl _ _ _ rfl true h150 h153
  refine ⟨?_, ?_⟩
  · intro a _w _hB _hF hd
    have h154 : a.tmps.getD 154 undef = .bool true := hd.1 rfl
    exact step_move (guard_none rfl) rfl _ rfl h154
  refine ⟨?_, ?_⟩
  · intro a _w _hB hF hd
    have h155 : a.tmps.getD 155 undef = .bool true := hd.1 rfl
    exact step_move (rf_open true rfl rfl h155) rfl _ rfl ((hF.other 16 rfl).trans S.v16)
  refine ⟨?_, ?_⟩
  · intro a _w _hB _hF hd
    have h155 : a.tmps.getD 155 undef = .bool true := hd.2.1 rfl
    have h156 : a.tmps.getD 156 undef = .slice A R.length c := hd.1 rfl
    exact rf_len (rf_open true rfl rfl h155) rfl _ _ rfl Try.underlying52 _ _ _ h156 rfl
  refine ⟨?_, ?_⟩
  · intro a _w _hB hF hd
    have h155 : a.tmps.getD 155 undef = .bool true := hd.1 rfl
    exact step_move (rf_open true rfl rfl h155) rfl _ rfl ((hF.other 9 rfl).trans S.v9)
  refine ⟨?_, ?_⟩
  · intro a _w _hB _hF hd
    have h155 : a.tmps.getD 155 undef = .bool true := hd.2.2.1 rfl
    have h157 : a.tmps.getD 157 undef = .int .i64 R.length := hd.1 rfl
    have h158 : a.tmps.getD 158 undef = .int .i64 R.length := hd.2.1 rfl
    exact rf_eql (rf_open true rfl rfl h155) rfl _ _ rfl _ _ h157 h158 true (by simp) rfl
  refine ⟨?_, ?_⟩
  · intro a _w _hB _hF hd
    have h155 : a.tmps.getD 155 undef = .bool true := hd.1 rfl
    have h159 : a.tmps.getD 159 undef = .bool true := hd.2.1 rfl
    exact rf_pick (guard_none rfl) rfl _ _ _ rfl true h155 h159
  refine ⟨?_, ?_⟩
  · intro a _w _hB _hF hd
    have h160 : a.tmps.getD 160 undef = .bool true := hd.1 rfl
    exact step_move (guard_none rfl) rfl _ rfl h160
  refine ⟨?_, ?_⟩
  · intro a _w _hB hF hd
    have h161 : a.tmps.getD 161 undef = .bool true := hd.1 rfl
    exact step_move (rf_open true rfl rfl h161) rfl _ rfl ((hF.other 16 rfl).trans S.v16)
  refine ⟨?_, ?_⟩
  · intro a _w _hB hF hd
    have h161 : a.tmps.getD 161 undef = .bool true := hd.1 rfl
    exact step_move (rf_open true rfl rfl h161) rfl _ rfl ((hF.other 7 rfl).trans S.v7)
  refine ⟨?_, ?_⟩
  · intro a w hB _hF hd
    have h161 : a.tmps.getD 161 undef = .bool true := hd.2.1 rfl
    have h163 : a.tmps.getD 163 undef = .pointer (some ⟨gu, 0, none⟩) := hd.1 rfl
    refine step_call (rf_open true rfl rfl h161) rfl _ _ (rf_call_run Try.func35 (by kernel_rfl) (by kernel_rfl) _ _ rfl) ?_
    simp only [List.map_toArray, List.map_cons, List.map_nil, Act.eval, h163]
    exact (S.i2 w hB).mono (by rintro e w1 ⟨A, c, rfl, ho, hb⟩; exact ⟨_, rfl, hb, A, _, c, rfl, ho.items⟩)
  refine ⟨?_, ?_⟩
  · intro a w hB _hF hd
    have h161 : a.tmps.getD 161 undef = .bool true := hd.2.2.2.1 rfl
    have h162 : a.tmps.getD 162 undef = .slice A R.length c := hd.1 rfl
    obtain ⟨A164, n164, c164, h164, p164⟩ : itsX R (a.tmps.getD 164 undef) w := hd.2.1 rfl
    refine step_call (rf_open true rfl rfl h161) rfl _ _ (rf_call_run Try.func36 (by kernel_rfl) (by kernel_rfl) _ _ rfl) ?_
    simp only [List.map_toArray, List.map_cons, List.map_nil, Act.eval, h162, h164]
    have l2 := p164.1; subst l2
    exact (sameitems_any _ _ _ _ _ R _ (S.it.below hB) p164 S.lR).mono (by rintro e w1 ⟨rfl, hb⟩; exact ⟨_, rfl, hb, rfl⟩)
  refine ⟨?_, ?_⟩
  · intro a _w _hB _hF hd
    have h161 : a.tmps.getD 161 undef = .bool true := hd.1 rfl
    have h165 : a.tmps.getD 165 undef = .bool true := hd.2.1 rfl
    exact rf_pick (guard_none rfl) rfl _ _ _ rfl true h161 h165
  refine ⟨?_, ?_⟩
  · intro a _w _hB _hF hd
    have h166 : a.tmps.getD 166 undef = .bool true := hd.1 rfl
    exact step_move (guard_none rfl) rfl _ rfl h166
  refine ⟨?_, ?_⟩
  · intro a _w _hB hF hd
    have h167 : a.tmps.getD 167 undef = .bool true := hd.1 rfl
    exact step_move (rf_open true rfl rfl h167) rfl _ rfl ((hF.other 5 rfl).trans S.v5)
  refine ⟨?_, ?_⟩
  · intro a _w hB hF hd
    have h167 : a.tmps.getD 167 undef = .bool true := hd.1 rfl
    exact rf_loadS (rf_open true rfl rfl h167) rfl _ _ rfl _ _ ((hF.other 18 rfl).trans S.v18) _ (rf_range (S.bs.below hB S.bs.lt)) Try.underlying54 rfl (by kernel_rfl) rfl
  refine ⟨?_, ?_⟩
  · intro a w hB _hF hd
    have h167 : a.tmps.getD 167 undef = .bool true := hd.2.2.1 rfl
    have h168 : a.tmps.getD 168 undef = .pointer (some ⟨g, 0, none⟩) := hd.1 rfl
    have h169 : a.tmps.getD 169 undef = .agg #[.int .i64 sa, .int .i64 sb] := hd.2.1 rfl
    refine step_call (rf_open true rfl rfl h167) rfl _ _ (rf_call_run Try.func31 (by kernel_rfl) (by kernel_rfl) _ _ rfl) ?_
    simp only [List.map_toArray, List.map_cons, List.map_nil, Act.eval, h168, h169]
    exact (S.r1 w hB).mono (by rintro e w1 ⟨H, _, rfl, hh, hb⟩; exact ⟨_, rfl, hb, H, rfl, hh⟩)
  refine ⟨?_, ?_⟩
  · intro a _w _hB hF hd
    have h167 : a.tmps.getD 167 undef = .bool true := hd.1 rfl
    exact step_move (rf_open true rfl rfl h167) rfl _ rfl ((hF.other 7 rfl).trans S.v7)
  refine ⟨?_, ?_⟩
  · intro a _w hB hF hd
    have h167 : a.tmps.getD 167 undef = .bool true := hd.1 rfl
    exact rf_loadS (rf_open true rfl rfl h167) rfl _ _ rfl _ _ ((hF.other 18 rfl).trans S.v18) _ (rf_range (S.bs.below hB S.bs.lt)) Try.underlying54 rfl (by kernel_rfl) rfl
  refine ⟨?_, ?_⟩
  · intro a w hB _hF hd
    have h167 : a.tmps.getD 167 undef = .bool true := hd.2.2.2.1 rfl
    have h171 : a.tmps.getD 171 undef = .pointer (some ⟨gu, 0, none⟩) := hd.1 rfl
    have h172 : a.tmps.getD 172 undef = .agg #[.int .i64 sa, .int .i64 sb] := hd.2.1 rfl
    refine step_call (rf_open true rfl rfl h167) rfl _ _ (rf_call_run Try.func31 (by kernel_rfl) (by kernel_rfl) _ _ rfl) ?_
    simp only [List.map_toArray, List.map_cons, List.map_nil, Act.eval, h171, h172]
    exact (S.r2 w hB).mono (by rintro e w1 ⟨H, _, rfl, hh, hb⟩; exact ⟨_, rfl, hb, H, rfl, hh⟩)
  refine ⟨?_, ?_⟩
  · intro a w _hB _hF hd
    have h167 : a.tmps.getD 167 undef = .bool true := hd.2.2.2.1 rfl
    obtain ⟨H170, h170, p170⟩ : accH V (a.tmps.getD 170 undef) w := hd.1 rfl
    obtain ⟨H173, h173, p173⟩ : accH V (a.tmps.getD 173 undef) w := hd.2.1 rfl
    refine step_call (rf_open true rfl rfl h167) rfl _ _ (rf_call_run Try.func15 (by kernel_rfl) (by kernel_rfl) _ _ rfl) ?_
    simp only [List.map_toArray, List.map_cons, List.map_nil, Act.eval, h170, h173]
    exact (sameAcc_true V _ _ _ _ _ _ (ints_of_has (p170) rfl) (ints_of_has (p173) rfl) S.lV).mono (by rintro e w1 ⟨rfl, hb⟩; exact ⟨_, rfl, hb, rfl⟩)
  refine ⟨?_, ?_⟩
  · intro a _w _hB _hF hd
    have h167 : a.tmps.getD 167 undef = .bool true := hd.1 rfl
    have h174 : a.tmps.getD 174 undef = .bool true := hd.2.1 rfl
    exact rf_pick (guard_none rfl) rfl _ _ _ rfl true h167 h174
  refine ⟨?_, ?_⟩
  · intro a _w _hB _hF hd
    have h175 : a.tmps.getD 175 undef = .bool true := hd.1 rfl
    exact step_assign (guard_none rfl) rfl _ rfl h175
  trivial
set_option maxRecDepth 100000 in
set_option maxHeartbeats 2000000 in
theorem tr24_any {Q : Exit → Act → World → Prop} {l : List Oper} (hl : opsOf 24 Try.f8 = l) (hend : ∀ (A164 : Option Addr) (n164 : Nat) (c164 : Nat), ∀ (H170 : Nat), ∀ (H173 : Nat), ∀ w : World, Below w0.heap.size w0 w → Items w A164 n164 R → Has w H170 3 (ints V.h) → Has w H173 3 (ints V.h) → Q .normal (putAll a0 [(142, .int .i64 0), (143, .int .i64 0), (144, .bool true), (145, .bool true), (146, .int .i64 0), (147, .int .i64 0), (148, .bool true), (149, .bool true), (150, .bool true), (151, .int .i64 0), (152, .int .i64 0), (153, .bool true), (154, .bool true), (155, .bool true), (156, .slice A R.length c), (157, .int .i64 R.length), (158, .int .i64 R.length), (159, .bool true), (160, .bool true), (161, .bool true), (162, .slice A R.length c), (163, .pointer (some ⟨gu, 0, none⟩)), (164, .slice A164 n164 c164), (165, .bool true), (166, .bool true), (167, .bool true), (168, .pointer (some ⟨g, 0, none⟩)), (169, .agg #[.int .i64 sa, .int .i64 sb]), (170, .agg (accC V (some ⟨H170, 0, none⟩) V.h.length V.h.length)), (171, .pointer (some ⟨gu, 0, none⟩)), (172, .agg #[.int .i64 sa, .int .i64 sb]), (173, .agg (accC V (some ⟨H173, 0, none⟩) V.h.length V.h.length)), (174, .bool true), (175, .bool true), (4, .bool true)]) w) :
    (Code.region 24 l.toArray true).wp Try.prog Q a0 w0 := by
  subst hl
  refine region_facts2 (tr24F g gu sp c A sa sb R V) tr24D 176 S.size rfl (by kernel_rfl) (by kernel_rfl) (tr24F_mono _ _ _ _ _ _ _ _ _) (tr24_ok S) fun a w hB hF h => ?_
  obtain ⟨A164, n164, c164, h164, p164⟩ : itsX R (a.tmps.getD 164 undef) w := h 22 (some 164) rfl
  obtain ⟨H170, h170, p170⟩ : accH V (a.tmps.getD 170 undef) w := h 28 (some 170) rfl
  obtain ⟨H173, h173, p173⟩ : accH V (a.tmps.getD 173 undef) w := h 31 (some 173) rfl
  have hv : valsAre a [(142, .int .i64 0), (143, .int .i64 0), (144, .bool true), (145, .bool true), (146, .int .i64 0), (147, .int .i64 0), (148, .bool true), (149, .bool true), (150, .bool true), (151, .int .i64 0), (152, .int .i64 0), (153, .bool true), (154, .bool true), (155, .bool true), (156, .slice A R.length c), (157, .int .i64 R.length), (158, .int .i64 R.length), (159, .bool true), (160, .bool true), (161, .bool true), (162, .slice A R.length c), (163, .pointer (some ⟨gu, 0, none⟩)), (164, .slice A164 n164 c164), (165, .bool true), (166, .bool true), (167, .bool true), (168, .pointer (some ⟨g, 0, none⟩)), (169, .agg #[.int .i64 sa, .int .i64 sb]), (170, .agg (accC V (some ⟨H170, 0, none⟩) V.h.length V.h.length)), (171, .pointer (some ⟨gu, 0, none⟩)), (172, .agg #[.int .i64 sa, .int .i64 sb]), (173, .agg (accC V (some ⟨H173, 0, none⟩) V.h.length V.h.length)), (174, .bool true), (175, .bool true), (4, .bool true)] := by
    refine ⟨?_, ?_, ?_, ?_, ?_, ?_, ?_, ?_, ?_, ?_, ?_, ?_, ?_, ?_, ?_, ?_, ?_, ?_, ?_, ?_, ?_, ?_, ?_, ?_, ?_, ?_, ?_, ?_, ?_, ?_, ?_, ?_, ?_, ?_, ?_, trivial⟩
    · exact h 0 (some 142) rfl
    · exact h 1 (some 143) rfl
    · exact h 2 (some 144) rfl
    · exact h 3 (some 145) rfl
    · exact h 4 (some 146) rfl
    · exact h 5 (some 147) rfl
    · exact h 6 (some 148) rfl
    · exact h 7 (some 149) rfl
    · exact h 8 (some 150) rfl
    · exact h 9 (some 151) rfl
    · exact h 10 (some 152) rfl
    · exact h 11 (some 153) rfl
    · exact h 12 (some 154) rfl
    · exact h 13 (some 155) rfl
    · exact h 14 (some 156) rfl
    · exact h 15 (some 157) rfl
    · exact h 16 (some 158) rfl
    · exact h 17 (some 159) rfl
    · exact h 18 (some 160) rfl
    · exact h 19 (some 161) rfl
    · exact h 20 (some 162) rfl
    · exact h 21 (some 163) rfl
    · exact h164
    · exact h 23 (some 165) rfl
    · exact h 24 (some 166) rfl
    · exact h 25 (some 167) rfl
    · exact h 26 (some 168) rfl
    · exact h 27 (some 169) rfl
    · exact h170
    · exact h 29 (some 171) rfl
    · exact h 30 (some 172) rfl
    · exact h173
    · exact h 32 (some 174) rfl
    · exact h 33 (some 175) rfl
    · exact h 34 (some 4) rfl
  rw [frame_is hF _ hv (by rfl) (by rfl)]
  exact hend A164 n164 c164 H170 H173 w hB p164 p170 p173
end

end Go.Proofs.Ytjgjbhbpndjnnaa
