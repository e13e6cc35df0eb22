/-
  HeapLeast's drawn test of the times (written by gen/hplaw.py).
-/
import Derived.Test.YtmhmekmacdkdgaaHpBits
import Derived.Test.YtmhmekmacdkdgaaHpLeP
import Derived.Test.YtmhmekmacdkdgaaFacts2
namespace Go.Proofs.Ytmhmekmacdkdgaa
open Go.RowKit

def hlt34D : List (Option Tmp) := [some 134, some 135, some 136, some 137, some 138, some 139, some 140, some 141, some 142, some 143, some 144, some 145, some 146, some 147, some 148, some 149, some 150, some 151, some 152, some 153, some 154, some 155, some 156, some 157, some 158, some 159, some 160, some 161]
def hlt34F (b n c k1 p : Nat) (z y : It) : List Fact := [isV (.slice (some ⟨b, 0, none⟩) n c), isV (.int .i64 k1), isV (.pointer (some ⟨b, k1 * 4, none⟩)), isV (.pointer (some ⟨b, k1 * 4 + 1, none⟩)), isV (.int .i64 z.t), isV (.pointer (some ⟨p, 1, none⟩)), isV (.int .i64 y.t), isV (.bool false), isV (.bool false), isV (.slice (some ⟨b, 0, none⟩) n c), isV (.int .i64 k1), isV (.pointer (some ⟨b, k1 * 4, none⟩)), isV (.pointer (some ⟨b, k1 * 4 + 1, none⟩)), isV (.int .i64 z.t), isV (.pointer (some ⟨p, 1, none⟩)), isV (.int .i64 y.t), isV (.bool true), isV (.bool true), isV (.slice (some ⟨b, 0, none⟩) n c), isV (.int .i64 k1), isV (.pointer (some ⟨b, k1 * 4, none⟩)), isV (.pointer (some ⟨b, k1 * 4 + 2, none⟩)), isV (.int .i64 z.q), isV (.pointer (some ⟨p, 2, none⟩)), isV (.int .i64 y.q), isV (.bool false), isV (.bool false), isV (.bool false)]
theorem hlt34F_mono (b n c k1 p : Nat) (z y : It) : ∀ φ ∈ hlt34F b n c k1 p z y, Mono φ := by
  unfold hlt34F
  repeat (first | exact monos_nil | (refine monos_cons (mono_isV _) ?_))
structure hlt34S (b n c k1 p : Nat) (z y : It) (a0 : Act) (w0 : World) : Prop where
  size : a0.tmps.size = 162
  v5 : a0.tmps.getD 5 undef = .slice (some ⟨b, 0, none⟩) n c
  v14 : a0.tmps.getD 14 undef = .pointer (some ⟨p, 0, none⟩)
  v16 : a0.tmps.getD 16 undef = .int .i64 k1
  c1 : w0.cell? ⟨b, k1 * 4 + 1, none⟩ = some (.int .i64 z.t)
  c2 : w0.cell? ⟨b, k1 * 4 + 2, none⟩ = some (.int .i64 z.q)
  bx : Has w0 p 34 #[.int .i64 y.s, .int .i64 y.t, .int .i64 y.q, .int .i64 y.v]
  lk : k1 < n
  d1 : decide (z.t < y.t) = false
  d2 : (z.t == y.t) = true
  d3 : decide (z.q < y.q) = false
section
variable {b n c k1 p : Nat} {z y : It} {a0 : Act} {w0 : World} (S : hlt34S b n c k1 p z y a0 w0)
include S
set_option maxRecDepth 100000 in
set_option maxHeartbeats 8000000 in
theorem hlt34_ok : AllOps (fun j o => ∀ (a : Act) (w : World), Below w0.heap.size w0 w → FrD hlt34D a0 a → needs hlt34D (hlt34F b n c k1 p z y) a w o.after.toList → StepD Try.prog hlt34D (factAt (hlt34F b n c k1 p z y) j) o a w) 0 (opsOf 34 Try.f7) := by
  simp only [opsOf, Try.f7, opsAt, Option.bind, Option.or, Option.getD, reduceCtorEq, if_true, if_false, Nat.reduceEqDiff]
  refine ⟨?_, ?_⟩
  · intro _a _w _hB hF _hd
    exact step_move (guard_none rfl) rfl _ rfl ((hF.other 5 rfl).trans S.v5)
  refine ⟨?_, ?_⟩
  · intro _a _w _hB hF _hd
    exact step_move (guard_none rfl) rfl _ rfl ((hF.other 16 rfl).trans S.v16)
  refine ⟨?_, ?_⟩
  · intro a _w _hB _hF hd
    have h134 : a.tmps.getD 134 undef = .slice (some ⟨b, 0, none⟩) n c := hd.1 rfl
    have h135 : a.tmps.getD 135 undef = .int .i64 k1 := hd.2.1 rfl
    exact rf_indexIt0 (guard_none rfl) rfl _ _ rfl b n c k1 _ h134 h135 rfl S.lk rfl
  refine ⟨?_, ?_⟩
  · intro a _w _hB _hF hd
    have h136 : a.tmps.getD 136 undef = .pointer (some ⟨b, k1 * 4, none⟩) := hd.1 rfl
    exact rf_faddr (guard_none rfl) rfl _ _ _ rfl _ _ 1 _ h136 (by omega) (fun _ _ => by kernel_rfl) rfl
  refine ⟨?_, ?_⟩
  · intro a _w hB _hF hd
    have h137 : a.tmps.getD 137 undef = .pointer (some ⟨b, k1 * 4 + 1, none⟩) := hd.1 rfl
    exact rf_loadi (guard_none rfl) rfl _ rfl _ _ h137 _ ((hB.cell (block_lt_of_cell S.c1)).trans S.c1) rfl
  refine ⟨?_, ?_⟩
  · intro _a _w _hB hF _hd
    exact rf_faddr (guard_none rfl) rfl _ _ _ rfl _ _ 1 _ ((hF.other 14 rfl).trans S.v14) (by omega) (fun _ _ => by kernel_rfl) rfl
  refine ⟨?_, ?_⟩
  · intro a _w hB _hF hd
    have h139 : a.tmps.getD 139 undef = .pointer (some ⟨p, 1, none⟩) := hd.1 rfl
    exact rf_loadi (guard_none rfl) rfl _ rfl _ _ h139 _ ((Has.cell (S.bx.below hB S.bx.lt) 1).trans rfl) rfl
  refine ⟨?_, ?_⟩
  · intro a _w _hB _hF hd
    have h138 : a.tmps.getD 138 undef = .int .i64 z.t := hd.1 rfl
    have h140 : a.tmps.getD 140 undef = .int .i64 y.t := hd.2.1 rfl
    exact rf_lss (guard_none rfl) rfl _ _ rfl _ _ h138 h140 false S.d1 rfl
  refine ⟨?_, ?_⟩
  · intro a _w _hB _hF hd
    have h141 : a.tmps.getD 141 undef = .bool false := hd.1 rfl
    exact step_move (guard_none rfl) rfl _ rfl h141
  refine ⟨?_, ?_⟩
  · intro a _w _hB hF hd
    have h142 : a.tmps.getD 142 undef = .bool false := hd.1 rfl
    exact step_move (rf_open false rfl rfl h142) rfl _ rfl ((hF.other 5 rfl).trans S.v5)
  refine ⟨?_, ?_⟩
  · intro a _w _hB hF hd
    have h142 : a.tmps.getD 142 undef = .bool false := hd.1 rfl
    exact step_move (rf_open false rfl rfl h142) rfl _ rfl ((hF.other 16 rfl).trans S.v16)
  refine ⟨?_, ?_⟩
  · intro a _w _hB _hF hd
    have h142 : a.tmps.getD 142 undef = .bool false := hd.2.2.1 rfl
    have h143 : a.tmps.getD 143 undef = .slice (some ⟨b, 0, none⟩) n c := hd.1 rfl
    have h144 : a.tmps.getD 144 undef = .int .i64 k1 := hd.2.1 rfl
    exact rf_indexIt0 (rf_open false rfl rfl h142) rfl _ _ rfl b n c k1 _ h143 h144 rfl S.lk rfl
  refine ⟨?_, ?_⟩
  · intro a _w _hB _hF hd
    have h142 : a.tmps.getD 142 undef = .bool false := hd.2.1 rfl
    have h145 : a.tmps.getD 145 undef = .pointer (some ⟨b, k1 * 4, none⟩) := hd.1 rfl
    exact rf_faddr (rf_open false rfl rfl h142) rfl _ _ _ rfl _ _ 1 _ h145 (by omega) (fun _ _ => by kernel_rfl) rfl
  refine ⟨?_, ?_⟩
  · intro a _w hB _hF hd
    have h142 : a.tmps.getD 142 undef = .bool false := hd.2.1 rfl
    have h146 : a.tmps.getD 146 undef = .pointer (some ⟨b, k1 * 4 + 1, none⟩) := hd.1 rfl
    exact rf_loadi (rf_open false rfl rfl h142) rfl _ rfl _ _ h146 _ ((hB.cell (block_lt_of_cell S.c1)).trans S.c1) rfl
  refine ⟨?_, ?_⟩
  · intro a _w _hB hF hd
    have h142 : a.tmps.getD 142 undef = .bool false := hd.1 rfl
    exact rf_faddr (rf_open false rfl rfl h142) rfl _ _ _ rfl _ _ 1 _ ((hF.other 14 rfl).trans S.v14) (by omega) (fun _ _ => by kernel_rfl) rfl
  refine ⟨?_, ?_⟩
  · intro a _w hB _hF hd
    have h142 : a.tmps.getD 142 undef = .bool false := hd.2.1 rfl
    have h148 : a.tmps.getD 148 undef = .pointer (some ⟨p, 1, none⟩) := hd.1 rfl
    exact rf_loadi (rf_open false rfl rfl h142) rfl _ rfl _ _ h148 _ ((Has.cell (S.bx.below hB S.bx.lt) 1).trans rfl) rfl
  refine ⟨?_, ?_⟩
  · intro a _w _hB _hF hd
    have h142 : a.tmps.getD 142 undef = .bool false := hd.2.2.1 rfl
    have h147 : a.tmps.getD 147 undef = .int .i64 z.t := hd.1 rfl
    have h149 : a.tmps.getD 149 undef = .int .i64 y.t := hd.2.1 rfl
    exact rf_eql (rf_open false rfl rfl h142) rfl _ _ rfl _ _ h147 h149 true S.d2 rfl
  refine ⟨?_, ?_⟩
  · intro a _w _hB _hF hd
    have h142 : a.tmps.getD 142 undef = .bool false := hd.2.1 rfl
    have h150 : a.tmps.getD 150 undef = .bool true := hd.1 rfl
    exact step_move (rf_open false rfl rfl h142) rfl _ rfl h150
  refine ⟨?_, ?_⟩
  · intro a _w _hB hF hd
    have h151 : a.tmps.getD 151 undef = .bool true := hd.1 rfl
    exact step_move (rf_open true rfl rfl h151) rfl _ rfl ((hF.other 5 rfl).trans S.v5)
  refine ⟨?_, ?_⟩
  · intro a _w _hB hF hd
    have h151 : a.tmps.getD 151 undef = .bool true := hd.1 rfl
    exact step_move (rf_open true rfl rfl h151) rfl _ rfl ((hF.other 16 rfl).trans S.v16)
  refine ⟨?_, ?_⟩
  · intro a _w _hB _hF hd
    have h151 : a.tmps.getD 151 undef = .bool true := hd.2.2.1 rfl
    have h152 : a.tmps.getD 152 undef = .slice (some ⟨b, 0, none⟩) n c := hd.1 rfl
    have h153 : a.tmps.getD 153 undef = .int .i64 k1 := hd.2.1 rfl
    exact rf_indexIt0 (rf_open true rfl rfl h151) rfl _ _ rfl b n c k1 _ h152 h153 rfl S.lk rfl
  refine ⟨?_, ?_⟩
  · intro a _w _hB _hF hd
    have h151 : a.tmps.getD 151 undef = .bool true := hd.2.1 rfl
    have h154 : a.tmps.getD 154 undef = .pointer (some ⟨b, k1 * 4, none⟩) := hd.1 rfl
    exact rf_faddr (rf_open true rfl rfl h151) rfl _ _ _ rfl _ _ 2 _ h154 (by omega) (fun _ _ => by kernel_rfl) rfl
  refine ⟨?_, ?_⟩
  · intro a _w hB _hF hd
    have h151 : a.tmps.getD 151 undef = .bool true := hd.2.1 rfl
    have h155 : a.tmps.getD 155 undef = .pointer (some ⟨b, k1 * 4 + 2, none⟩) := hd.1 rfl
    exact rf_loadi (rf_open true rfl rfl h151) rfl _ rfl _ _ h155 _ ((hB.cell (block_lt_of_cell S.c2)).trans S.c2) rfl
  refine ⟨?_, ?_⟩
  · intro a _w _hB hF hd
    have h151 : a.tmps.getD 151 undef = .bool true := hd.1 rfl
    exact rf_faddr (rf_open true rfl rfl h151) rfl _ _ _ rfl _ _ 2 _ ((hF.other 14 rfl).trans S.v14) (by omega) (fun _ _ => by kernel_rfl) rfl
  refine ⟨?_, ?_⟩
  · intro a _w hB _hF hd
    have h151 : a.tmps.getD 151 undef = .bool true := hd.2.1 rfl
    have h157 : a.tmps.getD 157 undef = .pointer (some ⟨p, 2, none⟩) := hd.1 rfl
    exact rf_loadi (rf_open true rfl rfl h151) rfl _ rfl _ _ h157 _ ((Has.cell (S.bx.below hB S.bx.lt) 2).trans rfl) rfl
  refine ⟨?_, ?_⟩
  · intro a _w _hB _hF hd
    have h151 : a.tmps.getD 151 undef = .bool true := hd.2.2.1 rfl
    have h156 : a.tmps.getD 156 undef = .int .i64 z.q := hd.1 rfl
    have h158 : a.tmps.getD 158 undef = .int .i64 y.q := hd.2.1 rfl
    exact rf_lss (rf_open true rfl rfl h151) rfl _ _ rfl _ _ h156 h158 false S.d3 rfl
  refine ⟨?_, ?_⟩
  · intro a _w _hB _hF hd
    have h142 : a.tmps.getD 142 undef = .bool false := hd.2.2.1 rfl
    have h151 : a.tmps.getD 151 undef = .bool true := hd.1 rfl
    have h159 : a.tmps.getD 159 undef = .bool false := hd.2.1 rfl
    exact rf_pick (rf_open false rfl rfl h142) rfl _ _ _ rfl true h151 h159
  refine ⟨?_, ?_⟩
  · intro a _w _hB _hF hd
    have h142 : a.tmps.getD 142 undef = .bool false := hd.1 rfl
    have h160 : a.tmps.getD 160 undef = .bool false := hd.2.1 rfl
    exact rf_pick (guard_none rfl) rfl _ _ _ rfl false h142 h160
  trivial
theorem hlt34_any {Q : Exit → Act → World → Prop} {l : List Oper} (hl : opsOf 34 Try.f7 = l) (hend : ∀ w : World, Below w0.heap.size w0 w → Q .normal (putAll a0 [(134, .slice (some ⟨b, 0, none⟩) n c), (135, .int .i64 k1), (136, .pointer (some ⟨b, k1 * 4, none⟩)), (137, .pointer (some ⟨b, k1 * 4 + 1, none⟩)), (138, .int .i64 z.t), (139, .pointer (some ⟨p, 1, none⟩)), (140, .int .i64 y.t), (141, .bool false), (142, .bool false), (143, .slice (some ⟨b, 0, none⟩) n c), (144, .int .i64 k1), (145, .pointer (some ⟨b, k1 * 4, none⟩)), (146, .pointer (some ⟨b, k1 * 4 + 1, none⟩)), (147, .int .i64 z.t), (148, .pointer (some ⟨p, 1, none⟩)), (149, .int .i64 y.t), (150, .bool true), (151, .bool true), (152, .slice (some ⟨b, 0, none⟩) n c), (153, .int .i64 k1), (154, .pointer (some ⟨b, k1 * 4, none⟩)), (155, .pointer (some ⟨b, k1 * 4 + 2, none⟩)), (156, .int .i64 z.q), (157, .pointer (some ⟨p, 2, none⟩)), (158, .int .i64 y.q), (159, .bool false), (160, .bool false), (161, .bool false)]) w) :
    (Code.region 34 l.toArray true).wp Try.prog Q a0 w0 := by
  subst hl
  refine region_facts2 (hlt34F b n c k1 p z y) hlt34D 162 S.size rfl (by kernel_rfl) (by kernel_rfl) (hlt34F_mono _ _ _ _ _ _ _) (hlt34_ok S) fun a w hB hF h => ?_
  have hv : valsAre a [(134, .slice (some ⟨b, 0, none⟩) n c), (135, .int .i64 k1), (136, .pointer (some ⟨b, k1 * 4, none⟩)), (137, .pointer (some ⟨b, k1 * 4 + 1, none⟩)), (138, .int .i64 z.t), (139, .pointer (some ⟨p, 1, none⟩)), (140, .int .i64 y.t), (141, .bool false), (142, .bool false), (143, .slice (some ⟨b, 0, none⟩) n c), (144, .int .i64 k1), (145, .pointer (some ⟨b, k1 * 4, none⟩)), (146, .pointer (some ⟨b, k1 * 4 + 1, none⟩)), (147, .int .i64 z.t), (148, .pointer (some ⟨p, 1, none⟩)), (149, .int .i64 y.t), (150, .bool true), (151, .bool true), (152, .slice (some ⟨b, 0, none⟩) n c), (153, .int .i64 k1), (154, .pointer (some ⟨b, k1 * 4, none⟩)), (155, .pointer (some ⟨b, k1 * 4 + 2, none⟩)), (156, .int .i64 z.q), (157, .pointer (some ⟨p, 2, none⟩)), (158, .int .i64 y.q), (159, .bool false), (160, .bool false), (161, .bool false)] := by
    refine ⟨?_, ?_, ?_, ?_, ?_, ?_, ?_, ?_, ?_, ?_, ?_, ?_, ?_, ?_, ?_, ?_, ?_, ?_, ?_, ?_, ?_, ?_, ?_, ?_, ?_, ?_, ?_, ?_, trivial⟩
    · exact h 0 (some 134) rfl
    · exact h 1 (some 135) rfl
    · exact h 2 (some 136) rfl
    · exact h 3 (some 137) rfl
    · exact h 4 (some 138) rfl
    · exact h 5 (some 139) rfl
    · exact h 6 (some 140) rfl
    · exact h 7 (some 141) rfl
    · exact h 8 (some 142) rfl
    · exact h 9 (some 143) rfl
    · exact h 10 (some 144) rfl
    · exact h 11 (some 145) rfl
    · exact h 12 (some 146) rfl
    · exact h 13 (some 147) rfl
    · exact h 14 (some 148) rfl
    · exact h 15 (some 149) rfl
    · exact h 16 (some 150) rfl
    · exact h 17 (some 151) rfl
    · exact h 18 (some 152) rfl
    · exact h 19 (some 153) rfl
    · exact h 20 (some 154) rfl
    · exact h 21 (some 155) rfl
    · exact h 22 (some 156) rfl
    · exact h 23 (some 157) rfl
    · exact h 24 (some 158) rfl
    · exact h 25 (some 159) rfl
    · exact h 26 (some 160) rfl
    · exact h 27 (some 161) rfl
  rw [frame_is hF _ hv (by rfl) (by rfl)]
  exact hend w hB
end

def hlf34D : List (Option Tmp) := [some 134, some 135, some 136, some 137, some 138, some 139, some 140, some 141, some 142, some 143, some 144, some 145, some 146, some 147, some 148, some 149, some 150, some 151, some 152, some 153, some 154, some 155, some 156, some 157, some 158, some 159, some 160, some 161]
def hlf34F (b n c k1 p : Nat) (z y : It) : List Fact := [isV (.slice (some ⟨b, 0, none⟩) n c), isV (.int .i64 k1), isV (.pointer (some ⟨b, k1 * 4, none⟩)), isV (.pointer (some ⟨b, k1 * 4 + 1, none⟩)), isV (.int .i64 z.t), isV (.pointer (some ⟨p, 1, none⟩)), isV (.int .i64 y.t), isV (.bool false), isV (.bool false), isV (.slice (some ⟨b, 0, none⟩) n c), isV (.int .i64 k1), isV (.pointer (some ⟨b, k1 * 4, none⟩)), isV (.pointer (some ⟨b, k1 * 4 + 1, none⟩)), isV (.int .i64 z.t), isV (.pointer (some ⟨p, 1, none⟩)), isV (.int .i64 y.t), isV (.bool false), isV (.bool false), isV (undef), isV (undef), isV (undef), isV (undef), isV (undef), isV (undef), isV (undef), isV (undef), isV (.bool false), isV (.bool false)]
theorem hlf34F_mono (b n c k1 p : Nat) (z y : It) : ∀ φ ∈ hlf34F b n c k1 p z y, Mono φ := by
  unfold hlf34F
  repeat (first | exact monos_nil | (refine monos_cons (mono_isV _) ?_))
structure hlf34S (b n c k1 p : Nat) (z y : It) (a0 : Act) (w0 : World) : Prop where
  size : a0.tmps.size = 162
  v5 : a0.tmps.getD 5 undef = .slice (some ⟨b, 0, none⟩) n c
  v14 : a0.tmps.getD 14 undef = .pointer (some ⟨p, 0, none⟩)
  v16 : a0.tmps.getD 16 undef = .int .i64 k1
  c1 : w0.cell? ⟨b, k1 * 4 + 1, none⟩ = some (.int .i64 z.t)
  c2 : w0.cell? ⟨b, k1 * 4 + 2, none⟩ = some (.int .i64 z.q)
  bx : Has w0 p 34 #[.int .i64 y.s, .int .i64 y.t, .int .i64 y.q, .int .i64 y.v]
  lk : k1 < n
  d1 : decide (z.t < y.t) = false
  d2 : (z.t == y.t) = false
section
variable {b n c k1 p : Nat} {z y : It} {a0 : Act} {w0 : World} (S : hlf34S b n c k1 p z y a0 w0)
include S
set_option maxRecDepth 100000 in
set_option maxHeartbeats 8000000 in
theorem hlf34_ok : AllOps (fun j o => ∀ (a : Act) (w : World), Below w0.heap.size w0 w → FrD hlf34D a0 a → needs hlf34D (hlf34F b n c k1 p z y) a w o.after.toList → StepD Try.prog hlf34D (factAt (hlf34F b n c k1 p z y) j) o a w) 0 (opsOf 34 Try.f7) := by
  simp only [opsOf, Try.f7, opsAt, Option.bind, Option.or, Option.getD, reduceCtorEq, if_true, if_false, Nat.reduceEqDiff]
  refine ⟨?_, ?_⟩
  · intro _a _w _hB hF _hd
    exact step_move (guard_none rfl) rfl _ rfl ((hF.other 5 rfl).trans S.v5)
  refine ⟨?_, ?_⟩
  · intro _a _w _hB hF _hd
    exact step_move (guard_none rfl) rfl _ rfl ((hF.other 16 rfl).trans S.v16)
  refine ⟨?_, ?_⟩
  · intro a _w _hB _hF hd
    have h134 : a.tmps.getD 134 undef = .slice (some ⟨b, 0, none⟩) n c := hd.1 rfl
    have h135 : a.tmps.getD 135 undef = .int .i64 k1 := hd.2.1 rfl
    exact rf_indexIt0 (guard_none rfl) rfl _ _ rfl b n c k1 _ h134 h135 rfl S.lk rfl
  refine ⟨?_, ?_⟩
  · intro a _w _hB _hF hd
    have h136 : a.tmps.getD 136 undef = .pointer (some ⟨b, k1 * 4, none⟩) := hd.1 rfl
    exact rf_faddr (guard_none rfl) rfl _ _ _ rfl _ _ 1 _ h136 (by omega) (fun _ _ => by kernel_rfl) rfl
  refine ⟨?_, ?_⟩
  · intro a _w hB _hF hd
    have h137 : a.tmps.getD 137 undef = .pointer (some ⟨b, k1 * 4 + 1, none⟩) := hd.1 rfl
    exact rf_loadi (guard_none rfl) rfl _ rfl _ _ h137 _ ((hB.cell (block_lt_of_cell S.c1)).trans S.c1) rfl
  refine ⟨?_, ?_⟩
  · intro _a _w _hB hF _hd
    exact rf_faddr (guard_none rfl) rfl _ _ _ rfl _ _ 1 _ ((hF.other 14 rfl).trans S.v14) (by omega) (fun _ _ => by kernel_rfl) rfl
  refine ⟨?_, ?_⟩
  · intro a _w hB _hF hd
    have h139 : a.tmps.getD 139 undef = .pointer (some ⟨p, 1, none⟩) := hd.1 rfl
    exact rf_loadi (guard_none rfl) rfl _ rfl _ _ h139 _ ((Has.cell (S.bx.below hB S.bx.lt) 1).trans rfl) rfl
  refine ⟨?_, ?_⟩
  · intro a _w _hB _hF hd
    have h138 : a.tmps.getD 138 undef = .int .i64 z.t := hd.1 rfl
    have h140 : a.tmps.getD 140 undef = .int .i64 y.t := hd.2.1 rfl
    exact rf_lss (guard_none rfl) rfl _ _ rfl _ _ h138 h140 false S.d1 rfl
  refine ⟨?_, ?_⟩
  · intro a _w _hB _hF hd
    have h141 : a.tmps.getD 141 undef = .bool false := hd.1 rfl
    exact step_move (guard_none rfl) rfl _ rfl h141
  refine ⟨?_, ?_⟩
  · intro a _w _hB hF hd
    have h142 : a.tmps.getD 142 undef = .bool false := hd.1 rfl
    exact step_move (rf_open false rfl rfl h142) rfl _ rfl ((hF.other 5 rfl).trans S.v5)
  refine ⟨?_, ?_⟩
  · intro a _w _hB hF hd
    have h142 : a.tmps.getD 142 undef = .bool false := hd.1 rfl
    exact step_move (rf_open false rfl rfl h142) rfl _ rfl ((hF.other 16 rfl).trans S.v16)
  refine ⟨?_, ?_⟩
  · intro a _w _hB _hF hd
    have h142 : a.tmps.getD 142 undef = .bool false := hd.2.2.1 rfl
    have h143 : a.tmps.getD 143 undef = .slice (some ⟨b, 0, none⟩) n c := hd.1 rfl
    have h144 : a.tmps.getD 144 undef = .int .i64 k1 := hd.2.1 rfl
    exact rf_indexIt0 (rf_open false rfl rfl h142) rfl _ _ rfl b n c k1 _ h143 h144 rfl S.lk rfl
  refine ⟨?_, ?_⟩
  · intro a _w _hB _hF hd
    have h142 : a.tmps.getD 142 undef = .bool false := hd.2.1 rfl
    have h145 : a.tmps.getD 145 undef = .pointer (some ⟨b, k1 * 4, none⟩) := hd.1 rfl
    exact rf_faddr (rf_open false rfl rfl h142) rfl _ _ _ rfl _ _ 1 _ h145 (by omega) (fun _ _ => by kernel_rfl) rfl
  refine ⟨?_, ?_⟩
  · intro a _w hB _hF hd
    have h142 : a.tmps.getD 142 undef = .bool false := hd.2.1 rfl
    have h146 : a.tmps.getD 146 undef = .pointer (some ⟨b, k1 * 4 + 1, none⟩) := hd.1 rfl
    exact rf_loadi (rf_open false rfl rfl h142) rfl _ rfl _ _ h146 _ ((hB.cell (block_lt_of_cell S.c1)).trans S.c1) rfl
  refine ⟨?_, ?_⟩
  · intro a _w _hB hF hd
    have h142 : a.tmps.getD 142 undef = .bool false := hd.1 rfl
    exact rf_faddr (rf_open false rfl rfl h142) rfl _ _ _ rfl _ _ 1 _ ((hF.other 14 rfl).trans S.v14) (by omega) (fun _ _ => by kernel_rfl) rfl
  refine ⟨?_, ?_⟩
  · intro a _w hB _hF hd
    have h142 : a.tmps.getD 142 undef = .bool false := hd.2.1 rfl
    have h148 : a.tmps.getD 148 undef = .pointer (some ⟨p, 1, none⟩) := hd.1 rfl
    exact rf_loadi (rf_open false rfl rfl h142) rfl _ rfl _ _ h148 _ ((Has.cell (S.bx.below hB S.bx.lt) 1).trans rfl) rfl
  refine ⟨?_, ?_⟩
  · intro a _w _hB _hF hd
    have h142 : a.tmps.getD 142 undef = .bool false := hd.2.2.1 rfl
    have h147 : a.tmps.getD 147 undef = .int .i64 z.t := hd.1 rfl
    have h149 : a.tmps.getD 149 undef = .int .i64 y.t := hd.2.1 rfl
    exact rf_eql (rf_open false rfl rfl h142) rfl _ _ rfl _ _ h147 h149 false S.d2 rfl
  refine ⟨?_, ?_⟩
  · intro a _w _hB _hF hd
    have h142 : a.tmps.getD 142 undef = .bool false := hd.2.1 rfl
    have h150 : a.tmps.getD 150 undef = .bool false := hd.1 rfl
    exact step_move (rf_open false rfl rfl h142) rfl _ rfl h150
  refine ⟨?_, ?_⟩
  · intro a _w _hB _hF hd
    have h151 : a.tmps.getD 151 undef = .bool false := hd.1 rfl
    exact rf_shut true rfl rfl h151 rfl
  refine ⟨?_, ?_⟩
  · intro a _w _hB _hF hd
    have h151 : a.tmps.getD 151 undef = .bool false := hd.1 rfl
    exact rf_shut true rfl rfl h151 rfl
  refine ⟨?_, ?_⟩
  · intro a _w _hB _hF hd
    have h151 : a.tmps.getD 151 undef = .bool false := hd.2.2.1 rfl
    exact rf_shut true rfl rfl h151 rfl
  refine ⟨?_, ?_⟩
  · intro a _w _hB _hF hd
    have h151 : a.tmps.getD 151 undef = .bool false := hd.2.1 rfl
    exact rf_shut true rfl rfl h151 rfl
  refine ⟨?_, ?_⟩
  · intro a _w _hB _hF hd
    have h151 : a.tmps.getD 151 undef = .bool false := hd.2.1 rfl
    exact rf_shut true rfl rfl h151 rfl
  refine ⟨?_, ?_⟩
  · intro a _w _hB _hF hd
    have h151 : a.tmps.getD 151 undef = .bool false := hd.1 rfl
    exact rf_shut true rfl rfl h151 rfl
  refine ⟨?_, ?_⟩
  · intro a _w _hB _hF hd
    have h151 : a.tmps.getD 151 undef = .bool false := hd.2.1 rfl
    exact rf_shut true rfl rfl h151 rfl
  refine ⟨?_, ?_⟩
  · intro a _w _hB _hF hd
    have h151 : a.tmps.getD 151 undef = .bool false := hd.2.2.1 rfl
    exact rf_shut true rfl rfl h151 rfl
  refine ⟨?_, ?_⟩
  · intro a _w _hB _hF hd
    have h142 : a.tmps.getD 142 undef = .bool false := hd.2.2.1 rfl
    have h151 : a.tmps.getD 151 undef = .bool false := hd.1 rfl
    exact rf_pick (rf_open false rfl rfl h142) rfl _ _ _ rfl false h151 rfl
  refine ⟨?_, ?_⟩
  · intro a _w _hB _hF hd
    have h142 : a.tmps.getD 142 undef = .bool false := hd.1 rfl
    have h160 : a.tmps.getD 160 undef = .bool false := hd.2.1 rfl
    exact rf_pick (guard_none rfl) rfl _ _ _ rfl false h142 h160
  trivial
theorem hlf34_any {Q : Exit → Act → World → Prop} {l : List Oper} (hl : opsOf 34 Try.f7 = l) (hend : ∀ w : World, Below w0.heap.size w0 w → Q .normal (putAll a0 [(134, .slice (some ⟨b, 0, none⟩) n c), (135, .int .i64 k1), (136, .pointer (some ⟨b, k1 * 4, none⟩)), (137, .pointer (some ⟨b, k1 * 4 + 1, none⟩)), (138, .int .i64 z.t), (139, .pointer (some ⟨p, 1, none⟩)), (140, .int .i64 y.t), (141, .bool false), (142, .bool false), (143, .slice (some ⟨b, 0, none⟩) n c), (144, .int .i64 k1), (145, .pointer (some ⟨b, k1 * 4, none⟩)), (146, .pointer (some ⟨b, k1 * 4 + 1, none⟩)), (147, .int .i64 z.t), (148, .pointer (some ⟨p, 1, none⟩)), (149, .int .i64 y.t), (150, .bool false), (151, .bool false), (152, undef), (153, undef), (154, undef), (155, undef), (156, undef), (157, undef), (158, undef), (159, undef), (160, .bool false), (161, .bool false)]) w) :
    (Code.region 34 l.toArray true).wp Try.prog Q a0 w0 := by
  subst hl
  refine region_facts2 (hlf34F b n c k1 p z y) hlf34D 162 S.size rfl (by kernel_rfl) (by kernel_rfl) (hlf34F_mono _ _ _ _ _ _ _) (hlf34_ok S) fun a w hB hF h => ?_
  have hv : valsAre a [(134, .slice (some ⟨b, 0, none⟩) n c), (135, .int .i64 k1), (136, .pointer (some ⟨b, k1 * 4, none⟩)), (137, .pointer (some ⟨b, k1 * 4 + 1, none⟩)), (138, .int .i64 z.t), (139, .pointer (some ⟨p, 1, none⟩)), (140, .int .i64 y.t), (141, .bool false), (142, .bool false), (143, .slice (some ⟨b, 0, none⟩) n c), (144, .int .i64 k1), (145, .pointer (some ⟨b, k1 * 4, none⟩)), (146, .pointer (some ⟨b, k1 * 4 + 1, none⟩)), (147, .int .i64 z.t), (148, .pointer (some ⟨p, 1, none⟩)), (149, .int .i64 y.t), (150, .bool false), (151, .bool false), (152, undef), (153, undef), (154, undef), (155, undef), (156, undef), (157, undef), (158, undef), (159, undef), (160, .bool false), (161, .bool false)] := by
    refine ⟨?_, ?_, ?_, ?_, ?_, ?_, ?_, ?_, ?_, ?_, ?_, ?_, ?_, ?_, ?_, ?_, ?_, ?_, ?_, ?_, ?_, ?_, ?_, ?_, ?_, ?_, ?_, ?_, trivial⟩
    · exact h 0 (some 134) rfl
    · exact h 1 (some 135) rfl
    · exact h 2 (some 136) rfl
    · exact h 3 (some 137) rfl
    · exact h 4 (some 138) rfl
    · exact h 5 (some 139) rfl
    · exact h 6 (some 140) rfl
    · exact h 7 (some 141) rfl
    · exact h 8 (some 142) rfl
    · exact h 9 (some 143) rfl
    · exact h 10 (some 144) rfl
    · exact h 11 (some 145) rfl
    · exact h 12 (some 146) rfl
    · exact h 13 (some 147) rfl
    · exact h 14 (some 148) rfl
    · exact h 15 (some 149) rfl
    · exact h 16 (some 150) rfl
    · exact h 17 (some 151) rfl
    · exact h 18 (some 152) rfl
    · exact h 19 (some 153) rfl
    · exact h 20 (some 154) rfl
    · exact h 21 (some 155) rfl
    · exact h 22 (some 156) rfl
    · exact h 23 (some 157) rfl
    · exact h 24 (some 158) rfl
    · exact h 25 (some 159) rfl
    · exact h 26 (some 160) rfl
    · exact h 27 (some 161) rfl
  rw [frame_is hF _ hv (by rfl) (by rfl)]
  exact hend w hB
end

end Go.Proofs.Ytmhmekmacdkdgaa
