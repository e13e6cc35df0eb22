/-
  SliceWhole's drawn region that cuts a window: its facts, one by one (written by gen/slwhole12.py).
-/
import Derived.Test.YtkbocjmdbfddhaaRf
import Derived.Test.YtkbocjmdbfddhaaSlAwake
namespace Go.Proofs.Ytkbocjmdbfddhaa
open Go.RowKit

/-- A row of spans of the call's own, alone and with a code of none. -/
def outS (k : Nat) (ss : List (Int × Int)) : Fact := fun v w => ∃ A c, v = .slice A k c ∧ OwnS w 0 (.slice A k c) ss
def outT (k : Nat) (ss : List (Int × Int)) : Fact := fun v w => ∃ A c, v = .tuple #[.slice A k c, .int .i64 0] ∧ OwnS w 0 (.slice A k c) ss
theorem mono_outS (k : Nat) (ss : List (Int × Int)) : Mono (outS k ss) := fun _ _ _ hb ⟨A, c, e, h⟩ => ⟨A, c, e, h.below hb⟩
theorem mono_outT (k : Nat) (ss : List (Int × Int)) : Mono (outT k ss) := fun _ _ _ hb ⟨A, c, e, h⟩ => ⟨A, c, e, h.below hb⟩
def wh12D : List (Option Tmp) := [some 55, some 56, some 57, some 58, some 59, some 60, some 54, some 61, some 62, some 10, some 11]
def wh12F (kd ag sz sl rk z : Int) (B : Option Addr) (m d _g b fo n c i k : Nat) (ss : List (Int × Int)) : List Fact := [isV (.agg #[.int .i64 kd, .int .i64 ag, .int .i64 sz, .int .i64 sl, .slice B m d, .int .i64 rk]), isV (.slice (some ⟨b, fo, none⟩) n c), isV (.int .i64 i), isV (.pointer (some ⟨b, fo + i * 2, none⟩)), isV (.agg #[.int .i64 z, .int .i64 (z + sz)]), outT k ss, outT k ss, outS k ss, isV (.int .i64 0), outS k ss, isV (.int .i64 0)]
theorem wh12F_mono (kd ag sz sl rk z : Int) (B : Option Addr) (m d g b fo n c i k : Nat) (ss : List (Int × Int)) : ∀ φ ∈ wh12F kd ag sz sl rk z B m d g b fo n c i k ss, Mono φ := by
  unfold wh12F
  repeat (first | exact monos_nil | (refine monos_cons (mono_isV _) ?_) | (refine monos_cons (mono_outT _ _) ?_) | (refine monos_cons (mono_outS _ _) ?_))
structure wh12S (kd ag sz sl rk z : Int) (B : Option Addr) (m d g b fo n c i k : Nat) (ss : List (Int × Int)) (a0 : Act) (w0 : World) : Prop where
  size : a0.tmps.size = 150
  v2 : a0.tmps.getD 2 undef = .pointer (some ⟨g, 0, none⟩)
  v5 : a0.tmps.getD 5 undef = .slice (some ⟨b, fo, none⟩) n c
  v9 : a0.tmps.getD 9 undef = .int .i64 i
  box : Has w0 g 24 #[.int .i64 kd, .int .i64 ag, .int .i64 sz, .int .i64 sl, .slice B m d, .int .i64 rk]
  hi : i < n
  c0 : w0.cell? ⟨b, fo + i * 2, none⟩ = some (.int .i64 z)
  c1 : w0.cell? ⟨b, fo + i * 2 + 1, none⟩ = some (.int .i64 (z + sz))
  hc : ∀ W : World, Below w0.heap.size w0 W → Calls Try.prog 26 #[.agg #[.int .i64 kd, .int .i64 ag, .int .i64 sz, .int .i64 sl, .slice B m d, .int .i64 rk], .agg #[.int .i64 z, .int .i64 (z + sz)]] W fun x w' => ∃ A c, x = .returned (.tuple #[.slice A k c, .int .i64 0]) ∧ OwnS w' W.heap.size (.slice A k c) ss ∧ Below W.heap.size W w'
section
variable {kd ag sz sl rk z : Int} {B : Option Addr} {m d g b fo n c i k : Nat} {ss : List (Int × Int)} {a0 : Act} {w0 : World} (S : wh12S kd ag sz sl rk z B m d g b fo n c i k ss a0 w0)
include S
set_option maxRecDepth 100000 in
set_option maxHeartbeats 8000000 in
theorem wh12_ok : AllOps (fun j o => ∀ (a : Act) (w : World), Below w0.heap.size w0 w → FrD wh12D a0 a → needs wh12D (wh12F kd ag sz sl rk z B m d g b fo n c i k ss) a w o.after.toList → StepD Try.prog wh12D (factAt (wh12F kd ag sz sl rk z B m d g b fo n c i k ss) j) o a w) 0 (opsOf 12 Try.f10) := by
  simp only [opsOf, Try.f10, opsAt, Option.bind, Option.or, Option.getD, reduceCtorEq, if_true, if_false, Nat.reduceEqDiff]
  refine ⟨?_, ?_⟩
  · intro _a _w hB hF _hd
    exact rf_loadS (guard_none rfl) rfl _ _ rfl _ _ ((hF.other 2 rfl).trans S.v2) _ (rf_range (S.box.below hB S.box.lt)) Try.underlying24 rfl (by kernel_rfl) rfl
  refine ⟨?_, ?_⟩
  · intro _a _w _hB hF _hd
    exact step_move (guard_none rfl) rfl _ rfl ((hF.other 5 rfl).trans S.v5)
  refine ⟨?_, ?_⟩
  · intro _a _w _hB hF _hd
    exact step_move (guard_none rfl) rfl _ rfl ((hF.other 9 rfl).trans S.v9)
  refine ⟨?_, ?_⟩
  · intro a _w _hB _hF hd
    have h56 : a.tmps.getD 56 undef = .slice (some ⟨b, fo, none⟩) n c := hd.1 rfl
    have h57 : a.tmps.getD 57 undef = .int .i64 i := hd.2.1 rfl
    exact rf_index (guard_none rfl) rfl _ _ _ rfl Try.underlying25 2 (fun _ => by kernel_rfl) _ _ _ _ i _ h56 h57 rfl S.hi rfl
  refine ⟨?_, ?_⟩
  · intro a _w hB _hF hd
    have h58 : a.tmps.getD 58 undef = .pointer (some ⟨b, fo + i * 2, none⟩) := hd.1 rfl
    exact rf_loadS (guard_none rfl) rfl _ _ rfl _ _ h58 [.int .i64 z, .int .i64 (z + sz)] (rf_two (rf_cell hB S.c0) (rf_cell hB S.c1)) Try.underlying38 rfl (by kernel_rfl) rfl
  refine ⟨?_, ?_⟩
  · intro a _w hB _hF hd
    have h55 : a.tmps.getD 55 undef = .agg #[.int .i64 kd, .int .i64 ag, .int .i64 sz, .int .i64 sl, .slice B m d, .int .i64 rk] := hd.1 rfl
    have h59 : a.tmps.getD 59 undef = .agg #[.int .i64 z, .int .i64 (z + sz)] := hd.2.1 rfl
    refine step_call (guard_none rfl) rfl _ _ (rf_call_run Try.func26 (by kernel_rfl) (by kernel_rfl) _ _ rfl) ?_
    simp only [List.map_toArray, List.map_cons, List.map_nil, Act.eval, h55, h59]
    exact (S.hc _ hB).mono (by rintro e w1 ⟨A, c, rfl, ho, hb⟩; exact ⟨_, rfl, hb, A, c, rfl, ho.mono (Nat.zero_le _)⟩)
  refine ⟨?_, ?_⟩
  · intro a w _hB _hF hd
    obtain ⟨A60, c60, h60, p60⟩ : outT k ss (a.tmps.getD 60 undef) w := hd.1 rfl
    exact step_move (guard_none rfl) rfl _ rfl ⟨A60, c60, h60, p60⟩
  refine ⟨?_, ?_⟩
  · intro a w _hB _hF hd
    obtain ⟨A54, c54, h54, p54⟩ : outT k ss (a.tmps.getD 54 undef) w := hd.1 rfl
    exact rf_extract (guard_none rfl) rfl _ 0 rfl _ _ h54 rfl ⟨A54, c54, rfl, p54⟩
  refine ⟨?_, ?_⟩
  · intro a w _hB _hF hd
    obtain ⟨A54, c54, h54, p54⟩ : outT k ss (a.tmps.getD 54 undef) w := hd.1 rfl
    exact rf_extract (guard_none rfl) rfl _ 1 rfl _ _ h54 rfl rfl
  refine ⟨?_, ?_⟩
  · intro a w _hB _hF hd
    obtain ⟨A61, c61, h61, p61⟩ : outS k ss (a.tmps.getD 61 undef) w := hd.1 rfl
    exact step_assign (guard_none rfl) rfl _ rfl ⟨A61, c61, h61, p61⟩
  refine ⟨?_, ?_⟩
  · intro a _w _hB _hF hd
    have h62 : a.tmps.getD 62 undef = .int .i64 0 := hd.1 rfl
    exact step_assign (guard_none rfl) rfl _ rfl h62
  trivial
theorem wh12_any {Q : Exit → Act → World → Prop} {l : List Oper} (hl : opsOf 12 Try.f10 = l) (hend : ∀ (A60 : Option Addr) (c60 : Nat), ∀ (A54 : Option Addr) (c54 : Nat), ∀ (A61 : Option Addr) (c61 : Nat), ∀ (A10 : Option Addr) (c10 : Nat), ∀ w : World, Below w0.heap.size w0 w → OwnS w 0 (.slice A60 k c60) ss → OwnS w 0 (.slice A54 k c54) ss → OwnS w 0 (.slice A61 k c61) ss → OwnS w 0 (.slice A10 k c10) ss → Q .normal (putAll a0 [(55, .agg #[.int .i64 kd, .int .i64 ag, .int .i64 sz, .int .i64 sl, .slice B m d, .int .i64 rk]), (56, .slice (some ⟨b, fo, none⟩) n c), (57, .int .i64 i), (58, .pointer (some ⟨b, fo + i * 2, none⟩)), (59, .agg #[.int .i64 z, .int .i64 (z + sz)]), (60, .tuple #[.slice A60 k c60, .int .i64 0]), (54, .tuple #[.slice A54 k c54, .int .i64 0]), (61, .slice A61 k c61), (62, .int .i64 0), (10, .slice A10 k c10), (11, .int .i64 0)]) w) :
    (Code.region 12 l.toArray true).wp Try.prog Q a0 w0 := by
  subst hl
  refine region_facts2 (wh12F kd ag sz sl rk z B m d g b fo n c i k ss) wh12D 150 S.size rfl (by kernel_rfl) (by kernel_rfl) (wh12F_mono _ _ _ _ _ _ _ _ _ _ _ _ _ _ _ _ _) (wh12_ok S) fun a w hB hF h => ?_
  obtain ⟨A60, c60, h60, p60⟩ : outT k ss (a.tmps.getD 60 undef) w := h 5 (some 60) rfl
  obtain ⟨A54, c54, h54, p54⟩ : outT k ss (a.tmps.getD 54 undef) w := h 6 (some 54) rfl
  obtain ⟨A61, c61, h61, p61⟩ : outS k ss (a.tmps.getD 61 undef) w := h 7 (some 61) rfl
  obtain ⟨A10, c10, h10, p10⟩ : outS k ss (a.tmps.getD 10 undef) w := h 9 (some 10) rfl
  have hv : valsAre a [(55, .agg #[.int .i64 kd, .int .i64 ag, .int .i64 sz, .int .i64 sl, .slice B m d, .int .i64 rk]), (56, .slice (some ⟨b, fo, none⟩) n c), (57, .int .i64 i), (58, .pointer (some ⟨b, fo + i * 2, none⟩)), (59, .agg #[.int .i64 z, .int .i64 (z + sz)]), (60, .tuple #[.slice A60 k c60, .int .i64 0]), (54, .tuple #[.slice A54 k c54, .int .i64 0]), (61, .slice A61 k c61), (62, .int .i64 0), (10, .slice A10 k c10), (11, .int .i64 0)] := by
    refine ⟨?_, ?_, ?_, ?_, ?_, ?_, ?_, ?_, ?_, ?_, ?_, trivial⟩
    · exact h 0 (some 55) rfl
    · exact h 1 (some 56) rfl
    · exact h 2 (some 57) rfl
    · exact h 3 (some 58) rfl
    · exact h 4 (some 59) rfl
    · exact h60
    · exact h54
    · exact h61
    · exact h 8 (some 62) rfl
    · exact h10
    · exact h 10 (some 11) rfl
  rw [frame_is hF _ hv (by rfl) (by rfl)]
  exact hend A60 c60 A54 c54 A61 c61 A10 c10 w hB p60 p54 p61 p10
end

end Go.Proofs.Ytkbocjmdbfddhaa
