/-
  Add's drawn region that stores into the map: the facts of its reading head (written by gen/rgadd.py).
-/
import Derived.Test.YtamgllaoeociaaaRfOne
import Derived.Test.YtamgllaoeociaaaRgMem
import Derived.Test.YtamgllaoeociaaaHead2
namespace Go.Proofs.Ytamgllaoeociaaa
open Go.RowKit

theorem run_ldM {g k mp : Nat} {w : World} (h : w.cell? ⟨g, k, none⟩ = some (.map (some mp))) : (Instr.loadAt 43 (.pointer (some ⟨g, k, none⟩))).run Try.prog w = .ok (.map (some mp)) w := by simp [go_sem, h, Instr.loadAt]

def ga9D : List (Option Tmp) := [some 23, some 24, some 25, some 26, some 27, some 28, some 29, some 30, some 31, some 32, none]
def ga9F (g n c mp : Nat) (_m x : Int) (A : Option Addr) : List Fact := [isV (.pointer (some ⟨g, 0, none⟩)), isV (.pointer (some ⟨g, 0, none⟩)), isV (.pointer (some ⟨g, 2, none⟩)), isV (.map (some mp)), isV (.int .i64 x), isV (.pointer (some ⟨g, 0, none⟩)), isV (.pointer (some ⟨g, 0, none⟩)), isV (.pointer (some ⟨g, 1, none⟩)), isV (.slice A n c), isV (.int .i64 n)]
theorem ga9F_mono (g n c mp : Nat) (m x : Int) (A : Option Addr) : ∀ φ ∈ ga9F g n c mp m x A, Mono φ := by
  unfold ga9F
  repeat (first | exact monos_nil | (refine monos_cons (mono_isV _) ?_))
structure ga9S (g n c mp : Nat) (m x : Int) (A : Option Addr) (a0 : Act) (w0 : World) : Prop where
  size : a0.tmps.size = 43
  v0 : a0.tmps.getD 0 undef = .pointer (some ⟨g, 0, none⟩)
  v1 : a0.tmps.getD 1 undef = .int .i64 x
  st : Has w0 g 45 (regC m A n c mp)
section
variable {g n c mp : Nat} {m x : Int} {A : Option Addr} {a0 : Act} {w0 : World} (S : ga9S g n c mp m x A a0 w0)
include S
set_option maxRecDepth 100000 in
set_option maxHeartbeats 8000000 in
theorem ga9_ok : AllOps (fun j o => ∀ (a : Act) (w : World), Below w0.heap.size w0 w → FrD (ga9D.take 10) a0 a → needs ga9D (ga9F g n c mp m x A) a w o.after.toList → StepD Try.prog ga9D (factAt (ga9F g n c mp m x A) j) o a w) 0 ((opsOf 9 Try.f10).take 10) := by
  simp only [opsOf, Try.f10, opsAt, Option.bind, Option.or, Option.getD, reduceCtorEq, if_true, if_false, Nat.reduceEqDiff, List.take_succ_cons, List.take_zero]
  refine ⟨?_, ?_⟩
  · intro _a _w _hB hF _hd
    exact step_move (guard_none rfl) rfl _ rfl ((hF.other 0 rfl).trans S.v0)
  refine ⟨?_, ?_⟩
  · intro a _w _hB _hF hd
    have h23 : a.tmps.getD 23 undef = .pointer (some ⟨g, 0, none⟩) := hd.1 rfl
    exact rf_nilck (guard_none rfl) rfl _ rfl _ h23 rfl
  refine ⟨?_, ?_⟩
  · intro a _w _hB _hF hd
    have h24 : a.tmps.getD 24 undef = .pointer (some ⟨g, 0, none⟩) := hd.1 rfl
    exact rf_faddr (guard_none rfl) rfl _ _ _ rfl _ _ 2 _ h24 (by omega) (fun _ _ => by kernel_rfl) rfl
  refine ⟨?_, ?_⟩
  · intro a _w hB _hF hd
    have h25 : a.tmps.getD 25 undef = .pointer (some ⟨g, 2, none⟩) := hd.1 rfl
    exact rf_load1 (guard_none rfl) rfl _ _ rfl _ _ h25 (run_ldM ((Has.cell (S.st.below hB S.st.lt) 2).trans rfl)) rfl
  refine ⟨?_, ?_⟩
  · intro _a _w _hB hF _hd
    exact step_move (guard_none rfl) rfl _ rfl ((hF.other 1 rfl).trans S.v1)
  refine ⟨?_, ?_⟩
  · intro _a _w _hB hF _hd
    exact step_move (guard_none rfl) rfl _ rfl ((hF.other 0 rfl).trans S.v0)
  refine ⟨?_, ?_⟩
  · intro a _w _hB _hF hd
    have h28 : a.tmps.getD 28 undef = .pointer (some ⟨g, 0, none⟩) := hd.1 rfl
    exact rf_nilck (guard_none rfl) rfl _ rfl _ h28 rfl
  refine ⟨?_, ?_⟩
  · intro a _w _hB _hF hd
    have h29 : a.tmps.getD 29 undef = .pointer (some ⟨g, 0, none⟩) := hd.1 rfl
    exact rf_faddr (guard_none rfl) rfl _ _ _ rfl _ _ 1 _ h29 (by omega) (fun _ _ => by kernel_rfl) rfl
  refine ⟨?_, ?_⟩
  · intro a _w hB _hF hd
    have h30 : a.tmps.getD 30 undef = .pointer (some ⟨g, 1, none⟩) := hd.1 rfl
    exact rf_load1 (guard_none rfl) rfl _ _ rfl _ _ h30 (run_ldI ((Has.cell (S.st.below hB S.st.lt) 1).trans rfl)) rfl
  refine ⟨?_, ?_⟩
  · intro a _w _hB _hF hd
    have h31 : a.tmps.getD 31 undef = .slice A n c := hd.1 rfl
    exact rf_len (guard_none rfl) rfl _ _ rfl Try.underlying22 _ _ _ h31 rfl
  trivial
theorem ga9_any {Q : Exit → Act → World → Prop} {l : List Oper} (hl : opsOf 9 Try.f10 = l) (hend : ∀ w : World, Below w0.heap.size w0 w → wpList Try.prog l.toArray Q (l.drop 10) (putAll a0 [(23, .pointer (some ⟨g, 0, none⟩)), (24, .pointer (some ⟨g, 0, none⟩)), (25, .pointer (some ⟨g, 2, none⟩)), (26, .map (some mp)), (27, .int .i64 x), (28, .pointer (some ⟨g, 0, none⟩)), (29, .pointer (some ⟨g, 0, none⟩)), (30, .pointer (some ⟨g, 1, none⟩)), (31, .slice A n c), (32, .int .i64 n)]) w) :
    (Code.region 9 l.toArray true).wp Try.prog Q a0 w0 := by
  subst hl
  refine region_head2 (ga9F g n c mp m x A) ga9D 10 43 S.size rfl (by kernel_rfl) (by kernel_rfl) (by kernel_rfl) (ga9F_mono _ _ _ _ _ _ _) (ga9_ok S) fun a w hB hF h => ?_
  have hv : valsAre a [(23, .pointer (some ⟨g, 0, none⟩)), (24, .pointer (some ⟨g, 0, none⟩)), (25, .pointer (some ⟨g, 2, none⟩)), (26, .map (some mp)), (27, .int .i64 x), (28, .pointer (some ⟨g, 0, none⟩)), (29, .pointer (some ⟨g, 0, none⟩)), (30, .pointer (some ⟨g, 1, none⟩)), (31, .slice A n c), (32, .int .i64 n)] := by
    refine ⟨?_, ?_, ?_, ?_, ?_, ?_, ?_, ?_, ?_, ?_, trivial⟩
    · exact h 0 (some 23) (by omega) rfl
    · exact h 1 (some 24) (by omega) rfl
    · exact h 2 (some 25) (by omega) rfl
    · exact h 3 (some 26) (by omega) rfl
    · exact h 4 (some 27) (by omega) rfl
    · exact h 5 (some 28) (by omega) rfl
    · exact h 6 (some 29) (by omega) rfl
    · exact h 7 (some 30) (by omega) rfl
    · exact h 8 (some 31) (by omega) rfl
    · exact h 9 (some 32) (by omega) rfl
  rw [frame_is hF _ hv (by rfl) (by rfl)]
  exact hend w hB
end

end Go.Proofs.Ytamgllaoeociaaa
