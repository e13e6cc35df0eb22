/-
  Set's drawn region that stores into the row, the program's and the reference's: the facts of its reading head (written by gen/mkset.py).
-/
import Derived.Test.YtgibmcljlaoahaaGRows
import Derived.Test.YtgibmcljlaoahaaMkMem
import Derived.Test.YtgibmcljlaoahaaHead2
namespace Go.Proofs.Ytgibmcljlaoahaa
open Go.RowKit

theorem rf_max {P : Program} {D : List (Option Tmp)} {Φ : Fact} {o : Oper} {a : Act} {w : World} (hw : Region.wanted o (yieldD D a.tmps) = true) {t : Tmp} (hd : o.dst = some t) (T : TypeId) (x y : Operand) (ho : o.op = .call { callee := .builtin .max, args := #[x, y], argTypes := #[T, T] }) (p q r : Int) (hx : a.eval x = .int .i64 p) (hy : a.eval y = .int .i64 q) (hr : (if q > p then q else p) = r) (h : Φ (.int .i64 r) w) : StepD P D Φ o a w :=
  step_val hw hd _ w (by subst hr; unfold execOp; rw [ho]; have e := run_max_int2 (P := P) (w := w) #[T, T] o.type .i64 .i64 p q; generalize a.eval = ev at hx hy ⊢; simp [hx, hy, go_sem, resolve, invoke, builtin, e, Result.andThen]) (Below.refl _ _) h

def ms6D : List (Option Tmp) := [some 27, some 28, some 29, some 30, some 31, some 32, some 33, some 34, some 35, some 36, some 37, some 38, some 39, some 40, some 41, none]
def ms6F (g b c n k : Nat) (t z M : Int) : List Fact := [isV (.pointer (some ⟨g, 0, none⟩)), isV (.pointer (some ⟨g, 0, none⟩)), isV (.pointer (some ⟨g, 0, none⟩)), isV (.slice (some ⟨b, 0, none⟩) n c), isV (.int .i64 k), isV (.pointer (some ⟨g, 0, none⟩)), isV (.pointer (some ⟨g, 0, none⟩)), isV (.pointer (some ⟨g, 0, none⟩)), isV (.slice (some ⟨b, 0, none⟩) n c), isV (.int .i64 k), isV (.pointer (some ⟨b, 0 + k, none⟩)), isV (.int .i64 z), isV (.int .i64 t), isV (.int .i64 M)]
theorem ms6F_mono (g b c n k : Nat) (t z M : Int) : ∀ φ ∈ ms6F g b c n k t z M, Mono φ := by
  unfold ms6F
  repeat (first | exact monos_nil | (refine monos_cons (mono_isV _) ?_))
structure ms6S (g b c n k : Nat) (t z M : Int) (a0 : Act) (w0 : World) : Prop where
  size : a0.tmps.size = 46
  v0 : a0.tmps.getD 0 undef = .pointer (some ⟨g, 0, none⟩)
  v1 : a0.tmps.getD 1 undef = .int .i64 k
  v2 : a0.tmps.getD 2 undef = .int .i64 t
  st : Has w0 g 51 #[.slice (some ⟨b, 0, none⟩) n c]
  cz : w0.cell? ⟨b, 0 + k, none⟩ = some (.int .i64 z)
  kn : k < n
  hM : (if t > z then t else z) = M
section
variable {g b c n k : Nat} {t z M : Int} {a0 : Act} {w0 : World} (S : ms6S g b c n k t z M a0 w0)
include S
set_option maxRecDepth 100000 in
set_option maxHeartbeats 8000000 in
theorem ms6_ok : AllOps (fun j o => ∀ (a : Act) (w : World), Below w0.heap.size w0 w → FrD (ms6D.take 14) a0 a → needs ms6D (ms6F g b c n k t z M) a w o.after.toList → StepD Try.prog ms6D (factAt (ms6F g b c n k t z M) j) o a w) 0 ((opsOf 6 Try.f11).take 14) := by
  simp only [opsOf, Try.f11, opsAt, Option.bind, Option.or, Option.getD, reduceCtorEq, if_true, if_false, Nat.reduceEqDiff, List.take_succ_cons, List.take_zero]
  refine ⟨?_, ?_⟩
  · intro _a _w _hB hF _hd
    exact step_move (guard_none rfl) rfl _ rfl ((hF.other 0 rfl).trans S.v0)
  refine ⟨?_, ?_⟩
  · intro a _w _hB _hF hd
    have h27 : a.tmps.getD 27 undef = .pointer (some ⟨g, 0, none⟩) := hd.1 rfl
    exact rf_nilck (guard_none rfl) rfl _ rfl _ h27 rfl
  refine ⟨?_, ?_⟩
  · intro a _w _hB _hF hd
    have h28 : a.tmps.getD 28 undef = .pointer (some ⟨g, 0, none⟩) := hd.1 rfl
    exact rf_faddr (guard_none rfl) rfl _ _ _ rfl _ _ 0 _ h28 (by omega) (fun _ _ => by kernel_rfl) rfl
  refine ⟨?_, ?_⟩
  · intro a _w hB _hF hd
    have h29 : a.tmps.getD 29 undef = .pointer (some ⟨g, 0, none⟩) := hd.1 rfl
    exact rf_load1 (guard_none rfl) rfl _ _ rfl _ _ h29 (run_ldI ((Has.cell (S.st.below hB S.st.lt) 0).trans rfl)) rfl
  refine ⟨?_, ?_⟩
  · intro _a _w _hB hF _hd
    exact step_move (guard_none rfl) rfl _ rfl ((hF.other 1 rfl).trans S.v1)
  refine ⟨?_, ?_⟩
  · intro _a _w _hB hF _hd
    exact step_move (guard_none rfl) rfl _ rfl ((hF.other 0 rfl).trans S.v0)
  refine ⟨?_, ?_⟩
  · intro a _w _hB _hF hd
    have h32 : a.tmps.getD 32 undef = .pointer (some ⟨g, 0, none⟩) := hd.1 rfl
    exact rf_nilck (guard_none rfl) rfl _ rfl _ h32 rfl
  refine ⟨?_, ?_⟩
  · intro a _w _hB _hF hd
    have h33 : a.tmps.getD 33 undef = .pointer (some ⟨g, 0, none⟩) := hd.1 rfl
    exact rf_faddr (guard_none rfl) rfl _ _ _ rfl _ _ 0 _ h33 (by omega) (fun _ _ => by kernel_rfl) rfl
  refine ⟨?_, ?_⟩
  · intro a _w hB _hF hd
    have h34 : a.tmps.getD 34 undef = .pointer (some ⟨g, 0, none⟩) := hd.1 rfl
    exact rf_load1 (guard_none rfl) rfl _ _ rfl _ _ h34 (run_ldI ((Has.cell (S.st.below hB S.st.lt) 0).trans rfl)) rfl
  refine ⟨?_, ?_⟩
  · intro _a _w _hB hF _hd
    exact step_move (guard_none rfl) rfl _ rfl ((hF.other 1 rfl).trans S.v1)
  refine ⟨?_, ?_⟩
  · intro a _w _hB _hF hd
    have h35 : a.tmps.getD 35 undef = .slice (some ⟨b, 0, none⟩) n c := hd.1 rfl
    have h36 : a.tmps.getD 36 undef = .int .i64 k := hd.2.1 rfl
    exact rf_indexI (guard_none rfl) rfl _ _ rfl _ _ _ _ k _ h35 h36 rfl S.kn rfl
  refine ⟨?_, ?_⟩
  · intro a _w hB _hF hd
    have h37 : a.tmps.getD 37 undef = .pointer (some ⟨b, 0 + k, none⟩) := hd.1 rfl
    exact rf_loadi (guard_none rfl) rfl _ rfl _ _ h37 _ ((hB.cell (block_lt_of_cell S.cz)).trans S.cz) rfl
  refine ⟨?_, ?_⟩
  · intro _a _w _hB hF _hd
    exact step_move (guard_none rfl) rfl _ rfl ((hF.other 2 rfl).trans S.v2)
  refine ⟨?_, ?_⟩
  · intro a _w _hB _hF hd
    have h38 : a.tmps.getD 38 undef = .int .i64 z := hd.1 rfl
    have h39 : a.tmps.getD 39 undef = .int .i64 t := hd.2.1 rfl
    exact rf_max (guard_none rfl) rfl _ _ _ rfl _ _ _ h38 h39 S.hM rfl
  trivial
theorem ms6_any {Q : Exit → Act → World → Prop} {l : List Oper} (hl : opsOf 6 Try.f11 = l) (hend : ∀ w : World, Below w0.heap.size w0 w → wpList Try.prog l.toArray Q (l.drop 14) (putAll a0 [(27, .pointer (some ⟨g, 0, none⟩)), (28, .pointer (some ⟨g, 0, none⟩)), (29, .pointer (some ⟨g, 0, none⟩)), (30, .slice (some ⟨b, 0, none⟩) n c), (31, .int .i64 k), (32, .pointer (some ⟨g, 0, none⟩)), (33, .pointer (some ⟨g, 0, none⟩)), (34, .pointer (some ⟨g, 0, none⟩)), (35, .slice (some ⟨b, 0, none⟩) n c), (36, .int .i64 k), (37, .pointer (some ⟨b, 0 + k, none⟩)), (38, .int .i64 z), (39, .int .i64 t), (40, .int .i64 M)]) w) :
    (Code.region 6 l.toArray true).wp Try.prog Q a0 w0 := by
  subst hl
  refine region_head2 (ms6F g b c n k t z M) ms6D 14 46 S.size rfl (by kernel_rfl) (by kernel_rfl) (by kernel_rfl) (ms6F_mono _ _ _ _ _ _ _ _) (ms6_ok S) fun a w hB hF h => ?_
  have hv : valsAre a [(27, .pointer (some ⟨g, 0, none⟩)), (28, .pointer (some ⟨g, 0, none⟩)), (29, .pointer (some ⟨g, 0, none⟩)), (30, .slice (some ⟨b, 0, none⟩) n c), (31, .int .i64 k), (32, .pointer (some ⟨g, 0, none⟩)), (33, .pointer (some ⟨g, 0, none⟩)), (34, .pointer (some ⟨g, 0, none⟩)), (35, .slice (some ⟨b, 0, none⟩) n c), (36, .int .i64 k), (37, .pointer (some ⟨b, 0 + k, none⟩)), (38, .int .i64 z), (39, .int .i64 t), (40, .int .i64 M)] := by
    refine ⟨?_, ?_, ?_, ?_, ?_, ?_, ?_, ?_, ?_, ?_, ?_, ?_, ?_, ?_, trivial⟩
    · exact h 0 (some 27) (by omega) rfl
    · exact h 1 (some 28) (by omega) rfl
    · exact h 2 (some 29) (by omega) rfl
    · exact h 3 (some 30) (by omega) rfl
    · exact h 4 (some 31) (by omega) rfl
    · exact h 5 (some 32) (by omega) rfl
    · exact h 6 (some 33) (by omega) rfl
    · exact h 7 (some 34) (by omega) rfl
    · exact h 8 (some 35) (by omega) rfl
    · exact h 9 (some 36) (by omega) rfl
    · exact h 10 (some 37) (by omega) rfl
    · exact h 11 (some 38) (by omega) rfl
    · exact h 12 (some 39) (by omega) rfl
    · exact h 13 (some 40) (by omega) rfl
  rw [frame_is hF _ hv (by rfl) (by rfl)]
  exact hend w hB
end

def rs4D : List (Option Tmp) := [some 30, some 31, some 32, some 33, some 34, some 35, some 36, some 37, some 38, some 39, some 40, some 41, some 42, some 43, some 44, none]
def rs4F (g b c n k : Nat) (t z M : Int) : List Fact := [isV (.pointer (some ⟨g, 0, none⟩)), isV (.pointer (some ⟨g, 0, none⟩)), isV (.pointer (some ⟨g, 0, none⟩)), isV (.slice (some ⟨b, 0, none⟩) n c), isV (.int .i64 k), isV (.pointer (some ⟨g, 0, none⟩)), isV (.pointer (some ⟨g, 0, none⟩)), isV (.pointer (some ⟨g, 0, none⟩)), isV (.slice (some ⟨b, 0, none⟩) n c), isV (.int .i64 k), isV (.pointer (some ⟨b, 0 + k, none⟩)), isV (.int .i64 z), isV (.int .i64 t), isV (.int .i64 M)]
theorem rs4F_mono (g b c n k : Nat) (t z M : Int) : ∀ φ ∈ rs4F g b c n k t z M, Mono φ := by
  unfold rs4F
  repeat (first | exact monos_nil | (refine monos_cons (mono_isV _) ?_))
structure rs4S (g b c n k : Nat) (t z M : Int) (a0 : Act) (w0 : World) : Prop where
  size : a0.tmps.size = 49
  v0 : a0.tmps.getD 0 undef = .pointer (some ⟨g, 0, none⟩)
  v1 : a0.tmps.getD 1 undef = .int .i64 k
  v2 : a0.tmps.getD 2 undef = .int .i64 t
  st : Has w0 g 43 #[.slice (some ⟨b, 0, none⟩) n c]
  cz : w0.cell? ⟨b, 0 + k, none⟩ = some (.int .i64 z)
  kn : k < n
  hM : (if t > z then t else z) = M
section
variable {g b c n k : Nat} {t z M : Int} {a0 : Act} {w0 : World} (S : rs4S g b c n k t z M a0 w0)
include S
set_option maxRecDepth 100000 in
set_option maxHeartbeats 8000000 in
theorem rs4_ok : AllOps (fun j o => ∀ (a : Act) (w : World), Below w0.heap.size w0 w → FrD (rs4D.take 14) a0 a → needs rs4D (rs4F g b c n k t z M) a w o.after.toList → StepD Try.prog rs4D (factAt (rs4F g b c n k t z M) j) o a w) 0 ((opsOf 4 Try.f12).take 14) := by
  simp only [opsOf, Try.f12, opsAt, Option.bind, Option.or, Option.getD, reduceCtorEq, if_true, if_false, Nat.reduceEqDiff, List.take_succ_cons, List.take_zero]
  refine ⟨?_, ?_⟩
  · intro _a _w _hB hF _hd
    exact step_move (guard_none rfl) rfl _ rfl ((hF.other 0 rfl).trans S.v0)
  refine ⟨?_, ?_⟩
  · intro a _w _hB _hF hd
    have h30 : a.tmps.getD 30 undef = .pointer (some ⟨g, 0, none⟩) := hd.1 rfl
    exact rf_nilck (guard_none rfl) rfl _ rfl _ h30 rfl
  refine ⟨?_, ?_⟩
  · intro a _w _hB _hF hd
    have h31 : a.tmps.getD 31 undef = .pointer (some ⟨g, 0, none⟩) := hd.1 rfl
    exact rf_faddr (guard_none rfl) rfl _ _ _ rfl _ _ 0 _ h31 (by omega) (fun _ _ => by kernel_rfl) rfl
  refine ⟨?_, ?_⟩
  · intro a _w hB _hF hd
    have h32 : a.tmps.getD 32 undef = .pointer (some ⟨g, 0, none⟩) := hd.1 rfl
    exact rf_load1 (guard_none rfl) rfl _ _ rfl _ _ h32 (run_ldI ((Has.cell (S.st.below hB S.st.lt) 0).trans rfl)) rfl
  refine ⟨?_, ?_⟩
  · intro _a _w _hB hF _hd
    exact step_move (guard_none rfl) rfl _ rfl ((hF.other 1 rfl).trans S.v1)
  refine ⟨?_, ?_⟩
  · intro _a _w _hB hF _hd
    exact step_move (guard_none rfl) rfl _ rfl ((hF.other 0 rfl).trans S.v0)
  refine ⟨?_, ?_⟩
  · intro a _w _hB _hF hd
    have h35 : a.tmps.getD 35 undef = .pointer (some ⟨g, 0, none⟩) := hd.1 rfl
    exact rf_nilck (guard_none rfl) rfl _ rfl _ h35 rfl
  refine ⟨?_, ?_⟩
  · intro a _w _hB _hF hd
    have h36 : a.tmps.getD 36 undef = .pointer (some ⟨g, 0, none⟩) := hd.1 rfl
    exact rf_faddr (guard_none rfl) rfl _ _ _ rfl _ _ 0 _ h36 (by omega) (fun _ _ => by kernel_rfl) rfl
  refine ⟨?_, ?_⟩
  · intro a _w hB _hF hd
    have h37 : a.tmps.getD 37 undef = .pointer (some ⟨g, 0, none⟩) := hd.1 rfl
    exact rf_load1 (guard_none rfl) rfl _ _ rfl _ _ h37 (run_ldI ((Has.cell (S.st.below hB S.st.lt) 0).trans rfl)) rfl
  refine ⟨?_, ?_⟩
  · intro _a _w _hB hF _hd
    exact step_move (guard_none rfl) rfl _ rfl ((hF.other 1 rfl).trans S.v1)
  refine ⟨?_, ?_⟩
  · intro a _w _hB _hF hd
    have h38 : a.tmps.getD 38 undef = .slice (some ⟨b, 0, none⟩) n c := hd.1 rfl
    have h39 : a.tmps.getD 39 undef = .int .i64 k := hd.2.1 rfl
    exact rf_indexI (guard_none rfl) rfl _ _ rfl _ _ _ _ k _ h38 h39 rfl S.kn rfl
  refine ⟨?_, ?_⟩
  · intro a _w hB _hF hd
    have h40 : a.tmps.getD 40 undef = .pointer (some ⟨b, 0 + k, none⟩) := hd.1 rfl
    exact rf_loadi (guard_none rfl) rfl _ rfl _ _ h40 _ ((hB.cell (block_lt_of_cell S.cz)).trans S.cz) rfl
  refine ⟨?_, ?_⟩
  · intro _a _w _hB hF _hd
    exact step_move (guard_none rfl) rfl _ rfl ((hF.other 2 rfl).trans S.v2)
  refine ⟨?_, ?_⟩
  · intro a _w _hB _hF hd
    have h41 : a.tmps.getD 41 undef = .int .i64 z := hd.1 rfl
    have h42 : a.tmps.getD 42 undef = .int .i64 t := hd.2.1 rfl
    exact rf_max (guard_none rfl) rfl _ _ _ rfl _ _ _ h41 h42 S.hM rfl
  trivial
theorem rs4_any {Q : Exit → Act → World → Prop} {l : List Oper} (hl : opsOf 4 Try.f12 = l) (hend : ∀ w : World, Below w0.heap.size w0 w → wpList Try.prog l.toArray Q (l.drop 14) (putAll a0 [(30, .pointer (some ⟨g, 0, none⟩)), (31, .pointer (some ⟨g, 0, none⟩)), (32, .pointer (some ⟨g, 0, none⟩)), (33, .slice (some ⟨b, 0, none⟩) n c), (34, .int .i64 k), (35, .pointer (some ⟨g, 0, none⟩)), (36, .pointer (some ⟨g, 0, none⟩)), (37, .pointer (some ⟨g, 0, none⟩)), (38, .slice (some ⟨b, 0, none⟩) n c), (39, .int .i64 k), (40, .pointer (some ⟨b, 0 + k, none⟩)), (41, .int .i64 z), (42, .int .i64 t), (43, .int .i64 M)]) w) :
    (Code.region 4 l.toArray true).wp Try.prog Q a0 w0 := by
  subst hl
  refine region_head2 (rs4F g b c n k t z M) rs4D 14 49 S.size rfl (by kernel_rfl) (by kernel_rfl) (by kernel_rfl) (rs4F_mono _ _ _ _ _ _ _ _) (rs4_ok S) fun a w hB hF h => ?_
  have hv : valsAre a [(30, .pointer (some ⟨g, 0, none⟩)), (31, .pointer (some ⟨g, 0, none⟩)), (32, .pointer (some ⟨g, 0, none⟩)), (33, .slice (some ⟨b, 0, none⟩) n c), (34, .int .i64 k), (35, .pointer (some ⟨g, 0, none⟩)), (36, .pointer (some ⟨g, 0, none⟩)), (37, .pointer (some ⟨g, 0, none⟩)), (38, .slice (some ⟨b, 0, none⟩) n c), (39, .int .i64 k), (40, .pointer (some ⟨b, 0 + k, none⟩)), (41, .int .i64 z), (42, .int .i64 t), (43, .int .i64 M)] := by
    refine ⟨?_, ?_, ?_, ?_, ?_, ?_, ?_, ?_, ?_, ?_, ?_, ?_, ?_, ?_, trivial⟩
    · exact h 0 (some 30) (by omega) rfl
    · exact h 1 (some 31) (by omega) rfl
    · exact h 2 (some 32) (by omega) rfl
    · exact h 3 (some 33) (by omega) rfl
    · exact h 4 (some 34) (by omega) rfl
    · exact h 5 (some 35) (by omega) rfl
    · exact h 6 (some 36) (by omega) rfl
    · exact h 7 (some 37) (by omega) rfl
    · exact h 8 (some 38) (by omega) rfl
    · exact h 9 (some 39) (by omega) rfl
    · exact h 10 (some 40) (by omega) rfl
    · exact h 11 (some 41) (by omega) rfl
    · exact h 12 (some 42) (by omega) rfl
    · exact h 13 (some 43) (by omega) rfl
  rw [frame_is hF _ hv (by rfl) (by rfl)]
  exact hend w hB
end

end Go.Proofs.Ytgibmcljlaoahaa
