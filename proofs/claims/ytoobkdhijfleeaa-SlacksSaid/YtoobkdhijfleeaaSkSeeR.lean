/-
  See's drawn region that stores K, the program's and the reference's: the facts of its reading head (written by gen/sksee.py).
-/
import Derived.Test.YtoobkdhijfleeaaRfMm
import Derived.Test.YtoobkdhijfleeaaSkMem
import Derived.Test.YtoobkdhijfleeaaHead2
namespace Go.Proofs.Ytoobkdhijfleeaa
open Go.RowKit

def sl5D : List (Option Tmp) := [some 10, some 11, some 12, some 13, some 14, some 15, some 16, some 17, some 18, some 19, some 20, some 21, some 22, some 23, some 24, some 25, some 26, some 27, some 28, none]
def sl5F (g : Nat) (L T K t m M : Int) : List Fact := [isV (.pointer (some ⟨g, 0, none⟩)), isV (.pointer (some ⟨g, 0, none⟩)), isV (.pointer (some ⟨g, 0, none⟩)), isV (.pointer (some ⟨g, 2, none⟩)), isV (.int .i64 K), isV (.pointer (some ⟨g, 0, none⟩)), isV (.pointer (some ⟨g, 0, none⟩)), isV (.pointer (some ⟨g, 0, none⟩)), isV (.int .i64 L), isV (.pointer (some ⟨g, 0, none⟩)), isV (.pointer (some ⟨g, 0, none⟩)), isV (.pointer (some ⟨g, 1, none⟩)), isV (.int .i64 T), isV (.int .i64 t), isV (.int .i64 (T - t)), isV (.int .i64 m), isV (.int .i64 M)]
theorem sl5F_mono (g : Nat) (L T K t m M : Int) : ∀ φ ∈ sl5F g L T K t m M, Mono φ := by
  unfold sl5F
  repeat (first | exact monos_nil | (refine monos_cons (mono_isV _) ?_))
structure sl5S (g : Nat) (L T K t m M : Int) (a0 : Act) (w0 : World) : Prop where
  size : a0.tmps.size = 38
  v0 : a0.tmps.getD 0 undef = .pointer (some ⟨g, 0, none⟩)
  v1 : a0.tmps.getD 1 undef = .int .i64 t
  st : Has w0 g 43 (slC L T K)
  b0 : -9223372036854775808 ≤ T - t
  b1 : T - t ≤ 9223372036854775807
  hm : (if T - t < L then T - t else L) = m
  hM : (if m > K then m else K) = M
section
variable {g : Nat} {L T K t m M : Int} {a0 : Act} {w0 : World} (S : sl5S g L T K t m M a0 w0)
include S
set_option maxRecDepth 100000 in
set_option maxHeartbeats 8000000 in
theorem sl5_ok : AllOps (fun j o => ∀ (a : Act) (w : World), Below w0.heap.size w0 w → FrD (sl5D.take 17) a0 a → needs sl5D (sl5F g L T K t m M) a w o.after.toList → StepD Try.prog sl5D (factAt (sl5F g L T K t m M) j) o a w) 0 ((opsOf 5 Try.f12).take 17) := by
  simp only [opsOf, Try.f12, opsAt, Option.bind, Option.or, Option.getD, reduceCtorEq, if_true, if_false, Nat.reduceEqDiff, List.take_succ_cons, List.take_zero]
  refine ⟨?_, ?_⟩
  · intro _a _w _hB hF _hd
    exact step_move (guard_none rfl) rfl _ rfl ((hF.other 0 rfl).trans S.v0)
  refine ⟨?_, ?_⟩
  · intro _a _w _hB hF _hd
    exact step_move (guard_none rfl) rfl _ rfl ((hF.other 0 rfl).trans S.v0)
  refine ⟨?_, ?_⟩
  · intro a _w _hB _hF hd
    have h11 : a.tmps.getD 11 undef = .pointer (some ⟨g, 0, none⟩) := hd.1 rfl
    exact rf_nilck (guard_none rfl) rfl _ rfl _ h11 rfl
  refine ⟨?_, ?_⟩
  · intro a _w _hB _hF hd
    have h12 : a.tmps.getD 12 undef = .pointer (some ⟨g, 0, none⟩) := hd.1 rfl
    exact rf_faddr (guard_none rfl) rfl _ _ _ rfl _ _ 2 _ h12 (by omega) (fun _ _ => by kernel_rfl) rfl
  refine ⟨?_, ?_⟩
  · intro a _w hB _hF hd
    have h13 : a.tmps.getD 13 undef = .pointer (some ⟨g, 2, none⟩) := hd.1 rfl
    exact rf_loadi (guard_none rfl) rfl _ rfl _ _ h13 _ ((Has.cell (S.st.below hB S.st.lt) 2).trans rfl) rfl
  refine ⟨?_, ?_⟩
  · intro _a _w _hB hF _hd
    exact step_move (guard_none rfl) rfl _ rfl ((hF.other 0 rfl).trans S.v0)
  refine ⟨?_, ?_⟩
  · intro a _w _hB _hF hd
    have h15 : a.tmps.getD 15 undef = .pointer (some ⟨g, 0, none⟩) := hd.1 rfl
    exact rf_nilck (guard_none rfl) rfl _ rfl _ h15 rfl
  refine ⟨?_, ?_⟩
  · intro a _w _hB _hF hd
    have h16 : a.tmps.getD 16 undef = .pointer (some ⟨g, 0, none⟩) := hd.1 rfl
    exact rf_faddr (guard_none rfl) rfl _ _ _ rfl _ _ 0 _ h16 (by omega) (fun _ _ => by kernel_rfl) rfl
  refine ⟨?_, ?_⟩
  · intro a _w hB _hF hd
    have h17 : a.tmps.getD 17 undef = .pointer (some ⟨g, 0, none⟩) := hd.1 rfl
    exact rf_loadi (guard_none rfl) rfl _ rfl _ _ h17 _ ((Has.cell (S.st.below hB S.st.lt) 0).trans rfl) rfl
  refine ⟨?_, ?_⟩
  · intro _a _w _hB hF _hd
    exact step_move (guard_none rfl) rfl _ rfl ((hF.other 0 rfl).trans S.v0)
  refine ⟨?_, ?_⟩
  · intro a _w _hB _hF hd
    have h19 : a.tmps.getD 19 undef = .pointer (some ⟨g, 0, none⟩) := hd.1 rfl
    exact rf_nilck (guard_none rfl) rfl _ rfl _ h19 rfl
  refine ⟨?_, ?_⟩
  · intro a _w _hB _hF hd
    have h20 : a.tmps.getD 20 undef = .pointer (some ⟨g, 0, none⟩) := hd.1 rfl
    exact rf_faddr (guard_none rfl) rfl _ _ _ rfl _ _ 1 _ h20 (by omega) (fun _ _ => by kernel_rfl) rfl
  refine ⟨?_, ?_⟩
  · intro a _w hB _hF hd
    have h21 : a.tmps.getD 21 undef = .pointer (some ⟨g, 1, none⟩) := hd.1 rfl
    exact rf_loadi (guard_none rfl) rfl _ rfl _ _ h21 _ ((Has.cell (S.st.below hB S.st.lt) 1).trans rfl) rfl
  refine ⟨?_, ?_⟩
  · intro _a _w _hB hF _hd
    exact step_move (guard_none rfl) rfl _ rfl ((hF.other 1 rfl).trans S.v1)
  refine ⟨?_, ?_⟩
  · intro a _w _hB _hF hd
    have h22 : a.tmps.getD 22 undef = .int .i64 T := hd.1 rfl
    have h23 : a.tmps.getD 23 undef = .int .i64 t := hd.2.1 rfl
    exact rf_sub (guard_none rfl) rfl _ _ rfl _ _ h22 h23 S.b0 S.b1 rfl
  refine ⟨?_, ?_⟩
  · intro a _w _hB _hF hd
    have h18 : a.tmps.getD 18 undef = .int .i64 L := hd.1 rfl
    have h24 : a.tmps.getD 24 undef = .int .i64 (T - t) := hd.2.1 rfl
    exact rf_min (guard_none rfl) rfl _ _ _ rfl _ _ _ h18 h24 S.hm rfl
  refine ⟨?_, ?_⟩
  · intro a _w _hB _hF hd
    have h14 : a.tmps.getD 14 undef = .int .i64 K := hd.1 rfl
    have h25 : a.tmps.getD 25 undef = .int .i64 m := hd.2.1 rfl
    exact rf_max (guard_none rfl) rfl _ _ _ rfl _ _ _ h14 h25 S.hM rfl
  trivial
theorem sl5_any {Q : Exit → Act → World → Prop} {l : List Oper} (hl : opsOf 5 Try.f12 = l) (hend : ∀ w : World, Below w0.heap.size w0 w → wpList Try.prog l.toArray Q (l.drop 17) (putAll a0 [(10, .pointer (some ⟨g, 0, none⟩)), (11, .pointer (some ⟨g, 0, none⟩)), (12, .pointer (some ⟨g, 0, none⟩)), (13, .pointer (some ⟨g, 2, none⟩)), (14, .int .i64 K), (15, .pointer (some ⟨g, 0, none⟩)), (16, .pointer (some ⟨g, 0, none⟩)), (17, .pointer (some ⟨g, 0, none⟩)), (18, .int .i64 L), (19, .pointer (some ⟨g, 0, none⟩)), (20, .pointer (some ⟨g, 0, none⟩)), (21, .pointer (some ⟨g, 1, none⟩)), (22, .int .i64 T), (23, .int .i64 t), (24, .int .i64 (T - t)), (25, .int .i64 m), (26, .int .i64 M)]) w) :
    (Code.region 5 l.toArray true).wp Try.prog Q a0 w0 := by
  subst hl
  refine region_head2 (sl5F g L T K t m M) sl5D 17 38 S.size rfl (by kernel_rfl) (by kernel_rfl) (by kernel_rfl) (sl5F_mono _ _ _ _ _ _ _) (sl5_ok S) fun a w hB hF h => ?_
  have hv : valsAre a [(10, .pointer (some ⟨g, 0, none⟩)), (11, .pointer (some ⟨g, 0, none⟩)), (12, .pointer (some ⟨g, 0, none⟩)), (13, .pointer (some ⟨g, 2, none⟩)), (14, .int .i64 K), (15, .pointer (some ⟨g, 0, none⟩)), (16, .pointer (some ⟨g, 0, none⟩)), (17, .pointer (some ⟨g, 0, none⟩)), (18, .int .i64 L), (19, .pointer (some ⟨g, 0, none⟩)), (20, .pointer (some ⟨g, 0, none⟩)), (21, .pointer (some ⟨g, 1, none⟩)), (22, .int .i64 T), (23, .int .i64 t), (24, .int .i64 (T - t)), (25, .int .i64 m), (26, .int .i64 M)] := by
    refine ⟨?_, ?_, ?_, ?_, ?_, ?_, ?_, ?_, ?_, ?_, ?_, ?_, ?_, ?_, ?_, ?_, ?_, trivial⟩
    · exact h 0 (some 10) (by omega) rfl
    · exact h 1 (some 11) (by omega) rfl
    · exact h 2 (some 12) (by omega) rfl
    · exact h 3 (some 13) (by omega) rfl
    · exact h 4 (some 14) (by omega) rfl
    · exact h 5 (some 15) (by omega) rfl
    · exact h 6 (some 16) (by omega) rfl
    · exact h 7 (some 17) (by omega) rfl
    · exact h 8 (some 18) (by omega) rfl
    · exact h 9 (some 19) (by omega) rfl
    · exact h 10 (some 20) (by omega) rfl
    · exact h 11 (some 21) (by omega) rfl
    · exact h 12 (some 22) (by omega) rfl
    · exact h 13 (some 23) (by omega) rfl
    · exact h 14 (some 24) (by omega) rfl
    · exact h 15 (some 25) (by omega) rfl
    · exact h 16 (some 26) (by omega) rfl
  rw [frame_is hF _ hv (by rfl) (by rfl)]
  exact hend w hB
end

def sr6D : List (Option Tmp) := [some 28, some 29, some 30, some 31, some 32, some 33, some 34, some 35, some 36, some 37, some 38, some 39, some 40, some 41, some 42, some 43, some 44, some 45, some 46, none]
def sr6F (y : Nat) (L M K t m R : Int) (_b : Bool) : List Fact := [isV (.pointer (some ⟨y, 0, none⟩)), isV (.pointer (some ⟨y, 0, none⟩)), isV (.pointer (some ⟨y, 0, none⟩)), isV (.pointer (some ⟨y, 3, none⟩)), isV (.int .i64 K), isV (.pointer (some ⟨y, 0, none⟩)), isV (.pointer (some ⟨y, 0, none⟩)), isV (.pointer (some ⟨y, 2, none⟩)), isV (.int .i64 M), isV (.int .i64 t), isV (.int .i64 (M - t)), isV (.pointer (some ⟨y, 0, none⟩)), isV (.pointer (some ⟨y, 0, none⟩)), isV (.pointer (some ⟨y, 0, none⟩)), isV (.int .i64 L), isV (.int .i64 m), isV (.int .i64 R)]
theorem sr6F_mono (y : Nat) (L M K t m R : Int) (b : Bool) : ∀ φ ∈ sr6F y L M K t m R b, Mono φ := by
  unfold sr6F
  repeat (first | exact monos_nil | (refine monos_cons (mono_isV _) ?_))
structure sr6S (y : Nat) (L M K t m R : Int) (b : Bool) (a0 : Act) (w0 : World) : Prop where
  size : a0.tmps.size = 47
  v0 : a0.tmps.getD 0 undef = .pointer (some ⟨y, 0, none⟩)
  v1 : a0.tmps.getD 1 undef = .int .i64 t
  st : Has w0 y 37 (srC L b M K)
  b0 : -9223372036854775808 ≤ M - t
  b1 : M - t ≤ 9223372036854775807
  hm : (if L < M - t then L else M - t) = m
  hR : (if m > K then m else K) = R
section
variable {y : Nat} {L M K t m R : Int} {b : Bool} {a0 : Act} {w0 : World} (S : sr6S y L M K t m R b a0 w0)
include S
set_option maxRecDepth 100000 in
set_option maxHeartbeats 8000000 in
theorem sr6_ok : AllOps (fun j o => ∀ (a : Act) (w : World), Below w0.heap.size w0 w → FrD (sr6D.take 17) a0 a → needs sr6D (sr6F y L M K t m R b) a w o.after.toList → StepD Try.prog sr6D (factAt (sr6F y L M K t m R b) j) o a w) 0 ((opsOf 6 Try.f13).take 17) := by
  simp only [opsOf, Try.f13, opsAt, Option.bind, Option.or, Option.getD, reduceCtorEq, if_true, if_false, Nat.reduceEqDiff, List.take_succ_cons, List.take_zero]
  refine ⟨?_, ?_⟩
  · intro _a _w _hB hF _hd
    exact step_move (guard_none rfl) rfl _ rfl ((hF.other 0 rfl).trans S.v0)
  refine ⟨?_, ?_⟩
  · intro _a _w _hB hF _hd
    exact step_move (guard_none rfl) rfl _ rfl ((hF.other 0 rfl).trans S.v0)
  refine ⟨?_, ?_⟩
  · intro a _w _hB _hF hd
    have h29 : a.tmps.getD 29 undef = .pointer (some ⟨y, 0, none⟩) := hd.1 rfl
    exact rf_nilck (guard_none rfl) rfl _ rfl _ h29 rfl
  refine ⟨?_, ?_⟩
  · intro a _w _hB _hF hd
    have h30 : a.tmps.getD 30 undef = .pointer (some ⟨y, 0, none⟩) := hd.1 rfl
    exact rf_faddr (guard_none rfl) rfl _ _ _ rfl _ _ 3 _ h30 (by omega) (fun _ _ => by kernel_rfl) rfl
  refine ⟨?_, ?_⟩
  · intro a _w hB _hF hd
    have h31 : a.tmps.getD 31 undef = .pointer (some ⟨y, 3, none⟩) := hd.1 rfl
    exact rf_loadi (guard_none rfl) rfl _ rfl _ _ h31 _ ((Has.cell (S.st.below hB S.st.lt) 3).trans rfl) rfl
  refine ⟨?_, ?_⟩
  · intro _a _w _hB hF _hd
    exact step_move (guard_none rfl) rfl _ rfl ((hF.other 0 rfl).trans S.v0)
  refine ⟨?_, ?_⟩
  · intro a _w _hB _hF hd
    have h33 : a.tmps.getD 33 undef = .pointer (some ⟨y, 0, none⟩) := hd.1 rfl
    exact rf_nilck (guard_none rfl) rfl _ rfl _ h33 rfl
  refine ⟨?_, ?_⟩
  · intro a _w _hB _hF hd
    have h34 : a.tmps.getD 34 undef = .pointer (some ⟨y, 0, none⟩) := hd.1 rfl
    exact rf_faddr (guard_none rfl) rfl _ _ _ rfl _ _ 2 _ h34 (by omega) (fun _ _ => by kernel_rfl) rfl
  refine ⟨?_, ?_⟩
  · intro a _w hB _hF hd
    have h35 : a.tmps.getD 35 undef = .pointer (some ⟨y, 2, none⟩) := hd.1 rfl
    exact rf_loadi (guard_none rfl) rfl _ rfl _ _ h35 _ ((Has.cell (S.st.below hB S.st.lt) 2).trans rfl) rfl
  refine ⟨?_, ?_⟩
  · intro _a _w _hB hF _hd
    exact step_move (guard_none rfl) rfl _ rfl ((hF.other 1 rfl).trans S.v1)
  refine ⟨?_, ?_⟩
  · intro a _w _hB _hF hd
    have h36 : a.tmps.getD 36 undef = .int .i64 M := hd.1 rfl
    have h37 : a.tmps.getD 37 undef = .int .i64 t := hd.2.1 rfl
    exact rf_sub (guard_none rfl) rfl _ _ rfl _ _ h36 h37 S.b0 S.b1 rfl
  refine ⟨?_, ?_⟩
  · intro _a _w _hB hF _hd
    exact step_move (guard_none rfl) rfl _ rfl ((hF.other 0 rfl).trans S.v0)
  refine ⟨?_, ?_⟩
  · intro a _w _hB _hF hd
    have h39 : a.tmps.getD 39 undef = .pointer (some ⟨y, 0, none⟩) := hd.1 rfl
    exact rf_nilck (guard_none rfl) rfl _ rfl _ h39 rfl
  refine ⟨?_, ?_⟩
  · intro a _w _hB _hF hd
    have h40 : a.tmps.getD 40 undef = .pointer (some ⟨y, 0, none⟩) := hd.1 rfl
    exact rf_faddr (guard_none rfl) rfl _ _ _ rfl _ _ 0 _ h40 (by omega) (fun _ _ => by kernel_rfl) rfl
  refine ⟨?_, ?_⟩
  · intro a _w hB _hF hd
    have h41 : a.tmps.getD 41 undef = .pointer (some ⟨y, 0, none⟩) := hd.1 rfl
    exact rf_loadi (guard_none rfl) rfl _ rfl _ _ h41 _ ((Has.cell (S.st.below hB S.st.lt) 0).trans rfl) rfl
  refine ⟨?_, ?_⟩
  · intro a _w _hB _hF hd
    have h38 : a.tmps.getD 38 undef = .int .i64 (M - t) := hd.1 rfl
    have h42 : a.tmps.getD 42 undef = .int .i64 L := hd.2.1 rfl
    exact rf_min (guard_none rfl) rfl _ _ _ rfl _ _ _ h38 h42 S.hm rfl
  refine ⟨?_, ?_⟩
  · intro a _w _hB _hF hd
    have h32 : a.tmps.getD 32 undef = .int .i64 K := hd.1 rfl
    have h43 : a.tmps.getD 43 undef = .int .i64 m := hd.2.1 rfl
    exact rf_max (guard_none rfl) rfl _ _ _ rfl _ _ _ h32 h43 S.hR rfl
  trivial
theorem sr6_any {Q : Exit → Act → World → Prop} {l : List Oper} (hl : opsOf 6 Try.f13 = l) (hend : ∀ w : World, Below w0.heap.size w0 w → wpList Try.prog l.toArray Q (l.drop 17) (putAll a0 [(28, .pointer (some ⟨y, 0, none⟩)), (29, .pointer (some ⟨y, 0, none⟩)), (30, .pointer (some ⟨y, 0, none⟩)), (31, .pointer (some ⟨y, 3, none⟩)), (32, .int .i64 K), (33, .pointer (some ⟨y, 0, none⟩)), (34, .pointer (some ⟨y, 0, none⟩)), (35, .pointer (some ⟨y, 2, none⟩)), (36, .int .i64 M), (37, .int .i64 t), (38, .int .i64 (M - t)), (39, .pointer (some ⟨y, 0, none⟩)), (40, .pointer (some ⟨y, 0, none⟩)), (41, .pointer (some ⟨y, 0, none⟩)), (42, .int .i64 L), (43, .int .i64 m), (44, .int .i64 R)]) w) :
    (Code.region 6 l.toArray true).wp Try.prog Q a0 w0 := by
  subst hl
  refine region_head2 (sr6F y L M K t m R b) sr6D 17 47 S.size rfl (by kernel_rfl) (by kernel_rfl) (by kernel_rfl) (sr6F_mono _ _ _ _ _ _ _ _) (sr6_ok S) fun a w hB hF h => ?_
  have hv : valsAre a [(28, .pointer (some ⟨y, 0, none⟩)), (29, .pointer (some ⟨y, 0, none⟩)), (30, .pointer (some ⟨y, 0, none⟩)), (31, .pointer (some ⟨y, 3, none⟩)), (32, .int .i64 K), (33, .pointer (some ⟨y, 0, none⟩)), (34, .pointer (some ⟨y, 0, none⟩)), (35, .pointer (some ⟨y, 2, none⟩)), (36, .int .i64 M), (37, .int .i64 t), (38, .int .i64 (M - t)), (39, .pointer (some ⟨y, 0, none⟩)), (40, .pointer (some ⟨y, 0, none⟩)), (41, .pointer (some ⟨y, 0, none⟩)), (42, .int .i64 L), (43, .int .i64 m), (44, .int .i64 R)] := by
    refine ⟨?_, ?_, ?_, ?_, ?_, ?_, ?_, ?_, ?_, ?_, ?_, ?_, ?_, ?_, ?_, ?_, ?_, trivial⟩
    · exact h 0 (some 28) (by omega) rfl
    · exact h 1 (some 29) (by omega) rfl
    · exact h 2 (some 30) (by omega) rfl
    · exact h 3 (some 31) (by omega) rfl
    · exact h 4 (some 32) (by omega) rfl
    · exact h 5 (some 33) (by omega) rfl
    · exact h 6 (some 34) (by omega) rfl
    · exact h 7 (some 35) (by omega) rfl
    · exact h 8 (some 36) (by omega) rfl
    · exact h 9 (some 37) (by omega) rfl
    · exact h 10 (some 38) (by omega) rfl
    · exact h 11 (some 39) (by omega) rfl
    · exact h 12 (some 40) (by omega) rfl
    · exact h 13 (some 41) (by omega) rfl
    · exact h 14 (some 42) (by omega) rfl
    · exact h 15 (some 43) (by omega) rfl
    · exact h 16 (some 44) (by omega) rfl
  rw [frame_is hF _ hv (by rfl) (by rfl)]
  exact hend w hB
end

end Go.Proofs.Ytoobkdhijfleeaa
