import Derived.Test.YtbpaepkcchpmbaaGreatG26
namespace Go.Proofs.YtbpaepkcchpmbaaGreat
open Go.RowKit
set_option maxRecDepth 100000 in
theorem run_ldQu {g k j : Nat} {w : World} (h : w.cell? ⟨g, k, none⟩ = some (.pointer (some ⟨j, 0, none⟩))) : (Instr.loadAt 171 (.pointer (some ⟨g, k, none⟩))).run Tryz.prog w = .ok (.pointer (some ⟨j, 0, none⟩)) w := by simp [go_sem, h, Instr.loadAt]
def lpu2D : List (Option Tmp) := [some 12, some 13, some 14, some 15, some 16, some 17, some 18, some 19, some 20, none]
def lpu2F (_T0 : TypeId) (L lo : Nat) (_cur : Array Value) (_r : Lr) (x : Nat) (y : It) (sa sb : Int) : List Fact := [isV (.pointer (some ⟨L, lo, none⟩)), isV (.pointer (some ⟨L, lo, none⟩)), isV (.pointer (some ⟨L, lo, none⟩)), isV (.pointer (some ⟨L, lo, none⟩)), isV (.pointer (some ⟨x, 1, none⟩)), isV (.int .i64 y.t), isV (.agg #[.int .i64 sa, .int .i64 sb]), isV (.pointer (some ⟨L, lo, none⟩)), isV (.pointer (some ⟨L, lo + 9, none⟩))]
theorem lpu2F_mono (T0 : TypeId) (L lo : Nat) (cur : Array Value) (r : Lr) (x : Nat) (y : It) (sa sb : Int) : ∀ φ ∈ lpu2F T0 L lo cur r x y sa sb, Mono φ := by
  unfold lpu2F
  refine monos_cons (mono_isV _) ?_
  refine monos_cons (mono_isV _) ?_
  refine monos_cons (mono_isV _) ?_
  refine monos_cons (mono_isV _) ?_
  refine monos_cons (mono_isV _) ?_
  refine monos_cons (mono_isV _) ?_
  refine monos_cons (mono_isV _) ?_
  refine monos_cons (mono_isV _) ?_
  refine monos_cons (mono_isV _) ?_
  exact monos_nil
structure lpu2S (T0 : TypeId) (L lo : Nat) (cur : Array Value) (r : Lr) (x : Nat) (y : It) (sa sb : Int) (a0 : Act) (w0 : World) : Prop where
  size : a0.tmps.size = 58
  v0 : a0.tmps.getD 0 undef = .pointer (some ⟨L, lo, none⟩)
  v3 : a0.tmps.getD 3 undef = .pointer (some ⟨x, 0, none⟩)
  lw : Has w0 L T0 cur
  lc : LnC cur lo r
  bx : Has w0 x 61 (itA y)
  cf : ∀ w, Below w0.heap.size w0 w → Calls Tryz.prog 175 #[.pointer (some ⟨L, lo, none⟩), .int .i64 y.t] w fun e w1 => e = .returned (.agg #[.int .i64 sa, .int .i64 sb]) ∧ Below w.heap.size w w1
section
variable {T0 : TypeId} {L lo : Nat} {cur : Array Value} {r : Lr} {x : Nat} {y : It} {sa sb : Int} {a0 : Act} {w0 : World} (S : lpu2S T0 L lo cur r x y sa sb a0 w0)
include S
set_option maxRecDepth 100000 in
set_option maxHeartbeats 8000000 in
theorem lpu2_ok : AllOps (fun j o => ∀ (a : Act) (w : World), Below w0.heap.size w0 w → FrD (lpu2D.take 9) a0 a → needs lpu2D (lpu2F T0 L lo cur r x y sa sb) a w o.after.toList → StepD Tryz.prog lpu2D (factAt (lpu2F T0 L lo cur r x y sa sb) j) o a w) 0 ((opsOf 2 Tryz.f141).take 9) := by
  simp only [opsOf, Tryz.f141, opsAt, Option.bind, Option.or, Option.getD, reduceCtorEq, if_true, if_false]
  refine ⟨?_, ?_⟩
  · intro _a _w _hB hF _hd
    exact step_move (guard_none rfl) rfl _ rfl ((hF.other 0 rfl).trans S.v0)
  refine ⟨?_, ?_⟩
  · intro _a _w _hB hF _hd
    exact step_move (guard_none rfl) rfl _ rfl ((hF.other 0 rfl).trans S.v0)
  refine ⟨?_, ?_⟩
  · intro a _w _hB _hF hd
    have h13 : a.tmps.getD 13 undef = .pointer (some ⟨L, lo, none⟩) := hd.1 rfl
    exact rf_nilck (guard_none rfl) rfl _ rfl _ h13 rfl
  refine ⟨?_, ?_⟩
  · intro a _w _hB _hF hd
    have h14 : a.tmps.getD 14 undef = .pointer (some ⟨L, lo, none⟩) := hd.1 rfl
    exact rf_faddr (guard_none rfl) rfl _ _ _ rfl _ _ 0 _ h14 (by omega) (fun _ _ => by kernel_rfl) rfl
  refine ⟨?_, ?_⟩
  · intro _a _w _hB hF _hd
    exact rf_faddr (guard_none rfl) rfl _ _ _ rfl _ _ 1 _ ((hF.other 3 rfl).trans S.v3) (by omega) (fun _ _ => by kernel_rfl) rfl
  refine ⟨?_, ?_⟩
  · intro a _w hB _hF hd
    have h16 : a.tmps.getD 16 undef = .pointer (some ⟨x, 1, none⟩) := hd.1 rfl
    exact rf_loadi (guard_none rfl) rfl _ rfl _ _ h16 _ ((Has.cell (S.bx.below hB S.bx.lt) 1).trans rfl) rfl
  refine ⟨?_, ?_⟩
  · intro a w hB _hF hd
    have h15 : a.tmps.getD 15 undef = .pointer (some ⟨L, lo, none⟩) := hd.1 rfl
    have h17 : a.tmps.getD 17 undef = .int .i64 y.t := hd.2.1 rfl
    refine step_call (guard_none rfl) rfl _ _ (rf_call_run Tryz.func175 (by kernel_rfl) (by kernel_rfl) _ _ rfl) ?_
    simp only [List.map_toArray, List.map_cons, List.map_nil, Act.eval, h15, h17]
    exact (S.cf w hB).mono (by rintro e w1 ⟨rfl, hb⟩; exact ⟨_, rfl, hb, rfl⟩)
  refine ⟨?_, ?_⟩
  · intro a _w _hB _hF hd
    have h12 : a.tmps.getD 12 undef = .pointer (some ⟨L, lo, none⟩) := hd.1 rfl
    exact rf_nilck (guard_none rfl) rfl _ rfl _ h12 rfl
  refine ⟨?_, ?_⟩
  · intro a _w _hB _hF hd
    have h19 : a.tmps.getD 19 undef = .pointer (some ⟨L, lo, none⟩) := hd.1 rfl
    exact rf_faddr (guard_none rfl) rfl _ _ _ rfl _ _ 9 _ h19 (by omega) (fun _ _ => by kernel_rfl) rfl
  trivial
set_option maxRecDepth 100000 in
set_option maxHeartbeats 2000000 in
theorem lpu2_any {Q : Exit → Act → World → Prop} {l : List Oper} (hl : opsOf 2 Tryz.f141 = l) (hend : ∀ w : World, Below w0.heap.size w0 w → wpList Tryz.prog l.toArray Q (l.drop 9) (putAll a0 [(12, .pointer (some ⟨L, lo, none⟩)), (13, .pointer (some ⟨L, lo, none⟩)), (14, .pointer (some ⟨L, lo, none⟩)), (15, .pointer (some ⟨L, lo, none⟩)), (16, .pointer (some ⟨x, 1, none⟩)), (17, .int .i64 y.t), (18, .agg #[.int .i64 sa, .int .i64 sb]), (19, .pointer (some ⟨L, lo, none⟩)), (20, .pointer (some ⟨L, lo + 9, none⟩))]) w) :
    (Code.region 2 l.toArray true).wp Tryz.prog Q a0 w0 := by
  subst hl
  refine region_head2 (lpu2F T0 L lo cur r x y sa sb) lpu2D 9 58 S.size rfl (by kernel_rfl) (by kernel_rfl) (by kernel_rfl) (lpu2F_mono _ _ _ _ _ _ _ _ _) (lpu2_ok S) fun a w hB hF h => ?_
  have hv : valsAre a [(12, .pointer (some ⟨L, lo, none⟩)), (13, .pointer (some ⟨L, lo, none⟩)), (14, .pointer (some ⟨L, lo, none⟩)), (15, .pointer (some ⟨L, lo, none⟩)), (16, .pointer (some ⟨x, 1, none⟩)), (17, .int .i64 y.t), (18, .agg #[.int .i64 sa, .int .i64 sb]), (19, .pointer (some ⟨L, lo, none⟩)), (20, .pointer (some ⟨L, lo + 9, none⟩))] := by
    refine ⟨?_, ?_, ?_, ?_, ?_, ?_, ?_, ?_, ?_, trivial⟩
    · exact h 0 (some 12) (by omega) rfl
    · exact h 1 (some 13) (by omega) rfl
    · exact h 2 (some 14) (by omega) rfl
    · exact h 3 (some 15) (by omega) rfl
    · exact h 4 (some 16) (by omega) rfl
    · exact h 5 (some 17) (by omega) rfl
    · exact h 6 (some 18) (by omega) rfl
    · exact h 7 (some 19) (by omega) rfl
    · exact h 8 (some 20) (by omega) rfl
  rw [frame_is hF _ hv (by rfl) (by rfl)]
  exact hend w hB
end
def lpu4D : List (Option Tmp) := [some 28, some 29, some 30, some 31, some 32, some 33, some 34, some 35, some 36, some 37, some 38, some 39, some 40, none]
def lpu4F (_T0 : TypeId) (L lo : Nat) (_cur : Array Value) (r : Lr) (x : Nat) (y : It) : List Fact := [isV (.pointer (some ⟨L, lo, none⟩)), isV (.pointer (some ⟨x, 1, none⟩)), isV (.int .i64 y.t), isV (.pointer (some ⟨L, lo, none⟩)), isV (.pointer (some ⟨L, lo, none⟩)), isV (.pointer (some ⟨L, lo, none⟩)), isV (.pointer (some ⟨L, lo, none⟩)), isV (.pointer (some ⟨L, lo + 2, none⟩)), isV (.int .i64 r.q.size), isV (.int .i64 (y.t + r.q.size)), isV (.pointer (some ⟨L, lo, none⟩)), isV (.pointer (some ⟨L, lo + 9, none⟩)), isV (.pointer (some ⟨L, lo + 9 + 1, none⟩))]
theorem lpu4F_mono (T0 : TypeId) (L lo : Nat) (cur : Array Value) (r : Lr) (x : Nat) (y : It) : ∀ φ ∈ lpu4F T0 L lo cur r x y, Mono φ := by
  unfold lpu4F
  refine monos_cons (mono_isV _) ?_
  refine monos_cons (mono_isV _) ?_
  refine monos_cons (mono_isV _) ?_
  refine monos_cons (mono_isV _) ?_
  refine monos_cons (mono_isV _) ?_
  refine monos_cons (mono_isV _) ?_
  refine monos_cons (mono_isV _) ?_
  refine monos_cons (mono_isV _) ?_
  refine monos_cons (mono_isV _) ?_
  refine monos_cons (mono_isV _) ?_
  refine monos_cons (mono_isV _) ?_
  refine monos_cons (mono_isV _) ?_
  refine monos_cons (mono_isV _) ?_
  exact monos_nil
structure lpu4S (T0 : TypeId) (L lo : Nat) (cur : Array Value) (r : Lr) (x : Nat) (y : It) (a0 : Act) (w0 : World) : Prop where
  size : a0.tmps.size = 58
  v0 : a0.tmps.getD 0 undef = .pointer (some ⟨L, lo, none⟩)
  v3 : a0.tmps.getD 3 undef = .pointer (some ⟨x, 0, none⟩)
  lw : Has w0 L T0 cur
  lc : LnC cur lo r
  bx : Has w0 x 61 (itA y)
  rg : -4611686018427387904 ≤ y.t + r.q.size ∧ y.t + r.q.size ≤ 4611686018427387904
section
variable {T0 : TypeId} {L lo : Nat} {cur : Array Value} {r : Lr} {x : Nat} {y : It} {a0 : Act} {w0 : World} (S : lpu4S T0 L lo cur r x y a0 w0)
include S
set_option maxRecDepth 100000 in
set_option maxHeartbeats 8000000 in
theorem lpu4_ok : AllOps (fun j o => ∀ (a : Act) (w : World), Below w0.heap.size w0 w → FrD (lpu4D.take 13) a0 a → needs lpu4D (lpu4F T0 L lo cur r x y) a w o.after.toList → StepD Tryz.prog lpu4D (factAt (lpu4F T0 L lo cur r x y) j) o a w) 0 ((opsOf 4 Tryz.f141).take 13) := by
  simp only [opsOf, Tryz.f141, opsAt, Option.bind, Option.or, Option.getD, reduceCtorEq, if_true, if_false]
  refine ⟨?_, ?_⟩
  · intro _a _w _hB hF _hd
    exact step_move (guard_none rfl) rfl _ rfl ((hF.other 0 rfl).trans S.v0)
  refine ⟨?_, ?_⟩
  · intro _a _w _hB hF _hd
    exact rf_faddr (guard_none rfl) rfl _ _ _ rfl _ _ 1 _ ((hF.other 3 rfl).trans S.v3) (by omega) (fun _ _ => by kernel_rfl) rfl
  refine ⟨?_, ?_⟩
  · intro a _w hB _hF hd
    have h29 : a.tmps.getD 29 undef = .pointer (some ⟨x, 1, none⟩) := hd.1 rfl
    exact rf_loadi (guard_none rfl) rfl _ rfl _ _ h29 _ ((Has.cell (S.bx.below hB S.bx.lt) 1).trans rfl) rfl
  refine ⟨?_, ?_⟩
  · intro _a _w _hB hF _hd
    exact step_move (guard_none rfl) rfl _ rfl ((hF.other 0 rfl).trans S.v0)
  refine ⟨?_, ?_⟩
  · intro a _w _hB _hF hd
    have h31 : a.tmps.getD 31 undef = .pointer (some ⟨L, lo, none⟩) := hd.1 rfl
    exact rf_nilck (guard_none rfl) rfl _ rfl _ h31 rfl
  refine ⟨?_, ?_⟩
  · intro a _w _hB _hF hd
    have h32 : a.tmps.getD 32 undef = .pointer (some ⟨L, lo, none⟩) := hd.1 rfl
    exact rf_faddr (guard_none rfl) rfl _ _ _ rfl _ _ 0 _ h32 (by omega) (fun _ _ => by kernel_rfl) rfl
  refine ⟨?_, ?_⟩
  · intro a _w _hB _hF hd
    have h33 : a.tmps.getD 33 undef = .pointer (some ⟨L, lo, none⟩) := hd.1 rfl
    exact rf_faddr (guard_none rfl) rfl _ _ _ rfl _ _ 0 _ h33 (by omega) (fun _ _ => by kernel_rfl) rfl
  refine ⟨?_, ?_⟩
  · intro a _w _hB _hF hd
    have h34 : a.tmps.getD 34 undef = .pointer (some ⟨L, lo, none⟩) := hd.1 rfl
    exact rf_faddr (guard_none rfl) rfl _ _ _ rfl _ _ 2 _ h34 (by omega) (fun _ _ => by kernel_rfl) rfl
  refine ⟨?_, ?_⟩
  · intro a _w hB _hF hd
    have h35 : a.tmps.getD 35 undef = .pointer (some ⟨L, lo + 2, none⟩) := hd.1 rfl
    exact rf_loadi (guard_none rfl) rfl _ rfl _ _ h35 _ ((Has.cell (S.lw.below hB S.lw.lt) _).trans S.lc.c2) rfl
  refine ⟨?_, ?_⟩
  · intro a _w _hB _hF hd
    have h30 : a.tmps.getD 30 undef = .int .i64 y.t := hd.1 rfl
    have h36 : a.tmps.getD 36 undef = .int .i64 r.q.size := hd.2.1 rfl
    exact rf_add (guard_none rfl) rfl _ _ rfl _ _ h30 h36 (by have := S.rg; omega) (by have := S.rg; omega) rfl
  refine ⟨?_, ?_⟩
  · intro a _w _hB _hF hd
    have h28 : a.tmps.getD 28 undef = .pointer (some ⟨L, lo, none⟩) := hd.1 rfl
    exact rf_nilck (guard_none rfl) rfl _ rfl _ h28 rfl
  refine ⟨?_, ?_⟩
  · intro a _w _hB _hF hd
    have h38 : a.tmps.getD 38 undef = .pointer (some ⟨L, lo, none⟩) := hd.1 rfl
    exact rf_faddr (guard_none rfl) rfl _ _ _ rfl _ _ 9 _ h38 (by omega) (fun _ _ => by kernel_rfl) rfl
  refine ⟨?_, ?_⟩
  · intro a _w _hB _hF hd
    have h39 : a.tmps.getD 39 undef = .pointer (some ⟨L, lo + 9, none⟩) := hd.1 rfl
    exact rf_faddr (guard_none rfl) rfl _ _ _ rfl _ _ 1 _ h39 (by omega) (fun _ _ => by kernel_rfl) rfl
  trivial
set_option maxRecDepth 100000 in
set_option maxHeartbeats 2000000 in
theorem lpu4_any {Q : Exit → Act → World → Prop} {l : List Oper} (hl : opsOf 4 Tryz.f141 = l) (hend : ∀ w : World, Below w0.heap.size w0 w → wpList Tryz.prog l.toArray Q (l.drop 13) (putAll a0 [(28, .pointer (some ⟨L, lo, none⟩)), (29, .pointer (some ⟨x, 1, none⟩)), (30, .int .i64 y.t), (31, .pointer (some ⟨L, lo, none⟩)), (32, .pointer (some ⟨L, lo, none⟩)), (33, .pointer (some ⟨L, lo, none⟩)), (34, .pointer (some ⟨L, lo, none⟩)), (35, .pointer (some ⟨L, lo + 2, none⟩)), (36, .int .i64 r.q.size), (37, .int .i64 (y.t + r.q.size)), (38, .pointer (some ⟨L, lo, none⟩)), (39, .pointer (some ⟨L, lo + 9, none⟩)), (40, .pointer (some ⟨L, lo + 9 + 1, none⟩))]) w) :
    (Code.region 4 l.toArray true).wp Tryz.prog Q a0 w0 := by
  subst hl
  refine region_head2 (lpu4F T0 L lo cur r x y) lpu4D 13 58 S.size rfl (by kernel_rfl) (by kernel_rfl) (by kernel_rfl) (lpu4F_mono _ _ _ _ _ _ _) (lpu4_ok S) fun a w hB hF h => ?_
  have hv : valsAre a [(28, .pointer (some ⟨L, lo, none⟩)), (29, .pointer (some ⟨x, 1, none⟩)), (30, .int .i64 y.t), (31, .pointer (some ⟨L, lo, none⟩)), (32, .pointer (some ⟨L, lo, none⟩)), (33, .pointer (some ⟨L, lo, none⟩)), (34, .pointer (some ⟨L, lo, none⟩)), (35, .pointer (some ⟨L, lo + 2, none⟩)), (36, .int .i64 r.q.size), (37, .int .i64 (y.t + r.q.size)), (38, .pointer (some ⟨L, lo, none⟩)), (39, .pointer (some ⟨L, lo + 9, none⟩)), (40, .pointer (some ⟨L, lo + 9 + 1, none⟩))] := by
    refine ⟨?_, ?_, ?_, ?_, ?_, ?_, ?_, ?_, ?_, ?_, ?_, ?_, ?_, trivial⟩
    · exact h 0 (some 28) (by omega) rfl
    · exact h 1 (some 29) (by omega) rfl
    · exact h 2 (some 30) (by omega) rfl
    · exact h 3 (some 31) (by omega) rfl
    · exact h 4 (some 32) (by omega) rfl
    · exact h 5 (some 33) (by omega) rfl
    · exact h 6 (some 34) (by omega) rfl
    · exact h 7 (some 35) (by omega) rfl
    · exact h 8 (some 36) (by omega) rfl
    · exact h 9 (some 37) (by omega) rfl
    · exact h 10 (some 38) (by omega) rfl
    · exact h 11 (some 39) (by omega) rfl
    · exact h 12 (some 40) (by omega) rfl
  rw [frame_is hF _ hv (by rfl) (by rfl)]
  exact hend w hB
end
def lpu5D : List (Option Tmp) := [some 42, some 43, some 44, some 45, some 46, some 47, some 48, some 49, some 41, some 50, some 51, some 4, none, some 5]
def lpu5F (_T0 : TypeId) (L lo : Nat) (_cur : Array Value) (r : Lr) (_x z : Nat) (y : It) : List Fact := [isV (.agg #[.int .i64 y.s, .int .i64 y.t, .int .i64 y.q, .int .i64 y.v]), isV (.pointer (some ⟨L, lo, none⟩)), isV (.pointer (some ⟨L, lo, none⟩)), isV (.pointer (some ⟨L, lo, none⟩)), isV (.pointer (some ⟨L, lo, none⟩)), isV (.pointer (some ⟨L, lo + 4, none⟩)), isV (.slice r.B r.q.bs.length r.d), tupN (oneAc y r.q.bs), tupN (oneAc y r.q.bs), accN (oneAc y r.q.bs), isV (.int .i64 0), newA z]
theorem lpu5F_mono (T0 : TypeId) (L lo : Nat) (cur : Array Value) (r : Lr) (x z : Nat) (y : It) : ∀ φ ∈ lpu5F T0 L lo cur r x z y, Mono φ := by
  unfold lpu5F
  refine monos_cons (mono_isV _) ?_
  refine monos_cons (mono_isV _) ?_
  refine monos_cons (mono_isV _) ?_
  refine monos_cons (mono_isV _) ?_
  refine monos_cons (mono_isV _) ?_
  refine monos_cons (mono_isV _) ?_
  refine monos_cons (mono_isV _) ?_
  refine monos_cons (tupN_mono _) ?_
  refine monos_cons (tupN_mono _) ?_
  refine monos_cons (accN_mono _) ?_
  refine monos_cons (mono_isV _) ?_
  refine monos_cons (newA_mono _) ?_
  exact monos_nil
structure lpu5S (T0 : TypeId) (L lo : Nat) (cur : Array Value) (r : Lr) (x z : Nat) (y : It) (a0 : Act) (w0 : World) : Prop where
  size : a0.tmps.size = 58
  v0 : a0.tmps.getD 0 undef = .pointer (some ⟨L, lo, none⟩)
  v3 : a0.tmps.getD 3 undef = .pointer (some ⟨x, 0, none⟩)
  lw : Has w0 L T0 cur
  lc : LnC cur lo r
  ez : z ≤ w0.heap.size
  bx : Has w0 x 61 (itA y)
  bb : Ints w0 r.B r.q.bs.length r.q.bs
  hx : itemB y = true
  hbd : boundsB r.q.bs = true
section
variable {T0 : TypeId} {L lo : Nat} {cur : Array Value} {r : Lr} {x z : Nat} {y : It} {a0 : Act} {w0 : World} (S : lpu5S T0 L lo cur r x z y a0 w0)
include S
set_option maxRecDepth 100000 in
set_option maxHeartbeats 8000000 in
theorem lpu5_ok : AllOps (fun j o => ∀ (a : Act) (w : World), Below w0.heap.size w0 w → FrD (lpu5D.take 12) a0 a → needs lpu5D (lpu5F T0 L lo cur r x z y) a w o.after.toList → StepD Tryz.prog lpu5D (factAt (lpu5F T0 L lo cur r x z y) j) o a w) 0 ((opsOf 5 Tryz.f141).take 12) := by
  simp only [opsOf, Tryz.f141, opsAt, Option.bind, Option.or, Option.getD, reduceCtorEq, if_true, if_false]
  refine ⟨?_, ?_⟩
  · intro _a _w hB hF _hd
    exact rf_loadS (guard_none rfl) rfl _ _ rfl _ _ ((hF.other 3 rfl).trans S.v3) (itemL y) (rf_range (S.bx.below hB S.bx.lt)) Tryz.underlying61 rfl (by kernel_rfl) rfl
  refine ⟨?_, ?_⟩
  · intro _a _w _hB hF _hd
    exact step_move (guard_none rfl) rfl _ rfl ((hF.other 0 rfl).trans S.v0)
  refine ⟨?_, ?_⟩
  · intro a _w _hB _hF hd
    have h43 : a.tmps.getD 43 undef = .pointer (some ⟨L, lo, none⟩) := hd.1 rfl
    exact rf_nilck (guard_none rfl) rfl _ rfl _ h43 rfl
  refine ⟨?_, ?_⟩
  · intro a _w _hB _hF hd
    have h44 : a.tmps.getD 44 undef = .pointer (some ⟨L, lo, none⟩) := hd.1 rfl
    exact rf_faddr (guard_none rfl) rfl _ _ _ rfl _ _ 0 _ h44 (by omega) (fun _ _ => by kernel_rfl) rfl
  refine ⟨?_, ?_⟩
  · intro a _w _hB _hF hd
    have h45 : a.tmps.getD 45 undef = .pointer (some ⟨L, lo, none⟩) := hd.1 rfl
    exact rf_faddr (guard_none rfl) rfl _ _ _ rfl _ _ 0 _ h45 (by omega) (fun _ _ => by kernel_rfl) rfl
  refine ⟨?_, ?_⟩
  · intro a _w _hB _hF hd
    have h46 : a.tmps.getD 46 undef = .pointer (some ⟨L, lo, none⟩) := hd.1 rfl
    exact rf_faddr (guard_none rfl) rfl _ _ _ rfl _ _ 4 _ h46 (by omega) (fun _ _ => by kernel_rfl) rfl
  refine ⟨?_, ?_⟩
  · intro a _w hB _hF hd
    have h47 : a.tmps.getD 47 undef = .pointer (some ⟨L, lo + 4, none⟩) := hd.1 rfl
    exact rf_load1 (guard_none rfl) rfl _ _ rfl _ _ h47 (run_ldN ((Has.cell (S.lw.below hB S.lw.lt) _).trans S.lc.c4)) rfl
  refine ⟨?_, ?_⟩
  · intro a w hB _hF hd
    have h42 : a.tmps.getD 42 undef = .agg #[.int .i64 y.s, .int .i64 y.t, .int .i64 y.q, .int .i64 y.v] := hd.1 rfl
    have h48 : a.tmps.getD 48 undef = .slice r.B r.q.bs.length r.d := hd.2.1 rfl
    refine step_call (guard_none rfl) rfl _ _ (rf_call_run Tryz.func187 (by kernel_rfl) (by kernel_rfl) _ _ rfl) ?_
    simp only [List.map_toArray, List.map_cons, List.map_nil, Act.eval, h42, h48]
    exact (one_ok y r.B r.q.bs.length r.d r.q.bs w (S.bb.below hB) S.hx S.hbd).mono (by rintro e w1 ⟨H, _, rfl, hh, hb⟩; exact ⟨_, rfl, hb, H, rfl, hh⟩)
  refine ⟨?_, ?_⟩
  · intro a w _hB _hF hd
    obtain ⟨H49, h49, p49⟩ : tupN (oneAc y r.q.bs) (a.tmps.getD 49 undef) w := hd.1 rfl
    exact step_move (guard_none rfl) rfl _ rfl ⟨H49, h49, p49⟩
  refine ⟨?_, ?_⟩
  · intro a w _hB _hF hd
    obtain ⟨H41, h41, p41⟩ : tupN (oneAc y r.q.bs) (a.tmps.getD 41 undef) w := hd.1 rfl
    exact rf_extract (guard_none rfl) rfl _ 0 rfl _ _ h41 rfl ⟨H41, rfl, p41⟩
  refine ⟨?_, ?_⟩
  · intro a w _hB _hF hd
    obtain ⟨H41, h41, p41⟩ : tupN (oneAc y r.q.bs) (a.tmps.getD 41 undef) w := hd.1 rfl
    exact rf_extract (guard_none rfl) rfl _ 1 rfl _ _ h41 rfl rfl
  refine ⟨?_, ?_⟩
  · intro _a _w hB _hF _hd
    exact rf_newA (guard_none rfl) rfl rfl (Nat.le_trans S.ez hB.size) (fun _ _ h => h)
  trivial
set_option maxRecDepth 100000 in
set_option maxHeartbeats 2000000 in
theorem lpu5_any {Q : Exit → Act → World → Prop} {l : List Oper} (hl : opsOf 5 Tryz.f141 = l) (hend : ∀ (H49 : Nat), ∀ (H41 : Nat), ∀ (H50 : Nat), ∀ (y4 : Nat), ∀ w : World, Below w0.heap.size w0 w → Has w H49 3 (ints (oneAc y r.q.bs).h) → Has w H41 3 (ints (oneAc y r.q.bs).h) → Has w H50 3 (ints (oneAc y r.q.bs).h) → Has w y4 144 (accC zeroAc none 0 0) ∧ z ≤ y4 → wpList Tryz.prog l.toArray Q (l.drop 12) (putAll a0 [(42, .agg #[.int .i64 y.s, .int .i64 y.t, .int .i64 y.q, .int .i64 y.v]), (43, .pointer (some ⟨L, lo, none⟩)), (44, .pointer (some ⟨L, lo, none⟩)), (45, .pointer (some ⟨L, lo, none⟩)), (46, .pointer (some ⟨L, lo, none⟩)), (47, .pointer (some ⟨L, lo + 4, none⟩)), (48, .slice r.B r.q.bs.length r.d), (49, .tuple #[.agg (accC (oneAc y r.q.bs) (some ⟨H49, 0, none⟩) (oneAc y r.q.bs).h.length (oneAc y r.q.bs).h.length), .int .i64 0]), (41, .tuple #[.agg (accC (oneAc y r.q.bs) (some ⟨H41, 0, none⟩) (oneAc y r.q.bs).h.length (oneAc y r.q.bs).h.length), .int .i64 0]), (50, .agg (accC (oneAc y r.q.bs) (some ⟨H50, 0, none⟩) (oneAc y r.q.bs).h.length (oneAc y r.q.bs).h.length)), (51, .int .i64 0), (4, .pointer (some ⟨y4, 0, none⟩))]) w)
    (hendQ : ∀ (H49 : Nat), ∀ (H41 : Nat), ∀ (H50 : Nat), ∀ (y4 : Nat), ∀ w : World, Below w0.heap.size w0 w → Has w H49 3 (ints (oneAc y r.q.bs).h) → Has w H41 3 (ints (oneAc y r.q.bs).h) → Has w H50 3 (ints (oneAc y r.q.bs).h) → Has w y4 144 (accC zeroAc none 0 0) ∧ z ≤ y4 → wpList Tryz.prog l.toArray Q (pickL l [12, 10, 13]) (putAll a0 [(42, .agg #[.int .i64 y.s, .int .i64 y.t, .int .i64 y.q, .int .i64 y.v]), (43, .pointer (some ⟨L, lo, none⟩)), (44, .pointer (some ⟨L, lo, none⟩)), (45, .pointer (some ⟨L, lo, none⟩)), (46, .pointer (some ⟨L, lo, none⟩)), (47, .pointer (some ⟨L, lo + 4, none⟩)), (48, .slice r.B r.q.bs.length r.d), (49, .tuple #[.agg (accC (oneAc y r.q.bs) (some ⟨H49, 0, none⟩) (oneAc y r.q.bs).h.length (oneAc y r.q.bs).h.length), .int .i64 0]), (41, .tuple #[.agg (accC (oneAc y r.q.bs) (some ⟨H41, 0, none⟩) (oneAc y r.q.bs).h.length (oneAc y r.q.bs).h.length), .int .i64 0]), (50, .agg (accC (oneAc y r.q.bs) (some ⟨H50, 0, none⟩) (oneAc y r.q.bs).h.length (oneAc y r.q.bs).h.length)), (51, a0.tmps.getD 51 undef), (4, .pointer (some ⟨y4, 0, none⟩))]) w) :
    (Code.region 5 l.toArray true).wp Tryz.prog Q a0 w0 := by
  subst hl
  refine region_head3 (lpu5F T0 L lo cur r x z y) lpu5D 12 58 10 [10, 13] S.size rfl (by kernel_rfl) (by kernel_rfl) (by kernel_rfl) (lpu5F_mono _ _ _ _ _ _ _ _) (lpu5_ok S) ?_ ?_
  · intro a w hB hF h
    obtain ⟨H49, h49, p49⟩ : tupN (oneAc y r.q.bs) (a.tmps.getD 49 undef) w := h 7 (some 49) (by omega) rfl
    obtain ⟨H41, h41, p41⟩ : tupN (oneAc y r.q.bs) (a.tmps.getD 41 undef) w := h 8 (some 41) (by omega) rfl
    obtain ⟨H50, h50, p50⟩ : accN (oneAc y r.q.bs) (a.tmps.getD 50 undef) w := h 9 (some 50) (by omega) rfl
    obtain ⟨y4, h4, p4⟩ : newA z (a.tmps.getD 4 undef) w := h 11 (some 4) (by omega) rfl
    have hv : valsAre a [(42, .agg #[.int .i64 y.s, .int .i64 y.t, .int .i64 y.q, .int .i64 y.v]), (43, .pointer (some ⟨L, lo, none⟩)), (44, .pointer (some ⟨L, lo, none⟩)), (45, .pointer (some ⟨L, lo, none⟩)), (46, .pointer (some ⟨L, lo, none⟩)), (47, .pointer (some ⟨L, lo + 4, none⟩)), (48, .slice r.B r.q.bs.length r.d), (49, .tuple #[.agg (accC (oneAc y r.q.bs) (some ⟨H49, 0, none⟩) (oneAc y r.q.bs).h.length (oneAc y r.q.bs).h.length), .int .i64 0]), (41, .tuple #[.agg (accC (oneAc y r.q.bs) (some ⟨H41, 0, none⟩) (oneAc y r.q.bs).h.length (oneAc y r.q.bs).h.length), .int .i64 0]), (50, .agg (accC (oneAc y r.q.bs) (some ⟨H50, 0, none⟩) (oneAc y r.q.bs).h.length (oneAc y r.q.bs).h.length)), (51, .int .i64 0), (4, .pointer (some ⟨y4, 0, none⟩))] := by
      refine ⟨?_, ?_, ?_, ?_, ?_, ?_, ?_, ?_, ?_, ?_, ?_, ?_, trivial⟩
      · exact h 0 (some 42) (by omega) rfl
      · exact h 1 (some 43) (by omega) rfl
      · exact h 2 (some 44) (by omega) rfl
      · exact h 3 (some 45) (by omega) rfl
      · exact h 4 (some 46) (by omega) rfl
      · exact h 5 (some 47) (by omega) rfl
      · exact h 6 (some 48) (by omega) rfl
      · exact h49
      · exact h41
      · exact h50
      · exact h 10 (some 51) (by omega) rfl
      · exact h4
    rw [frame_is hF _ hv (by rfl) (by rfl)]
    exact hend H49 H41 H50 y4 w hB p49 p41 p50 p4
  · intro a w hB hF h hq
    obtain ⟨H49, h49, p49⟩ : tupN (oneAc y r.q.bs) (a.tmps.getD 49 undef) w := h 7 (some 49) (by omega) (by omega) rfl
    obtain ⟨H41, h41, p41⟩ : tupN (oneAc y r.q.bs) (a.tmps.getD 41 undef) w := h 8 (some 41) (by omega) (by omega) rfl
    obtain ⟨H50, h50, p50⟩ : accN (oneAc y r.q.bs) (a.tmps.getD 50 undef) w := h 9 (some 50) (by omega) (by omega) rfl
    obtain ⟨y4, h4, p4⟩ : newA z (a.tmps.getD 4 undef) w := h 11 (some 4) (by omega) (by omega) rfl
    have hv : valsAre a [(42, .agg #[.int .i64 y.s, .int .i64 y.t, .int .i64 y.q, .int .i64 y.v]), (43, .pointer (some ⟨L, lo, none⟩)), (44, .pointer (some ⟨L, lo, none⟩)), (45, .pointer (some ⟨L, lo, none⟩)), (46, .pointer (some ⟨L, lo, none⟩)), (47, .pointer (some ⟨L, lo + 4, none⟩)), (48, .slice r.B r.q.bs.length r.d), (49, .tuple #[.agg (accC (oneAc y r.q.bs) (some ⟨H49, 0, none⟩) (oneAc y r.q.bs).h.length (oneAc y r.q.bs).h.length), .int .i64 0]), (41, .tuple #[.agg (accC (oneAc y r.q.bs) (some ⟨H41, 0, none⟩) (oneAc y r.q.bs).h.length (oneAc y r.q.bs).h.length), .int .i64 0]), (50, .agg (accC (oneAc y r.q.bs) (some ⟨H50, 0, none⟩) (oneAc y r.q.bs).h.length (oneAc y r.q.bs).h.length)), (51, a0.tmps.getD 51 undef), (4, .pointer (some ⟨y4, 0, none⟩))] := by
      refine ⟨?_, ?_, ?_, ?_, ?_, ?_, ?_, ?_, ?_, ?_, ?_, ?_, trivial⟩
      · exact h 0 (some 42) (by omega) (by omega) rfl
      · exact h 1 (some 43) (by omega) (by omega) rfl
      · exact h 2 (some 44) (by omega) (by omega) rfl
      · exact h 3 (some 45) (by omega) (by omega) rfl
      · exact h 4 (some 46) (by omega) (by omega) rfl
      · exact h 5 (some 47) (by omega) (by omega) rfl
      · exact h 6 (some 48) (by omega) (by omega) rfl
      · exact h49
      · exact h41
      · exact h50
      · exact hq (some 51) rfl
      · exact h4
    rw [frame_is hF _ hv (by rfl) (by rfl)]
    exact hendQ H49 H41 H50 y4 w hB p49 p41 p50 p4
end
def lpu6D : List (Option Tmp) := [some 52, some 53, some 54, some 55, some 56, some 57]
def lpu6F (_T0 : TypeId) (L lo : Nat) (_cur : Array Value) (r : Lr) (_y H : Nat) (u : Ac) : List Fact := [isV (.pointer (some ⟨L, lo, none⟩)), isV (.pointer (some ⟨L, lo, none⟩)), isV (.pointer (some ⟨L, lo + 8, none⟩)), isV (.pointer (some ⟨r.g, 0, none⟩)), isV (.agg (accC u (some ⟨H, 0, none⟩) u.h.length u.h.length))]
theorem lpu6F_mono (T0 : TypeId) (L lo : Nat) (cur : Array Value) (r : Lr) (y H : Nat) (u : Ac) : ∀ φ ∈ lpu6F T0 L lo cur r y H u, Mono φ := by
  unfold lpu6F
  refine monos_cons (mono_isV _) ?_
  refine monos_cons (mono_isV _) ?_
  refine monos_cons (mono_isV _) ?_
  refine monos_cons (mono_isV _) ?_
  refine monos_cons (mono_isV _) ?_
  exact monos_nil
structure lpu6S (T0 : TypeId) (L lo : Nat) (cur : Array Value) (r : Lr) (y H : Nat) (u : Ac) (a0 : Act) (w0 : World) : Prop where
  size : a0.tmps.size = 58
  v0 : a0.tmps.getD 0 undef = .pointer (some ⟨L, lo, none⟩)
  v4 : a0.tmps.getD 4 undef = .pointer (some ⟨y, 0, none⟩)
  lw : Has w0 L T0 cur
  lc : LnC cur lo r
  by_ : Has w0 y 144 (accC u (some ⟨H, 0, none⟩) u.h.length u.h.length)
section
variable {T0 : TypeId} {L lo : Nat} {cur : Array Value} {r : Lr} {y H : Nat} {u : Ac} {a0 : Act} {w0 : World} (S : lpu6S T0 L lo cur r y H u a0 w0)
include S
set_option maxRecDepth 100000 in
set_option maxHeartbeats 8000000 in
theorem lpu6_ok : AllOps (fun j o => ∀ (a : Act) (w : World), Below w0.heap.size w0 w → FrD (lpu6D.take 5) a0 a → needs lpu6D (lpu6F T0 L lo cur r y H u) a w o.after.toList → StepD Tryz.prog lpu6D (factAt (lpu6F T0 L lo cur r y H u) j) o a w) 0 ((opsOf 6 Tryz.f141).take 5) := by
  simp only [opsOf, Tryz.f141, opsAt, Option.bind, Option.or, Option.getD, reduceCtorEq, if_true, if_false]
  refine ⟨?_, ?_⟩
  · intro _a _w _hB hF _hd
    exact step_move (guard_none rfl) rfl _ rfl ((hF.other 0 rfl).trans S.v0)
  refine ⟨?_, ?_⟩
  · intro a _w _hB _hF hd
    have h52 : a.tmps.getD 52 undef = .pointer (some ⟨L, lo, none⟩) := hd.1 rfl
    exact rf_nilck (guard_none rfl) rfl _ rfl _ h52 rfl
  refine ⟨?_, ?_⟩
  · intro a _w _hB _hF hd
    have h53 : a.tmps.getD 53 undef = .pointer (some ⟨L, lo, none⟩) := hd.1 rfl
    exact rf_faddr (guard_none rfl) rfl _ _ _ rfl _ _ 8 _ h53 (by omega) (fun _ _ => by kernel_rfl) rfl
  refine ⟨?_, ?_⟩
  · intro a _w hB _hF hd
    have h54 : a.tmps.getD 54 undef = .pointer (some ⟨L, lo + 8, none⟩) := hd.1 rfl
    exact rf_load1 (guard_none rfl) rfl _ _ rfl _ _ h54 (run_ldQu ((Has.cell (S.lw.below hB S.lw.lt) _).trans S.lc.c8)) rfl
  refine ⟨?_, ?_⟩
  · intro _a _w hB hF _hd
    exact rf_loadA (guard_none rfl) rfl _ rfl y ((hF.other 4 rfl).trans S.v4) (S.by_.below hB S.by_.lt) rfl
  trivial
set_option maxRecDepth 100000 in
set_option maxHeartbeats 2000000 in
theorem lpu6_any {Q : Exit → Act → World → Prop} {l : List Oper} (hl : opsOf 6 Tryz.f141 = l) (hend : ∀ w : World, Below w0.heap.size w0 w → wpList Tryz.prog l.toArray Q (l.drop 5) (putAll a0 [(52, .pointer (some ⟨L, lo, none⟩)), (53, .pointer (some ⟨L, lo, none⟩)), (54, .pointer (some ⟨L, lo + 8, none⟩)), (55, .pointer (some ⟨r.g, 0, none⟩)), (56, .agg (accC u (some ⟨H, 0, none⟩) u.h.length u.h.length))]) w) :
    (Code.region 6 l.toArray true).wp Tryz.prog Q a0 w0 := by
  subst hl
  refine region_head2 (lpu6F T0 L lo cur r y H u) lpu6D 5 58 S.size rfl (by kernel_rfl) (by kernel_rfl) (by kernel_rfl) (lpu6F_mono _ _ _ _ _ _ _ _) (lpu6_ok S) fun a w hB hF h => ?_
  have hv : valsAre a [(52, .pointer (some ⟨L, lo, none⟩)), (53, .pointer (some ⟨L, lo, none⟩)), (54, .pointer (some ⟨L, lo + 8, none⟩)), (55, .pointer (some ⟨r.g, 0, none⟩)), (56, .agg (accC u (some ⟨H, 0, none⟩) u.h.length u.h.length))] := by
    refine ⟨?_, ?_, ?_, ?_, ?_, trivial⟩
    · exact h 0 (some 52) (by omega) rfl
    · exact h 1 (some 53) (by omega) rfl
    · exact h 2 (some 54) (by omega) rfl
    · exact h 3 (some 55) (by omega) rfl
    · exact h 4 (some 56) (by omega) rfl
  rw [frame_is hF _ hv (by rfl) (by rfl)]
  exact hend w hB
end
end Go.Proofs.YtbpaepkcchpmbaaGreat
