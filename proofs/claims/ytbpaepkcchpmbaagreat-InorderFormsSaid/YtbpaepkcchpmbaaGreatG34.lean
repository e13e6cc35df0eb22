import Derived.Test.YtbpaepkcchpmbaaGreatG33
import Derived.Deep.CutRange
namespace Go.Proofs.YtbpaepkcchpmbaaGreat
open Go.RowKit
set_option maxRecDepth 100000 in
theorem run_ldLn {g k : Nat} {A : Option Addr} {m c : Nat} {w : World} (h : w.cell? ⟨g, k, none⟩ = some (.slice A m c)) : (Instr.loadAt 128 (.pointer (some ⟨g, k, none⟩))).run Tryz.prog w = .ok (.slice A m c) w := by simp [go_sem, h, Instr.loadAt]
def row1I (y : It) : Fact := fun v w => ∃ e, v = .slice (some ⟨e, 0, none⟩) 1 1 ∧ Has w e 61 (itA y)
theorem row1I_mono (y : It) : Mono (row1I y) := fun _ _ _ hb ⟨e, he, h⟩ => ⟨e, he, h.below hb h.lt⟩
theorem rf_oneI {D : List (Option Tmp)} {Φ : Fact} {o : Oper} {a : Act} {w : World} (hw : Region.wanted o (yieldD D a.tmps) = true) {t : Tmp} (hd : o.dst = some t) (x : Operand) (ho : o.op = .buildSlice 38 1 #[(0, x)]) (y : It) (hx : a.eval x = .agg #[.int .i64 y.s, .int .i64 y.t, .int .i64 y.q, .int .i64 y.v]) (h : ∀ v w', row1I y v w' → Φ v w') : StepD Tryz.prog D Φ o a w := by
  have e : (Instr.buildSlice 38 1 #[(0, .agg (itA y))]).run Tryz.prog w = .ok (.slice (some ⟨w.heap.size, 0, none⟩) 1 1) (w.alloc (.cells (itA y) 61)) := by kernel_rfl
  refine step_val hw hd (.slice (some ⟨w.heap.size, 0, none⟩) 1 1) (w.alloc (.cells (itA y) 61)) ?_ ((Below.refl _ w).alloc (Nat.le_refl _) _) (h _ _ ⟨_, rfl, Has.made _ _ _⟩)
  unfold execOp
  rw [ho]
  generalize a.eval = ev at hx ⊢
  simp only [List.map_toArray, List.map_cons, List.map_nil, hx, Sem.run_bind, e, Result.andThen_ok]
  rfl
def rpu1D : List (Option Tmp) := [some 5, some 6, some 7, some 8, some 9, some 10, some 11, some 12, some 13, some 14, none]
def rpu1F (g _x n c : Nat) (A : Option Addr) (y : It) : List Fact := [isV (.pointer (some ⟨g, 0, none⟩)), isV (.pointer (some ⟨g, 0, none⟩)), isV (.pointer (some ⟨g, 0, none⟩)), isV (.pointer (some ⟨g, 0, none⟩)), isV (.slice A n c), isV (.agg #[.int .i64 y.s, .int .i64 y.t, .int .i64 y.q, .int .i64 y.v]), row1I y]
theorem rpu1F_mono (g x n c : Nat) (A : Option Addr) (y : It) : ∀ φ ∈ rpu1F g x n c A y, Mono φ := by
  unfold rpu1F
  refine monos_cons (mono_isV _) ?_
  refine monos_cons (mono_isV _) ?_
  refine monos_cons (mono_isV _) ?_
  refine monos_cons (mono_isV _) ?_
  refine monos_cons (mono_isV _) ?_
  refine monos_cons (mono_isV _) ?_
  refine monos_cons (row1I_mono _) ?_
  exact monos_nil
structure rpu1S (g x n c : Nat) (A : Option Addr) (y : It) (a0 : Act) (w0 : World) : Prop where
  size : a0.tmps.size = 32
  v0 : a0.tmps.getD 0 undef = .pointer (some ⟨g, 0, none⟩)
  v3 : a0.tmps.getD 3 undef = .pointer (some ⟨x, 0, none⟩)
  ci : w0.cell? ⟨g, 0, none⟩ = some (.slice A n c)
  bx : Has w0 x 61 (itA y)
section
variable {g x n c : Nat} {A : Option Addr} {y : It} {a0 : Act} {w0 : World} (S : rpu1S g x n c A y a0 w0)
include S
set_option maxRecDepth 100000 in
set_option maxHeartbeats 8000000 in
theorem rpu1_ok : AllOps (fun j o => ∀ (a : Act) (w : World), Below w0.heap.size w0 w → FrD (rpu1D.take 7) a0 a → needs rpu1D (rpu1F g x n c A y) a w o.after.toList → StepD Tryz.prog rpu1D (factAt (rpu1F g x n c A y) j) o a w) 0 ((opsOf 1 Tryz.f110).take 7) := by
  simp only [opsOf, Tryz.f110, opsAt, Option.bind, Option.or, Option.getD, reduceCtorEq, if_true, if_false, List.take_succ_cons, List.take_zero]
  refine ⟨?_, ?_⟩
  · intro _a _w _hB hF _hd
    exact step_move (guard_none rfl) rfl _ rfl ((hF.other 0 rfl).trans S.v0)
  refine ⟨?_, ?_⟩
  · intro _a _w _hB hF _hd
    exact step_move (guard_none rfl) rfl _ rfl ((hF.other 0 rfl).trans S.v0)
  refine ⟨?_, ?_⟩
  · intro a _w _hB _hF hd
    have h6 : a.tmps.getD 6 undef = .pointer (some ⟨g, 0, none⟩) := hd.1 rfl
    exact rf_nilck (guard_none rfl) rfl _ rfl _ h6 rfl
  refine ⟨?_, ?_⟩
  · intro a _w _hB _hF hd
    have h7 : a.tmps.getD 7 undef = .pointer (some ⟨g, 0, none⟩) := hd.1 rfl
    exact rf_faddr (guard_none rfl) rfl _ _ _ rfl _ _ 0 _ h7 (by omega) (fun _ _ => by kernel_rfl) rfl
  refine ⟨?_, ?_⟩
  · intro a _w hB _hF hd
    have h8 : a.tmps.getD 8 undef = .pointer (some ⟨g, 0, none⟩) := hd.1 rfl
    exact rf_load1 (guard_none rfl) rfl _ _ rfl _ _ h8 (run_ldIt ((hB.cell (block_lt_of_cell S.ci)).trans S.ci)) rfl
  refine ⟨?_, ?_⟩
  · intro _a _w hB hF _hd
    exact rf_loadS (guard_none rfl) rfl _ _ rfl _ _ ((hF.other 3 rfl).trans S.v3) (itemL y) (rf_range (S.bx.below hB S.bx.lt)) Tryz.underlying61 rfl (by kernel_rfl) rfl
  refine ⟨?_, ?_⟩
  · intro a _w _hB _hF hd
    have h10 : a.tmps.getD 10 undef = .agg #[.int .i64 y.s, .int .i64 y.t, .int .i64 y.q, .int .i64 y.v] := hd.1 rfl
    exact rf_oneI (guard_none rfl) rfl _ rfl y h10 (fun _ _ h => h)
  trivial
theorem rpu1_any {Q : Exit → Act → World → Prop} {l : List Oper} (hl : opsOf 1 Tryz.f110 = l) (hend : ∀ (e11 : Nat), ∀ w : World, Below w0.heap.size w0 w → Has w e11 61 (itA y) → wpList Tryz.prog l.toArray Q (l.drop 7) (putAll a0 [(5, .pointer (some ⟨g, 0, none⟩)), (6, .pointer (some ⟨g, 0, none⟩)), (7, .pointer (some ⟨g, 0, none⟩)), (8, .pointer (some ⟨g, 0, none⟩)), (9, .slice A n c), (10, .agg #[.int .i64 y.s, .int .i64 y.t, .int .i64 y.q, .int .i64 y.v]), (11, .slice (some ⟨e11, 0, none⟩) 1 1)]) w)
    (hendQ : ∀ (e11 : Nat), ∀ w : World, Below w0.heap.size w0 w → Has w e11 61 (itA y) → wpList Tryz.prog l.toArray Q (pickL l [7, 0, 8, 9, 10]) (putAll a0 [(5, a0.tmps.getD 5 undef), (6, .pointer (some ⟨g, 0, none⟩)), (7, .pointer (some ⟨g, 0, none⟩)), (8, .pointer (some ⟨g, 0, none⟩)), (9, .slice A n c), (10, .agg #[.int .i64 y.s, .int .i64 y.t, .int .i64 y.q, .int .i64 y.v]), (11, .slice (some ⟨e11, 0, none⟩) 1 1)]) w) :
    (Code.region 1 l.toArray true).wp Tryz.prog Q a0 w0 := by
  subst hl
  refine region_head3 (rpu1F g x n c A y) rpu1D 7 32 0 [0, 8, 9, 10] S.size rfl (by kernel_rfl) (by kernel_rfl) (by kernel_rfl) (rpu1F_mono _ _ _ _ _ _) (rpu1_ok S) ?_ ?_
  · intro a w hB hF h
    obtain ⟨e11, h11, p11⟩ : row1I y (a.tmps.getD 11 undef) w := h 6 (some 11) (by omega) rfl
    have hv : valsAre a [(5, .pointer (some ⟨g, 0, none⟩)), (6, .pointer (some ⟨g, 0, none⟩)), (7, .pointer (some ⟨g, 0, none⟩)), (8, .pointer (some ⟨g, 0, none⟩)), (9, .slice A n c), (10, .agg #[.int .i64 y.s, .int .i64 y.t, .int .i64 y.q, .int .i64 y.v]), (11, .slice (some ⟨e11, 0, none⟩) 1 1)] := by
      refine ⟨?_, ?_, ?_, ?_, ?_, ?_, ?_, trivial⟩
      · exact h 0 (some 5) (by omega) rfl
      · exact h 1 (some 6) (by omega) rfl
      · exact h 2 (some 7) (by omega) rfl
      · exact h 3 (some 8) (by omega) rfl
      · exact h 4 (some 9) (by omega) rfl
      · exact h 5 (some 10) (by omega) rfl
      · exact h11
    rw [frame_is hF _ hv (by rfl) (by rfl)]
    exact hend e11 w hB p11
  · intro a w hB hF h hq
    obtain ⟨e11, h11, p11⟩ : row1I y (a.tmps.getD 11 undef) w := h 6 (some 11) (by omega) (by omega) rfl
    have hv : valsAre a [(5, a0.tmps.getD 5 undef), (6, .pointer (some ⟨g, 0, none⟩)), (7, .pointer (some ⟨g, 0, none⟩)), (8, .pointer (some ⟨g, 0, none⟩)), (9, .slice A n c), (10, .agg #[.int .i64 y.s, .int .i64 y.t, .int .i64 y.q, .int .i64 y.v]), (11, .slice (some ⟨e11, 0, none⟩) 1 1)] := by
      refine ⟨?_, ?_, ?_, ?_, ?_, ?_, ?_, trivial⟩
      · exact hq (some 5) rfl
      · exact h 1 (some 6) (by omega) (by omega) rfl
      · exact h 2 (some 7) (by omega) (by omega) rfl
      · exact h 3 (some 8) (by omega) (by omega) rfl
      · exact h 4 (some 9) (by omega) (by omega) rfl
      · exact h 5 (some 10) (by omega) (by omega) rfl
      · exact h11
    rw [frame_is hF _ hv (by rfl) (by rfl)]
    exact hendQ e11 w hB p11
end
def rpu5D : List (Option Tmp) := [some 23, some 24, some 25, some 26, some 27, some 28, some 29, some 30]
def rpu5F (g L n i _x : Nat) (_V : Value) (y : It) : List Fact := [isV (.pointer (some ⟨g, 0, none⟩)), isV (.pointer (some ⟨g, 0, none⟩)), isV (.pointer (some ⟨g, 1, none⟩)), isV (.slice (some ⟨L, 0, none⟩) n n), isV (.int .i64 ((i : Int))), isV (.pointer (some ⟨L, 0 + i * 11, none⟩)), isV (.agg #[.int .i64 y.s, .int .i64 y.t, .int .i64 y.q, .int .i64 y.v])]
theorem rpu5F_mono (g L n i x : Nat) (V : Value) (y : It) : ∀ φ ∈ rpu5F g L n i x V y, Mono φ := by
  unfold rpu5F
  refine monos_cons (mono_isV _) ?_
  refine monos_cons (mono_isV _) ?_
  refine monos_cons (mono_isV _) ?_
  refine monos_cons (mono_isV _) ?_
  refine monos_cons (mono_isV _) ?_
  refine monos_cons (mono_isV _) ?_
  refine monos_cons (mono_isV _) ?_
  exact monos_nil
structure rpu5S (g L n i x : Nat) (V : Value) (y : It) (a0 : Act) (w0 : World) : Prop where
  size : a0.tmps.size = 32
  v0 : a0.tmps.getD 0 undef = .pointer (some ⟨g, 0, none⟩)
  v3 : a0.tmps.getD 3 undef = .pointer (some ⟨x, 0, none⟩)
  v4 : a0.tmps.getD 4 undef = .int .i64 ((i : Int))
  st : Has w0 g RT #[V, .slice (some ⟨L, 0, none⟩) n n]
  hi : i < n
  bx : Has w0 x 61 (itA y)
section
variable {g L n i x : Nat} {V : Value} {y : It} {a0 : Act} {w0 : World} (S : rpu5S g L n i x V y a0 w0)
include S
set_option maxRecDepth 100000 in
set_option maxHeartbeats 8000000 in
theorem rpu5_ok : AllOps (fun j o => ∀ (a : Act) (w : World), Below w0.heap.size w0 w → FrD (rpu5D.take 7) a0 a → needs rpu5D (rpu5F g L n i x V y) a w o.after.toList → StepD Tryz.prog rpu5D (factAt (rpu5F g L n i x V y) j) o a w) 0 ((opsOf 5 Tryz.f110).take 7) := by
  simp only [opsOf, Tryz.f110, opsAt, Option.bind, Option.or, Option.getD, reduceCtorEq, if_true, if_false]
  refine ⟨?_, ?_⟩
  · intro _a _w _hB hF _hd
    exact step_move (guard_none rfl) rfl _ rfl ((hF.other 0 rfl).trans S.v0)
  refine ⟨?_, ?_⟩
  · intro a _w _hB _hF hd
    have h23 : a.tmps.getD 23 undef = .pointer (some ⟨g, 0, none⟩) := hd.1 rfl
    exact rf_nilck (guard_none rfl) rfl _ rfl _ h23 rfl
  refine ⟨?_, ?_⟩
  · intro a _w _hB _hF hd
    have h24 : a.tmps.getD 24 undef = .pointer (some ⟨g, 0, none⟩) := hd.1 rfl
    exact rf_faddr (guard_none rfl) rfl _ _ _ rfl _ _ 1 _ h24 (by omega) (fun _ _ => by kernel_rfl) rfl
  refine ⟨?_, ?_⟩
  · intro a _w hB _hF hd
    have h25 : a.tmps.getD 25 undef = .pointer (some ⟨g, 1, none⟩) := hd.1 rfl
    exact rf_load1 (guard_none rfl) rfl _ _ rfl _ _ h25 (run_ldLn ((Has.cell (S.st.below hB S.st.lt) 1).trans rfl)) rfl
  refine ⟨?_, ?_⟩
  · intro _a _w _hB hF _hd
    exact step_move (guard_none rfl) rfl _ rfl ((hF.other 4 rfl).trans S.v4)
  refine ⟨?_, ?_⟩
  · intro a _w _hB _hF hd
    have h26 : a.tmps.getD 26 undef = .slice (some ⟨L, 0, none⟩) n n := hd.1 rfl
    have h27 : a.tmps.getD 27 undef = .int .i64 ((i : Int)) := hd.2.1 rfl
    exact rf_index (s := 11) (guard_none rfl) rfl 128 _ _ rfl Tryz.underlying128 (fun _ => by kernel_rfl) L 0 n n i _ h26 h27 rfl S.hi rfl
  refine ⟨?_, ?_⟩
  · intro _a _w hB hF _hd
    exact rf_loadS (guard_none rfl) rfl _ _ rfl _ _ ((hF.other 3 rfl).trans S.v3) (itemL y) (rf_range (S.bx.below hB S.bx.lt)) Tryz.underlying61 rfl (by kernel_rfl) rfl
  trivial
theorem rpu5_any {Q : Exit → Act → World → Prop} {l : List Oper} (hl : opsOf 5 Tryz.f110 = l) (hend : ∀ w : World, Below w0.heap.size w0 w → wpList Tryz.prog l.toArray Q (l.drop 7) (putAll a0 [(23, .pointer (some ⟨g, 0, none⟩)), (24, .pointer (some ⟨g, 0, none⟩)), (25, .pointer (some ⟨g, 1, none⟩)), (26, .slice (some ⟨L, 0, none⟩) n n), (27, .int .i64 ((i : Int))), (28, .pointer (some ⟨L, 0 + i * 11, none⟩)), (29, .agg #[.int .i64 y.s, .int .i64 y.t, .int .i64 y.q, .int .i64 y.v])]) w) :
    (Code.region 5 l.toArray true).wp Tryz.prog Q a0 w0 := by
  subst hl
  refine region_head2 (rpu5F g L n i x V y) rpu5D 7 32 S.size rfl (by kernel_rfl) (by kernel_rfl) (by kernel_rfl) (rpu5F_mono _ _ _ _ _ _ _) (rpu5_ok S) fun a w hB hF h => ?_
  have hv : valsAre a [(23, .pointer (some ⟨g, 0, none⟩)), (24, .pointer (some ⟨g, 0, none⟩)), (25, .pointer (some ⟨g, 1, none⟩)), (26, .slice (some ⟨L, 0, none⟩) n n), (27, .int .i64 ((i : Int))), (28, .pointer (some ⟨L, 0 + i * 11, none⟩)), (29, .agg #[.int .i64 y.s, .int .i64 y.t, .int .i64 y.q, .int .i64 y.v])] := by
    refine ⟨?_, ?_, ?_, ?_, ?_, ?_, ?_, trivial⟩
    · exact h 0 (some 23) (by omega) rfl
    · exact h 1 (some 24) (by omega) rfl
    · exact h 2 (some 25) (by omega) rfl
    · exact h 3 (some 26) (by omega) rfl
    · exact h 4 (some 27) (by omega) rfl
    · exact h 5 (some 28) (by omega) rfl
    · exact h 6 (some 29) (by omega) rfl
  rw [frame_is hF _ hv (by rfl) (by rfl)]
  exact hend w hB
end
end Go.Proofs.YtbpaepkcchpmbaaGreat
namespace Go.Proofs.YtbpaepkcchpmbaaGreat
open Go.RowKit
theorem Has.kept_ {w w' : World} {k : Nat} {t : TypeId} {cs : Array Value} {row : Option Nat} (h : Has w k t cs) (hg : w.grownBy w' row) (hne : some k ≠ row) : Has w' k t cs := (hg.block k h.lt hne).trans h
theorem ButO.weaken {O O' : Nat → Prop} {w w' : World} (h : ButO O w w') (ho : ∀ k, O k → O' k) : ButO O' w w' := ⟨h.os, h.tape, h.output, h.size, fun k hk hn => h.other k hk fun e => hn (ho k e)⟩
def pushD (y : It) (z : Lr × List It) : Lr × List It := (z.1.nx (first2 z.2.length z.1.q y.t z.1.a z.1.b).1 (first2 z.2.length z.1.q y.t z.1.a z.1.b).2, z.2 ++ [y])
def LX.dat (x : LX) : Lr × List It := (x.r, x.its)
structure PuR (w0 : World) (g L : Nat) (V0 : Value) (its0 : List It) (xs : List LX) (y : It) (X : Nat) (i : Nat) (V : Value) (xs1 : List LX) (w : World) : Prop where
  row : RowX w g V L (its0 ++ [y]) xs1
  dat : xs1.map LX.dat = ((xs.map LX.dat).take i).map (pushD y) ++ (xs.map LX.dat).drop i
  own : ∀ k, RowU g V L xs1 k → RowU g V0 L xs k ∨ (w0.heap.size ≤ k ∧ k < w.heap.size)
  kp : ButO (RowU g V0 L xs) w0 w
  box : Has w X 61 (itA y)
  nx : w0.heap.size ≤ X
  nb : ¬ RowU g V L xs1 X
structure PuQ (w0 : World) (U : Nat → Prop) (y : It) (s : Int) (xs : List LX) : Prop where
  it : itemB y = true ∧ y.s = s
  q : ∀ x, x ∈ xs → mayQ x.r.q.kind x.r.q.agg x.r.q.size x.r.q.slide x.r.q.bs x.r.q.rank = true
  bs : ∀ x, x ∈ xs → Ints w0 x.r.B x.r.q.bs.length x.r.q.bs
  far : ∀ x, x ∈ xs → ∀ ad, x.r.B = some ad → ¬ U ad.block ∧ ad.block < w0.heap.size
  its : ∀ x, x ∈ xs → ∀ z, z ∈ x.its → itemB z = true ∧ z.s = s
  len : ∀ x, x ∈ xs → x.its.length ≤ 8191
theorem pur_start {w w2 w4 w5 : World} {g L n c m c' X : Nat} {A A' : Option Addr} {its : List It} {xs : List LX} {y : It} (hm : m = n + 1) (h : RowX w g (.slice A its.length c) L its xs) (hb2 : Below w.heap.size w w2) (hbox : Has w2 X 61 (itA y)) (hX : w.heap.size ≤ X)
    (hv : OwnIt w4 0 (.slice A' m c') (its ++ [y])) (hg : w2.grownBy w4 (Value.slice A n c).ownBlock) (hl : ∀ ad, A' = some ad → (Value.slice A n c).ownBlock = some ad.block ∨ w2.heap.size ≤ ad.block)
    (h5 : Has w5 g RT (#[Value.slice A n c, .slice (some ⟨L, 0, none⟩) xs.length xs.length].setIfInBounds 0 (.slice A' m c'))) (hb5 : ButS [g] w4 w5) (hn : n = its.length) :
    PuR w g L (.slice A its.length c) its xs y X 0 (.slice A' m c') xs w5 := by
  subst hn
  have hown : ∀ q q' d d', (Value.slice A q d).ownBlock = (Value.slice A q' d').ownBlock := fun q q' d d' => by cases A <;> rfl
  have hbO : ButO (fun k => k = g ∨ (Value.slice A its.length c).ownBlock = some k) w w5 := by
    have h1 : ButO (fun k => (Value.slice A its.length c).ownBlock = some k) w2 w4 := ⟨hg.os, hg.tape, hg.output, hg.size, fun k hk hn => hg.block k hk fun e => hn e.symm⟩
    have h2 : ButO (fun k => k = g) w4 w5 := butS_butO hb5 fun k hk => by simpa using hk
    exact ((below_butO hb2 (fun k => k = g ∨ (Value.slice A its.length c).ownBlock = some k)).andThen h1 fun _ e _ => .inr e).andThen h2 fun _ e _ => .inl e
  have hv5 : OwnIt w5 0 (.slice A' m c') (its ++ [y]) := hv.same fun k e => hb5.other k (by obtain ⟨q, hq⟩ := ownIt_has hv e; exact hq.lt) fun e2 => by
    obtain ⟨q, hq⟩ := ownIt_has hv e
    simp at e2
    subst e2
    have h6 : Has w4 k RT #[.slice A its.length c, .slice (some ⟨L, 0, none⟩) xs.length xs.length] := (h.below hb2).st.kept_ hg (fun e3 => by
      obtain ⟨q3, hq3⟩ := ownIt_has h.iv e3.symm
      exact has_types hq3 h.st (by decide))
    exact has_types hq h6 (by decide)
  obtain ⟨hr, hu⟩ := h.setV (V' := .slice A' m c') h5 hv5 hbO fun k e => by
    cases A' with
    | none => simp [Value.ownBlock] at e
    | some ad =>
      have e2 : ad.block = k := by simpa [Value.ownBlock] using e
      subst e2
      rcases hl ad rfl with h7 | h7
      · exact .inl h7
      · have := hb2.size; exact .inr (by omega)
  refine ⟨hr, by simp, hu, hbO.weaken fun k e => ?_, ?_, hX, fun e => ?_⟩
  · rcases e with e | e
    · exact .inl e
    · exact .inr (.inr (.inl e))
  · have h8 : Has w4 X 61 (itA y) := hbox.kept_ hg fun e => by
      obtain ⟨q, hq⟩ := ownIt_has h.iv e.symm
      have := hq.lt
      omega
    exact h8.butS hb5 fun e => by
      simp at e
      have := h.st.lt
      omega
  · have hx2 := hbox.lt
    rcases e with e | e | e | ⟨x, hx, e⟩
    · have := h.st.lt; omega
    · have := h.lw.lt; omega
    · cases A' with
      | none => simp [Value.ownBlock] at e
      | some ad =>
        have e2 : ad.block = X := by simpa [Value.ownBlock] using e
        rcases hl ad rfl with h7 | h7
        · have := h.lt X (.inr (.inr (.inl (e2 ▸ h7)))); omega
        · omega
    · have := h.lim x hx X e; omega
section
variable {w0 w w' : World} {g L X i : Nat} {V0 V : Value} {its0 : List It} {xs xs1 : List LX} {y : It} {s : Int}
theorem PuR.below (h : PuR w0 g L V0 its0 xs y X i V xs1 w) (hb : Below w.heap.size w w') : PuR w0 g L V0 its0 xs y X i V xs1 w' :=
  ⟨h.row.below hb, h.dat, fun k hk => (h.own k hk).imp id fun e => ⟨e.1, Nat.lt_of_lt_of_le e.2 hb.size⟩, h.kp.andThen (below_butO hb (fun _ => False)) fun _ e _ => e.elim, h.box.below hb h.box.lt, h.nx, h.nb⟩
theorem take_set {α : Type} (f : α → α) (ds es : List α) (i : Nat) (hi : i < ds.length) (h : es = (ds.take i).map f ++ ds.drop i) : es.set i (f (ds[i])) = (ds.take (i + 1)).map f ++ ds.drop (i + 1) ∧ es[i]? = some ds[i] := by
  subst h
  have hl : ((ds.take i).map f).length = i := by simp; omega
  have hd : ds.drop i = ds[i] :: ds.drop (i + 1) := List.drop_eq_getElem_cons hi
  have e1 : ∀ z, ((ds.take i).map f ++ ds.drop i).set i z = (ds.take i).map f ++ (ds.drop i).set 0 z := fun z => by
    rw [List.set_append_right _ _ (by omega)]; congr 1; rw [hl, Nat.sub_self]
  refine ⟨?_, ?_⟩
  · rw [e1, hd, List.set_cons_zero, List.take_succ_eq_append_getElem hi, List.map_append, List.append_assoc]; rfl
  · rw [List.getElem?_append_right (by omega), hl, Nat.sub_self, hd]; rfl
theorem pur_call (h : PuR w0 g L V0 its0 xs y X i V xs1 w) (hq : PuQ w0 (RowU g V0 L xs) y s xs) (hi : i < xs.length) :
    Calls Tryz.prog 141 #[.pointer (some ⟨L, i * 11, none⟩), .agg #[.int .i64 y.s, .int .i64 y.t, .int .i64 y.q, .int .i64 y.v]] w fun e w' => e = .returned (.tuple #[]) ∧ ∃ xs2, PuR w0 g L V0 its0 xs y X (i + 1) V xs2 w' := by
  have hdl : i < (xs.map LX.dat).length := by simpa using hi
  obtain ⟨hset, hat⟩ := take_set (pushD y) (xs.map LX.dat) (xs1.map LX.dat) i hdl h.dat
  rw [List.getElem_map] at hset hat
  rw [List.getElem?_map] at hat
  obtain ⟨x, hx1, hx2⟩ := Option.map_eq_some_iff.1 hat
  have hl1 := (List.getElem?_eq_some_iff.1 hx1).1
  have he1 := (List.getElem?_eq_some_iff.1 hx1).2
  have hr : x.r = (xs[i]).r := congrArg Prod.fst hx2
  have hits : x.its = (xs[i]).its := congrArg Prod.snd hx2
  have hxm : x ∈ xs1 := List.mem_of_getElem? hx1
  have hm : xs[i] ∈ xs := List.getElem_mem hi
  have hq1 := hq.q _ hm
  have hbs := hq.bs _ hm
  have hfr := hq.far _ hm
  have hit := hq.its _ hm
  have hln := hq.len _ hm
  rw [← hr] at hq1 hbs hfr
  rw [← hits] at hit hln
  have hLx : ¬ x.O L := fun e => (h.row.off x hxm L e).2.1 rfl
  have hlt : i < (xs1.map (·.r)).length := by simpa using hl1
  have hLC : LnC (rowLn (xs1.map (·.r))).toArray (i * 11) x.r := by
    have := rowLn_lane (xs1.map (·.r)) hlt
    rw [List.getElem_map, he1] at this
    exact this
  have hJ : RowJ x.r.q.bs (ones x.r.q.bs x.its ++ [oneAc y x.r.q.bs]) := by
    rw [← ones_app]
    refine rowJ_ones (σ := s) (bounds_ofQ hq1).1 (fun z hz => ?_) (by simp; omega)
    rcases List.mem_append.1 hz with hz | hz
    · exact hit z hz
    · rw [List.mem_singleton] at hz; subst hz; exact hq.it
  have hUx : ∀ k, x.O k → RowU g V0 L xs k ∨ w0.heap.size ≤ k := fun k hk => (h.own k (.inr (.inr (.inr ⟨x, hxm, hk⟩)))).imp id fun e => e.1
  have hB : Ints w x.r.B x.r.q.bs.length x.r.q.bs := hbs.butO h.kp fun ad e => (hfr ad e).1
  have hol : (ones x.r.q.bs x.its).length = x.its.length := by simp [ones]
  refine (lpush_any x.O L (i * 11) _ x.r (ones x.r.q.bs x.its) y w h.row.lw hLC (h.row.pq x hxm) hLx (by omega) hB (fun ad e => ⟨fun e2 => (hfr ad e).1 (e2 ▸ .inr (.inl rfl)), fun e2 => ?_⟩) hq1 hq.it.1 hJ).mono ?_
  · rcases hUx _ e2 with h9 | h9
    · exact (hfr ad e).1 h9
    · have := (hfr ad e).2; omega
  · rintro e w' ⟨rfl, hl', hp', hb'⟩
    rw [hol] at hl'
    refine ⟨rfl, xs1.set i ⟨x.r.nx (first2 x.its.length x.r.q y.t x.r.a x.r.b).1 (first2 x.its.length x.r.q y.t x.r.a x.r.b).2, x.its ++ [y], GrowO x.O w w'⟩, ?_⟩
    have hrs := rowLn_set (xs1.map (·.r)) hlt (first2 x.its.length x.r.q y.t x.r.a x.r.b).1 (first2 x.its.length x.r.q y.t x.r.a x.r.b).2
    rw [List.getElem_map, he1] at hrs
    rw [hrs] at hl'
    obtain ⟨k1, k2⟩ := h.row.setLane (O2 := fun k => x.O k ∨ k = L) (w' := w') (x' := ⟨x.r.nx (first2 x.its.length x.r.q y.t x.r.a x.r.b).1 (first2 x.its.length x.r.q y.t x.r.a x.r.b).2, x.its ++ [y], GrowO x.O w w'⟩) hx1 (fun k hk => hk)
      (by show PQ _ _ x.r.q.bs (ones x.r.q.bs (x.its ++ [y])) _; rw [ones_app]; exact hp') (by rw [List.map_set]; exact hl') hb' (fun k hk => hk.elim (fun e => .inr (.inl e)) .inl)
    refine ⟨k1, ?_, fun k hk => ?_, h.kp.andThen hb' fun k hk hlt0 => ?_, h.box.butO hb' fun e => ?_, h.nx, fun e => ?_⟩
    · rw [List.map_set, ← hset]
      congr 1
      show (x.r.nx _ _, x.its ++ [y]) = pushD y (xs[i]).dat
      unfold pushD LX.dat
      rw [hr, hits]
    · rcases k2 k hk with h3 | h3
      · exact (h.own k h3).imp id fun e => ⟨e.1, by have := hb'.size; omega⟩
      · exact .inr ⟨by have := h.kp.size; omega, h3.2⟩
    · rcases hk with hk | rfl
      · rcases hUx k hk with h3 | h3
        · exact h3
        · omega
      · exact .inr (.inl rfl)
    · rcases e with e | rfl
      · exact h.nb (.inr (.inr (.inr ⟨x, hxm, e⟩)))
      · exact has_types h.box h.row.lw (by decide)
    · rcases k2 X e with h3 | h3
      · exact h.nb h3
      · have := h.box.lt; omega
end
set_option maxRecDepth 100000 in
set_option maxHeartbeats 2000000 in
theorem rowpush_any (g L : Nat) (V : Value) (its : List It) (xs : List LX) (y : It) (s : Int) (w : World) (h : RowX w g V L its xs) (hq : PuQ w (RowU g V L xs) y s xs) (hn : its.length ≤ 8192) (hxs : xs.length ≤ 8192) :
    Calls Tryz.prog 110 #[.pointer (some ⟨g, 0, none⟩), .agg #[.int .i64 y.s, .int .i64 y.t, .int .i64 y.q, .int .i64 y.v]] w fun e w' => e = .returned (.tuple #[]) ∧ ∃ V' xs', RowX w' g V' L (its ++ [y]) xs' ∧ xs'.map LX.dat = (xs.map LX.dat).map (pushD y) ∧
      (∀ k, RowU g V' L xs' k → RowU g V L xs k ∨ (w.heap.size ≤ k ∧ k < w'.heap.size)) ∧ ButO (RowU g V L xs) w w' := by
  have HAL : Hid (∀ ob, Below w.heap.size w (w.alloc ob)) := fun ob => (Below.refl _ _).alloc (Nat.le_refl _) ob
  have HR := Lib.hid h
  have HQ := Lib.hid hq
  obtain ⟨A, c, hV, _⟩ := h.iv.form
  subst hV
  clear h hq
  go_enter Tryz.func110, Tryz.ntmps110
  go_upto_region 1 with fail
  go_cut [] (fun wx => ∃ V1, Hid (PuR w g L (.slice A its.length c) its xs y w.heap.size 0 V1 xs wx))
  case first =>
    refine rpu1_any (g := g) (x := w.heap.size) (n := its.length) (c := c) (A := A) (y := y) ⟨rfl, rfl, rfl, (HR.out.below (HAL.out _)).st.cell 0, Has.made _ _ _⟩ (by kernel_rfl) ?_ ?_
    · intro e11 w2 hB2 p11
      simp only [putAll, Act.put, List.setIfInBounds_toArray, List.set_cons_succ, List.set_cons_zero, List.drop_succ_cons, List.drop_zero]
      have HB2 := Lib.hid ((HAL.out (.cells (itA y) 61)).trans (hB2.mono (HAL.out (.cells (itA y) 61)).size))
      have HX2 := Lib.hid ((Has.made w 61 (itA y)).below hB2 (Has.made w 61 (itA y)).lt)
      have HP2 := Lib.hid p11
      clear hB2 p11
      have HI2 : Hid (Items w2 (some ⟨e11, 0, none⟩) 1 [y]) := items_has HP2.out (by simp [itemL])
      have HV2 := Lib.hid ((HR.out.below HB2.out).iv)
      have HG2 := Lib.hid ((HR.out.below HB2.out).st)
      refine app_its rfl _ _ rfl rfl HV2.out rfl HI2.out (fun e => by cases e) rfl (by omega) (Nat.zero_le _) ?_
      intro A' m c' w4 hm hv4 hg4 hl4
      subst hm
      have hgb : some g ≠ (Value.slice A its.length c).ownBlock := fun e => by
        obtain ⟨q, hq⟩ := ownIt_has HV2.out e.symm
        exact has_types hq HG2.out (by decide)
      have HG4 := Lib.hid (HG2.out.kept_ hg4 hgb)
      have c40 := HG4.out.cell 0
      have f40 := HG4.out.mark 0
      simp only [List.getElem?_toArray, List.getElem?_cons_zero] at c40
      go_wp2_with fail
      go_meet
      case rel => exact ⟨_, pur_start rfl HR.out HB2.out HX2.out (Nat.le_refl _) hv4 hg4 hl4 (HG4.out.put 0 _) (setCell_butS1 _ _ _ _) rfl⟩
    · intro e11 w2 hB2 p11
      simp only [putAll, Act.put, List.setIfInBounds_toArray, List.set_cons_succ, List.set_cons_zero, pickL, List.filterMap_cons, List.getElem?_cons_succ, List.getElem?_cons_zero, List.filterMap_nil]
      have HB2 := Lib.hid ((HAL.out (.cells (itA y) 61)).trans (hB2.mono (HAL.out (.cells (itA y) 61)).size))
      have HX2 := Lib.hid ((Has.made w 61 (itA y)).below hB2 (Has.made w 61 (itA y)).lt)
      have HP2 := Lib.hid p11
      clear hB2 p11
      have HI2 : Hid (Items w2 (some ⟨e11, 0, none⟩) 1 [y]) := items_has HP2.out (by simp [itemL])
      have HV2 := Lib.hid ((HR.out.below HB2.out).iv)
      have HG2 := Lib.hid ((HR.out.below HB2.out).st)
      refine app_its rfl _ _ rfl rfl HV2.out rfl HI2.out (fun e => by cases e) rfl (by omega) (Nat.zero_le _) ?_
      intro A' m c' w4 hm hv4 hg4 hl4
      subst hm
      have hgb : some g ≠ (Value.slice A its.length c).ownBlock := fun e => by
        obtain ⟨q, hq⟩ := ownIt_has HV2.out e.symm
        exact has_types hq HG2.out (by decide)
      have HG4 := Lib.hid (HG2.out.kept_ hg4 hgb)
      have c40 := HG4.out.cell 0
      have f40 := HG4.out.mark 0
      simp only [List.getElem?_toArray, List.getElem?_cons_zero] at c40
      go_wp2_with fail
      go_meet
      case rel => exact ⟨_, pur_start rfl HR.out HB2.out HX2.out (Nat.le_refl _) hv4 hg4 hl4 (HG4.out.put 0 _) (setCell_butS1 _ _ _ _) rfl⟩
  case rest =>
    obtain ⟨V1, hP⟩ := hcut
    have hlen : ∀ {i V2 xs2 wx}, PuR w g L (.slice A its.length c) its xs y w.heap.size i V2 xs2 wx → xs2.length = xs.length := fun h => by
      have := congrArg List.length h.dat
      simp only [List.length_map, List.length_append, List.length_take, List.length_drop] at this
      omega
    have HLN : Hid (∀ i V2 xs2 wx, PuR w g L (.slice A its.length c) its xs y w.heap.size i V2 xs2 wx → xs2.length = xs.length) := fun _ _ _ _ h => hlen h
    have cL : wc.cell? ⟨g, 1, none⟩ = some (.slice (some ⟨L, 0, none⟩) xs.length xs.length) := by
      have := hP.out.row.st.cell 1
      rw [hlen hP.out] at this
      exact this
    clear hlen
    generalize hN : xs.length = N at cL HLN hxs
    go_wp2_with fail
    go_loopw [20] (fun v wr => ∃ i : Nat, i ≤ N ∧ v = .int .i64 i ∧ ∃ V2 xs2, Hid (PuR w g L (.slice A its.length c) its xs y w.heap.size i V2 xs2 wr)) (fun v _ => N - (intOf v).toNat)
    case atStart => exact ⟨0, Nat.zero_le _, rfl, V1, xs, hP⟩
    case round =>
      obtain ⟨i, hi, rfl, V2, xs2, HP2⟩ := hrel
      by_cases hlt : i < N
      · have hlt2 : (i : Int) < (N : Int) := by omega
        go_upto_region 5 with fail
        have e2 : xs2.length = N := by rw [HLN.out _ _ _ _ HP2.out]
        have hst2 := HP2.out.row.st
        rw [e2] at hst2
        refine rpu5_any (g := g) (L := L) (n := N) (i := i) (x := w.heap.size) (V := V2) (y := y) ⟨rfl, rfl, rfl, rfl, hst2, hlt, HP2.out.box⟩ (by kernel_rfl) ?_
        intro w3 hB3
        simp only [putAll, Act.put, List.setIfInBounds_toArray, List.set_cons_succ, List.set_cons_zero, List.drop_succ_cons, List.drop_zero]
        go_wp2_with fail
        refine (pur_call (HP2.out.below hB3) HQ.out (by omega)).mono ?_
        rintro e w4 ⟨rfl, xs3, hP4⟩
        have HP4 := Lib.hid hP4
        clear hP4 hB3
        go_wp2_with fail
        go_roundw
        case rel => exact ⟨i + 1, by omega, by go_num, V2, xs3, HP4⟩
        case measure => simp [intOf]; omega
      · obtain rfl : i = N := by omega
        go_wp2_with fail
        refine Great.bodyPost_end0 rfl rfl ⟨rfl, V2, xs2, HP2.out.row, ?_, HP2.out.own, HP2.out.kp⟩
        have := HP2.out.dat
        rw [List.take_of_length_le (by simp; omega), List.drop_of_length_le (by simp; omega), List.append_nil] at this
        exact this
end Go.Proofs.YtbpaepkcchpmbaaGreat
