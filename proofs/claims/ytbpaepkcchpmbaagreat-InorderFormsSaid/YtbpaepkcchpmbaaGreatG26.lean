import Derived.Test.YtbpaepkcchpmbaaGreatG20
import Derived.Test.YtbpaepkcchpmbaaGreatG24
import Derived.Test.YtbpaepkcchpmbaaGreatG25
namespace Go.Proofs.YtbpaepkcchpmbaaGreat
open Go.RowKit
def OutP (w : World) (hs : List Int) (z : Nat) (A : Option Addr) (n c : Nat) : Prop := Ints w A n hs ∧ n ≤ c ∧ c ≤ maxLen ∧ OwnI w z (.slice A n c) hs
theorem OutP.below {w w' : World} {hs : List Int} {z n c : Nat} {A : Option Addr} (h : OutP w hs z A n c) (hb : Below w.heap.size w w') : OutP w' hs z A n c := ⟨h.1.below hb, h.2.1, h.2.2.1, h.2.2.2.below hb⟩
def outX (v : Int) (oo : Bool) (hs : List Int) (z : Nat) : Fact := fun u w => ∃ A n c, u = .agg (outC v oo A n c) ∧ OutP w hs z A n c
theorem outX_mono (v : Int) (oo : Bool) (hs : List Int) (z : Nat) : Mono (outX v oo hs z) := fun _ _ _ hb ⟨A, n, c, e, h⟩ => ⟨A, n, c, e, h.below hb⟩
def tupO (v : Int) (oo : Bool) (hs : List Int) (z : Nat) : Fact := fun u w => ∃ A n c, u = .tuple #[.agg (outC v oo A n c), .int .i64 0] ∧ OutP w hs z A n c
theorem tupO_mono (v : Int) (oo : Bool) (hs : List Int) (z : Nat) : Mono (tupO v oo hs z) := fun _ _ _ hb ⟨A, n, c, e, h⟩ => ⟨A, n, c, e, h.below hb⟩
def newO (z : Nat) : Fact := fun v w => ∃ y, v = .pointer (some ⟨y, 0, none⟩) ∧ Has w y 69 (outC 0 false none 0 0) ∧ z ≤ y
theorem newO_mono (z : Nat) : Mono (newO z) := fun _ _ _ hb ⟨e, he, h, h2⟩ => ⟨e, he, h.below hb h.lt, h2⟩
def tupN (V : Ac) : Fact := fun v w => ∃ H, v = .tuple #[.agg (accC V (some ⟨H, 0, none⟩) V.h.length V.h.length), .int .i64 0] ∧ Has w H 3 (ints V.h)
theorem tupN_mono (V : Ac) : Mono (tupN V) := fun _ _ _ hb ⟨e, he, h⟩ => ⟨e, he, h.below hb h.lt⟩
section
variable {D : List (Option Tmp)} {Φ : Fact} {o : Oper} {a : Act} {w : World}
theorem runNewO (w : World) : (Instr.alloc 69 true (.tuple #[])).run Tryz.prog w = .ok (.pointer (some ⟨w.heap.size, 0, none⟩)) (w.alloc (.cells (outC 0 false none 0 0) 69)) := by kernel_rfl
theorem rf_newO (hw : Region.wanted o (yieldD D a.tmps) = true) {t : Tmp} (hd : o.dst = some t) (ho : o.op = .alloc 69) {B : Nat} (hB : B ≤ w.heap.size) (h : ∀ v w', newO B v w' → Φ v w') : StepD Tryz.prog D Φ o a w := by
  refine step_val hw hd _ (w.alloc (.cells (outC 0 false none 0 0) 69)) ?_ ((Below.refl _ _).alloc (Nat.le_refl _) _) (h _ _ ⟨_, rfl, Has.made _ _ _, hB⟩)
  unfold execOp
  rw [ho]
  simp only [Sem.run_bind, runNewO, Result.andThen_ok]
  rfl
theorem run_res (k s a b v : Int) (oo : Bool) (A : Option Addr) (n c : Nat) (w : World) : (Instr.build 71 #[(0, .int .i64 k), (1, .int .i64 s), (2, .agg #[.int .i64 a, .int .i64 b]), (3, .agg (outC v oo A n c))]).run Tryz.prog w = .ok (.agg (rslC k s a b v oo A n c)) w := by kernel_rfl
theorem rf_res (hw : Region.wanted o (yieldD D a.tmps) = true) {t : Tmp} (hd : o.dst = some t) (x y z u : Operand) (ho : o.op = .build 71 #[(0, x), (1, y), (2, z), (3, u)]) (k s f b v : Int) (oo : Bool) (A : Option Addr) (n c : Nat)
    (hx : a.eval x = .int .i64 k) (hy : a.eval y = .int .i64 s) (hz : a.eval z = .agg #[.int .i64 f, .int .i64 b]) (hu : a.eval u = .agg (outC v oo A n c)) (h : Φ (.agg (rslC k s f b v oo A n c)) w) : StepD Tryz.prog D Φ o a w := by
  refine step_val hw hd _ w ?_ (Below.refl _ _) h
  unfold execOp
  rw [ho]
  generalize a.eval = ev at hx hy hz hu ⊢
  simp only [List.map_toArray, List.map_cons, List.map_nil, hx, hy, hz, hu, Sem.run_bind, run_res, Result.andThen_ok]
  rfl
end
theorem LnC.sp {cur : Array Value} {o : Nat} {r : Lr} {w : World} {L : Nat} {t : TypeId} (h : LnC cur o r) (hw : Has w L t cur) : w.rangeAt L (o + 9) [.int .i64 r.a, .int .i64 r.b] := by
  intro j v hv
  have hj : j < 2 := (List.getElem?_eq_some_iff.1 hv).1
  have e2 : j = 0 ∨ j = 1 := by omega
  rcases e2 with rfl | rfl
  · exact ((hw.cell _).trans h.c9).trans hv
  · exact ((hw.cell _).trans h.c10).trans hv
def lrs1D : List (Option Tmp) := [some 10, some 11, some 12, some 13, some 14, some 15, some 9, some 16, some 17, some 7, none, some 8]
def lrs1F (_T0 : TypeId) (L lo : Nat) (_cur : Array Value) (r : Lr) (_x k c z : Nat) (A : Option Addr) (u : Ac) (v : Int) (oo : Bool) (hs : List Int) : List Fact := [isV (.pointer (some ⟨L, lo, none⟩)), isV (.pointer (some ⟨L, lo, none⟩)), isV (.pointer (some ⟨L, lo, none⟩)), isV (.agg (quC r.q r.B r.q.bs.length r.d)), isV (.agg (accC u A k c)), tupO v oo hs z, tupO v oo hs z, outX v oo hs z, isV (.int .i64 0), newO z]
theorem lrs1F_mono (T0 : TypeId) (L lo : Nat) (cur : Array Value) (r : Lr) (x k c z : Nat) (A : Option Addr) (u : Ac) (v : Int) (oo : Bool) (hs : List Int) : ∀ φ ∈ lrs1F T0 L lo cur r x k c z A u v oo hs, Mono φ := by
  unfold lrs1F
  refine monos_cons (mono_isV _) ?_
  refine monos_cons (mono_isV _) ?_
  refine monos_cons (mono_isV _) ?_
  refine monos_cons (mono_isV _) ?_
  refine monos_cons (mono_isV _) ?_
  refine monos_cons (tupO_mono _ _ _ _) ?_
  refine monos_cons (tupO_mono _ _ _ _) ?_
  refine monos_cons (outX_mono _ _ _ _) ?_
  refine monos_cons (mono_isV _) ?_
  refine monos_cons (newO_mono _) ?_
  exact monos_nil
structure lrs1S (T0 : TypeId) (L lo : Nat) (cur : Array Value) (r : Lr) (x k c z : Nat) (A : Option Addr) (u : Ac) (v : Int) (oo : Bool) (hs : List Int) (a0 : Act) (w0 : World) : Prop where
  size : a0.tmps.size = 29
  v0 : a0.tmps.getD 0 undef = .pointer (some ⟨L, lo, none⟩)
  v5 : a0.tmps.getD 5 undef = .pointer (some ⟨x, 0, none⟩)
  lw : Has w0 L T0 cur
  lc : LnC cur lo r
  ez : z ≤ w0.heap.size
  bx : Has w0 x 144 (accC u A k c)
  cv : ∀ w, Below w0.heap.size w0 w → Calls Tryz.prog 191 #[.agg (quC r.q r.B r.q.bs.length r.d), .agg (accC u A k c)] w (OkOut v oo hs w)
section
variable {T0 : TypeId} {L lo : Nat} {cur : Array Value} {r : Lr} {x k c z : Nat} {A : Option Addr} {u : Ac} {v : Int} {oo : Bool} {hs : List Int} {a0 : Act} {w0 : World} (S : lrs1S T0 L lo cur r x k c z A u v oo hs a0 w0)
include S
set_option maxRecDepth 100000 in
set_option maxHeartbeats 8000000 in
theorem lrs1_ok : AllOps (fun j o => ∀ (a : Act) (w : World), Below w0.heap.size w0 w → FrD (lrs1D.take 10) a0 a → needs lrs1D (lrs1F T0 L lo cur r x k c z A u v oo hs) a w o.after.toList → StepD Tryz.prog lrs1D (factAt (lrs1F T0 L lo cur r x k c z A u v oo hs) j) o a w) 0 ((opsOf 1 Tryz.f143).take 10) := by
  simp only [opsOf, Tryz.f143, opsAt, Option.bind, Option.or, Option.getD, reduceCtorEq, if_true, if_false, List.take_succ_cons, List.take_zero]
  refine ⟨?_, ?_⟩
  · intro _a _w _hB hF _hd
    exact step_move (guard_none rfl) rfl _ rfl ((hF.other 0 rfl).trans S.v0)
  refine ⟨?_, ?_⟩
  · intro a _w _hB _hF hd
    have h10 : a.tmps.getD 10 undef = .pointer (some ⟨L, lo, none⟩) := hd.1 rfl
    exact rf_nilck (guard_none rfl) rfl _ rfl _ h10 rfl
  refine ⟨?_, ?_⟩
  · intro a _w _hB _hF hd
    have h11 : a.tmps.getD 11 undef = .pointer (some ⟨L, lo, none⟩) := hd.1 rfl
    exact rf_faddr (guard_none rfl) rfl _ _ _ rfl _ _ 0 _ h11 (by omega) (fun _ _ => by kernel_rfl) rfl
  refine ⟨?_, ?_⟩
  · intro a _w hB _hF hd
    have h12 : a.tmps.getD 12 undef = .pointer (some ⟨L, lo, none⟩) := hd.1 rfl
    exact rf_loadS (guard_none rfl) rfl _ _ rfl _ _ h12 _ (S.lc.qu (S.lw.below hB S.lw.lt)) Tryz.underlying59 rfl (by kernel_rfl) rfl
  refine ⟨?_, ?_⟩
  · intro _a _w hB hF _hd
    exact rf_loadA (guard_none rfl) rfl _ rfl x ((hF.other 5 rfl).trans S.v5) (S.bx.below hB S.bx.lt) rfl
  refine ⟨?_, ?_⟩
  · intro a w hB _hF hd
    have h13 : a.tmps.getD 13 undef = .agg (quC r.q r.B r.q.bs.length r.d) := hd.1 rfl
    have h14 : a.tmps.getD 14 undef = .agg (accC u A k c) := hd.2.1 rfl
    refine step_call (guard_none rfl) rfl _ _ (rf_call_run Tryz.func191 (by kernel_rfl) (by kernel_rfl) _ _ rfl) ?_
    simp only [List.map_toArray, List.map_cons, List.map_nil, Act.eval, h13, h14]
    exact (S.cv w hB).mono (by rintro e w1 ⟨A, n, c, rfl, p1, p2, p3, p4, hb⟩; exact ⟨_, rfl, hb, A, n, c, rfl, p1, p2, p3, p4.mono (Nat.le_trans S.ez hB.size)⟩)
  refine ⟨?_, ?_⟩
  · intro a w _hB _hF hd
    obtain ⟨A15, n15, c15, h15, p15⟩ : tupO v oo hs z (a.tmps.getD 15 undef) w := hd.1 rfl
    exact step_move (guard_none rfl) rfl _ rfl ⟨A15, n15, c15, h15, p15⟩
  refine ⟨?_, ?_⟩
  · intro a w _hB _hF hd
    obtain ⟨A9, n9, c9, h9, p9⟩ : tupO v oo hs z (a.tmps.getD 9 undef) w := hd.1 rfl
    exact rf_extract (guard_none rfl) rfl _ 0 rfl _ _ h9 rfl ⟨A9, n9, c9, rfl, p9⟩
  refine ⟨?_, ?_⟩
  · intro a w _hB _hF hd
    obtain ⟨A9, n9, c9, h9, p9⟩ : tupO v oo hs z (a.tmps.getD 9 undef) w := hd.1 rfl
    exact rf_extract (guard_none rfl) rfl _ 1 rfl _ _ h9 rfl rfl
  refine ⟨?_, ?_⟩
  · intro _a _w hB _hF _hd
    exact rf_newO (guard_none rfl) rfl rfl (Nat.le_trans S.ez hB.size) (fun _ _ h => h)
  trivial
set_option maxRecDepth 100000 in
set_option maxHeartbeats 2000000 in
theorem lrs1_any {Q : Exit → Act → World → Prop} {l : List Oper} (hl : opsOf 1 Tryz.f143 = l) (hend : ∀ (A15 : Option Addr) (n15 : Nat) (c15 : Nat), ∀ (A9 : Option Addr) (n9 : Nat) (c9 : Nat), ∀ (A16 : Option Addr) (n16 : Nat) (c16 : Nat), ∀ (y7 : Nat), ∀ w : World, Below w0.heap.size w0 w → OutP w hs z A15 n15 c15 → OutP w hs z A9 n9 c9 → OutP w hs z A16 n16 c16 → Has w y7 69 (outC 0 false none 0 0) ∧ z ≤ y7 → wpList Tryz.prog l.toArray Q (l.drop 10) (putAll a0 [(10, .pointer (some ⟨L, lo, none⟩)), (11, .pointer (some ⟨L, lo, none⟩)), (12, .pointer (some ⟨L, lo, none⟩)), (13, .agg (quC r.q r.B r.q.bs.length r.d)), (14, .agg (accC u A k c)), (15, .tuple #[.agg (outC v oo A15 n15 c15), .int .i64 0]), (9, .tuple #[.agg (outC v oo A9 n9 c9), .int .i64 0]), (16, .agg (outC v oo A16 n16 c16)), (17, .int .i64 0), (7, .pointer (some ⟨y7, 0, none⟩))]) w)
    (hendQ : ∀ (A15 : Option Addr) (n15 : Nat) (c15 : Nat), ∀ (A9 : Option Addr) (n9 : Nat) (c9 : Nat), ∀ (A16 : Option Addr) (n16 : Nat) (c16 : Nat), ∀ (y7 : Nat), ∀ w : World, Below w0.heap.size w0 w → OutP w hs z A15 n15 c15 → OutP w hs z A9 n9 c9 → OutP w hs z A16 n16 c16 → Has w y7 69 (outC 0 false none 0 0) ∧ z ≤ y7 → wpList Tryz.prog l.toArray Q (pickL l [10, 8, 11]) (putAll a0 [(10, .pointer (some ⟨L, lo, none⟩)), (11, .pointer (some ⟨L, lo, none⟩)), (12, .pointer (some ⟨L, lo, none⟩)), (13, .agg (quC r.q r.B r.q.bs.length r.d)), (14, .agg (accC u A k c)), (15, .tuple #[.agg (outC v oo A15 n15 c15), .int .i64 0]), (9, .tuple #[.agg (outC v oo A9 n9 c9), .int .i64 0]), (16, .agg (outC v oo A16 n16 c16)), (17, a0.tmps.getD 17 undef), (7, .pointer (some ⟨y7, 0, none⟩))]) w) :
    (Code.region 1 l.toArray true).wp Tryz.prog Q a0 w0 := by
  subst hl
  refine region_head3 (lrs1F T0 L lo cur r x k c z A u v oo hs) lrs1D 10 29 8 [8, 11] S.size rfl (by kernel_rfl) (by kernel_rfl) (by kernel_rfl) (lrs1F_mono _ _ _ _ _ _ _ _ _ _ _ _ _ _) (lrs1_ok S) ?_ ?_
  · intro a w hB hF h
    obtain ⟨A15, n15, c15, h15, p15⟩ : tupO v oo hs z (a.tmps.getD 15 undef) w := h 5 (some 15) (by omega) rfl
    obtain ⟨A9, n9, c9, h9, p9⟩ : tupO v oo hs z (a.tmps.getD 9 undef) w := h 6 (some 9) (by omega) rfl
    obtain ⟨A16, n16, c16, h16, p16⟩ : outX v oo hs z (a.tmps.getD 16 undef) w := h 7 (some 16) (by omega) rfl
    obtain ⟨y7, h7, p7⟩ : newO z (a.tmps.getD 7 undef) w := h 9 (some 7) (by omega) rfl
    have hv : valsAre a [(10, .pointer (some ⟨L, lo, none⟩)), (11, .pointer (some ⟨L, lo, none⟩)), (12, .pointer (some ⟨L, lo, none⟩)), (13, .agg (quC r.q r.B r.q.bs.length r.d)), (14, .agg (accC u A k c)), (15, .tuple #[.agg (outC v oo A15 n15 c15), .int .i64 0]), (9, .tuple #[.agg (outC v oo A9 n9 c9), .int .i64 0]), (16, .agg (outC v oo A16 n16 c16)), (17, .int .i64 0), (7, .pointer (some ⟨y7, 0, none⟩))] := by
      refine ⟨?_, ?_, ?_, ?_, ?_, ?_, ?_, ?_, ?_, ?_, trivial⟩
      · exact h 0 (some 10) (by omega) rfl
      · exact h 1 (some 11) (by omega) rfl
      · exact h 2 (some 12) (by omega) rfl
      · exact h 3 (some 13) (by omega) rfl
      · exact h 4 (some 14) (by omega) rfl
      · exact h15
      · exact h9
      · exact h16
      · exact h 8 (some 17) (by omega) rfl
      · exact h7
    rw [frame_is hF _ hv (by rfl) (by rfl)]
    exact hend A15 n15 c15 A9 n9 c9 A16 n16 c16 y7 w hB p15 p9 p16 p7
  · intro a w hB hF h hq
    obtain ⟨A15, n15, c15, h15, p15⟩ : tupO v oo hs z (a.tmps.getD 15 undef) w := h 5 (some 15) (by omega) (by omega) rfl
    obtain ⟨A9, n9, c9, h9, p9⟩ : tupO v oo hs z (a.tmps.getD 9 undef) w := h 6 (some 9) (by omega) (by omega) rfl
    obtain ⟨A16, n16, c16, h16, p16⟩ : outX v oo hs z (a.tmps.getD 16 undef) w := h 7 (some 16) (by omega) (by omega) rfl
    obtain ⟨y7, h7, p7⟩ : newO z (a.tmps.getD 7 undef) w := h 9 (some 7) (by omega) (by omega) rfl
    have hv : valsAre a [(10, .pointer (some ⟨L, lo, none⟩)), (11, .pointer (some ⟨L, lo, none⟩)), (12, .pointer (some ⟨L, lo, none⟩)), (13, .agg (quC r.q r.B r.q.bs.length r.d)), (14, .agg (accC u A k c)), (15, .tuple #[.agg (outC v oo A15 n15 c15), .int .i64 0]), (9, .tuple #[.agg (outC v oo A9 n9 c9), .int .i64 0]), (16, .agg (outC v oo A16 n16 c16)), (17, a0.tmps.getD 17 undef), (7, .pointer (some ⟨y7, 0, none⟩))] := by
      refine ⟨?_, ?_, ?_, ?_, ?_, ?_, ?_, ?_, ?_, ?_, trivial⟩
      · exact h 0 (some 10) (by omega) (by omega) rfl
      · exact h 1 (some 11) (by omega) (by omega) rfl
      · exact h 2 (some 12) (by omega) (by omega) rfl
      · exact h 3 (some 13) (by omega) (by omega) rfl
      · exact h 4 (some 14) (by omega) (by omega) rfl
      · exact h15
      · exact h9
      · exact h16
      · exact hq (some 17) rfl
      · exact h7
    rw [frame_is hF _ hv (by rfl) (by rfl)]
    exact hendQ A15 n15 c15 A9 n9 c9 A16 n16 c16 y7 w hB p15 p9 p16 p7
end
def lrs2D : List (Option Tmp) := [some 18, some 19, some 20, some 21, some 22, some 23, some 24, some 25, some 26, some 27, some 28, none]
def lrs2F (_T0 : TypeId) (L lo : Nat) (_cur : Array Value) (r : Lr) (_y _s n c : Nat) (A : Option Addr) (v sa sb : Int) (oo : Bool) : List Fact := [isV (.pointer (some ⟨L, lo, none⟩)), isV (.pointer (some ⟨L, lo, none⟩)), isV (.pointer (some ⟨L, lo + 6, none⟩)), isV (.int .i64 r.k), isV (.pointer (some ⟨L, lo, none⟩)), isV (.pointer (some ⟨L, lo, none⟩)), isV (.pointer (some ⟨L, lo + 7, none⟩)), isV (.int .i64 r.s), isV (.agg #[.int .i64 sa, .int .i64 sb]), isV (.agg (outC v oo A n c)), isV (.agg (rslC r.k r.s sa sb v oo A n c))]
theorem lrs2F_mono (T0 : TypeId) (L lo : Nat) (cur : Array Value) (r : Lr) (y s n c : Nat) (A : Option Addr) (v sa sb : Int) (oo : Bool) : ∀ φ ∈ lrs2F T0 L lo cur r y s n c A v sa sb oo, Mono φ := by
  unfold lrs2F
  refine monos_cons (mono_isV _) ?_
  refine monos_cons (mono_isV _) ?_
  refine monos_cons (mono_isV _) ?_
  refine monos_cons (mono_isV _) ?_
  refine monos_cons (mono_isV _) ?_
  refine monos_cons (mono_isV _) ?_
  refine monos_cons (mono_isV _) ?_
  refine monos_cons (mono_isV _) ?_
  refine monos_cons (mono_isV _) ?_
  refine monos_cons (mono_isV _) ?_
  refine monos_cons (mono_isV _) ?_
  exact monos_nil
structure lrs2S (T0 : TypeId) (L lo : Nat) (cur : Array Value) (r : Lr) (y s n c : Nat) (A : Option Addr) (v sa sb : Int) (oo : Bool) (a0 : Act) (w0 : World) : Prop where
  size : a0.tmps.size = 29
  v0 : a0.tmps.getD 0 undef = .pointer (some ⟨L, lo, none⟩)
  v4 : a0.tmps.getD 4 undef = .pointer (some ⟨s, 0, none⟩)
  v7 : a0.tmps.getD 7 undef = .pointer (some ⟨y, 0, none⟩)
  lw : Has w0 L T0 cur
  lc : LnC cur lo r
  bs : Has w0 s 67 #[.int .i64 sa, .int .i64 sb]
  by_ : Has w0 y 69 (outC v oo A n c)
section
variable {T0 : TypeId} {L lo : Nat} {cur : Array Value} {r : Lr} {y s n c : Nat} {A : Option Addr} {v sa sb : Int} {oo : Bool} {a0 : Act} {w0 : World} (S : lrs2S T0 L lo cur r y s n c A v sa sb oo a0 w0)
include S
set_option maxRecDepth 100000 in
set_option maxHeartbeats 8000000 in
theorem lrs2_ok : AllOps (fun j o => ∀ (a : Act) (w : World), Below w0.heap.size w0 w → FrD (lrs2D.take 11) a0 a → needs lrs2D (lrs2F T0 L lo cur r y s n c A v sa sb oo) a w o.after.toList → StepD Tryz.prog lrs2D (factAt (lrs2F T0 L lo cur r y s n c A v sa sb oo) j) o a w) 0 ((opsOf 2 Tryz.f143).take 11) := by
  simp only [opsOf, Tryz.f143, opsAt, Option.bind, Option.or, Option.getD, reduceCtorEq, if_true, if_false]
  refine ⟨?_, ?_⟩
  · intro _a _w _hB hF _hd
    exact step_move (guard_none rfl) rfl _ rfl ((hF.other 0 rfl).trans S.v0)
  refine ⟨?_, ?_⟩
  · intro a _w _hB _hF hd
    have h18 : a.tmps.getD 18 undef = .pointer (some ⟨L, lo, none⟩) := hd.1 rfl
    exact rf_nilck (guard_none rfl) rfl _ rfl _ h18 rfl
  refine ⟨?_, ?_⟩
  · intro a _w _hB _hF hd
    have h19 : a.tmps.getD 19 undef = .pointer (some ⟨L, lo, none⟩) := hd.1 rfl
    exact rf_faddr (guard_none rfl) rfl _ _ _ rfl _ _ 6 _ h19 (by omega) (fun _ _ => by kernel_rfl) rfl
  refine ⟨?_, ?_⟩
  · intro a _w hB _hF hd
    have h20 : a.tmps.getD 20 undef = .pointer (some ⟨L, lo + 6, none⟩) := hd.1 rfl
    exact rf_loadi (guard_none rfl) rfl _ rfl _ _ h20 _ ((Has.cell (S.lw.below hB S.lw.lt) _).trans S.lc.c6) rfl
  refine ⟨?_, ?_⟩
  · intro _a _w _hB hF _hd
    exact step_move (guard_none rfl) rfl _ rfl ((hF.other 0 rfl).trans S.v0)
  refine ⟨?_, ?_⟩
  · intro a _w _hB _hF hd
    have h22 : a.tmps.getD 22 undef = .pointer (some ⟨L, lo, none⟩) := hd.1 rfl
    exact rf_nilck (guard_none rfl) rfl _ rfl _ h22 rfl
  refine ⟨?_, ?_⟩
  · intro a _w _hB _hF hd
    have h23 : a.tmps.getD 23 undef = .pointer (some ⟨L, lo, none⟩) := hd.1 rfl
    exact rf_faddr (guard_none rfl) rfl _ _ _ rfl _ _ 7 _ h23 (by omega) (fun _ _ => by kernel_rfl) rfl
  refine ⟨?_, ?_⟩
  · intro a _w hB _hF hd
    have h24 : a.tmps.getD 24 undef = .pointer (some ⟨L, lo + 7, none⟩) := hd.1 rfl
    exact rf_loadi (guard_none rfl) rfl _ rfl _ _ h24 _ ((Has.cell (S.lw.below hB S.lw.lt) _).trans S.lc.c7) rfl
  refine ⟨?_, ?_⟩
  · intro _a _w hB hF _hd
    exact rf_loadS (guard_none rfl) rfl _ _ rfl _ _ ((hF.other 4 rfl).trans S.v4) _ (rf_range (S.bs.below hB S.bs.lt)) Tryz.underlying67 rfl (by kernel_rfl) rfl
  refine ⟨?_, ?_⟩
  · intro _a _w hB hF _hd
    exact rf_loadS (guard_none rfl) rfl _ _ rfl _ _ ((hF.other 7 rfl).trans S.v7) _ (rf_range (S.by_.below hB S.by_.lt)) Tryz.underlying69 rfl (by kernel_rfl) rfl
  refine ⟨?_, ?_⟩
  · intro a _w _hB _hF hd
    have h21 : a.tmps.getD 21 undef = .int .i64 r.k := hd.1 rfl
    have h25 : a.tmps.getD 25 undef = .int .i64 r.s := hd.2.1 rfl
    have h26 : a.tmps.getD 26 undef = .agg #[.int .i64 sa, .int .i64 sb] := hd.2.2.1 rfl
    have h27 : a.tmps.getD 27 undef = .agg (outC v oo A n c) := hd.2.2.2.1 rfl
    exact rf_res (guard_none rfl) rfl _ _ _ _ rfl r.k r.s sa sb v oo A n c h21 h25 h26 h27 rfl
  trivial
set_option maxRecDepth 100000 in
set_option maxHeartbeats 2000000 in
theorem lrs2_any {Q : Exit → Act → World → Prop} {l : List Oper} (hl : opsOf 2 Tryz.f143 = l) (hend : ∀ w : World, Below w0.heap.size w0 w → wpList Tryz.prog l.toArray Q (l.drop 11) (putAll a0 [(18, .pointer (some ⟨L, lo, none⟩)), (19, .pointer (some ⟨L, lo, none⟩)), (20, .pointer (some ⟨L, lo + 6, none⟩)), (21, .int .i64 r.k), (22, .pointer (some ⟨L, lo, none⟩)), (23, .pointer (some ⟨L, lo, none⟩)), (24, .pointer (some ⟨L, lo + 7, none⟩)), (25, .int .i64 r.s), (26, .agg #[.int .i64 sa, .int .i64 sb]), (27, .agg (outC v oo A n c)), (28, .agg (rslC r.k r.s sa sb v oo A n c))]) w) :
    (Code.region 2 l.toArray true).wp Tryz.prog Q a0 w0 := by
  subst hl
  refine region_head2 (lrs2F T0 L lo cur r y s n c A v sa sb oo) lrs2D 11 29 S.size rfl (by kernel_rfl) (by kernel_rfl) (by kernel_rfl) (lrs2F_mono _ _ _ _ _ _ _ _ _ _ _ _ _ _) (lrs2_ok S) fun a w hB hF h => ?_
  have hv : valsAre a [(18, .pointer (some ⟨L, lo, none⟩)), (19, .pointer (some ⟨L, lo, none⟩)), (20, .pointer (some ⟨L, lo + 6, none⟩)), (21, .int .i64 r.k), (22, .pointer (some ⟨L, lo, none⟩)), (23, .pointer (some ⟨L, lo, none⟩)), (24, .pointer (some ⟨L, lo + 7, none⟩)), (25, .int .i64 r.s), (26, .agg #[.int .i64 sa, .int .i64 sb]), (27, .agg (outC v oo A n c)), (28, .agg (rslC r.k r.s sa sb v oo A n c))] := by
    refine ⟨?_, ?_, ?_, ?_, ?_, ?_, ?_, ?_, ?_, ?_, ?_, trivial⟩
    · exact h 0 (some 18) (by omega) rfl
    · exact h 1 (some 19) (by omega) rfl
    · exact h 2 (some 20) (by omega) rfl
    · exact h 3 (some 21) (by omega) rfl
    · exact h 4 (some 22) (by omega) rfl
    · exact h 5 (some 23) (by omega) rfl
    · exact h 6 (some 24) (by omega) rfl
    · exact h 7 (some 25) (by omega) rfl
    · exact h 8 (some 26) (by omega) rfl
    · exact h 9 (some 27) (by omega) rfl
    · exact h 10 (some 28) (by omega) rfl
  rw [frame_is hF _ hv (by rfl) (by rfl)]
  exact hend w hB
end
end Go.Proofs.YtbpaepkcchpmbaaGreat
namespace Go.Proofs.YtbpaepkcchpmbaaGreat
open Go.RowKit
abbrev RsT : TypeId := 71
theorem rslC_one (k s a b v : Int) (o : Bool) (A : Option Addr) (n c : Nat) : (rslC k s a b v o A n c).all (·.oneCell') = true := by simp [rslC, Value.oneCell']
theorem Tryz.sizeRsl : (Tryz.prog.info? 71).map (·.size) = some 7 := by kernel_rfl
theorem store_outH {ops : Array Oper} {rest : List Oper} {op : Oper} {a : Act} {w : World} {Q : Exit → Act → World → Prop} (hgd : op.guard = none) (x y : Operand) (ho : op.op = .store 69 x y)
    (g : Nat) {v : Int} {o : Bool} {A : Option Addr} {n c : Nat} {old : Array Value} (hx : a.eval x = .pointer (some ⟨g, 0, none⟩)) (hy : a.eval y = .agg (outC v o A n c)) (hg : Has w g 69 old) (hold : old.size = 3)
    (h : ∀ w', w' = w.setRow g (outC v o A n c) → Has w' g 69 (outC v o A n c) → wpList Tryz.prog ops Q rest (a.put op.dst undef) w') : wpList Tryz.prog ops Q (op :: rest) a w :=
  wpList_store_row hgd 69 x y ho g _ hx hy 69 old hg Tryz.sizeOut hold (outC_one _ _ _ _ _) (h _ rfl (hg.row _))
theorem store_rsl {ops : Array Oper} {rest : List Oper} {op : Oper} {a : Act} {w : World} {Q : Exit → Act → World → Prop} (hgd : op.guard = none) (x y : Operand) (ho : op.op = .store 71 x y)
    (g : Nat) {k s f b v : Int} {o : Bool} {A : Option Addr} {n c : Nat} {old : Array Value} (hx : a.eval x = .pointer (some ⟨g, 0, none⟩)) (hy : a.eval y = .agg (rslC k s f b v o A n c)) (hg : Has w g RsT old) (hold : old.size = 7)
    (h : wpList Tryz.prog ops Q rest (a.put op.dst undef) (w.setRow g (rslC k s f b v o A n c))) : wpList Tryz.prog ops Q (op :: rest) a w :=
  wpList_store_row hgd 71 x y ho g _ hx hy RsT old hg Tryz.sizeRsl hold (rslC_one _ _ _ _ _ _ _ _ _) h
def OutR (r : Lr) (v : Int) (oo : Bool) (hs : List Int) (w : World) (e : Ending) (w' : World) : Prop :=
  ∃ A n c, e = .returned (.agg (rslC r.k r.s r.a r.b v oo A n c)) ∧ OutP w' hs w.heap.size A n c ∧ Below w.heap.size w w'
theorem OutP.row {w : World} {hs : List Int} {z n c y : Nat} {A : Option Addr} {t : TypeId} {cs : Array Value} (h : OutP w hs z A n c) (hy : Has w y t cs) (ht : t ≠ 3) (cs' : Array Value) : OutP (w.setRow y cs') hs z A n c := by
  have ho : OwnI (w.setRow y cs') z (.slice A n c) hs := h.2.2.2.same fun k e => setRow_other _ _ _ _ fun e2 => h.2.2.2.apart hy ht (e2 ▸ e)
  exact ⟨ho.ints, h.2.1, h.2.2.1, ho⟩
set_option maxRecDepth 100000 in
set_option maxHeartbeats 2000000 in
theorem aresult_any (T0 : TypeId) (L lo : Nat) (cur : Array Value) (r : Lr) (sa sb : Int) (u : Ac) (A : Option Addr) (k c : Nat) (v : Int) (oo : Bool) (hs : List Int) (w : World) (hw : Has w L T0 cur) (hc : LnC cur lo r)
    (hv : ∀ w', Below w.heap.size w w' → Calls Tryz.prog 191 #[.agg (quC r.q r.B r.q.bs.length r.d), .agg (accC u A k c)] w' (OkOut v oo hs w')) :
    Calls Tryz.prog 143 #[.pointer (some ⟨L, lo, none⟩), .agg #[.int .i64 sa, .int .i64 sb], .agg (accC u A k c)] w (OutR (r.nx sa sb) v oo hs w) := by
  have HW := Lib.hid hw
  have HC := Lib.hid hc
  have HV := Lib.hid hv
  clear hw hc hv
  go_enter Tryz.func143, Tryz.ntmps143
  go_upto_region 1 with fail
  have ha1 : ∀ w' : World, ∀ o, Below w'.heap.size w' (w'.alloc o) := fun w' o => (Below.refl _ _).alloc (Nat.le_refl _) o
  obtain ⟨w1, hw1⟩ : ∃ w1, ((w.alloc (.cells #[.int .i64 sa, .int .i64 sb] 67)).alloc (.cells (accC u A k c) 144)).alloc (.cells (rslC 0 0 0 0 0 false none 0 0) RsT) = w1 := ⟨_, rfl⟩
  have HSP : Hid (Has w1 w.heap.size 67 #[.int .i64 sa, .int .i64 sb]) := hw1 ▸ ((Has.made w _ _).alloc _).alloc _
  have HX : Hid (Has w1 (w.heap.size + 1) 144 (accC u A k c)) := by
    rw [← hw1]
    have := (Has.made (w.alloc (.cells #[.int .i64 sa, .int .i64 sb] 67)) 144 (accC u A k c)).alloc (.cells (rslC 0 0 0 0 0 false none 0 0) RsT)
    have e : (w.alloc (.cells #[.int .i64 sa, .int .i64 sb] 67)).heap.size = w.heap.size + 1 := by simp
    rw [e] at this; exact this
  have HR : Hid (Has w1 (w.heap.size + 2) RsT (rslC 0 0 0 0 0 false none 0 0)) := by
    rw [← hw1]
    have := Has.made ((w.alloc (.cells #[.int .i64 sa, .int .i64 sb] 67)).alloc (.cells (accC u A k c) 144)) RsT (rslC 0 0 0 0 0 false none 0 0)
    have e : ((w.alloc (.cells #[.int .i64 sa, .int .i64 sb] 67)).alloc (.cells (accC u A k c) 144)).heap.size = w.heap.size + 2 := by simp
    rw [e] at this; exact this
  have HB : Hid (Below w.heap.size w w1) := by
    rw [← hw1]
    exact below_alloc (below_alloc (ha1 w _) (Nat.le_refl _) _) (Nat.le_refl _) _
  have HS : Hid (w1.heap.size = w.heap.size + 3) := by rw [← hw1]; exact Lib.hid (by simp)
  show Code.wp Tryz.prog _ _ _ (((w.alloc (.cells #[.int .i64 sa, .int .i64 sb] 67)).alloc (.cells (accC u A k c) 144)).alloc (.cells (rslC 0 0 0 0 0 false none 0 0) RsT))
  rw [hw1]
  clear hw1 ha1
  refine lrs1_any (T0 := T0) (L := L) (lo := lo) (cur := cur) (r := r) (x := w.heap.size + 1) (k := k) (c := c) (z := w.heap.size) (A := A) (u := u) (v := v) (oo := oo) (hs := hs) ⟨rfl, rfl, rfl, HW.out.below HB.out HW.out.lt, HC.out, by rw [HS.out]; omega, HX.out, fun w' hb => HV.out w' (HB.out.trans (hb.mono HB.out.size))⟩ (by kernel_rfl) ?_ ?_
  · intro A13 n13 c13 A7 n7 c7 A14 n14 c14 y5 w2 hB2 p13 p7 p14 p5
    simp only [putAll, Act.put, List.setIfInBounds_toArray, List.set_cons_succ, List.set_cons_zero, List.drop_succ_cons, List.drop_zero]
    have HB2 := Lib.hid (HB.out.trans (hB2.mono HB.out.size))
    have HR2 := Lib.hid (HR.out.below hB2 HR.out.lt)
    have HP2 := Lib.hid p14
    have HQ2 := Lib.hid (HSP.out.below hB2 HSP.out.lt)
    have HY2 := Lib.hid p5
    clear hB2 p13 p7 p14 p5
    refine store_outH rfl _ _ rfl y5 rfl rfl HY2.out.1 rfl ?_
    intro w3 e3 h3
    have HB3 : Hid (Below w.heap.size w w3) := by rw [e3]; exact below_row HB2.out (by have := HY2.out.2; omega) _
    have HR3 : Hid (Has w3 (w.heap.size + 2) RsT (rslC 0 0 0 0 0 false none 0 0)) := by rw [e3]; exact HR2.out.rowFar (fun e => has_types (e ▸ HR2.out) HY2.out.1 (by decide)) _
    have HP3 : Hid (OutP w3 hs w.heap.size A14 n14 c14) := by rw [e3]; exact HP2.out.row HY2.out.1 (by decide) _
    have HY3 := Lib.hid h3
    have HQ3 : Hid (Has w3 w.heap.size 67 #[.int .i64 sa, .int .i64 sb]) := by rw [e3]; exact HQ2.out.rowFar (fun e => has_types (e ▸ HQ2.out) HY2.out.1 (by decide)) _
    clear e3 h3 HB2 HR2 HP2 HY2 HQ2
    go_upto_region 2 with fail
    refine lrs2_any (T0 := T0) (L := L) (lo := lo) (cur := cur) (r := r) (y := y5) (s := w.heap.size) (n := n14) (c := c14) (A := A14) (v := v) (sa := sa) (sb := sb) (oo := oo) ⟨rfl, rfl, rfl, rfl, HW.out.below HB3.out HW.out.lt, HC.out, HQ3.out, HY3.out⟩ (by kernel_rfl) ?_
    intro w4 hB4
    have HB4 := Lib.hid (HB3.out.trans (hB4.mono HB3.out.size))
    have HR4 := Lib.hid (HR3.out.below hB4 HR3.out.lt)
    have HP4 := Lib.hid (HP3.out.below hB4)
    clear hB4
    simp only [putAll, Act.put, List.setIfInBounds_toArray, List.set_cons_succ, List.set_cons_zero, List.drop_succ_cons, List.drop_zero]
    refine store_rsl rfl _ _ rfl (w.heap.size + 2) rfl rfl HR4.out rfl ?_
    go_wp2_with fail
    refine bodyPost_ret (ret_rowA rfl _ _ _ RsT (rslC r.k r.s sa sb v oo A14 n14 c14) _ rfl (HR4.out.row _) Tryz.underlying71 rfl (by exact Tryz.sizeRsl)) rfl ?_
    exact ⟨A14, n14, c14, rfl, HP4.out.row HR4.out (by decide) _, below_row HB4.out (by omega) _⟩
  · intro A13 n13 c13 A7 n7 c7 A14 n14 c14 y5 w2 hB2 p13 p7 p14 p5
    simp only [putAll, Act.put, List.setIfInBounds_toArray, List.set_cons_succ, List.set_cons_zero, pickL, List.filterMap_cons, List.getElem?_cons_succ, List.getElem?_cons_zero, List.filterMap_nil]
    have HB2 := Lib.hid (HB.out.trans (hB2.mono HB.out.size))
    have HR2 := Lib.hid (HR.out.below hB2 HR.out.lt)
    have HP2 := Lib.hid p14
    have HQ2 := Lib.hid (HSP.out.below hB2 HSP.out.lt)
    have HY2 := Lib.hid p5
    clear hB2 p13 p7 p14 p5
    refine store_outH rfl _ _ rfl y5 rfl rfl HY2.out.1 rfl ?_
    intro w3 e3 h3
    have HB3 : Hid (Below w.heap.size w w3) := by rw [e3]; exact below_row HB2.out (by have := HY2.out.2; omega) _
    have HR3 : Hid (Has w3 (w.heap.size + 2) RsT (rslC 0 0 0 0 0 false none 0 0)) := by rw [e3]; exact HR2.out.rowFar (fun e => has_types (e ▸ HR2.out) HY2.out.1 (by decide)) _
    have HP3 : Hid (OutP w3 hs w.heap.size A14 n14 c14) := by rw [e3]; exact HP2.out.row HY2.out.1 (by decide) _
    have HY3 := Lib.hid h3
    have HQ3 : Hid (Has w3 w.heap.size 67 #[.int .i64 sa, .int .i64 sb]) := by rw [e3]; exact HQ2.out.rowFar (fun e => has_types (e ▸ HQ2.out) HY2.out.1 (by decide)) _
    clear e3 h3 HB2 HR2 HP2 HY2 HQ2
    go_upto_region 2 with fail
    refine lrs2_any (T0 := T0) (L := L) (lo := lo) (cur := cur) (r := r) (y := y5) (s := w.heap.size) (n := n14) (c := c14) (A := A14) (v := v) (sa := sa) (sb := sb) (oo := oo) ⟨rfl, rfl, rfl, rfl, HW.out.below HB3.out HW.out.lt, HC.out, HQ3.out, HY3.out⟩ (by kernel_rfl) ?_
    intro w4 hB4
    have HB4 := Lib.hid (HB3.out.trans (hB4.mono HB3.out.size))
    have HR4 := Lib.hid (HR3.out.below hB4 HR3.out.lt)
    have HP4 := Lib.hid (HP3.out.below hB4)
    clear hB4
    simp only [putAll, Act.put, List.setIfInBounds_toArray, List.set_cons_succ, List.set_cons_zero, List.drop_succ_cons, List.drop_zero]
    refine store_rsl rfl _ _ rfl (w.heap.size + 2) rfl rfl HR4.out rfl ?_
    go_wp2_with fail
    refine bodyPost_ret (ret_rowA rfl _ _ _ RsT (rslC r.k r.s sa sb v oo A14 n14 c14) _ rfl (HR4.out.row _) Tryz.underlying71 rfl (by exact Tryz.sizeRsl)) rfl ?_
    exact ⟨A14, n14, c14, rfl, HP4.out.row HR4.out (by decide) _, below_row HB4.out (by omega) _⟩
end Go.Proofs.YtbpaepkcchpmbaaGreat
