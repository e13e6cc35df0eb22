/-
  compare's drawn region (written by gen/hpcmp.py).
-/
import Derived.Test.YtmhmekmacdkdgaaHpOr
import Derived.Test.YtmhmekmacdkdgaaRf
namespace Go.Proofs.Ytmhmekmacdkdgaa
open Go.RowKit

def row3 (x y z : Int) : Fact := fun v w => ∃ g, v = .slice (some ⟨g, 0, none⟩) 3 3 ∧ Has w g 3 (ints [x, y, z])
theorem row3_mono (x y z : Int) : Mono (row3 x y z) := fun _ _ _ hb ⟨g, e, h⟩ => ⟨g, e, h.below hb h.lt⟩
theorem rf_list3I {D : List (Option Tmp)} {Φ : Fact} {o : Oper} {a : Act} {w : World} (hw : Region.wanted o (yieldD D a.tmps) = true) {t : Tmp} (hd : o.dst = some t) (x y z : Operand) (ho : o.op = .buildSlice 23 3 #[(0, x), (1, y), (2, z)]) (p q r : Int) (hx : a.eval x = .int .i64 p) (hy : a.eval y = .int .i64 q) (hz : a.eval z = .int .i64 r) (h : ∀ v w', row3 p q r v w' → Φ v w') : StepD Try.prog D Φ o a w := by
  have e : (Instr.buildSlice 23 3 #[(0, .int .i64 p), (1, .int .i64 q), (2, .int .i64 r)]).run Try.prog w = .ok (.slice (some ⟨w.heap.size, 0, none⟩) 3 3) (w.alloc (.cells (ints [p, q, r]) 3)) := by kernel_rfl
  refine step_val hw hd (.slice (some ⟨w.heap.size, 0, none⟩) 3 3) (w.alloc (.cells (ints [p, q, r]) 3)) ?_ ((Below.refl _ w).alloc (Nat.le_refl _) _) (h _ _ ⟨_, rfl, Has.made _ _ _⟩)
  unfold execOp
  rw [ho]
  generalize a.eval = ev at hx hy hz ⊢
  simp only [List.map_toArray, List.map_cons, List.map_nil, hx, hy, hz, Sem.run_bind, e, Result.andThen_ok]
  rfl

def hcm1D : List (Option Tmp) := [some 5, some 6, some 7, some 8, some 9, some 10, some 11, some 12, some 13, some 14, some 15, some 16, some 17, some 18, some 19, some 4]
def hcm1F (g p : Nat) (x y : It) : List Fact := [isV (.agg #[.int .i64 x.s, .int .i64 x.t, .int .i64 x.q, .int .i64 x.v]), isV (.agg #[.int .i64 y.s, .int .i64 y.t, .int .i64 y.q, .int .i64 y.v]), isV (.int .i64 (cmpT x y)), isV (.pointer (some ⟨g, 0, none⟩)), isV (.int .i64 x.s), isV (.pointer (some ⟨p, 0, none⟩)), isV (.int .i64 y.s), isV (.int .i64 (cmpI x.s y.s)), isV (.pointer (some ⟨g, 3, none⟩)), isV (.int .i64 x.v), isV (.pointer (some ⟨p, 3, none⟩)), isV (.int .i64 y.v), isV (.int .i64 (cmpI x.v y.v)), row3 (cmpT x y) (cmpI x.s y.s) (cmpI x.v y.v), isV (.int .i64 (cmp4 x y)), isV (.int .i64 (cmp4 x y))]
theorem hcm1F_mono (g p : Nat) (x y : It) : ∀ φ ∈ hcm1F g p x y, Mono φ := by
  unfold hcm1F
  repeat (first | exact monos_nil | (refine monos_cons (mono_isV _) ?_) | (refine monos_cons (row3_mono _ _ _) ?_))
structure hcm1S (g p : Nat) (x y : It) (a0 : Act) (w0 : World) : Prop where
  size : a0.tmps.size = 20
  v2 : a0.tmps.getD 2 undef = .pointer (some ⟨g, 0, none⟩)
  v3 : a0.tmps.getD 3 undef = .pointer (some ⟨p, 0, none⟩)
  b1 : Has w0 g 34 #[.int .i64 x.s, .int .i64 x.t, .int .i64 x.q, .int .i64 x.v]
  b2 : Has w0 p 34 #[.int .i64 y.s, .int .i64 y.t, .int .i64 y.q, .int .i64 y.v]
section
variable {g p : Nat} {x y : It} {a0 : Act} {w0 : World} (S : hcm1S g p x y a0 w0)
include S
set_option maxRecDepth 100000 in
set_option maxHeartbeats 8000000 in
theorem hcm1_ok : AllOps (fun j o => ∀ (a : Act) (w : World), Below w0.heap.size w0 w → FrD hcm1D a0 a → needs hcm1D (hcm1F g p x y) a w o.after.toList → StepD Try.prog hcm1D (factAt (hcm1F g p x y) j) o a w) 0 (opsOf 1 Try.f38) := by
  simp only [opsOf, Try.f38, opsAt, Option.bind, Option.or, Option.getD, reduceCtorEq, if_true, if_false]
  refine ⟨?_, ?_⟩
  · intro _a _w hB hF _hd
    exact rf_loadS (guard_none rfl) rfl _ _ rfl _ _ ((hF.other 2 rfl).trans S.v2) _ (rf_range (S.b1.below hB S.b1.lt)) Try.underlying34 rfl (by kernel_rfl) rfl
  refine ⟨?_, ?_⟩
  · intro _a _w hB hF _hd
    exact rf_loadS (guard_none rfl) rfl _ _ rfl _ _ ((hF.other 3 rfl).trans S.v3) _ (rf_range (S.b2.below hB S.b2.lt)) Try.underlying34 rfl (by kernel_rfl) rfl
  refine ⟨?_, ?_⟩
  · intro a _w _hB _hF hd
    have h5 : a.tmps.getD 5 undef = .agg #[.int .i64 x.s, .int .i64 x.t, .int .i64 x.q, .int .i64 x.v] := hd.1 rfl
    have h6 : a.tmps.getD 6 undef = .agg #[.int .i64 y.s, .int .i64 y.t, .int .i64 y.q, .int .i64 y.v] := hd.2.1 rfl
    refine step_call (guard_none rfl) rfl _ _ (rf_call_run Try.func40 (by kernel_rfl) (by kernel_rfl) _ _ rfl) ?_
    simp only [List.map_toArray, List.map_cons, List.map_nil, Act.eval, h5, h6]
    exact (compare_any x y _).mono (by rintro e w1 ⟨rfl, hb⟩; exact ⟨_, rfl, hb, rfl⟩)
  refine ⟨?_, ?_⟩
  · intro _a _w _hB hF _hd
    exact rf_faddr (guard_none rfl) rfl _ _ _ rfl _ _ 0 _ ((hF.other 2 rfl).trans S.v2) (by omega) (fun _ _ => by kernel_rfl) rfl
  refine ⟨?_, ?_⟩
  · intro a _w hB _hF hd
    have h8 : a.tmps.getD 8 undef = .pointer (some ⟨g, 0, none⟩) := hd.1 rfl
    exact rf_loadi (guard_none rfl) rfl _ rfl _ _ h8 _ ((Has.cell (S.b1.below hB S.b1.lt) 0).trans rfl) rfl
  refine ⟨?_, ?_⟩
  · intro _a _w _hB hF _hd
    exact rf_faddr (guard_none rfl) rfl _ _ _ rfl _ _ 0 _ ((hF.other 3 rfl).trans S.v3) (by omega) (fun _ _ => by kernel_rfl) rfl
  refine ⟨?_, ?_⟩
  · intro a _w hB _hF hd
    have h10 : a.tmps.getD 10 undef = .pointer (some ⟨p, 0, none⟩) := hd.1 rfl
    exact rf_loadi (guard_none rfl) rfl _ rfl _ _ h10 _ ((Has.cell (S.b2.below hB S.b2.lt) 0).trans rfl) rfl
  refine ⟨?_, ?_⟩
  · intro a _w _hB _hF hd
    have h9 : a.tmps.getD 9 undef = .int .i64 x.s := hd.1 rfl
    have h11 : a.tmps.getD 11 undef = .int .i64 y.s := hd.2.1 rfl
    refine step_call (guard_none rfl) rfl _ _ (rf_call_run Try.func41 (by kernel_rfl) (by kernel_rfl) _ _ rfl) ?_
    simp only [List.map_toArray, List.map_cons, List.map_nil, Act.eval, h9, h11]
    exact (cmp_any _ _ _).mono (by rintro e w1 ⟨rfl, rfl⟩; exact ⟨_, rfl, Below.refl _ _, rfl⟩)
  refine ⟨?_, ?_⟩
  · intro _a _w _hB hF _hd
    exact rf_faddr (guard_none rfl) rfl _ _ _ rfl _ _ 3 _ ((hF.other 2 rfl).trans S.v2) (by omega) (fun _ _ => by kernel_rfl) rfl
  refine ⟨?_, ?_⟩
  · intro a _w hB _hF hd
    have h13 : a.tmps.getD 13 undef = .pointer (some ⟨g, 3, none⟩) := hd.1 rfl
    exact rf_loadi (guard_none rfl) rfl _ rfl _ _ h13 _ ((Has.cell (S.b1.below hB S.b1.lt) 3).trans rfl) rfl
  refine ⟨?_, ?_⟩
  · intro _a _w _hB hF _hd
    exact rf_faddr (guard_none rfl) rfl _ _ _ rfl _ _ 3 _ ((hF.other 3 rfl).trans S.v3) (by omega) (fun _ _ => by kernel_rfl) rfl
  refine ⟨?_, ?_⟩
  · intro a _w hB _hF hd
    have h15 : a.tmps.getD 15 undef = .pointer (some ⟨p, 3, none⟩) := hd.1 rfl
    exact rf_loadi (guard_none rfl) rfl _ rfl _ _ h15 _ ((Has.cell (S.b2.below hB S.b2.lt) 3).trans rfl) rfl
  refine ⟨?_, ?_⟩
  · intro a _w _hB _hF hd
    have h14 : a.tmps.getD 14 undef = .int .i64 x.v := hd.1 rfl
    have h16 : a.tmps.getD 16 undef = .int .i64 y.v := hd.2.1 rfl
    refine step_call (guard_none rfl) rfl _ _ (rf_call_run Try.func41 (by kernel_rfl) (by kernel_rfl) _ _ rfl) ?_
    simp only [List.map_toArray, List.map_cons, List.map_nil, Act.eval, h14, h16]
    exact (cmp_any _ _ _).mono (by rintro e w1 ⟨rfl, rfl⟩; exact ⟨_, rfl, Below.refl _ _, rfl⟩)
  refine ⟨?_, ?_⟩
  · intro a _w _hB _hF hd
    have h7 : a.tmps.getD 7 undef = .int .i64 (cmpT x y) := hd.1 rfl
    have h12 : a.tmps.getD 12 undef = .int .i64 (cmpI x.s y.s) := hd.2.1 rfl
    have h17 : a.tmps.getD 17 undef = .int .i64 (cmpI x.v y.v) := hd.2.2.1 rfl
    exact rf_list3I (guard_none rfl) rfl _ _ _ rfl (cmpT x y) (cmpI x.s y.s) (cmpI x.v y.v) h7 h12 h17 (fun _ _ h => h)
  refine ⟨?_, ?_⟩
  · intro a w _hB _hF hd
    obtain ⟨g18, h18, p18⟩ : row3 (cmpT x y) (cmpI x.s y.s) (cmpI x.v y.v) (a.tmps.getD 18 undef) w := hd.1 rfl
    refine step_call (guard_none rfl) rfl _ _ (rf_call_run Try.func39 (by kernel_rfl) (by kernel_rfl) _ _ rfl) ?_
    simp only [List.map_toArray, List.map_cons, List.map_nil, Act.eval, h18]
    exact (or3_any (cmpT x y) (cmpI x.s y.s) (cmpI x.v y.v) _ _ ((p18.cell 0).trans rfl) ((p18.cell 1).trans rfl) ((p18.cell 2).trans rfl)).mono (by rintro e w1 ⟨rfl, rfl⟩; exact ⟨_, rfl, Below.refl _ _, rfl⟩)
  refine ⟨?_, ?_⟩
  · intro a _w _hB _hF hd
    have h19 : a.tmps.getD 19 undef = .int .i64 (cmp4 x y) := hd.1 rfl
    exact step_assign (guard_none rfl) rfl _ rfl h19
  trivial
theorem hcm1_any {Q : Exit → Act → World → Prop} {l : List Oper} (hl : opsOf 1 Try.f38 = l) (hend : ∀ (g18 : Nat), ∀ w : World, Below w0.heap.size w0 w → Has w g18 3 (ints [cmpT x y, cmpI x.s y.s, cmpI x.v y.v]) → Q .normal (putAll a0 [(5, .agg #[.int .i64 x.s, .int .i64 x.t, .int .i64 x.q, .int .i64 x.v]), (6, .agg #[.int .i64 y.s, .int .i64 y.t, .int .i64 y.q, .int .i64 y.v]), (7, .int .i64 (cmpT x y)), (8, .pointer (some ⟨g, 0, none⟩)), (9, .int .i64 x.s), (10, .pointer (some ⟨p, 0, none⟩)), (11, .int .i64 y.s), (12, .int .i64 (cmpI x.s y.s)), (13, .pointer (some ⟨g, 3, none⟩)), (14, .int .i64 x.v), (15, .pointer (some ⟨p, 3, none⟩)), (16, .int .i64 y.v), (17, .int .i64 (cmpI x.v y.v)), (18, .slice (some ⟨g18, 0, none⟩) 3 3), (19, .int .i64 (cmp4 x y)), (4, .int .i64 (cmp4 x y))]) w) :
    (Code.region 1 l.toArray true).wp Try.prog Q a0 w0 := by
  subst hl
  refine region_facts2 (hcm1F g p x y) hcm1D 20 S.size rfl (by kernel_rfl) (by kernel_rfl) (hcm1F_mono _ _ _ _) (hcm1_ok S) fun a w hB hF h => ?_
  obtain ⟨g18, h18, p18⟩ : row3 (cmpT x y) (cmpI x.s y.s) (cmpI x.v y.v) (a.tmps.getD 18 undef) w := h 13 (some 18) rfl
  have hv : valsAre a [(5, .agg #[.int .i64 x.s, .int .i64 x.t, .int .i64 x.q, .int .i64 x.v]), (6, .agg #[.int .i64 y.s, .int .i64 y.t, .int .i64 y.q, .int .i64 y.v]), (7, .int .i64 (cmpT x y)), (8, .pointer (some ⟨g, 0, none⟩)), (9, .int .i64 x.s), (10, .pointer (some ⟨p, 0, none⟩)), (11, .int .i64 y.s), (12, .int .i64 (cmpI x.s y.s)), (13, .pointer (some ⟨g, 3, none⟩)), (14, .int .i64 x.v), (15, .pointer (some ⟨p, 3, none⟩)), (16, .int .i64 y.v), (17, .int .i64 (cmpI x.v y.v)), (18, .slice (some ⟨g18, 0, none⟩) 3 3), (19, .int .i64 (cmp4 x y)), (4, .int .i64 (cmp4 x y))] := by
    refine ⟨?_, ?_, ?_, ?_, ?_, ?_, ?_, ?_, ?_, ?_, ?_, ?_, ?_, ?_, ?_, ?_, trivial⟩
    · exact h 0 (some 5) rfl
    · exact h 1 (some 6) rfl
    · exact h 2 (some 7) rfl
    · exact h 3 (some 8) rfl
    · exact h 4 (some 9) rfl
    · exact h 5 (some 10) rfl
    · exact h 6 (some 11) rfl
    · exact h 7 (some 12) rfl
    · exact h 8 (some 13) rfl
    · exact h 9 (some 14) rfl
    · exact h 10 (some 15) rfl
    · exact h 11 (some 16) rfl
    · exact h 12 (some 17) rfl
    · exact h18
    · exact h 14 (some 19) rfl
    · exact h 15 (some 4) rfl
  rw [frame_is hF _ hv (by rfl) (by rfl)]
  exact hend g18 w hB p18
end

end Go.Proofs.Ytmhmekmacdkdgaa
