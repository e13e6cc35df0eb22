/-
  PutOp's two drawn regions: numbers' bytes, one behind the other: their facts, one by one (written by gen/wirp.py).
-/
import Derived.Test.YtoechlmahckchaaRf
import Derived.Test.YtoechlmahckchaaG11d
namespace Go.Proofs.Ytoechlmahckchaa
open Go.RowKit

section
variable {P : Program} {D : List (Option Tmp)} {Φ : Fact} {o : Oper} {a : Act} {w : World}
theorem rf_addS (hw : Region.wanted o (yieldD D a.tmps) = true) {t : Tmp} (hd : o.dst = some t) (x y : Operand) (ho : o.op = .binOp .add 9 x y 9) (p q : ByteArray) (hx : a.eval x = .string p) (hy : a.eval y = .string q) (h0 : p.size + q.size ≤ 1000) {v : Value} (hv : .string (p ++ q) = v) (h : Φ v w) : StepD Try.prog D Φ o a w :=
  step_val hw hd v w (by subst hv; unfold execOp; rw [ho]; have e := run_string_add_sum (P := Try.prog) w p q (by omega); generalize a.eval = ev at hx hy ⊢; simp [hx, hy, e, go_sem]) (Below.refl _ _) h
end

def po6D : List (Option Tmp) := [some 15, some 16, some 17, some 18, some 19, some 20, some 21, some 22, some 23, some 24, some 25, some 26, some 27, some 28, some 29, some 30, some 31, some 4]
def po6F (_kd so se ti va : Int) (p q1 q2 q3 q4 : ByteArray) (g : Nat) : List Fact := [isV (.string p), isV (.pointer (some ⟨g, 1, none⟩)), isV (.int .i64 so), isV (.string q1), isV (.string (p ++ q1)), isV (.pointer (some ⟨g, 2, none⟩)), isV (.int .i64 se), isV (.string q2), isV (.string (p ++ q1 ++ q2)), isV (.pointer (some ⟨g, 3, none⟩)), isV (.int .i64 ti), isV (.string q3), isV (.string (p ++ q1 ++ q2 ++ q3)), isV (.pointer (some ⟨g, 4, none⟩)), isV (.int .i64 va), isV (.string q4), isV (.string (p ++ q1 ++ q2 ++ q3 ++ q4))]
theorem po6F_mono (kd so se ti va : Int) (p q1 q2 q3 q4 : ByteArray) (g : Nat) : ∀ φ ∈ po6F kd so se ti va p q1 q2 q3 q4 g, Mono φ := by
  unfold po6F
  repeat (first | exact monos_nil | (refine monos_cons (mono_isV _) ?_))
structure po6S (kd so se ti va : Int) (p q1 q2 q3 q4 : ByteArray) (g : Nat) (a0 : Act) (w0 : World) : Prop where
  size : a0.tmps.size = 44
  v1 : a0.tmps.getD 1 undef = .pointer (some ⟨g, 0, none⟩)
  v4 : a0.tmps.getD 4 undef = .string p
  box : Has w0 g 49 #[.int .i64 kd, .int .i64 so, .int .i64 se, .int .i64 ti, .int .i64 va]
  z : p.size ≤ 10 ∧ q1.size ≤ 10 ∧ q2.size ≤ 10 ∧ q3.size ≤ 10 ∧ q4.size ≤ 10
  hso : ∀ W : World, Calls Try.prog 46 #[.int .i64 so] W fun e w' => e = .returned (.string q1) ∧ Below W.heap.size W w'
  hse : ∀ W : World, Calls Try.prog 46 #[.int .i64 se] W fun e w' => e = .returned (.string q2) ∧ Below W.heap.size W w'
  hti : ∀ W : World, Calls Try.prog 46 #[.int .i64 ti] W fun e w' => e = .returned (.string q3) ∧ Below W.heap.size W w'
  hva : ∀ W : World, Calls Try.prog 46 #[.int .i64 va] W fun e w' => e = .returned (.string q4) ∧ Below W.heap.size W w'
section
variable {kd so se ti va : Int} {p q1 q2 q3 q4 : ByteArray} {g : Nat} {a0 : Act} {w0 : World} (S : po6S kd so se ti va p q1 q2 q3 q4 g a0 w0)
include S
set_option maxRecDepth 100000 in
set_option maxHeartbeats 8000000 in
theorem po6_ok : AllOps (fun j o => ∀ (a : Act) (w : World), Below w0.heap.size w0 w → FrD (po6D.take 17) a0 a → needs po6D (po6F kd so se ti va p q1 q2 q3 q4 g) a w o.after.toList → StepD Try.prog po6D (factAt (po6F kd so se ti va p q1 q2 q3 q4 g) j) o a w) 0 ((opsOf 6 Try.f36).take 17) := by
  simp only [opsOf, Try.f36, opsAt, Option.bind, Option.or, Option.getD, reduceCtorEq, if_true, if_false, Nat.reduceEqDiff, List.take_succ_cons, List.take_zero]
  refine ⟨?_, ?_⟩
  · intro _a _w _hB hF _hd
    exact step_move (guard_none rfl) rfl _ rfl ((hF.other 4 rfl).trans S.v4)
  refine ⟨?_, ?_⟩
  · intro _a _w _hB hF _hd
    exact rf_faddr (guard_none rfl) rfl _ _ _ rfl _ _ 1 _ ((hF.other 1 rfl).trans S.v1) (by omega) (fun _ _ => by kernel_rfl) rfl
  refine ⟨?_, ?_⟩
  · intro a _w hB _hF hd
    have h16 : a.tmps.getD 16 undef = .pointer (some ⟨g, 1, none⟩) := hd.1 rfl
    exact rf_loadi (guard_none rfl) rfl _ rfl _ _ h16 _ ((Has.cell (S.box.below hB S.box.lt) 1).trans rfl) rfl
  refine ⟨?_, ?_⟩
  · intro a _w _hB _hF hd
    have h17 : a.tmps.getD 17 undef = .int .i64 so := hd.1 rfl
    refine step_call (guard_none rfl) rfl _ _ (rf_call_run Try.func46 (by kernel_rfl) (by kernel_rfl) _ _ rfl) ?_
    simp only [List.map_toArray, List.map_cons, List.map_nil, Act.eval, h17]
    exact (S.hso _).mono (by rintro e w1 ⟨rfl, hb⟩; exact ⟨_, rfl, hb, rfl⟩)
  refine ⟨?_, ?_⟩
  · intro a _w _hB _hF hd
    have h15 : a.tmps.getD 15 undef = .string p := hd.1 rfl
    have h18 : a.tmps.getD 18 undef = .string q1 := hd.2.1 rfl
    exact rf_addS (guard_none rfl) rfl _ _ rfl _ _ h15 h18 (by have := S.z; (try simp only [ByteArray.size_append]); omega) rfl rfl
  refine ⟨?_, ?_⟩
  · intro _a _w _hB hF _hd
    exact rf_faddr (guard_none rfl) rfl _ _ _ rfl _ _ 2 _ ((hF.other 1 rfl).trans S.v1) (by omega) (fun _ _ => by kernel_rfl) rfl
  refine ⟨?_, ?_⟩
  · intro a _w hB _hF hd
    have h20 : a.tmps.getD 20 undef = .pointer (some ⟨g, 2, none⟩) := hd.1 rfl
    exact rf_loadi (guard_none rfl) rfl _ rfl _ _ h20 _ ((Has.cell (S.box.below hB S.box.lt) 2).trans rfl) rfl
  refine ⟨?_, ?_⟩
  · intro a _w _hB _hF hd
    have h21 : a.tmps.getD 21 undef = .int .i64 se := hd.1 rfl
    refine step_call (guard_none rfl) rfl _ _ (rf_call_run Try.func46 (by kernel_rfl) (by kernel_rfl) _ _ rfl) ?_
    simp only [List.map_toArray, List.map_cons, List.map_nil, Act.eval, h21]
    exact (S.hse _).mono (by rintro e w1 ⟨rfl, hb⟩; exact ⟨_, rfl, hb, rfl⟩)
  refine ⟨?_, ?_⟩
  · intro a _w _hB _hF hd
    have h19 : a.tmps.getD 19 undef = .string (p ++ q1) := hd.1 rfl
    have h22 : a.tmps.getD 22 undef = .string q2 := hd.2.1 rfl
    exact rf_addS (guard_none rfl) rfl _ _ rfl _ _ h19 h22 (by have := S.z; (try simp only [ByteArray.size_append]); omega) rfl rfl
  refine ⟨?_, ?_⟩
  · intro _a _w _hB hF _hd
    exact rf_faddr (guard_none rfl) rfl _ _ _ rfl _ _ 3 _ ((hF.other 1 rfl).trans S.v1) (by omega) (fun _ _ => by kernel_rfl) rfl
  refine ⟨?_, ?_⟩
  · intro a _w hB _hF hd
    have h24 : a.tmps.getD 24 undef = .pointer (some ⟨g, 3, none⟩) := hd.1 rfl
    exact rf_loadi (guard_none rfl) rfl _ rfl _ _ h24 _ ((Has.cell (S.box.below hB S.box.lt) 3).trans rfl) rfl
  refine ⟨?_, ?_⟩
  · intro a _w _hB _hF hd
    have h25 : a.tmps.getD 25 undef = .int .i64 ti := hd.1 rfl
    refine step_call (guard_none rfl) rfl _ _ (rf_call_run Try.func46 (by kernel_rfl) (by kernel_rfl) _ _ rfl) ?_
    simp only [List.map_toArray, List.map_cons, List.map_nil, Act.eval, h25]
    exact (S.hti _).mono (by rintro e w1 ⟨rfl, hb⟩; exact ⟨_, rfl, hb, rfl⟩)
  refine ⟨?_, ?_⟩
  · intro a _w _hB _hF hd
    have h23 : a.tmps.getD 23 undef = .string (p ++ q1 ++ q2) := hd.1 rfl
    have h26 : a.tmps.getD 26 undef = .string q3 := hd.2.1 rfl
    exact rf_addS (guard_none rfl) rfl _ _ rfl _ _ h23 h26 (by have := S.z; (try simp only [ByteArray.size_append]); omega) rfl rfl
  refine ⟨?_, ?_⟩
  · intro _a _w _hB hF _hd
    exact rf_faddr (guard_none rfl) rfl _ _ _ rfl _ _ 4 _ ((hF.other 1 rfl).trans S.v1) (by omega) (fun _ _ => by kernel_rfl) rfl
  refine ⟨?_, ?_⟩
  · intro a _w hB _hF hd
    have h28 : a.tmps.getD 28 undef = .pointer (some ⟨g, 4, none⟩) := hd.1 rfl
    exact rf_loadi (guard_none rfl) rfl _ rfl _ _ h28 _ ((Has.cell (S.box.below hB S.box.lt) 4).trans rfl) rfl
  refine ⟨?_, ?_⟩
  · intro a _w _hB _hF hd
    have h29 : a.tmps.getD 29 undef = .int .i64 va := hd.1 rfl
    refine step_call (guard_none rfl) rfl _ _ (rf_call_run Try.func46 (by kernel_rfl) (by kernel_rfl) _ _ rfl) ?_
    simp only [List.map_toArray, List.map_cons, List.map_nil, Act.eval, h29]
    exact (S.hva _).mono (by rintro e w1 ⟨rfl, hb⟩; exact ⟨_, rfl, hb, rfl⟩)
  refine ⟨?_, ?_⟩
  · intro a _w _hB _hF hd
    have h27 : a.tmps.getD 27 undef = .string (p ++ q1 ++ q2 ++ q3) := hd.1 rfl
    have h30 : a.tmps.getD 30 undef = .string q4 := hd.2.1 rfl
    exact rf_addS (guard_none rfl) rfl _ _ rfl _ _ h27 h30 (by have := S.z; (try simp only [ByteArray.size_append]); omega) rfl rfl
  trivial
theorem po6_any {Q : Exit → Act → World → Prop} {l : List Oper} (hl : opsOf 6 Try.f36 = l) (hend : ∀ w : World, Below w0.heap.size w0 w → wpList Try.prog l.toArray Q (l.drop 17) (putAll a0 [(15, .string p), (16, .pointer (some ⟨g, 1, none⟩)), (17, .int .i64 so), (18, .string q1), (19, .string (p ++ q1)), (20, .pointer (some ⟨g, 2, none⟩)), (21, .int .i64 se), (22, .string q2), (23, .string (p ++ q1 ++ q2)), (24, .pointer (some ⟨g, 3, none⟩)), (25, .int .i64 ti), (26, .string q3), (27, .string (p ++ q1 ++ q2 ++ q3)), (28, .pointer (some ⟨g, 4, none⟩)), (29, .int .i64 va), (30, .string q4), (31, .string (p ++ q1 ++ q2 ++ q3 ++ q4))]) w) :
    (Code.region 6 l.toArray true).wp Try.prog Q a0 w0 := by
  subst hl
  refine region_head2 (po6F kd so se ti va p q1 q2 q3 q4 g) po6D 17 44 S.size rfl (by kernel_rfl) (by kernel_rfl) (by kernel_rfl) (po6F_mono _ _ _ _ _ _ _ _ _ _ _) (po6_ok S) fun a w hB hF h => ?_
  have hv : valsAre a [(15, .string p), (16, .pointer (some ⟨g, 1, none⟩)), (17, .int .i64 so), (18, .string q1), (19, .string (p ++ q1)), (20, .pointer (some ⟨g, 2, none⟩)), (21, .int .i64 se), (22, .string q2), (23, .string (p ++ q1 ++ q2)), (24, .pointer (some ⟨g, 3, none⟩)), (25, .int .i64 ti), (26, .string q3), (27, .string (p ++ q1 ++ q2 ++ q3)), (28, .pointer (some ⟨g, 4, none⟩)), (29, .int .i64 va), (30, .string q4), (31, .string (p ++ q1 ++ q2 ++ q3 ++ q4))] := by
    refine ⟨?_, ?_, ?_, ?_, ?_, ?_, ?_, ?_, ?_, ?_, ?_, ?_, ?_, ?_, ?_, ?_, ?_, trivial⟩
    · exact h 0 (some 15) (by omega) rfl
    · exact h 1 (some 16) (by omega) rfl
    · exact h 2 (some 17) (by omega) rfl
    · exact h 3 (some 18) (by omega) rfl
    · exact h 4 (some 19) (by omega) rfl
    · exact h 5 (some 20) (by omega) rfl
    · exact h 6 (some 21) (by omega) rfl
    · exact h 7 (some 22) (by omega) rfl
    · exact h 8 (some 23) (by omega) rfl
    · exact h 9 (some 24) (by omega) rfl
    · exact h 10 (some 25) (by omega) rfl
    · exact h 11 (some 26) (by omega) rfl
    · exact h 12 (some 27) (by omega) rfl
    · exact h 13 (some 28) (by omega) rfl
    · exact h 14 (some 29) (by omega) rfl
    · exact h 15 (some 30) (by omega) rfl
    · exact h 16 (some 31) (by omega) rfl
  rw [frame_is hF _ hv (by rfl) (by rfl)]
  exact hend w hB
end

def po8D : List (Option Tmp) := [some 34, some 35, some 36, some 37, some 38, some 39, some 40, some 41, some 42, some 4]
def po8F (_kd so _se ti _va : Int) (p q1 _q2 q3 _q4 : ByteArray) (g : Nat) : List Fact := [isV (.string p), isV (.pointer (some ⟨g, 1, none⟩)), isV (.int .i64 so), isV (.string q1), isV (.string (p ++ q1)), isV (.pointer (some ⟨g, 3, none⟩)), isV (.int .i64 ti), isV (.string q3), isV (.string (p ++ q1 ++ q3))]
theorem po8F_mono (kd so se ti va : Int) (p q1 q2 q3 q4 : ByteArray) (g : Nat) : ∀ φ ∈ po8F kd so se ti va p q1 q2 q3 q4 g, Mono φ := by
  unfold po8F
  repeat (first | exact monos_nil | (refine monos_cons (mono_isV _) ?_))
structure po8S (kd so se ti va : Int) (p q1 q2 q3 q4 : ByteArray) (g : Nat) (a0 : Act) (w0 : World) : Prop where
  size : a0.tmps.size = 44
  v1 : a0.tmps.getD 1 undef = .pointer (some ⟨g, 0, none⟩)
  v4 : a0.tmps.getD 4 undef = .string p
  box : Has w0 g 49 #[.int .i64 kd, .int .i64 so, .int .i64 se, .int .i64 ti, .int .i64 va]
  z : p.size ≤ 10 ∧ q1.size ≤ 10 ∧ q2.size ≤ 10 ∧ q3.size ≤ 10 ∧ q4.size ≤ 10
  hso : ∀ W : World, Calls Try.prog 46 #[.int .i64 so] W fun e w' => e = .returned (.string q1) ∧ Below W.heap.size W w'
  hti : ∀ W : World, Calls Try.prog 46 #[.int .i64 ti] W fun e w' => e = .returned (.string q3) ∧ Below W.heap.size W w'
section
variable {kd so se ti va : Int} {p q1 q2 q3 q4 : ByteArray} {g : Nat} {a0 : Act} {w0 : World} (S : po8S kd so se ti va p q1 q2 q3 q4 g a0 w0)
include S
set_option maxRecDepth 100000 in
set_option maxHeartbeats 8000000 in
theorem po8_ok : AllOps (fun j o => ∀ (a : Act) (w : World), Below w0.heap.size w0 w → FrD (po8D.take 9) a0 a → needs po8D (po8F kd so se ti va p q1 q2 q3 q4 g) a w o.after.toList → StepD Try.prog po8D (factAt (po8F kd so se ti va p q1 q2 q3 q4 g) j) o a w) 0 ((opsOf 8 Try.f36).take 9) := by
  simp only [opsOf, Try.f36, opsAt, Option.bind, Option.or, Option.getD, reduceCtorEq, if_true, if_false, Nat.reduceEqDiff, List.take_succ_cons, List.take_zero]
  refine ⟨?_, ?_⟩
  · intro _a _w _hB hF _hd
    exact step_move (guard_none rfl) rfl _ rfl ((hF.other 4 rfl).trans S.v4)
  refine ⟨?_, ?_⟩
  · intro _a _w _hB hF _hd
    exact rf_faddr (guard_none rfl) rfl _ _ _ rfl _ _ 1 _ ((hF.other 1 rfl).trans S.v1) (by omega) (fun _ _ => by kernel_rfl) rfl
  refine ⟨?_, ?_⟩
  · intro a _w hB _hF hd
    have h35 : a.tmps.getD 35 undef = .pointer (some ⟨g, 1, none⟩) := hd.1 rfl
    exact rf_loadi (guard_none rfl) rfl _ rfl _ _ h35 _ ((Has.cell (S.box.below hB S.box.lt) 1).trans rfl) rfl
  refine ⟨?_, ?_⟩
  · intro a _w _hB _hF hd
    have h36 : a.tmps.getD 36 undef = .int .i64 so := hd.1 rfl
    refine step_call (guard_none rfl) rfl _ _ (rf_call_run Try.func46 (by kernel_rfl) (by kernel_rfl) _ _ rfl) ?_
    simp only [List.map_toArray, List.map_cons, List.map_nil, Act.eval, h36]
    exact (S.hso _).mono (by rintro e w1 ⟨rfl, hb⟩; exact ⟨_, rfl, hb, rfl⟩)
  refine ⟨?_, ?_⟩
  · intro a _w _hB _hF hd
    have h34 : a.tmps.getD 34 undef = .string p := hd.1 rfl
    have h37 : a.tmps.getD 37 undef = .string q1 := hd.2.1 rfl
    exact rf_addS (guard_none rfl) rfl _ _ rfl _ _ h34 h37 (by have := S.z; (try simp only [ByteArray.size_append]); omega) rfl rfl
  refine ⟨?_, ?_⟩
  · intro _a _w _hB hF _hd
    exact rf_faddr (guard_none rfl) rfl _ _ _ rfl _ _ 3 _ ((hF.other 1 rfl).trans S.v1) (by omega) (fun _ _ => by kernel_rfl) rfl
  refine ⟨?_, ?_⟩
  · intro a _w hB _hF hd
    have h39 : a.tmps.getD 39 undef = .pointer (some ⟨g, 3, none⟩) := hd.1 rfl
    exact rf_loadi (guard_none rfl) rfl _ rfl _ _ h39 _ ((Has.cell (S.box.below hB S.box.lt) 3).trans rfl) rfl
  refine ⟨?_, ?_⟩
  · intro a _w _hB _hF hd
    have h40 : a.tmps.getD 40 undef = .int .i64 ti := hd.1 rfl
    refine step_call (guard_none rfl) rfl _ _ (rf_call_run Try.func46 (by kernel_rfl) (by kernel_rfl) _ _ rfl) ?_
    simp only [List.map_toArray, List.map_cons, List.map_nil, Act.eval, h40]
    exact (S.hti _).mono (by rintro e w1 ⟨rfl, hb⟩; exact ⟨_, rfl, hb, rfl⟩)
  refine ⟨?_, ?_⟩
  · intro a _w _hB _hF hd
    have h38 : a.tmps.getD 38 undef = .string (p ++ q1) := hd.1 rfl
    have h41 : a.tmps.getD 41 undef = .string q3 := hd.2.1 rfl
    exact rf_addS (guard_none rfl) rfl _ _ rfl _ _ h38 h41 (by have := S.z; (try simp only [ByteArray.size_append]); omega) rfl rfl
  trivial
theorem po8_any {Q : Exit → Act → World → Prop} {l : List Oper} (hl : opsOf 8 Try.f36 = l) (hend : ∀ w : World, Below w0.heap.size w0 w → wpList Try.prog l.toArray Q (l.drop 9) (putAll a0 [(34, .string p), (35, .pointer (some ⟨g, 1, none⟩)), (36, .int .i64 so), (37, .string q1), (38, .string (p ++ q1)), (39, .pointer (some ⟨g, 3, none⟩)), (40, .int .i64 ti), (41, .string q3), (42, .string (p ++ q1 ++ q3))]) w) :
    (Code.region 8 l.toArray true).wp Try.prog Q a0 w0 := by
  subst hl
  refine region_head2 (po8F kd so se ti va p q1 q2 q3 q4 g) po8D 9 44 S.size rfl (by kernel_rfl) (by kernel_rfl) (by kernel_rfl) (po8F_mono _ _ _ _ _ _ _ _ _ _ _) (po8_ok S) fun a w hB hF h => ?_
  have hv : valsAre a [(34, .string p), (35, .pointer (some ⟨g, 1, none⟩)), (36, .int .i64 so), (37, .string q1), (38, .string (p ++ q1)), (39, .pointer (some ⟨g, 3, none⟩)), (40, .int .i64 ti), (41, .string q3), (42, .string (p ++ q1 ++ q3))] := by
    refine ⟨?_, ?_, ?_, ?_, ?_, ?_, ?_, ?_, ?_, trivial⟩
    · exact h 0 (some 34) (by omega) rfl
    · exact h 1 (some 35) (by omega) rfl
    · exact h 2 (some 36) (by omega) rfl
    · exact h 3 (some 37) (by omega) rfl
    · exact h 4 (some 38) (by omega) rfl
    · exact h 5 (some 39) (by omega) rfl
    · exact h 6 (some 40) (by omega) rfl
    · exact h 7 (some 41) (by omega) rfl
    · exact h 8 (some 42) (by omega) rfl
  rw [frame_is hF _ hv (by rfl) (by rfl)]
  exact hend w hB
end

end Go.Proofs.Ytoechlmahckchaa
