/-
  PutRec's two drawn regions: numbers' bytes, one behind the other: their facts, one by one (written by gen/rcrp.py).
-/
import Derived.Test.YtdbcmcdmipehgaaRf
import Derived.Test.YtdbcmcdmipehgaaHead2
namespace Go.Proofs.Ytdbcmcdmipehgaa
open Go.RowKit

section
variable {P : Program} {D : List (Option Tmp)} {Φ : Fact} {o : Oper} {a : Act} {w : World}
theorem rf_addS (hw : Region.wanted o (yieldD D a.tmps) = true) {t : Tmp} (hd : o.dst = some t) (x y : Operand) (ho : o.op = .binOp .add 9 x y 9) (p q : ByteArray) (hx : a.eval x = .string p) (hy : a.eval y = .string q) (h0 : p.size + q.size ≤ 1000) {v : Value} (hv : .string (p ++ q) = v) (h : Φ v w) : StepD Try.prog D Φ o a w :=
  step_val hw hd v w (by subst hv; unfold execOp; rw [ho]; have e := run_string_add_sum (P := Try.prog) w p q (by omega); generalize a.eval = ev at hx hy ⊢; simp [hx, hy, e, go_sem]) (Below.refl _ _) h
theorem rf_loadI_run (g k : Nat) (A : Option Addr) (m c : Nat) (w : World) (h : w.cell? ⟨g, k, none⟩ = some (.slice A m c)) : (Instr.loadAt 24 (.pointer (some ⟨g, k, none⟩))).run Try.prog w = .ok (.slice A m c) w := by simp [go_sem, h, Instr.loadAt]
theorem rf_loadI (hw : Region.wanted o (yieldD D a.tmps) = true) {t : Tmp} (hd : o.dst = some t) (x : Operand) (ho : o.op = .load 24 x) (g k : Nat) (hx : a.eval x = .pointer (some ⟨g, k, none⟩)) {A : Option Addr} {m c : Nat}
    (hc : w.cell? ⟨g, k, none⟩ = some (.slice A m c)) (h : Φ (.slice A m c) w) : StepD Try.prog D Φ o a w := by
  refine step_val hw hd _ _ ?_ (Below.refl _ _) h
  unfold execOp
  rw [ho]
  simp only [hx, Sem.run_bind, rf_loadI_run g k A m c w hc, Result.andThen_ok]
  rfl
end

def pr9D : List (Option Tmp) := [some 21, some 22, some 23, some 24, some 25, some 26, some 27, some 28, some 29, some 30, some 31, some 32, some 33, some 34, some 35, some 36, some 37, some 38, some 39, some 40, some 41, some 42, some 43, some 44, some 45, some 46, some 47, some 48, some 49, some 50, some 51, some 52, some 53, some 54, some 55, some 56, some 57, some 58, some 59, some 4]
def pr9F (_kd qu sr st en va : Int) (_ov : Bool) (A : Option Addr) (n c : Nat) (_se _ti _sq _bd bo : Int) (p q1 q2 q3 q4 q5 q6 q7 : ByteArray) (g : Nat) : List Fact := [isV (.string p), isV (.pointer (some ⟨g, 1, none⟩)), isV (.pointer (some ⟨g, 1, none⟩)), isV (.int .i64 qu), isV (.string q1), isV (.string (p ++ q1)), isV (.pointer (some ⟨g, 1, none⟩)), isV (.pointer (some ⟨g, 2, none⟩)), isV (.int .i64 sr), isV (.string q2), isV (.string (p ++ q1 ++ q2)), isV (.pointer (some ⟨g, 1, none⟩)), isV (.pointer (some ⟨g, 3, none⟩)), isV (.pointer (some ⟨g, 3, none⟩)), isV (.int .i64 st), isV (.string q3), isV (.string (p ++ q1 ++ q2 ++ q3)), isV (.pointer (some ⟨g, 1, none⟩)), isV (.pointer (some ⟨g, 3, none⟩)), isV (.pointer (some ⟨g, 4, none⟩)), isV (.int .i64 en), isV (.string q4), isV (.string (p ++ q1 ++ q2 ++ q3 ++ q4)), isV (.pointer (some ⟨g, 1, none⟩)), isV (.pointer (some ⟨g, 5, none⟩)), isV (.pointer (some ⟨g, 5, none⟩)), isV (.int .i64 va), isV (.string q5), isV (.string (p ++ q1 ++ q2 ++ q3 ++ q4 ++ q5)), isV (.int .i64 bo), isV (.string q6), isV (.string (p ++ q1 ++ q2 ++ q3 ++ q4 ++ q5 ++ q6)), isV (.pointer (some ⟨g, 1, none⟩)), isV (.pointer (some ⟨g, 5, none⟩)), isV (.pointer (some ⟨g, 7, none⟩)), isV (.slice A n c), isV (.int .i64 n), isV (.string q7), isV (.string (p ++ q1 ++ q2 ++ q3 ++ q4 ++ q5 ++ q6 ++ q7))]
theorem pr9F_mono (kd qu sr st en va : Int) (ov : Bool) (A : Option Addr) (n c : Nat) (se ti sq bd bo : Int) (p q1 q2 q3 q4 q5 q6 q7 : ByteArray) (g : Nat) : ∀ φ ∈ pr9F kd qu sr st en va ov A n c se ti sq bd bo p q1 q2 q3 q4 q5 q6 q7 g, Mono φ := by
  unfold pr9F
  repeat (first | exact monos_nil | (refine monos_cons (mono_isV _) ?_))
structure pr9S (kd qu sr st en va : Int) (ov : Bool) (A : Option Addr) (n c : Nat) (se ti sq bd bo : Int) (p q1 q2 q3 q4 q5 q6 q7 : ByteArray) (g : Nat) (a0 : Act) (w0 : World) : Prop where
  size : a0.tmps.size = 104
  v1 : a0.tmps.getD 1 undef = .pointer (some ⟨g, 0, none⟩)
  v4 : a0.tmps.getD 4 undef = .string p
  v5 : a0.tmps.getD 5 undef = .int .i64 bo
  box : Has w0 g 30 #[.int .i64 kd, .int .i64 qu, .int .i64 sr, .int .i64 st, .int .i64 en, .int .i64 va, .bool ov, .slice A n c, .int .i64 se, .int .i64 ti, .int .i64 sq, .int .i64 bd]
  z : p.size ≤ 10 ∧ q1.size ≤ 10 ∧ q2.size ≤ 10 ∧ q3.size ≤ 10 ∧ q4.size ≤ 10 ∧ q5.size ≤ 10 ∧ q6.size ≤ 10 ∧ q7.size ≤ 10
  hqu : ∀ W : World, Calls Try.prog 19 #[.int .i64 qu] W fun e w' => e = .returned (.string q1) ∧ Below W.heap.size W w'
  hsr : ∀ W : World, Calls Try.prog 19 #[.int .i64 sr] W fun e w' => e = .returned (.string q2) ∧ Below W.heap.size W w'
  hst : ∀ W : World, Calls Try.prog 19 #[.int .i64 st] W fun e w' => e = .returned (.string q3) ∧ Below W.heap.size W w'
  hen : ∀ W : World, Calls Try.prog 19 #[.int .i64 en] W fun e w' => e = .returned (.string q4) ∧ Below W.heap.size W w'
  hva : ∀ W : World, Calls Try.prog 19 #[.int .i64 va] W fun e w' => e = .returned (.string q5) ∧ Below W.heap.size W w'
  hbo : ∀ W : World, Calls Try.prog 19 #[.int .i64 bo] W fun e w' => e = .returned (.string q6) ∧ Below W.heap.size W w'
  hn : ∀ W : World, Calls Try.prog 19 #[.int .i64 n] W fun e w' => e = .returned (.string q7) ∧ Below W.heap.size W w'
section
variable {kd qu sr st en va : Int} {ov : Bool} {A : Option Addr} {n c : Nat} {se ti sq bd bo : Int} {p q1 q2 q3 q4 q5 q6 q7 : ByteArray} {g : Nat} {a0 : Act} {w0 : World} (S : pr9S kd qu sr st en va ov A n c se ti sq bd bo p q1 q2 q3 q4 q5 q6 q7 g a0 w0)
include S
set_option maxRecDepth 100000 in
set_option maxHeartbeats 8000000 in
theorem pr9_ok : AllOps (fun j o => ∀ (a : Act) (w : World), Below w0.heap.size w0 w → FrD (pr9D.take 39) a0 a → needs pr9D (pr9F kd qu sr st en va ov A n c se ti sq bd bo p q1 q2 q3 q4 q5 q6 q7 g) a w o.after.toList → StepD Try.prog pr9D (factAt (pr9F kd qu sr st en va ov A n c se ti sq bd bo p q1 q2 q3 q4 q5 q6 q7 g) j) o a w) 0 ((opsOf 9 Try.f7).take 39) := by
  simp only [opsOf, Try.f7, opsAt, Option.bind, Option.or, Option.getD, reduceCtorEq, if_true, if_false, Nat.reduceEqDiff, List.take_succ_cons, List.take_zero]
  refine ⟨?_, ?_⟩
  · intro _a _w _hB hF _hd
    exact step_move (guard_none rfl) rfl _ rfl ((hF.other 4 rfl).trans S.v4)
  refine ⟨?_, ?_⟩
  · intro _a _w _hB hF _hd
    exact rf_faddr (guard_none rfl) rfl _ _ _ rfl _ _ 1 _ ((hF.other 1 rfl).trans S.v1) (by omega) (fun _ _ => by kernel_rfl) rfl
  refine ⟨?_, ?_⟩
  · intro a _w _hB _hF hd
    have h22 : a.tmps.getD 22 undef = .pointer (some ⟨g, 1, none⟩) := hd.1 rfl
    exact rf_faddr (guard_none rfl) rfl _ _ _ rfl _ _ 0 _ h22 (by omega) (fun _ _ => by kernel_rfl) rfl
  refine ⟨?_, ?_⟩
  · intro a _w hB _hF hd
    have h23 : a.tmps.getD 23 undef = .pointer (some ⟨g, 1, none⟩) := hd.1 rfl
    exact rf_loadi (guard_none rfl) rfl _ rfl _ _ h23 _ ((Has.cell (S.box.below hB S.box.lt) 1).trans rfl) rfl
  refine ⟨?_, ?_⟩
  · intro a _w _hB _hF hd
    have h24 : a.tmps.getD 24 undef = .int .i64 qu := hd.1 rfl
    refine step_call (guard_none rfl) rfl _ _ (rf_call_run Try.func19 (by kernel_rfl) (by kernel_rfl) _ _ rfl) ?_
    simp only [List.map_toArray, List.map_cons, List.map_nil, Act.eval, h24]
    exact (S.hqu _).mono (by rintro e w1 ⟨rfl, hb⟩; exact ⟨_, rfl, hb, rfl⟩)
  refine ⟨?_, ?_⟩
  · intro a _w _hB _hF hd
    have h21 : a.tmps.getD 21 undef = .string p := hd.1 rfl
    have h25 : a.tmps.getD 25 undef = .string q1 := hd.2.1 rfl
    exact rf_addS (guard_none rfl) rfl _ _ rfl _ _ h21 h25 (by have := S.z; (try simp only [ByteArray.size_append]); omega) rfl rfl
  refine ⟨?_, ?_⟩
  · intro _a _w _hB hF _hd
    exact rf_faddr (guard_none rfl) rfl _ _ _ rfl _ _ 1 _ ((hF.other 1 rfl).trans S.v1) (by omega) (fun _ _ => by kernel_rfl) rfl
  refine ⟨?_, ?_⟩
  · intro a _w _hB _hF hd
    have h27 : a.tmps.getD 27 undef = .pointer (some ⟨g, 1, none⟩) := hd.1 rfl
    exact rf_faddr (guard_none rfl) rfl _ _ _ rfl _ _ 1 _ h27 (by omega) (fun _ _ => by kernel_rfl) rfl
  refine ⟨?_, ?_⟩
  · intro a _w hB _hF hd
    have h28 : a.tmps.getD 28 undef = .pointer (some ⟨g, 2, none⟩) := hd.1 rfl
    exact rf_loadi (guard_none rfl) rfl _ rfl _ _ h28 _ ((Has.cell (S.box.below hB S.box.lt) 2).trans rfl) rfl
  refine ⟨?_, ?_⟩
  · intro a _w _hB _hF hd
    have h29 : a.tmps.getD 29 undef = .int .i64 sr := hd.1 rfl
    refine step_call (guard_none rfl) rfl _ _ (rf_call_run Try.func19 (by kernel_rfl) (by kernel_rfl) _ _ rfl) ?_
    simp only [List.map_toArray, List.map_cons, List.map_nil, Act.eval, h29]
    exact (S.hsr _).mono (by rintro e w1 ⟨rfl, hb⟩; exact ⟨_, rfl, hb, rfl⟩)
  refine ⟨?_, ?_⟩
  · intro a _w _hB _hF hd
    have h26 : a.tmps.getD 26 undef = .string (p ++ q1) := hd.1 rfl
    have h30 : a.tmps.getD 30 undef = .string q2 := hd.2.1 rfl
    exact rf_addS (guard_none rfl) rfl _ _ rfl _ _ h26 h30 (by have := S.z; (try simp only [ByteArray.size_append]); omega) rfl rfl
  refine ⟨?_, ?_⟩
  · intro _a _w _hB hF _hd
    exact rf_faddr (guard_none rfl) rfl _ _ _ rfl _ _ 1 _ ((hF.other 1 rfl).trans S.v1) (by omega) (fun _ _ => by kernel_rfl) rfl
  refine ⟨?_, ?_⟩
  · intro a _w _hB _hF hd
    have h32 : a.tmps.getD 32 undef = .pointer (some ⟨g, 1, none⟩) := hd.1 rfl
    exact rf_faddr (guard_none rfl) rfl _ _ _ rfl _ _ 2 _ h32 (by omega) (fun _ _ => by kernel_rfl) rfl
  refine ⟨?_, ?_⟩
  · intro a _w _hB _hF hd
    have h33 : a.tmps.getD 33 undef = .pointer (some ⟨g, 3, none⟩) := hd.1 rfl
    exact rf_faddr (guard_none rfl) rfl _ _ _ rfl _ _ 0 _ h33 (by omega) (fun _ _ => by kernel_rfl) rfl
  refine ⟨?_, ?_⟩
  · intro a _w hB _hF hd
    have h34 : a.tmps.getD 34 undef = .pointer (some ⟨g, 3, none⟩) := hd.1 rfl
    exact rf_loadi (guard_none rfl) rfl _ rfl _ _ h34 _ ((Has.cell (S.box.below hB S.box.lt) 3).trans rfl) rfl
  refine ⟨?_, ?_⟩
  · intro a _w _hB _hF hd
    have h35 : a.tmps.getD 35 undef = .int .i64 st := hd.1 rfl
    refine step_call (guard_none rfl) rfl _ _ (rf_call_run Try.func19 (by kernel_rfl) (by kernel_rfl) _ _ rfl) ?_
    simp only [List.map_toArray, List.map_cons, List.map_nil, Act.eval, h35]
    exact (S.hst _).mono (by rintro e w1 ⟨rfl, hb⟩; exact ⟨_, rfl, hb, rfl⟩)
  refine ⟨?_, ?_⟩
  · intro a _w _hB _hF hd
    have h31 : a.tmps.getD 31 undef = .string (p ++ q1 ++ q2) := hd.1 rfl
    have h36 : a.tmps.getD 36 undef = .string q3 := hd.2.1 rfl
    exact rf_addS (guard_none rfl) rfl _ _ rfl _ _ h31 h36 (by have := S.z; (try simp only [ByteArray.size_append]); omega) rfl rfl
  refine ⟨?_, ?_⟩
  · intro _a _w _hB hF _hd
    exact rf_faddr (guard_none rfl) rfl _ _ _ rfl _ _ 1 _ ((hF.other 1 rfl).trans S.v1) (by omega) (fun _ _ => by kernel_rfl) rfl
  refine ⟨?_, ?_⟩
  · intro a _w _hB _hF hd
    have h38 : a.tmps.getD 38 undef = .pointer (some ⟨g, 1, none⟩) := hd.1 rfl
    exact rf_faddr (guard_none rfl) rfl _ _ _ rfl _ _ 2 _ h38 (by omega) (fun _ _ => by kernel_rfl) rfl
  refine ⟨?_, ?_⟩
  · intro a _w _hB _hF hd
    have h39 : a.tmps.getD 39 undef = .pointer (some ⟨g, 3, none⟩) := hd.1 rfl
    exact rf_faddr (guard_none rfl) rfl _ _ _ rfl _ _ 1 _ h39 (by omega) (fun _ _ => by kernel_rfl) rfl
  refine ⟨?_, ?_⟩
  · intro a _w hB _hF hd
    have h40 : a.tmps.getD 40 undef = .pointer (some ⟨g, 4, none⟩) := hd.1 rfl
    exact rf_loadi (guard_none rfl) rfl _ rfl _ _ h40 _ ((Has.cell (S.box.below hB S.box.lt) 4).trans rfl) rfl
  refine ⟨?_, ?_⟩
  · intro a _w _hB _hF hd
    have h41 : a.tmps.getD 41 undef = .int .i64 en := hd.1 rfl
    refine step_call (guard_none rfl) rfl _ _ (rf_call_run Try.func19 (by kernel_rfl) (by kernel_rfl) _ _ rfl) ?_
    simp only [List.map_toArray, List.map_cons, List.map_nil, Act.eval, h41]
    exact (S.hen _).mono (by rintro e w1 ⟨rfl, hb⟩; exact ⟨_, rfl, hb, rfl⟩)
  refine ⟨?_, ?_⟩
  · intro a _w _hB _hF hd
    have h37 : a.tmps.getD 37 undef = .string (p ++ q1 ++ q2 ++ q3) := hd.1 rfl
    have h42 : a.tmps.getD 42 undef = .string q4 := hd.2.1 rfl
    exact rf_addS (guard_none rfl) rfl _ _ rfl _ _ h37 h42 (by have := S.z; (try simp only [ByteArray.size_append]); omega) rfl rfl
  refine ⟨?_, ?_⟩
  · intro _a _w _hB hF _hd
    exact rf_faddr (guard_none rfl) rfl _ _ _ rfl _ _ 1 _ ((hF.other 1 rfl).trans S.v1) (by omega) (fun _ _ => by kernel_rfl) rfl
  refine ⟨?_, ?_⟩
  · intro a _w _hB _hF hd
    have h44 : a.tmps.getD 44 undef = .pointer (some ⟨g, 1, none⟩) := hd.1 rfl
    exact rf_faddr (guard_none rfl) rfl _ _ _ rfl _ _ 4 _ h44 (by omega) (fun _ _ => by kernel_rfl) rfl
  refine ⟨?_, ?_⟩
  · intro a _w _hB _hF hd
    have h45 : a.tmps.getD 45 undef = .pointer (some ⟨g, 5, none⟩) := hd.1 rfl
    exact rf_faddr (guard_none rfl) rfl _ _ _ rfl _ _ 0 _ h45 (by omega) (fun _ _ => by kernel_rfl) rfl
  refine ⟨?_, ?_⟩
  · intro a _w hB _hF hd
    have h46 : a.tmps.getD 46 undef = .pointer (some ⟨g, 5, none⟩) := hd.1 rfl
    exact rf_loadi (guard_none rfl) rfl _ rfl _ _ h46 _ ((Has.cell (S.box.below hB S.box.lt) 5).trans rfl) rfl
  refine ⟨?_, ?_⟩
  · intro a _w _hB _hF hd
    have h47 : a.tmps.getD 47 undef = .int .i64 va := hd.1 rfl
    refine step_call (guard_none rfl) rfl _ _ (rf_call_run Try.func19 (by kernel_rfl) (by kernel_rfl) _ _ rfl) ?_
    simp only [List.map_toArray, List.map_cons, List.map_nil, Act.eval, h47]
    exact (S.hva _).mono (by rintro e w1 ⟨rfl, hb⟩; exact ⟨_, rfl, hb, rfl⟩)
  refine ⟨?_, ?_⟩
  · intro a _w _hB _hF hd
    have h43 : a.tmps.getD 43 undef = .string (p ++ q1 ++ q2 ++ q3 ++ q4) := hd.1 rfl
    have h48 : a.tmps.getD 48 undef = .string q5 := hd.2.1 rfl
    exact rf_addS (guard_none rfl) rfl _ _ rfl _ _ h43 h48 (by have := S.z; (try simp only [ByteArray.size_append]); omega) rfl rfl
  refine ⟨?_, ?_⟩
  · intro _a _w _hB hF _hd
    exact step_move (guard_none rfl) rfl _ rfl ((hF.other 5 rfl).trans S.v5)
  refine ⟨?_, ?_⟩
  · intro a _w _hB _hF hd
    have h50 : a.tmps.getD 50 undef = .int .i64 bo := hd.1 rfl
    refine step_call (guard_none rfl) rfl _ _ (rf_call_run Try.func19 (by kernel_rfl) (by kernel_rfl) _ _ rfl) ?_
    simp only [List.map_toArray, List.map_cons, List.map_nil, Act.eval, h50]
    exact (S.hbo _).mono (by rintro e w1 ⟨rfl, hb⟩; exact ⟨_, rfl, hb, rfl⟩)
  refine ⟨?_, ?_⟩
  · intro a _w _hB _hF hd
    have h49 : a.tmps.getD 49 undef = .string (p ++ q1 ++ q2 ++ q3 ++ q4 ++ q5) := hd.1 rfl
    have h51 : a.tmps.getD 51 undef = .string q6 := hd.2.1 rfl
    exact rf_addS (guard_none rfl) rfl _ _ rfl _ _ h49 h51 (by have := S.z; (try simp only [ByteArray.size_append]); omega) rfl rfl
  refine ⟨?_, ?_⟩
  · intro _a _w _hB hF _hd
    exact rf_faddr (guard_none rfl) rfl _ _ _ rfl _ _ 1 _ ((hF.other 1 rfl).trans S.v1) (by omega) (fun _ _ => by kernel_rfl) rfl
  refine ⟨?_, ?_⟩
  · intro a _w _hB _hF hd
    have h53 : a.tmps.getD 53 undef = .pointer (some ⟨g, 1, none⟩) := hd.1 rfl
    exact rf_faddr (guard_none rfl) rfl _ _ _ rfl _ _ 4 _ h53 (by omega) (fun _ _ => by kernel_rfl) rfl
  refine ⟨?_, ?_⟩
  · intro a _w _hB _hF hd
    have h54 : a.tmps.getD 54 undef = .pointer (some ⟨g, 5, none⟩) := hd.1 rfl
    exact rf_faddr (guard_none rfl) rfl _ _ _ rfl _ _ 2 _ h54 (by omega) (fun _ _ => by kernel_rfl) rfl
  refine ⟨?_, ?_⟩
  · intro a _w hB _hF hd
    have h55 : a.tmps.getD 55 undef = .pointer (some ⟨g, 7, none⟩) := hd.1 rfl
    exact rf_loadI (guard_none rfl) rfl _ rfl _ _ h55 ((Has.cell (S.box.below hB S.box.lt) 7).trans rfl) rfl
  refine ⟨?_, ?_⟩
  · intro a _w _hB _hF hd
    have h56 : a.tmps.getD 56 undef = .slice A n c := hd.1 rfl
    exact rf_len (guard_none rfl) rfl _ _ rfl Try.underlying24 _ _ _ h56 rfl
  refine ⟨?_, ?_⟩
  · intro a _w _hB _hF hd
    have h57 : a.tmps.getD 57 undef = .int .i64 n := hd.1 rfl
    refine step_call (guard_none rfl) rfl _ _ (rf_call_run Try.func19 (by kernel_rfl) (by kernel_rfl) _ _ rfl) ?_
    simp only [List.map_toArray, List.map_cons, List.map_nil, Act.eval, h57]
    exact (S.hn _).mono (by rintro e w1 ⟨rfl, hb⟩; exact ⟨_, rfl, hb, rfl⟩)
  refine ⟨?_, ?_⟩
  · intro a _w _hB _hF hd
    have h52 : a.tmps.getD 52 undef = .string (p ++ q1 ++ q2 ++ q3 ++ q4 ++ q5 ++ q6) := hd.1 rfl
    have h58 : a.tmps.getD 58 undef = .string q7 := hd.2.1 rfl
    exact rf_addS (guard_none rfl) rfl _ _ rfl _ _ h52 h58 (by have := S.z; (try simp only [ByteArray.size_append]); omega) rfl rfl
  trivial
theorem pr9_any {Q : Exit → Act → World → Prop} {l : List Oper} (hl : opsOf 9 Try.f7 = l) (hend : ∀ w : World, Below w0.heap.size w0 w → wpList Try.prog l.toArray Q (l.drop 39) (putAll a0 [(21, .string p), (22, .pointer (some ⟨g, 1, none⟩)), (23, .pointer (some ⟨g, 1, none⟩)), (24, .int .i64 qu), (25, .string q1), (26, .string (p ++ q1)), (27, .pointer (some ⟨g, 1, none⟩)), (28, .pointer (some ⟨g, 2, none⟩)), (29, .int .i64 sr), (30, .string q2), (31, .string (p ++ q1 ++ q2)), (32, .pointer (some ⟨g, 1, none⟩)), (33, .pointer (some ⟨g, 3, none⟩)), (34, .pointer (some ⟨g, 3, none⟩)), (35, .int .i64 st), (36, .string q3), (37, .string (p ++ q1 ++ q2 ++ q3)), (38, .pointer (some ⟨g, 1, none⟩)), (39, .pointer (some ⟨g, 3, none⟩)), (40, .pointer (some ⟨g, 4, none⟩)), (41, .int .i64 en), (42, .string q4), (43, .string (p ++ q1 ++ q2 ++ q3 ++ q4)), (44, .pointer (some ⟨g, 1, none⟩)), (45, .pointer (some ⟨g, 5, none⟩)), (46, .pointer (some ⟨g, 5, none⟩)), (47, .int .i64 va), (48, .string q5), (49, .string (p ++ q1 ++ q2 ++ q3 ++ q4 ++ q5)), (50, .int .i64 bo), (51, .string q6), (52, .string (p ++ q1 ++ q2 ++ q3 ++ q4 ++ q5 ++ q6)), (53, .pointer (some ⟨g, 1, none⟩)), (54, .pointer (some ⟨g, 5, none⟩)), (55, .pointer (some ⟨g, 7, none⟩)), (56, .slice A n c), (57, .int .i64 n), (58, .string q7), (59, .string (p ++ q1 ++ q2 ++ q3 ++ q4 ++ q5 ++ q6 ++ q7))]) w) :
    (Code.region 9 l.toArray true).wp Try.prog Q a0 w0 := by
  subst hl
  refine region_head2 (pr9F kd qu sr st en va ov A n c se ti sq bd bo p q1 q2 q3 q4 q5 q6 q7 g) pr9D 39 104 S.size rfl (by kernel_rfl) (by kernel_rfl) (by kernel_rfl) (pr9F_mono _ _ _ _ _ _ _ _ _ _ _ _ _ _ _ _ _ _ _ _ _ _ _ _) (pr9_ok S) fun a w hB hF h => ?_
  have hv : valsAre a [(21, .string p), (22, .pointer (some ⟨g, 1, none⟩)), (23, .pointer (some ⟨g, 1, none⟩)), (24, .int .i64 qu), (25, .string q1), (26, .string (p ++ q1)), (27, .pointer (some ⟨g, 1, none⟩)), (28, .pointer (some ⟨g, 2, none⟩)), (29, .int .i64 sr), (30, .string q2), (31, .string (p ++ q1 ++ q2)), (32, .pointer (some ⟨g, 1, none⟩)), (33, .pointer (some ⟨g, 3, none⟩)), (34, .pointer (some ⟨g, 3, none⟩)), (35, .int .i64 st), (36, .string q3), (37, .string (p ++ q1 ++ q2 ++ q3)), (38, .pointer (some ⟨g, 1, none⟩)), (39, .pointer (some ⟨g, 3, none⟩)), (40, .pointer (some ⟨g, 4, none⟩)), (41, .int .i64 en), (42, .string q4), (43, .string (p ++ q1 ++ q2 ++ q3 ++ q4)), (44, .pointer (some ⟨g, 1, none⟩)), (45, .pointer (some ⟨g, 5, none⟩)), (46, .pointer (some ⟨g, 5, none⟩)), (47, .int .i64 va), (48, .string q5), (49, .string (p ++ q1 ++ q2 ++ q3 ++ q4 ++ q5)), (50, .int .i64 bo), (51, .string q6), (52, .string (p ++ q1 ++ q2 ++ q3 ++ q4 ++ q5 ++ q6)), (53, .pointer (some ⟨g, 1, none⟩)), (54, .pointer (some ⟨g, 5, none⟩)), (55, .pointer (some ⟨g, 7, none⟩)), (56, .slice A n c), (57, .int .i64 n), (58, .string q7), (59, .string (p ++ q1 ++ q2 ++ q3 ++ q4 ++ q5 ++ q6 ++ q7))] := by
    refine ⟨?_, ?_, ?_, ?_, ?_, ?_, ?_, ?_, ?_, ?_, ?_, ?_, ?_, ?_, ?_, ?_, ?_, ?_, ?_, ?_, ?_, ?_, ?_, ?_, ?_, ?_, ?_, ?_, ?_, ?_, ?_, ?_, ?_, ?_, ?_, ?_, ?_, ?_, ?_, trivial⟩
    · exact h 0 (some 21) (by omega) rfl
    · exact h 1 (some 22) (by omega) rfl
    · exact h 2 (some 23) (by omega) rfl
    · exact h 3 (some 24) (by omega) rfl
    · exact h 4 (some 25) (by omega) rfl
    · exact h 5 (some 26) (by omega) rfl
    · exact h 6 (some 27) (by omega) rfl
    · exact h 7 (some 28) (by omega) rfl
    · exact h 8 (some 29) (by omega) rfl
    · exact h 9 (some 30) (by omega) rfl
    · exact h 10 (some 31) (by omega) rfl
    · exact h 11 (some 32) (by omega) rfl
    · exact h 12 (some 33) (by omega) rfl
    · exact h 13 (some 34) (by omega) rfl
    · exact h 14 (some 35) (by omega) rfl
    · exact h 15 (some 36) (by omega) rfl
    · exact h 16 (some 37) (by omega) rfl
    · exact h 17 (some 38) (by omega) rfl
    · exact h 18 (some 39) (by omega) rfl
    · exact h 19 (some 40) (by omega) rfl
    · exact h 20 (some 41) (by omega) rfl
    · exact h 21 (some 42) (by omega) rfl
    · exact h 22 (some 43) (by omega) rfl
    · exact h 23 (some 44) (by omega) rfl
    · exact h 24 (some 45) (by omega) rfl
    · exact h 25 (some 46) (by omega) rfl
    · exact h 26 (some 47) (by omega) rfl
    · exact h 27 (some 48) (by omega) rfl
    · exact h 28 (some 49) (by omega) rfl
    · exact h 29 (some 50) (by omega) rfl
    · exact h 30 (some 51) (by omega) rfl
    · exact h 31 (some 52) (by omega) rfl
    · exact h 32 (some 53) (by omega) rfl
    · exact h 33 (some 54) (by omega) rfl
    · exact h 34 (some 55) (by omega) rfl
    · exact h 35 (some 56) (by omega) rfl
    · exact h 36 (some 57) (by omega) rfl
    · exact h 37 (some 58) (by omega) rfl
    · exact h 38 (some 59) (by omega) rfl
  rw [frame_is hF _ hv (by rfl) (by rfl)]
  exact hend w hB
end

def pr17D : List (Option Tmp) := [some 83, some 84, some 85, some 86, some 87, some 88, some 89, some 90, some 91, some 92, some 93, some 94, some 95, some 4]
def pr17F (_kd _qu _sr _st _en _va : Int) (_ov : Bool) (_A : Option Addr) (_n _c : Nat) (se ti sq _bd _bo : Int) (p q1 q2 q3 : ByteArray) (g : Nat) : List Fact := [isV (.string p), isV (.pointer (some ⟨g, 8, none⟩)), isV (.int .i64 se), isV (.string q1), isV (.string (p ++ q1)), isV (.pointer (some ⟨g, 9, none⟩)), isV (.int .i64 ti), isV (.string q2), isV (.string (p ++ q1 ++ q2)), isV (.pointer (some ⟨g, 10, none⟩)), isV (.int .i64 sq), isV (.string q3), isV (.string (p ++ q1 ++ q2 ++ q3))]
theorem pr17F_mono (kd qu sr st en va : Int) (ov : Bool) (A : Option Addr) (n c : Nat) (se ti sq bd bo : Int) (p q1 q2 q3 : ByteArray) (g : Nat) : ∀ φ ∈ pr17F kd qu sr st en va ov A n c se ti sq bd bo p q1 q2 q3 g, Mono φ := by
  unfold pr17F
  repeat (first | exact monos_nil | (refine monos_cons (mono_isV _) ?_))
structure pr17S (kd qu sr st en va : Int) (ov : Bool) (A : Option Addr) (n c : Nat) (se ti sq bd bo : Int) (p q1 q2 q3 : ByteArray) (g : Nat) (a0 : Act) (w0 : World) : Prop where
  size : a0.tmps.size = 104
  v1 : a0.tmps.getD 1 undef = .pointer (some ⟨g, 0, none⟩)
  v4 : a0.tmps.getD 4 undef = .string p
  box : Has w0 g 30 #[.int .i64 kd, .int .i64 qu, .int .i64 sr, .int .i64 st, .int .i64 en, .int .i64 va, .bool ov, .slice A n c, .int .i64 se, .int .i64 ti, .int .i64 sq, .int .i64 bd]
  z : p.size ≤ 10 ∧ q1.size ≤ 10 ∧ q2.size ≤ 10 ∧ q3.size ≤ 10
  hse : ∀ W : World, Calls Try.prog 19 #[.int .i64 se] W fun e w' => e = .returned (.string q1) ∧ Below W.heap.size W w'
  hti : ∀ W : World, Calls Try.prog 19 #[.int .i64 ti] W fun e w' => e = .returned (.string q2) ∧ Below W.heap.size W w'
  hsq : ∀ W : World, Calls Try.prog 19 #[.int .i64 sq] W fun e w' => e = .returned (.string q3) ∧ Below W.heap.size W w'
section
variable {kd qu sr st en va : Int} {ov : Bool} {A : Option Addr} {n c : Nat} {se ti sq bd bo : Int} {p q1 q2 q3 : ByteArray} {g : Nat} {a0 : Act} {w0 : World} (S : pr17S kd qu sr st en va ov A n c se ti sq bd bo p q1 q2 q3 g a0 w0)
include S
set_option maxRecDepth 100000 in
set_option maxHeartbeats 8000000 in
theorem pr17_ok : AllOps (fun j o => ∀ (a : Act) (w : World), Below w0.heap.size w0 w → FrD (pr17D.take 13) a0 a → needs pr17D (pr17F kd qu sr st en va ov A n c se ti sq bd bo p q1 q2 q3 g) a w o.after.toList → StepD Try.prog pr17D (factAt (pr17F kd qu sr st en va ov A n c se ti sq bd bo p q1 q2 q3 g) j) o a w) 0 ((opsOf 17 Try.f7).take 13) := by
  simp only [opsOf, Try.f7, opsAt, Option.bind, Option.or, Option.getD, reduceCtorEq, if_true, if_false, Nat.reduceEqDiff, List.take_succ_cons, List.take_zero]
  refine ⟨?_, ?_⟩
  · intro _a _w _hB hF _hd
    exact step_move (guard_none rfl) rfl _ rfl ((hF.other 4 rfl).trans S.v4)
  refine ⟨?_, ?_⟩
  · intro _a _w _hB hF _hd
    exact rf_faddr (guard_none rfl) rfl _ _ _ rfl _ _ 8 _ ((hF.other 1 rfl).trans S.v1) (by omega) (fun _ _ => by kernel_rfl) rfl
  refine ⟨?_, ?_⟩
  · intro a _w hB _hF hd
    have h84 : a.tmps.getD 84 undef = .pointer (some ⟨g, 8, none⟩) := hd.1 rfl
    exact rf_loadi (guard_none rfl) rfl _ rfl _ _ h84 _ ((Has.cell (S.box.below hB S.box.lt) 8).trans rfl) rfl
  refine ⟨?_, ?_⟩
  · intro a _w _hB _hF hd
    have h85 : a.tmps.getD 85 undef = .int .i64 se := hd.1 rfl
    refine step_call (guard_none rfl) rfl _ _ (rf_call_run Try.func19 (by kernel_rfl) (by kernel_rfl) _ _ rfl) ?_
    simp only [List.map_toArray, List.map_cons, List.map_nil, Act.eval, h85]
    exact (S.hse _).mono (by rintro e w1 ⟨rfl, hb⟩; exact ⟨_, rfl, hb, rfl⟩)
  refine ⟨?_, ?_⟩
  · intro a _w _hB _hF hd
    have h83 : a.tmps.getD 83 undef = .string p := hd.1 rfl
    have h86 : a.tmps.getD 86 undef = .string q1 := hd.2.1 rfl
    exact rf_addS (guard_none rfl) rfl _ _ rfl _ _ h83 h86 (by have := S.z; (try simp only [ByteArray.size_append]); omega) rfl rfl
  refine ⟨?_, ?_⟩
  · intro _a _w _hB hF _hd
    exact rf_faddr (guard_none rfl) rfl _ _ _ rfl _ _ 9 _ ((hF.other 1 rfl).trans S.v1) (by omega) (fun _ _ => by kernel_rfl) rfl
  refine ⟨?_, ?_⟩
  · intro a _w hB _hF hd
    have h88 : a.tmps.getD 88 undef = .pointer (some ⟨g, 9, none⟩) := hd.1 rfl
    exact rf_loadi (guard_none rfl) rfl _ rfl _ _ h88 _ ((Has.cell (S.box.below hB S.box.lt) 9).trans rfl) rfl
  refine ⟨?_, ?_⟩
  · intro a _w _hB _hF hd
    have h89 : a.tmps.getD 89 undef = .int .i64 ti := hd.1 rfl
    refine step_call (guard_none rfl) rfl _ _ (rf_call_run Try.func19 (by kernel_rfl) (by kernel_rfl) _ _ rfl) ?_
    simp only [List.map_toArray, List.map_cons, List.map_nil, Act.eval, h89]
    exact (S.hti _).mono (by rintro e w1 ⟨rfl, hb⟩; exact ⟨_, rfl, hb, rfl⟩)
  refine ⟨?_, ?_⟩
  · intro a _w _hB _hF hd
    have h87 : a.tmps.getD 87 undef = .string (p ++ q1) := hd.1 rfl
    have h90 : a.tmps.getD 90 undef = .string q2 := hd.2.1 rfl
    exact rf_addS (guard_none rfl) rfl _ _ rfl _ _ h87 h90 (by have := S.z; (try simp only [ByteArray.size_append]); omega) rfl rfl
  refine ⟨?_, ?_⟩
  · intro _a _w _hB hF _hd
    exact rf_faddr (guard_none rfl) rfl _ _ _ rfl _ _ 10 _ ((hF.other 1 rfl).trans S.v1) (by omega) (fun _ _ => by kernel_rfl) rfl
  refine ⟨?_, ?_⟩
  · intro a _w hB _hF hd
    have h92 : a.tmps.getD 92 undef = .pointer (some ⟨g, 10, none⟩) := hd.1 rfl
    exact rf_loadi (guard_none rfl) rfl _ rfl _ _ h92 _ ((Has.cell (S.box.below hB S.box.lt) 10).trans rfl) rfl
  refine ⟨?_, ?_⟩
  · intro a _w _hB _hF hd
    have h93 : a.tmps.getD 93 undef = .int .i64 sq := hd.1 rfl
    refine step_call (guard_none rfl) rfl _ _ (rf_call_run Try.func19 (by kernel_rfl) (by kernel_rfl) _ _ rfl) ?_
    simp only [List.map_toArray, List.map_cons, List.map_nil, Act.eval, h93]
    exact (S.hsq _).mono (by rintro e w1 ⟨rfl, hb⟩; exact ⟨_, rfl, hb, rfl⟩)
  refine ⟨?_, ?_⟩
  · intro a _w _hB _hF hd
    have h91 : a.tmps.getD 91 undef = .string (p ++ q1 ++ q2) := hd.1 rfl
    have h94 : a.tmps.getD 94 undef = .string q3 := hd.2.1 rfl
    exact rf_addS (guard_none rfl) rfl _ _ rfl _ _ h91 h94 (by have := S.z; (try simp only [ByteArray.size_append]); omega) rfl rfl
  trivial
theorem pr17_any {Q : Exit → Act → World → Prop} {l : List Oper} (hl : opsOf 17 Try.f7 = l) (hend : ∀ w : World, Below w0.heap.size w0 w → wpList Try.prog l.toArray Q (l.drop 13) (putAll a0 [(83, .string p), (84, .pointer (some ⟨g, 8, none⟩)), (85, .int .i64 se), (86, .string q1), (87, .string (p ++ q1)), (88, .pointer (some ⟨g, 9, none⟩)), (89, .int .i64 ti), (90, .string q2), (91, .string (p ++ q1 ++ q2)), (92, .pointer (some ⟨g, 10, none⟩)), (93, .int .i64 sq), (94, .string q3), (95, .string (p ++ q1 ++ q2 ++ q3))]) w) :
    (Code.region 17 l.toArray true).wp Try.prog Q a0 w0 := by
  subst hl
  refine region_head2 (pr17F kd qu sr st en va ov A n c se ti sq bd bo p q1 q2 q3 g) pr17D 13 104 S.size rfl (by kernel_rfl) (by kernel_rfl) (by kernel_rfl) (pr17F_mono _ _ _ _ _ _ _ _ _ _ _ _ _ _ _ _ _ _ _ _) (pr17_ok S) fun a w hB hF h => ?_
  have hv : valsAre a [(83, .string p), (84, .pointer (some ⟨g, 8, none⟩)), (85, .int .i64 se), (86, .string q1), (87, .string (p ++ q1)), (88, .pointer (some ⟨g, 9, none⟩)), (89, .int .i64 ti), (90, .string q2), (91, .string (p ++ q1 ++ q2)), (92, .pointer (some ⟨g, 10, none⟩)), (93, .int .i64 sq), (94, .string q3), (95, .string (p ++ q1 ++ q2 ++ q3))] := by
    refine ⟨?_, ?_, ?_, ?_, ?_, ?_, ?_, ?_, ?_, ?_, ?_, ?_, ?_, trivial⟩
    · exact h 0 (some 83) (by omega) rfl
    · exact h 1 (some 84) (by omega) rfl
    · exact h 2 (some 85) (by omega) rfl
    · exact h 3 (some 86) (by omega) rfl
    · exact h 4 (some 87) (by omega) rfl
    · exact h 5 (some 88) (by omega) rfl
    · exact h 6 (some 89) (by omega) rfl
    · exact h 7 (some 90) (by omega) rfl
    · exact h 8 (some 91) (by omega) rfl
    · exact h 9 (some 92) (by omega) rfl
    · exact h 10 (some 93) (by omega) rfl
    · exact h 11 (some 94) (by omega) rfl
    · exact h 12 (some 95) (by omega) rfl
  rw [frame_is hF _ hv (by rfl) (by rfl)]
  exact hend w hB
end

end Go.Proofs.Ytdbcmcdmipehgaa
