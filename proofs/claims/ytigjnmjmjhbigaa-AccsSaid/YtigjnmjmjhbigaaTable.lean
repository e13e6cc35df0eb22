/-
  Walk: low's table of tellers; low.Value's last statement, but for its tail.
-/
import Derived.Test.YtigjnmjmjhbigaaLow
import Derived.Test.YtigjnmjmjhbigaaStep2
namespace Go.Proofs.Ytigjnmjmjhbigaa
open Go.RowKit

def tab : Array Value := #[.func (.func 76) #[] #[], .func (.func 77) #[] #[], .func (.func 78) #[] #[], .func (.func 79) #[] #[], .func (.func 80) #[] #[], .func (.func 81) #[] #[], .func (.func 82) #[] #[], .func (.func 84) #[] #[]]
theorem table_any (w : World) : Calls Try.prog 58 #[] w fun e w' => ∃ g, e = .returned (.slice (some ⟨g, 0, none⟩) 8 8) ∧ Has w' g 87 tab ∧ Below w.heap.size w w' := by
  go_enter Try.func58, Try.ntmps58
  go_wp2
  go_ret
  exact ⟨_, rfl, Has.made w _ tab, (Below.refl _ _).alloc (Nat.le_refl _) _⟩

section
variable {D : List (Option Tmp)} {Φ : Fact} {o : Oper} {a : Act} {w : World}
theorem step_iaddrT (hw : Region.wanted o (yieldD D a.tmps) = true) {t : Tmp} (hd : o.dst = some t) (x y : Operand) (ho : o.op = .indexAddr 83 x y) (b f n c k : Nat) (hx : a.eval x = .slice (some ⟨b, f, none⟩) n c) (hy : a.eval y = .int .i64 (k : Int)) (hk : k < n)
    (h : Φ (.pointer (some ⟨b, f + k, none⟩)) w) : StepD Try.prog D Φ o a w := by
  refine step_val hw hd _ _ ?_ (Below.refl _ _) h
  have hk2 : (k : Int) < (n : Int) := by omega
  unfold execOp
  rw [ho]
  simp only [hx, hy]
  simp [go_sem, hk2]
theorem loadf_run (g k : Nat) (v : Value) (w : World) (h : w.cell? ⟨g, k, none⟩ = some v) : (Instr.loadAt 87 (.pointer (some ⟨g, k, none⟩))).run Try.prog w = .ok v w := by simp [go_sem, h, Instr.loadAt]
theorem step_loadf (hw : Region.wanted o (yieldD D a.tmps) = true) {t : Tmp} (hd : o.dst = some t) (x : Operand) (ho : o.op = .load 87 x) (g k : Nat) (hx : a.eval x = .pointer (some ⟨g, k, none⟩)) (v : Value)
    (hc : w.cell? ⟨g, k, none⟩ = some v) (h : Φ v w) : StepD Try.prog D Φ o a w := by
  refine step_val hw hd _ _ ?_ (Below.refl _ _) h
  unfold execOp
  rw [ho]
  simp only [hx, Sem.run_bind, loadf_run g k v w hc, Result.andThen_ok]
  rfl
theorem step_loadQ (hw : Region.wanted o (yieldD D a.tmps) = true) {t : Tmp} (hd : o.dst = some t) (x : Operand) (ho : o.op = .load 53 x) (g : Nat) (hx : a.eval x = .pointer (some ⟨g, 0, none⟩)) (q : Qu) (B : Option Addr) (m d : Nat)
    (hc : Has w g 53 (quC q B m d)) (h : Φ (.agg (quC q B m d)) w) : StepD Try.prog D Φ o a w := by
  intro Q
  rw [if_pos hw]
  exact wp_load_row 53 x ho g hx 53 _ (0, 0) _ hc Try.underlying53 rfl Try.sizeQuery ⟨_, rfl, (fun hn => by rw [hd] at hn; cases hn), Below.refl _ _, h⟩
theorem callv_run {f : FuncId} {fn : Func} (hf : Try.prog.funcs[f]? = some fn) (hname : (fn.name == "runtime.NumGoroutine") = false) (hb : fn.body.isSome = true) (x : Operand) (args : Array Operand) (tys : Array TypeId) (ho : o.op = .call { callee := .value x, args := args, argTypes := tys }) (hx : a.eval x = .func (.func f) #[] #[]) : (execOp a.eval o).run Try.prog w = .ok (.enter f (args.map a.eval)) w := by
  have h1 : fn.name ≠ "runtime.NumGoroutine" := by simpa using hname
  obtain ⟨c, hc⟩ := Option.isSome_iff_exists.1 hb
  unfold execOp
  rw [ho]
  simp only [resolve, hx]
  simp [callFunc, hf, h1, hc, go_sem]
end

/-- What a teller hands out. -/
def tellF (v : Int) (o : Bool) (hs : List Int) (N : Nat) : Fact := fun z w => ∃ A n c, z = .agg (outC v o A n c) ∧ Ints w A n hs ∧ n ≤ c ∧ c ≤ maxLen ∧ OwnI w N (.slice A n c) hs
theorem mono_tell (v : Int) (o : Bool) (hs : List Int) (N : Nat) : Mono (tellF v o hs N) := fun _ _ _ hb ⟨A, n, c, e, h1, h2, h3, h4⟩ => ⟨A, n, c, e, h1.below hb, h2, h3, h4.below hb⟩

section
variable (N g kk f : Nat) (q : Qu) (B : Option Addr) (m d : Nat) (a : Ac) (A : Option Addr) (k c : Nat) (v : Int) (ov : Bool) (hs : List Int)
def val4F (M : Nat) : List Fact := [isV (.slice (some ⟨g, 0, none⟩) 8 8), isV (.pointer (some ⟨N, 1, none⟩)), isV (.int .i64 kk), isV (.pointer (some ⟨g, 0 + kk, none⟩)), isV (.func (.func f) #[] #[]), isV (.agg (quC q B m d)), isV (.agg (accC a A k c)), tellF v ov hs M]
def val4D : List (Option Tmp) := [some 22, some 23, some 24, some 25, some 26, some 27, some 28, some 29, none, some 5]
theorem val4F_mono (M : Nat) : ∀ x ∈ val4F N g kk f q B m d a A k c v ov hs M, Mono x := by
  unfold val4F
  repeat (first | exact monos_nil | (refine monos_cons (mono_isV _) ?_) | (refine monos_cons (mono_tell _ _ _ _) ?_))
structure Val4 (fn : Func) (a0 : Act) (w0 : World) : Prop where
  size : a0.tmps.size = 30
  v2 : a0.tmps.getD 2 undef = .pointer (some ⟨N, 0, none⟩)
  v3 : a0.tmps.getD 3 undef = .pointer (some ⟨N + 1, 0, none⟩)
  v6 : a0.tmps.getD 6 undef = .slice (some ⟨g, 0, none⟩) 8 8
  cQ : Has w0 N 53 (quC q B m d)
  cA : Has w0 (N + 1) 29 (accC a A k c)
  cT : Has w0 g 87 tab
  agg : q.agg = kk
  lt : kk < 8
  tf : tab[kk]? = some (.func (.func f) #[] #[])
  hf : Try.prog.funcs[f]? = some fn
  hname : (fn.name == "runtime.NumGoroutine") = false
  hb : fn.body.isSome = true
  call : ∀ W, Below w0.heap.size w0 W → Calls Try.prog f #[.agg (quC q B m d), .agg (accC a A k c)] W (TellOut v ov hs W)
end
section
variable {N g kk f : Nat} {q : Qu} {B : Option Addr} {m d : Nat} {a : Ac} {A : Option Addr} {k c : Nat} {v : Int} {ov : Bool} {hs : List Int} {fn : Func} {a0 : Act} {w0 : World} (S : Val4 N g kk f q B m d a A k c v ov hs fn a0 w0)
include S
set_option maxRecDepth 100000 in
set_option maxHeartbeats 4000000 in
theorem val4_ok : AllOps (fun i o => ∀ (b : Act) (w : World), Below w0.heap.size w0 w → FrD (val4D.take 8) a0 b → needs val4D (val4F N g kk f q B m d a A k c v ov hs w0.heap.size) b w o.after.toList → StepD Try.prog val4D (factAt (val4F N g kk f q B m d a A k c v ov hs w0.heap.size) i) o b w) 0 ((opsOf 4 Try.f29).take 8) := by
  simp only [opsOf, Try.f29, opsAt, Option.bind, Option.or, Option.getD, reduceCtorEq, if_true, if_false, Nat.reduceEqDiff, List.take_succ_cons, List.take_zero]
  refine ⟨?_, ?_⟩
  · intro b w hB hF hd
    exact step_move (guard_none rfl) rfl _ rfl ((hF.other 6 rfl).trans S.v6)
  refine ⟨?_, ?_⟩
  · intro b w hB hF hd
    exact step_faddr (guard_none rfl) rfl _ _ _ rfl N 0 1 ((hF.other 2 rfl).trans S.v2) (fun _ => by kernel_rfl) rfl
  refine ⟨?_, ?_⟩
  · intro b w hB hF hd
    have h0 : b.tmps.getD 23 undef = .pointer (some ⟨N, 1, none⟩) := hd.1 rfl
    have hc : w.cell? ⟨N, 1, none⟩ = some (.int .i64 kk) := by rw [← S.agg]; exact (S.cQ.below hB S.cQ.lt).cell 1
    exact step_loadi (guard_none rfl) rfl _ rfl _ _ h0 _ hc rfl
  refine ⟨?_, ?_⟩
  · intro b w hB hF hd
    have h0 : b.tmps.getD 22 undef = .slice (some ⟨g, 0, none⟩) 8 8 := hd.1 rfl
    have h1 : b.tmps.getD 24 undef = .int .i64 kk := hd.2.1 rfl
    exact step_iaddrT (guard_none rfl) rfl _ _ rfl g 0 8 8 kk h0 h1 S.lt rfl
  refine ⟨?_, ?_⟩
  · intro b w hB hF hd
    have h0 : b.tmps.getD 25 undef = .pointer (some ⟨g, 0 + kk, none⟩) := hd.1 rfl
    exact step_loadf (guard_none rfl) rfl _ rfl _ _ h0 _ (by rw [(S.cT.below hB S.cT.lt).cell, Nat.zero_add]; exact S.tf) rfl
  refine ⟨?_, ?_⟩
  · intro b w hB hF hd
    exact step_loadQ (guard_none rfl) rfl _ rfl N ((hF.other 2 rfl).trans S.v2) q B m d (S.cQ.below hB S.cQ.lt) rfl
  refine ⟨?_, ?_⟩
  · intro b w hB hF hd
    exact step_load (guard_none rfl) rfl _ rfl (N + 1) ((hF.other 3 rfl).trans S.v3) (S.cA.below hB S.cA.lt) rfl
  refine ⟨?_, ?_⟩
  · intro b w hB hF hd
    have h0 : b.tmps.getD 26 undef = .func (.func f) #[] #[] := hd.1 rfl
    have h1 : b.tmps.getD 27 undef = .agg (quC q B m d) := hd.2.1 rfl
    have h2 : b.tmps.getD 28 undef = .agg (accC a A k c) := hd.2.2.1 rfl
    refine step_call (guard_none rfl) rfl f _ (callv_run S.hf S.hname S.hb _ _ _ rfl h0) ?_
    simp only [List.map_toArray, List.map_cons, List.map_nil, Act.eval, h1, h2]
    refine (S.call w hB).mono ?_
    rintro e w1 ⟨A1, n1, c1, rfl, g1, g2, g3, g4, g5⟩
    exact ⟨_, rfl, g5, A1, n1, c1, rfl, g1, g2, g3, g4.mono hB.size⟩
  trivial
theorem val4_any {Q : Exit → Act → World → Prop} {l : List Oper} (hl : opsOf 4 Try.f29 = l)
    (hend : ∀ (A1 : Option Addr) (n1 c1 : Nat) (w : World), Below w0.heap.size w0 w → Ints w A1 n1 hs → n1 ≤ c1 → c1 ≤ maxLen → OwnI w w0.heap.size (.slice A1 n1 c1) hs →
      wpList Try.prog l.toArray Q (l.drop 8) (putAll a0 [(22, .slice (some ⟨g, 0, none⟩) 8 8), (23, .pointer (some ⟨N, 1, none⟩)), (24, .int .i64 kk), (25, .pointer (some ⟨g, 0 + kk, none⟩)), (26, .func (.func f) #[] #[]), (27, .agg (quC q B m d)), (28, .agg (accC a A k c)), (29, .agg (outC v ov A1 n1 c1))]) w) :
    (Code.region 4 l.toArray true).wp Try.prog Q a0 w0 := by
  subst hl
  refine region_head (val4F N g kk f q B m d a A k c v ov hs w0.heap.size) val4D 8 30 S.size rfl (by kernel_rfl) (by kernel_rfl) (by kernel_rfl) (val4F_mono _ _ _ _ _ _ _ _ _ _ _ _ _ _ _ _) (val4_ok S) fun b w hB hF h => ?_
  obtain ⟨A1, n1, c1, h29, g1, g2, g3, g4⟩ := h 7 (some 29) (by omega) rfl
  rw [frame_is hF [(22, .slice (some ⟨g, 0, none⟩) 8 8), (23, .pointer (some ⟨N, 1, none⟩)), (24, .int .i64 kk), (25, .pointer (some ⟨g, 0 + kk, none⟩)), (26, .func (.func f) #[] #[]), (27, .agg (quC q B m d)), (28, .agg (accC a A k c)), (29, .agg (outC v ov A1 n1 c1))]
    ⟨h 0 (some 22) (by omega) rfl, h 1 (some 23) (by omega) rfl, h 2 (some 24) (by omega) rfl, h 3 (some 25) (by omega) rfl, h 4 (some 26) (by omega) rfl, h 5 (some 27) (by omega) rfl, h 6 (some 28) (by omega) rfl, h29, trivial⟩ (by rfl) (by rfl)]
  exact hend A1 n1 c1 w hB g1 g2 g3 g4
end

end Go.Proofs.Ytigjnmjmjhbigaa
