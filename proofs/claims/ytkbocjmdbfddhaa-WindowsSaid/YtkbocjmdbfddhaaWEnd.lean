/-
  Walk: Windows, its last region: the answers are held against one another.
-/
import Derived.Test.YtkbocjmdbfddhaaWAwake
import Derived.Test.YtkbocjmdbfddhaaWRef2
import Derived.Test.YtkbocjmdbfddhaaAny
namespace Go.Proofs.Ytkbocjmdbfddhaa
open Go.RowKit

section
variable {D : List (Option Tmp)} {Φ : Fact} {o : Oper} {a : Act} {w : World}
theorem wcall_run {f : FuncId} {fn : Func} (hf : Try.prog.funcs[f]? = some fn) (hname : (fn.name == "runtime.NumGoroutine") = false) (hb : fn.body.isSome = true) (args : Array Operand) (tys : Array TypeId) (ho : o.op = .call { callee := .value (.func f), args := args, argTypes := tys }) : (execOp a.eval o).run Try.prog w = .ok (.enter f (args.map a.eval)) w := by
  have h1 : fn.name ≠ "runtime.NumGoroutine" := by simpa using hname
  obtain ⟨c, hc⟩ := Option.isSome_iff_exists.1 hb
  unfold execOp
  rw [ho]
  simp [resolve, Act.eval, callFunc, hf, h1, hc, go_sem]
theorem Try.wsizeQuery : (Try.prog.info? 24).map (·.size) = some 6 := by kernel_rfl
theorem step_loadW (hw : Region.wanted o (yieldD D a.tmps) = true) {t : Tmp} (hd : o.dst = some t) (x : Operand) (ho : o.op = .load 24 x) (g : Nat) (hx : a.eval x = .pointer (some ⟨g, 0, none⟩)) (kd ag sz sl rk : Int) (B : Option Addr) (m d : Nat)
    (hc : Has w g 24 #[.int .i64 kd, .int .i64 ag, .int .i64 sz, .int .i64 sl, .slice B m d, .int .i64 rk]) (h : Φ (.agg #[.int .i64 kd, .int .i64 ag, .int .i64 sz, .int .i64 sl, .slice B m d, .int .i64 rk]) w) : StepD Try.prog D Φ o a w := by
  intro Q
  rw [if_pos hw]
  exact wp_load_row 24 x ho g hx 24 _ (0, 0) _ hc Try.underlying24 rfl Try.wsizeQuery ⟨_, rfl, (fun hn => by rw [hd] at hn; cases hn), Below.refl _ _, h⟩
theorem step_eqlB (hw : Region.wanted o (yieldD D a.tmps) = true) {t : Tmp} (hd : o.dst = some t) (x y : Operand) (ho : o.op = .binOp .eql 4 x y 4) (v : Bool) (hx : a.eval x = .bool v) (hy : a.eval y = .bool v) (h : Φ (.bool true) w) : StepD Try.prog D Φ o a w :=
  step_val hw hd _ _ (by unfold execOp; rw [ho]; simp only [hx, hy]; simp [go_sem]) (Below.refl _ _) h
theorem ints_trod {w w' : World} {B : Option Addr} {m : Nat} {bs : List Int} (h : Ints w B m bs) (hb : Below w.heap.size w w') : Ints w' B m bs := h.below hb
end

section
variable (A1 A2 : Option Addr) (n c1 c2 : Nat) (ss : List (Int × Int)) (g : Nat) (kd ag sz sl rk : Int) (B : Option Addr) (m d : Nat) (V : Bool)
def wn7F : List Fact := [isV (.slice A1 n c1), isV (.slice A2 n c2), isV (.bool true), isV (.bool true), isV (.agg #[.int .i64 kd, .int .i64 ag, .int .i64 sz, .int .i64 sl, .slice B m d, .int .i64 rk]), isV (.bool V), isV (.agg #[.int .i64 kd, .int .i64 ag, .int .i64 sz, .int .i64 sl, .slice B m d, .int .i64 rk]), isV (.bool V), isV (.bool true), isV (.bool true), isV (.bool true), isV (.bool true), isV (.bool true), isV (.bool true)]
def wn7D : List (Option Tmp) := [some 41, some 42, some 43, some 44, some 45, some 46, some 47, some 48, some 49, some 50, some 51, some 52, some 53, some 4]
theorem wn7F_mono : ∀ f ∈ wn7F A1 A2 n c1 c2 kd ag sz sl rk B m d V, Mono f := by
  unfold wn7F
  repeat (first | exact monos_nil | (refine monos_cons (mono_isV _) ?_))
structure Wn7 (bs : List Int) (a0 : Act) (w0 : World) : Prop where
  size : a0.tmps.size = 54
  v9 : a0.tmps.getD 9 undef = .slice A1 n c1
  v7 : a0.tmps.getD 7 undef = .slice A2 n c2
  v2 : a0.tmps.getD 2 undef = .pointer (some ⟨g, 0, none⟩)
  s1 : Spans w0 A1 n ss
  s2 : Spans w0 A2 n ss
  sn : n ≤ maxLen
  box : Has w0 g 24 #[.int .i64 kd, .int .i64 ag, .int .i64 sz, .int .i64 sl, .slice B m d, .int .i64 rk]
  sb : Ints w0 B m bs
  sm : m ≤ maxLen
  eV : mayQ kd ag sz sl bs rk = V
end
section
variable {A1 A2 : Option Addr} {n c1 c2 : Nat} {ss : List (Int × Int)} {g : Nat} {kd ag sz sl rk : Int} {B : Option Addr} {m d : Nat} {V : Bool} {bs : List Int} {a0 : Act} {w0 : World} (S : Wn7 A1 A2 n c1 c2 ss g kd ag sz sl rk B m d V bs a0 w0)
include S
set_option maxRecDepth 100000 in
set_option maxHeartbeats 4000000 in
theorem wn7_ok : AllOps (fun i o => ∀ (a : Act) (w : World), Below w0.heap.size w0 w → FrD wn7D a0 a → needs wn7D (wn7F A1 A2 n c1 c2 kd ag sz sl rk B m d V) a w o.after.toList → StepD Try.prog wn7D (factAt (wn7F A1 A2 n c1 c2 kd ag sz sl rk B m d V) i) o a w) 0 (opsOf 7 Try.f3) := by
  simp only [opsOf, Try.f3, opsAt, Option.bind, Option.or, Option.getD, reduceCtorEq, if_true, if_false, Nat.reduceEqDiff]
  refine ⟨?_, ?_⟩
  · intro a w hB hF hd
    exact step_move (guard_none rfl) rfl _ rfl ((hF.other 9 rfl).trans S.v9)
  refine ⟨?_, ?_⟩
  · intro a w hB hF hd
    exact step_move (guard_none rfl) rfl _ rfl ((hF.other 7 rfl).trans S.v7)
  refine ⟨?_, ?_⟩
  · intro a w hB hF hd
    have h0 : a.tmps.getD 41 undef = .slice A1 n c1 := hd.1 rfl
    have h1 : a.tmps.getD 42 undef = .slice A2 n c2 := hd.2.1 rfl
    refine step_call (guard_none rfl) rfl _ _ (wcall_run Try.func16 (by kernel_rfl) (by kernel_rfl) _ _ rfl) ?_
    simp only [List.map_toArray, List.map_cons, List.map_nil, Act.eval, h0, h1]
    exact (sameSpans_true A1 A2 n c1 c2 ss _ (S.s1.below hB) (S.s2.below hB) S.sn).mono (by rintro e w1 ⟨rfl, k, rfl⟩; exact ⟨_, rfl, below_drewN (Below.refl _ _) k, rfl⟩)
  refine ⟨?_, ?_⟩
  · intro a w hB hF hd
    have h0 : a.tmps.getD 43 undef = .bool true := hd.1 rfl
    exact step_move (guard_none rfl) rfl _ rfl h0
  refine ⟨?_, ?_⟩
  · intro a w hB hF hd
    have h0 : a.tmps.getD 44 undef = .bool true := hd.1 rfl
    exact step_loadW (guard_true rfl rfl h0) rfl _ rfl g ((hF.other 2 rfl).trans S.v2) kd ag sz sl rk B m d (S.box.below hB S.box.lt) rfl
  refine ⟨?_, ?_⟩
  · intro a w hB hF hd
    have h0 : a.tmps.getD 45 undef = .agg #[.int .i64 kd, .int .i64 ag, .int .i64 sz, .int .i64 sl, .slice B m d, .int .i64 rk] := hd.1 rfl
    have h1 : a.tmps.getD 44 undef = .bool true := hd.2.1 rfl
    refine step_call (guard_true rfl rfl h1) rfl _ _ (wcall_run Try.func19 (by kernel_rfl) (by kernel_rfl) _ _ rfl) ?_
    simp only [List.map_toArray, List.map_cons, List.map_nil, Act.eval, h0]
    exact (may4_any kd ag sz sl rk B m d bs _ (S.sb.below hB) S.sm).mono (by rintro e w1 ⟨rfl, hb⟩; exact ⟨_, rfl, hb, by rw [S.eV]; rfl⟩)
  refine ⟨?_, ?_⟩
  · intro a w hB hF hd
    have h0 : a.tmps.getD 44 undef = .bool true := hd.1 rfl
    exact step_loadW (guard_true rfl rfl h0) rfl _ rfl g ((hF.other 2 rfl).trans S.v2) kd ag sz sl rk B m d (S.box.below hB S.box.lt) rfl
  refine ⟨?_, ?_⟩
  · intro a w hB hF hd
    have h0 : a.tmps.getD 47 undef = .agg #[.int .i64 kd, .int .i64 ag, .int .i64 sz, .int .i64 sl, .slice B m d, .int .i64 rk] := hd.1 rfl
    have h1 : a.tmps.getD 44 undef = .bool true := hd.2.2.1 rfl
    refine step_call (guard_true rfl rfl h1) rfl _ _ (wcall_run Try.func20 (by kernel_rfl) (by kernel_rfl) _ _ rfl) ?_
    simp only [List.map_toArray, List.map_cons, List.map_nil, Act.eval, h0]
    exact (queryMay_any kd ag sz sl rk B m d bs _ (S.sb.below hB) S.sm).mono (by rintro e w1 ⟨rfl, hb⟩; exact ⟨_, rfl, hb, by rw [S.eV]; rfl⟩)
  refine ⟨?_, ?_⟩
  · intro a w hB hF hd
    have h0 : a.tmps.getD 46 undef = .bool V := hd.1 rfl
    have h1 : a.tmps.getD 48 undef = .bool V := hd.2.1 rfl
    have h2 : a.tmps.getD 44 undef = .bool true := hd.2.2.1 rfl
    exact step_eqlB (guard_true rfl rfl h2) rfl _ _ rfl V h0 h1 rfl
  refine ⟨?_, ?_⟩
  · intro a w hB hF hd
    have h0 : a.tmps.getD 44 undef = .bool true := hd.1 rfl
    have h1 : a.tmps.getD 49 undef = .bool true := hd.2.1 rfl
    exact step_pick (guard_none rfl) rfl _ _ _ rfl h0 h1
  refine ⟨?_, ?_⟩
  · intro a w hB hF hd
    have h0 : a.tmps.getD 50 undef = .bool true := hd.1 rfl
    exact step_move (guard_none rfl) rfl _ rfl h0
  refine ⟨?_, ?_⟩
  · intro a w hB hF hd
    have h0 : a.tmps.getD 51 undef = .bool true := hd.1 rfl
    refine step_call (guard_true rfl rfl h0) rfl _ _ (wcall_run Try.func21 (by kernel_rfl) (by kernel_rfl) _ _ rfl) ?_
    simp only [List.map_toArray, List.map_nil]
    exact (wawake_any w).mono (by rintro e w1 ⟨rfl, hb⟩; exact ⟨_, rfl, hb, rfl⟩)
  refine ⟨?_, ?_⟩
  · intro a w hB hF hd
    have h0 : a.tmps.getD 51 undef = .bool true := hd.1 rfl
    have h1 : a.tmps.getD 52 undef = .bool true := hd.2.1 rfl
    exact step_pick (guard_none rfl) rfl _ _ _ rfl h0 h1
  refine ⟨?_, ?_⟩
  · intro a w hB hF hd
    have h0 : a.tmps.getD 53 undef = .bool true := hd.1 rfl
    exact step_assign (guard_none rfl) rfl _ rfl h0
  trivial
theorem wn7_any {Q : Exit → Act → World → Prop} {l : List Oper} (hl : opsOf 7 Try.f3 = l) (hend : ∀ (a : Act) (w : World), Below w0.heap.size w0 w → a.defers = a0.defers → a.tmps.getD 4 undef = .bool true → Q .normal a w) :
    (Code.region 7 l.toArray true).wp Try.prog Q a0 w0 := by
  subst hl
  exact region_facts (wn7F A1 A2 n c1 c2 kd ag sz sl rk B m d V) wn7D 54 S.size rfl (by kernel_rfl) (by kernel_rfl) (wn7F_mono _ _ _ _ _ _ _ _ _ _ _ _ _ _) (wn7_ok S) fun a w hB hF h => hend a w hB hF.defers (h 13 (some 4) rfl)
end

end Go.Proofs.Ytkbocjmdbfddhaa
