import Derived.Test.YtbpaepkcchpmbaaGreatG12
import Derived.Deep.DeepCutAuto
import Derived.Deep.CutBlock
import Derived.Test.YtbpaepkcchpmbaaGreatG17
import Derived.Test.YtbpaepkcchpmbaaGreatG18
import Derived.Test.YtbpaepkcchpmbaaGreatG0
import Derived.Test.YtbpaepkcchpmbaaGreatG16
import Derived.Test.YtbpaepkcchpmbaaGreatLow
import Derived.Test.YtbpaepkcchpmbaaGreatG9
namespace Go.Proofs.YtbpaepkcchpmbaaGreat
open Go.RowKit
def stR (r : Lr) : Int := if r.q.kind = 2 then r.b - r.a else stepQ r.q.kind r.q.size r.q.slide
set_option maxRecDepth 100000 in
set_option maxHeartbeats 2000000 in
theorem lstep_any (L o : Nat) (cur : Array Value) (r : Lr) (w : World) (hw : Has w L LT cur) (hc : LnC cur o r)
    (h1 : -4611686018427387904 ≤ r.b - r.a ∧ r.b - r.a ≤ 4611686018427387904) (h2 : -4611686018427387904 ≤ r.a + stR r ∧ r.a + stR r ≤ 4611686018427387904) (h3 : -4611686018427387904 ≤ r.b + stR r ∧ r.b + stR r ≤ 4611686018427387904) :
    Calls Tryz.prog 144 #[.pointer (some ⟨L, o, none⟩)] w fun e w' => e = .returned (.tuple #[]) ∧ Has w' L LT (laneA cur o (r.a + stR r) (r.b + stR r)) ∧ ButS [L] w w' := by
  have c1 : ∀ k, (w.drewN k).cell? ⟨L, o, none⟩ = some (.int .i64 r.q.kind) := fun k => ((hw.drewN k).cell _).trans hc.c0
  have c9 : ∀ k, (w.drewN k).cell? ⟨L, o + 9, none⟩ = some (.int .i64 r.a) := fun k => ((hw.drewN k).cell _).trans hc.c9
  have c10 : ∀ k, (w.drewN k).cell? ⟨L, o + 10, none⟩ = some (.int .i64 r.b) := fun k => ((hw.drewN k).cell _).trans hc.c10
  have HW : Hid (∀ k, Has (w.drewN k) L LT cur) := fun k => hw.drewN k
  have HC := Lib.hid hc
  have s10 : o + 10 < cur.size := (Array.getElem?_eq_some_iff.1 hc.c10).1
  have HE : Hid (laneA cur o (r.a + stR r) (r.b + stR r) = (cur.setIfInBounds (o + 9) (.int .i64 (r.a + stR r))).setIfInBounds (o + 10) (.int .i64 (r.b + stR r))) := rfl
  have HS : Hid (stR r = if r.q.kind = 2 then r.b - r.a else stepQ r.q.kind r.q.size r.q.slide) := rfl
  clear hw hc
  rw [HE.out]
  by_cases hk : r.q.kind = 2
  · have hk2 : (r.q.kind != 2) = false := by simp [hk]
    have hst : stR r = r.b - r.a := by rw [HS.out, if_pos hk]
    clear HS
    rw [hst] at h2 h3
    go_enter Tryz.func144, Tryz.ntmps144
    go_wp2_with fail
    go_quiet (fail)
    go_upto_region 3 with fail
    have HA := Lib.hid (HW.out nq)
    have HB := Lib.hid (below_butS (below_drewN (Below.refl w.heap.size w) nq) [L])
    have c9' := c9 nq
    generalize w.drewN nq = w2 at HA HB c9' ⊢
    go_wp2_with (first | (refine store_ln rfl _ _ rfl L (o + 10) _ rfl rfl h3' (by simp; omega) ?_; intro w4 h4 b4) | (refine store_ln rfl _ _ rfl L (o + 9) _ rfl rfl HA.out (by omega) ?_; intro w3 h3' b3; have c10' : w3.cell? ⟨L, o + 10, none⟩ = some (.int .i64 r.b) := by rw [h3'.cell, Array.getElem?_setIfInBounds_ne (by omega)]; exact HC.out.c10))
    refine Great.bodyPost_end0 rfl rfl ?_
    exact ⟨rfl, h4, (HB.out.trans b3).trans b4⟩
  · have hk2 : (r.q.kind != 2) = true := by simp [hk]
    have hst : stR r = stepQ r.q.kind r.q.size r.q.slide := by rw [HS.out, if_neg hk]
    clear HS
    rw [hst] at h2 h3
    go_enter Tryz.func144, Tryz.ntmps144
    go_wp2_with fail
    go_quiet (fail)
    go_upto_region 2 with fail
    go_wp2_with (refine load_lnq rfl _ rfl L o rfl (HW.out _) HC.out ?_)
    refine (stepOf_any r.q.kind r.q.agg r.q.size r.q.slide r.q.rank r.B r.q.bs.length r.d _).mono ?_
    rintro e w2 ⟨rfl, b2⟩
    have HA := Lib.hid ((HW.out nq).below b2 (HW.out nq).lt)
    have HB := Lib.hid (below_butS ((below_drewN (Below.refl w.heap.size w) nq).trans b2) [L])
    have c9' : w2.cell? ⟨L, o + 9, none⟩ = some (.int .i64 r.a) := (HA.out.cell _).trans HC.out.c9
    clear b2
    generalize stepQ r.q.kind r.q.size r.q.slide = st at hst h2 h3 ⊢
    go_wp2_with (first | (refine store_ln rfl _ _ rfl L (o + 10) _ rfl rfl h3' (by simp; omega) ?_; intro w4 h4 b4) | (refine store_ln rfl _ _ rfl L (o + 9) _ rfl rfl HA.out (by omega) ?_; intro w3 h3' b3; have c10' : w3.cell? ⟨L, o + 10, none⟩ = some (.int .i64 r.b) := by rw [h3'.cell, Array.getElem?_setIfInBounds_ne (by omega)]; exact HC.out.c10))
    refine Great.bodyPost_end0 rfl rfl ?_
    exact ⟨rfl, h4, (HB.out.trans b3).trans b4⟩
end Go.Proofs.YtbpaepkcchpmbaaGreat
namespace Go.Proofs.YtbpaepkcchpmbaaGreat
def unitQ (kd sz sl : Int) : Int := if kd = 0 then sz else gcdI sz sl
def cutL (s u : Int) : Nat → List (Int × Int)
  | 0 => []
  | n + 1 => cutL s u n ++ [(s + n * u, s + n * u + u)]
def cutB (kd sz sl s e : Int) : Bool := decide (-1099511627776 - 1073741824 ≤ s ∧ s ≤ 1099511627776 ∧ e = s + sz ∧ -1099511627776 < e ∧ s % stepQ kd sz sl = 0)
def lookT (s : Int) : Int := if s < -1099511627776 then -1099511627776 else s
end Go.Proofs.YtbpaepkcchpmbaaGreat
namespace Go.Proofs.YtbpaepkcchpmbaaGreat
open Go.RowKit
def NoUnit (w : World) (e : Ending) (w' : World) : Prop := e = .returned (.tuple #[.int .i64 0, .int .i64 500]) ∧ Below w.heap.size w w'
def OutUnit (u : Int) (w : World) (e : Ending) (w' : World) : Prop := e = .returned (.tuple #[.int .i64 u, .int .i64 0]) ∧ Below w.heap.size w w'
def NoAt (w : World) (e : Ending) (w' : World) : Prop := e = .returned (.tuple #[.agg #[.int .i64 0, .int .i64 0], .int .i64 500]) ∧ Below w.heap.size w w'
def OutAt (s u : Int) (w : World) (e : Ending) (w' : World) : Prop := e = .returned (.tuple #[.agg #[.int .i64 s, .int .i64 (s + u)], .int .i64 0]) ∧ Below w.heap.size w w'
def NoCut (w : World) (e : Ending) (w' : World) : Prop := e = .returned (.tuple #[.slice none 0 0, .int .i64 500]) ∧ Below w.heap.size w w'
theorem store_span {ops : Array Oper} {rest : List Oper} {op : Oper} {a : Act} {w : World} {Q : Exit → Act → World → Prop} (hgd : op.guard = none) (x y : Operand) (ho : op.op = .store 67 x y)
    (g : Nat) {s e : Int} {old : Array Value} (hx : a.eval x = .pointer (some ⟨g, 0, none⟩)) (hy : a.eval y = .agg #[.int .i64 s, .int .i64 e]) (hg : Has w g 67 old) (hold : old.size = 2)
    (h : wpList Tryz.prog ops Q rest (a.put op.dst undef) (w.setRow g #[.int .i64 s, .int .i64 e])) : wpList Tryz.prog ops Q (op :: rest) a w :=
  wpList_store_row hgd 67 x y ho g _ hx hy 67 old hg Tryz.sizeSpan hold (by simp [Value.oneCell']) h
end Go.Proofs.YtbpaepkcchpmbaaGreat
namespace Go.Proofs.YtbpaepkcchpmbaaGreat
open Go.RowKit
theorem ret_rowA {P : Program} {fn : Func} {p : Tmp} {ty : TypeId} (h : fn.results = #[.cell p ty]) (tmps : Array Value) (w : World) (g : Nat) (t : TypeId) (cs : Array Value) (d : TypeDesc)
    (hp : tmps.getD p undef = .pointer (some ⟨g, 0, none⟩)) (hg : Has w g t cs) (hu : P.underlying ty = some d) (hd : (match d with | .struct _ | .array _ _ => true | _ => false) = true) (hi : (P.info? ty).map (·.size) = some cs.size) :
    (results fn tmps).run P w = .ok (.agg cs) w := by
  have hp' : tmps[p]?.getD undef = .pointer (some ⟨g, 0, none⟩) := by simpa using hp
  simp [results, h, hp', asAddr, run_loadVar_row w g t ty cs (0, 0) d hg hu hd hi]
end Go.Proofs.YtbpaepkcchpmbaaGreat
namespace Go.Proofs.YtbpaepkcchpmbaaGreat
open Go.RowKit
set_option maxRecDepth 100000 in
set_option maxHeartbeats 2000000 in
theorem afirst_any (T0 : TypeId) (L o : Nat) (cur : Array Value) (r : Lr) (t : Int) (w : World) (hw : Has w L T0 cur) (hc : LnC cur o r) (hb : Ints w r.B r.q.bs.length r.q.bs)
    (hq : mayQ r.q.kind r.q.agg r.q.size r.q.slide r.q.bs r.q.rank = true) (ht : wi t (-1099511627776) 1099511627776 = true) (hm : r.q.bs.length ≤ maxLen) :
    Calls Tryz.prog 175 #[.pointer (some ⟨L, o, none⟩), .int .i64 t] w fun e w' => e = .returned (.agg #[.int .i64 (firstQ r.q.kind r.q.size r.q.slide t).1, .int .i64 (firstQ r.q.kind r.q.size r.q.slide t).2]) ∧ Below w.heap.size w w' := by
  have HAL : Hid (∀ ob, Below w.heap.size w (w.alloc ob)) := fun ob => (Below.refl _ _).alloc (Nat.le_refl _) ob
  have HW : Hid (∀ ob, Has (w.alloc ob) L T0 cur) := fun ob => hw.alloc ob
  have c1 : ∀ ob, (w.alloc ob).cell? ⟨L, o, none⟩ = some (.int .i64 r.q.kind) := fun ob => ((hw.alloc ob).cell _).trans hc.c0
  have c3 : ∀ ob, (w.alloc ob).cell? ⟨L, o + 2, none⟩ = some (.int .i64 r.q.size) := fun ob => ((hw.alloc ob).cell _).trans hc.c2
  have HC := Lib.hid hc
  have HF : Hid (firstQ r.q.kind r.q.size r.q.slide t = if r.q.kind = 2 then (t, t + r.q.size) else (spQ r.q.kind r.q.size r.q.slide t).headD (0, 0)) := rfl
  by_cases hk : r.q.kind = 2
  · have hk2 : (r.q.kind == 2) = true := by simp [hk]
    have hz : -4611686018427387904 ≤ t + r.q.size ∧ t + r.q.size ≤ 4611686018427387904 := by
      obtain ⟨_, _, h3, h4, _⟩ := stepQ_bd hq
      have := wi_true ht
      omega
    rw [HF.out, if_pos hk]
    clear HF
    go_enter Tryz.func175, Tryz.ntmps175
    go_wp2_with (first | (refine store_span rfl _ _ rfl w.heap.size rfl rfl (Has.made w _ _) rfl ?_) | fail)
    refine bodyPost_ret (ret_rowA rfl _ _ _ 67 #[.int .i64 t, .int .i64 (t + r.q.size)] _ rfl ((Has.made w _ _).row _) Tryz.underlying67 rfl (by exact Tryz.sizeSpan)) rfl ?_
    exact ⟨rfl, below_row (HAL.out _) (Nat.le_refl _) _⟩
  · have hk2 : (r.q.kind == 2) = false := by simp [hk]
    rw [HF.out, if_neg hk]
    clear HF
    have HO : Hid (∀ ob, Calls Tryz.prog 211 #[.agg #[.int .i64 r.q.kind, .int .i64 r.q.agg, .int .i64 r.q.size, .int .i64 r.q.slide, .slice r.B r.q.bs.length r.d, .int .i64 r.q.rank], .int .i64 t] (w.alloc ob) (OutSpans (spQ r.q.kind r.q.size r.q.slide t) (w.alloc ob))) := fun ob => of_ok _ _ _ _ _ t r.B _ r.d r.q.bs _ (hb.below (HAL.out ob)) hm hq hk ht
    obtain ⟨s1, s2, _⟩ := stepQ_bd hq
    have hne := spQ_ne (t := t) s1 s2
    have HH : Hid (∀ ss : List (Int × Int), ss ≠ [] → ss.headD (0, 0) = nthS ss 0) := fun ss h => by cases ss with | nil => exact absurd rfl h | cons => rfl
    clear s1 s2
    generalize spQ r.q.kind r.q.size r.q.slide t = ss at HO hne ⊢
    rw [HH.out ss hne]
    have hl : 0 < ss.length := List.length_pos_iff.2 hne
    clear HH hne hb hq ht hm hw hc
    go_enter Tryz.func175, Tryz.ntmps175
    go_wp2_with (refine load_lnq rfl _ rfl L o rfl (HW.out _) HC.out ?_)
    refine (HO.out _).mono ?_
    rintro e w2 ⟨A, c, rfl, hs, hb2⟩
    obtain ⟨b, ob, rfl, hcells⟩ := hs.spans.at_ hl
    obtain ⟨d0, d1⟩ := hcells 0 hl
    rw [Nat.zero_mul, Nat.add_zero] at d0 d1
    have hb3 : Below w.heap.size w w2 := (HAL.out _).trans (hb2.mono (by simp))
    have hr : Has w2 w.heap.size 67 #[.int .i64 0, .int .i64 0] := (Has.made w _ _).below hb2 (by simp)
    have HR := Lib.hid hr
    clear hs hcells hr hb2
    generalize ss.length = n at hl d0 d1 ⊢
    have hl2 : (0 : Int) < (n : Int) := by omega
    go_wp2_with (first | (refine store_span rfl _ _ rfl w.heap.size rfl rfl HR.out rfl ?_) | fail)
    refine bodyPost_ret (ret_rowA rfl _ _ _ 67 #[.int .i64 (nthS ss 0).1, .int .i64 (nthS ss 0).2] _ rfl (HR.out.row _) Tryz.underlying67 rfl (by exact Tryz.sizeSpan)) rfl ?_
    exact ⟨rfl, below_row hb3 (Nat.le_refl _) _⟩
end Go.Proofs.YtbpaepkcchpmbaaGreat
namespace Go.Proofs.YtbpaepkcchpmbaaGreat
open Go.RowKit
def tab : Array Value := #[.func (.func 237) #[] #[], .func (.func 238) #[] #[], .func (.func 239) #[] #[], .func (.func 240) #[] #[], .func (.func 241) #[] #[], .func (.func 242) #[] #[], .func (.func 243) #[] #[], .func (.func 244) #[] #[]]
theorem table_any (w : World) : Calls Tryz.prog 221 #[] w fun e w' => ∃ g, e = .returned (.slice (some ⟨g, 0, none⟩) 8 8) ∧ Has w' g 277 tab ∧ Below w.heap.size w w' := by
  go_enter Tryz.func221, Tryz.ntmps221
  go_wp2
  go_ret
  exact ⟨_, rfl, Has.made w _ tab, (Below.refl _ _).alloc (Nat.le_refl _) _⟩
section
variable {D : List (Option Tmp)} {Φ : Fact} {o : Oper} {a : Act} {w : World}
theorem step_iaddrT (hw : Region.wanted o (yieldD D a.tmps) = true) {t : Tmp} (hd : o.dst = some t) (x y : Operand) (ho : o.op = .indexAddr 273 x y) (b f n c k : Nat) (hx : a.eval x = .slice (some ⟨b, f, none⟩) n c) (hy : a.eval y = .int .i64 (k : Int)) (hk : k < n)
    (h : Φ (.pointer (some ⟨b, f + k, none⟩)) w) : StepD Tryz.prog D Φ o a w := by
  refine step_val hw hd _ _ ?_ (Below.refl _ _) h
  have hk2 : (k : Int) < (n : Int) := by omega
  unfold execOp
  rw [ho]
  simp only [hx, hy]
  simp [go_sem, hk2]
theorem loadf_run (g k : Nat) (v : Value) (w : World) (h : w.cell? ⟨g, k, none⟩ = some v) : (Instr.loadAt 277 (.pointer (some ⟨g, k, none⟩))).run Tryz.prog w = .ok v w := by simp [go_sem, h, Instr.loadAt]
theorem step_loadf (hw : Region.wanted o (yieldD D a.tmps) = true) {t : Tmp} (hd : o.dst = some t) (x : Operand) (ho : o.op = .load 277 x) (g k : Nat) (hx : a.eval x = .pointer (some ⟨g, k, none⟩)) (v : Value)
    (hc : w.cell? ⟨g, k, none⟩ = some v) (h : Φ v w) : StepD Tryz.prog D Φ o a w := by
  refine step_val hw hd _ _ ?_ (Below.refl _ _) h
  unfold execOp
  rw [ho]
  simp only [hx, Sem.run_bind, loadf_run g k v w hc, Result.andThen_ok]
  rfl
theorem step_loadQ (hw : Region.wanted o (yieldD D a.tmps) = true) {t : Tmp} (hd : o.dst = some t) (x : Operand) (ho : o.op = .load 59 x) (g : Nat) (hx : a.eval x = .pointer (some ⟨g, 0, none⟩)) (q : Qu) (B : Option Addr) (m d : Nat)
    (hc : Has w g 59 (quC q B m d)) (h : Φ (.agg (quC q B m d)) w) : StepD Tryz.prog D Φ o a w := by
  intro Q
  rw [if_pos hw]
  exact wp_load_row 59 x ho g hx 59 _ (0, 0) _ hc Tryz.underlying59 rfl Tryz.sizeQuery ⟨_, rfl, (fun hn => by rw [hd] at hn; cases hn), Below.refl _ _, h⟩
theorem callv_run {f : FuncId} {fn : Func} (hf : Tryz.prog.funcs[f]? = some fn) (hname : (fn.name == "runtime.NumGoroutine") = false) (hb : fn.body.isSome = true) (x : Operand) (args : Array Operand) (tys : Array TypeId) (ho : o.op = .call { callee := .value x, args := args, argTypes := tys }) (hx : a.eval x = .func (.func f) #[] #[]) : (execOp a.eval o).run Tryz.prog w = .ok (.enter f (args.map a.eval)) w := by
  have h1 : fn.name ≠ "runtime.NumGoroutine" := by simpa using hname
  obtain ⟨c, hc⟩ := Option.isSome_iff_exists.1 hb
  unfold execOp
  rw [ho]
  simp only [resolve, hx]
  simp [callFunc, hf, h1, hc, go_sem]
end
def tellF (v : Int) (o : Bool) (hs : List Int) (N : Nat) : Fact := fun z w => ∃ A n c, z = .agg (outC v o A n c) ∧ Ints w A n hs ∧ n ≤ c ∧ c ≤ maxLen ∧ OwnI w N (.slice A n c) hs
theorem mono_tell (v : Int) (o : Bool) (hs : List Int) (N : Nat) : Mono (tellF v o hs N) := fun _ _ _ hb ⟨A, n, c, e, h1, h2, h3, h4⟩ => ⟨A, n, c, e, h1.below hb, h2, h3, h4.below hb⟩
section
variable (N g kk f : Nat) (q : Qu) (B : Option Addr) (m d : Nat) (a : Ac) (A : Option Addr) (k c : Nat) (v : Int) (ov : Bool) (hs : List Int)
def val4F (M : Nat) : List Fact := [isV (.slice (some ⟨g, 0, none⟩) 8 8), isV (.pointer (some ⟨N, 1, none⟩)), isV (.int .i64 kk), isV (.pointer (some ⟨g, 0 + kk, none⟩)), isV (.func (.func f) #[] #[]), isV (.agg (quC q B m d)), isV (.agg (accC a A k c)), tellF v ov hs M]
def val4D : List (Option Tmp) := [some 22, some 23, some 24, some 25, some 26, some 27, some 28, some 29, none, some 5]
theorem val4F_mono (M : Nat) : ∀ x ∈ val4F N g kk f q B m d a A k c v ov hs M, Mono x := by
  unfold val4F
  repeat (first | exact monos_nil | (refine monos_cons (mono_isV _) ?_) | (refine monos_cons (mono_tell _ _ _ _) ?_))
structure Val4 (fn : Func) (a0 : Act) (w0 : World) : Prop where
  size : a0.tmps.size = 30
  v2 : a0.tmps.getD 2 undef = .pointer (some ⟨N, 0, none⟩)
  v3 : a0.tmps.getD 3 undef = .pointer (some ⟨N + 1, 0, none⟩)
  v6 : a0.tmps.getD 6 undef = .slice (some ⟨g, 0, none⟩) 8 8
  cQ : Has w0 N 59 (quC q B m d)
  cA : Has w0 (N + 1) 144 (accC a A k c)
  cT : Has w0 g 277 tab
  agg : q.agg = kk
  lt : kk < 8
  tf : tab[kk]? = some (.func (.func f) #[] #[])
  hf : Tryz.prog.funcs[f]? = some fn
  hname : (fn.name == "runtime.NumGoroutine") = false
  hb : fn.body.isSome = true
  call : ∀ W, Below w0.heap.size w0 W → Calls Tryz.prog f #[.agg (quC q B m d), .agg (accC a A k c)] W (TellOut v ov hs W)
end
section
variable {N g kk f : Nat} {q : Qu} {B : Option Addr} {m d : Nat} {a : Ac} {A : Option Addr} {k c : Nat} {v : Int} {ov : Bool} {hs : List Int} {fn : Func} {a0 : Act} {w0 : World} (S : Val4 N g kk f q B m d a A k c v ov hs fn a0 w0)
include S
set_option maxRecDepth 100000 in
set_option maxHeartbeats 4000000 in
theorem val4_ok : AllOps (fun i o => ∀ (b : Act) (w : World), Below w0.heap.size w0 w → FrD (val4D.take 8) a0 b → needs val4D (val4F N g kk f q B m d a A k c v ov hs w0.heap.size) b w o.after.toList → StepD Tryz.prog val4D (factAt (val4F N g kk f q B m d a A k c v ov hs w0.heap.size) i) o b w) 0 ((opsOf 4 Tryz.f191).take 8) := by
  simp only [opsOf, Tryz.f191, opsAt, Option.bind, Option.or, Option.getD, reduceCtorEq, if_true, if_false, Nat.reduceEqDiff, List.take_succ_cons, List.take_zero]
  refine ⟨?_, ?_⟩
  · intro b w hB hF hd
    exact step_move (guard_none rfl) rfl _ rfl ((hF.other 6 rfl).trans S.v6)
  refine ⟨?_, ?_⟩
  · intro b w hB hF hd
    exact step_faddr (guard_none rfl) rfl _ _ _ rfl N 0 1 ((hF.other 2 rfl).trans S.v2) (fun _ => by kernel_rfl) rfl
  refine ⟨?_, ?_⟩
  · intro b w hB hF hd
    have h0 : b.tmps.getD 23 undef = .pointer (some ⟨N, 1, none⟩) := hd.1 rfl
    have hc : w.cell? ⟨N, 1, none⟩ = some (.int .i64 kk) := by rw [← S.agg]; exact (S.cQ.below hB S.cQ.lt).cell 1
    exact step_loadi (guard_none rfl) rfl _ rfl _ _ h0 _ hc rfl
  refine ⟨?_, ?_⟩
  · intro b w hB hF hd
    have h0 : b.tmps.getD 22 undef = .slice (some ⟨g, 0, none⟩) 8 8 := hd.1 rfl
    have h1 : b.tmps.getD 24 undef = .int .i64 kk := hd.2.1 rfl
    exact step_iaddrT (guard_none rfl) rfl _ _ rfl g 0 8 8 kk h0 h1 S.lt rfl
  refine ⟨?_, ?_⟩
  · intro b w hB hF hd
    have h0 : b.tmps.getD 25 undef = .pointer (some ⟨g, 0 + kk, none⟩) := hd.1 rfl
    exact step_loadf (guard_none rfl) rfl _ rfl _ _ h0 _ (by rw [(S.cT.below hB S.cT.lt).cell, Nat.zero_add]; exact S.tf) rfl
  refine ⟨?_, ?_⟩
  · intro b w hB hF hd
    exact step_loadQ (guard_none rfl) rfl _ rfl N ((hF.other 2 rfl).trans S.v2) q B m d (S.cQ.below hB S.cQ.lt) rfl
  refine ⟨?_, ?_⟩
  · intro b w hB hF hd
    exact step_load (guard_none rfl) rfl _ rfl (N + 1) ((hF.other 3 rfl).trans S.v3) (S.cA.below hB S.cA.lt) rfl
  refine ⟨?_, ?_⟩
  · intro b w hB hF hd
    have h0 : b.tmps.getD 26 undef = .func (.func f) #[] #[] := hd.1 rfl
    have h1 : b.tmps.getD 27 undef = .agg (quC q B m d) := hd.2.1 rfl
    have h2 : b.tmps.getD 28 undef = .agg (accC a A k c) := hd.2.2.1 rfl
    refine step_call (guard_none rfl) rfl f _ (callv_run S.hf S.hname S.hb _ _ _ rfl h0) ?_
    simp only [List.map_toArray, List.map_cons, List.map_nil, Act.eval, h1, h2]
    refine (S.call w hB).mono ?_
    rintro e w1 ⟨A1, n1, c1, rfl, g1, g2, g3, g4, g5⟩
    exact ⟨_, rfl, g5, A1, n1, c1, rfl, g1, g2, g3, g4.mono hB.size⟩
  trivial
theorem val4_any {Q : Exit → Act → World → Prop} {l : List Oper} (hl : opsOf 4 Tryz.f191 = l)
    (hend : ∀ (A1 : Option Addr) (n1 c1 : Nat) (w : World), Below w0.heap.size w0 w → Ints w A1 n1 hs → n1 ≤ c1 → c1 ≤ maxLen → OwnI w w0.heap.size (.slice A1 n1 c1) hs →
      wpList Tryz.prog l.toArray Q (l.drop 8) (putAll a0 [(22, .slice (some ⟨g, 0, none⟩) 8 8), (23, .pointer (some ⟨N, 1, none⟩)), (24, .int .i64 kk), (25, .pointer (some ⟨g, 0 + kk, none⟩)), (26, .func (.func f) #[] #[]), (27, .agg (quC q B m d)), (28, .agg (accC a A k c)), (29, .agg (outC v ov A1 n1 c1))]) w) :
    (Code.region 4 l.toArray true).wp Tryz.prog Q a0 w0 := by
  subst hl
  refine region_head (val4F N g kk f q B m d a A k c v ov hs w0.heap.size) val4D 8 30 S.size rfl (by kernel_rfl) (by kernel_rfl) (by kernel_rfl) (val4F_mono _ _ _ _ _ _ _ _ _ _ _ _ _ _ _ _) (val4_ok S) fun b w hB hF h => ?_
  obtain ⟨A1, n1, c1, h29, g1, g2, g3, g4⟩ := h 7 (some 29) (by omega) rfl
  rw [frame_is hF [(22, .slice (some ⟨g, 0, none⟩) 8 8), (23, .pointer (some ⟨N, 1, none⟩)), (24, .int .i64 kk), (25, .pointer (some ⟨g, 0 + kk, none⟩)), (26, .func (.func f) #[] #[]), (27, .agg (quC q B m d)), (28, .agg (accC a A k c)), (29, .agg (outC v ov A1 n1 c1))]
    ⟨h 0 (some 22) (by omega) rfl, h 1 (some 23) (by omega) rfl, h 2 (some 24) (by omega) rfl, h 3 (some 25) (by omega) rfl, h 4 (some 26) (by omega) rfl, h 5 (some 27) (by omega) rfl, h 6 (some 28) (by omega) rfl, h29, trivial⟩ (by rfl) (by rfl)]
  exact hend A1 n1 c1 w hB g1 g2 g3 g4
end
end Go.Proofs.YtbpaepkcchpmbaaGreat
