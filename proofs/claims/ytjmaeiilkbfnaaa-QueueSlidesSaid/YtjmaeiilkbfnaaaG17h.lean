/-
  Plain facts of QueueSlides: a row of single items of rising time, what is known of a part of it. No program here.
  The two drawn regions of QueueSlides (written by gen/stsl.py).
-/
import Derived.Test.YtjmaeiilkbfnaaaStP
import Derived.Test.YtjmaeiilkbfnaaaG17g
namespace Go.Proofs.Ytjmaeiilkbfnaaa
open Go.RowKit

section
variable (V : Nat → Int)
def slI (j : Nat) : It := ⟨0, j, j + 1, V j⟩
def slA (j : Nat) : Ac := oneAc (slI V j) [0]
def slW (a n : Nat) : List Ac := (List.range n).map fun k => slA V (a + k)
def suV (a : Nat) : Nat → Int
  | 0 => 0
  | n + 1 => suV a n + V (a + n)
def loV (a : Nat) : Nat → Int
  | 0 => 1099511627776
  | n + 1 => min (loV a n) (V (a + n))
def hiV (a : Nat) : Nat → Int
  | 0 => -1099511627776
  | n + 1 => max (hiV a n) (V (a + n))
def upV (a : Nat) : Nat → Int
  | 0 => 0
  | n + 1 => upV a n + (if 0 < V (a + n) then 1 else 0)
theorem slW_len (a n : Nat) : (slW V a n).length = n := by simp [slW]
theorem slW_succ (a n : Nat) : slW V a (n + 1) = slW V a n ++ [slA V (a + n)] := by simp [slW, List.range_succ]
theorem slW_head (a n : Nat) : slW V a (n + 1) = slA V a :: slW V (a + 1) n := by
  simp only [slW, List.range_succ_eq_map, List.map_cons, List.map_map, Nat.add_zero, List.cons.injEq, true_and]
  refine List.map_congr_left fun k _ => ?_
  simp only [Function.comp]
  rw [show a + (k + 1) = a + 1 + k by omega]
theorem slA_h (j : Nat) : (slA V j).h = [1 - (if 0 < V j then 1 else 0), if 0 < V j then 1 else 0] := by
  unfold slA oneAc slI
  by_cases h : 0 < V j
  · simp [bkt, h, List.replicate]
  · simp [bkt, h, List.replicate]
theorem slA_n (j : Nat) : (slA V j).n = 1 := rfl
theorem slA_s (j : Nat) : (slA V j).s = V j := rfl
variable (hV : ∀ j, -600 ≤ V j ∧ V j ≤ 600)
include hV
theorem su_bd (a n : Nat) : -600 * (n : Int) ≤ suV V a n ∧ suV V a n ≤ 600 * (n : Int) := by
  induction n with
  | zero => exact ⟨Int.le_refl _, Int.le_refl _⟩
  | succ n ih =>
    have h := hV (a + n)
    show _ ≤ suV V a n + V (a + n) ∧ suV V a n + V (a + n) ≤ _
    omega
omit hV in
theorem up_bd (a n : Nat) : 0 ≤ upV V a n ∧ upV V a n ≤ (n : Int) := by
  induction n with
  | zero => exact ⟨Int.le_refl _, Int.le_refl _⟩
  | succ n ih =>
    show 0 ≤ upV V a n + (if 0 < V (a + n) then 1 else 0) ∧ upV V a n + (if 0 < V (a + n) then 1 else 0) ≤ _
    split <;> omega
theorem slI_ok (j : Nat) (hj : j ≤ 1000) : itemB (slI V j) = true := by
  have h := hV j
  unfold itemB slI
  simp only [Bool.and_eq_true]
  exact ⟨by decide, wi_mk (by omega), wi_mk (by omega), wi_mk (by omega)⟩
theorem sl_row (a n : Nat) (h : a + n ≤ 1000) : RowJ [0] (slW V a n) := by
  refine ⟨by decide, tog_iff.2 ⟨0, Int.le_refl _, fun x hx => ?_⟩, ?_⟩
  · obtain ⟨k, hk, rfl⟩ := List.mem_map.1 hx
    have hk2 := List.mem_range.1 hk
    exact ⟨one_fit (bs := [0]) (slI_ok V hV _ (by omega)), fun _ => rfl⟩
  · have key : ∀ n, totalA (slW V a n) = n := by
      intro n
      induction n with
      | zero => rfl
      | succ n ih =>
        rw [slW_succ, totalA_app, ih, totalA_cons, slA_n]
        show (n : Int) + (1 + 0) = _
        omega
    rw [key]
    omega
/-- What is known of n + 1 of them. -/
structure SlJ (a n : Nat) (J : Ac) : Prop where
  jn : J.n = n + 1
  js : J.s = suV V a (n + 1)
  jmn : J.mn = loV V a (n + 1)
  jmx : J.mx = hiV V a (n + 1)
  jf : J.f = slI V a
  jl : J.l = slI V (a + n)
  jh : J.h = [(n : Int) + 1 - upV V a (n + 1), upV V a (n + 1)]
theorem sl_join (a : Nat) : ∀ n, a + n + 1 ≤ 1000 → SlJ V a n (joinAc [0] (slW V a (n + 1)))
  | 0, hn => by
    have hf : fitB (slA V a) 2 = true := one_fit (bs := [0]) (slI_ok V hV _ (by omega))
    have hp : Part ([(0 : Int)].length + 1) (slA V a) := fit_part (m := 2) hf
    have e : joinAc [0] (slW V a 1) = slA V a := by
      rw [slW_succ]
      exact join_sole hp
    have h := hV a
    rw [e]
    refine ⟨rfl, ?_, ?_, ?_, rfl, rfl, ?_⟩
    · show V a = 0 + V (a + 0)
      rw [Nat.add_zero]; omega
    · show V a = min 1099511627776 (V (a + 0))
      rw [Nat.add_zero]; omega
    · show V a = max (-1099511627776) (V (a + 0))
      rw [Nat.add_zero]; omega
    · rw [slA_h]
      show _ = [((0 : Nat) : Int) + 1 - (0 + if 0 < V (a + 0) then 1 else 0), 0 + if 0 < V (a + 0) then 1 else 0]
      rw [Nat.add_zero]
      simp
  | n + 1, hn => by
    have ih := sl_join a n (by omega)
    have hr := sl_row V hV a (n + 2) (by omega)
    have e : joinAc [0] (slW V a (n + 1 + 1)) = addAc (joinAc [0] (slW V a (n + 1))) (slA V (a + (n + 1))) := by
      rw [slW_succ V a (n + 1), joinAc_no, List.foldl_append, ← joinAc_no]
      rw [List.foldl_cons, List.foldl_nil]
      unfold joinStep
      rw [if_neg (by rw [slA_n]; decide)]
    rw [e]
    generalize joinAc [0] (slW V a (n + 1)) = J at ih
    have hJ0 : ¬ J.n = 0 := by rw [ih.jn]; omega
    have b1 : beforeB (slI V (a + (n + 1))) (slI V a) = false := decide_eq_false (by simp only [slI]; omega)
    have b2 : beforeB (slI V (a + (n + 1))) (slI V (a + n)) = false := decide_eq_false (by simp only [slI]; omega)
    have e1 : (slA V (a + (n + 1))).f = slI V (a + (n + 1)) := rfl
    have e2 : (slA V (a + (n + 1))).l = slI V (a + (n + 1)) := rfl
    refine ⟨?_, ?_, ?_, ?_, ?_, ?_, ?_⟩
    · show J.n + 1 = _
      rw [ih.jn]; omega
    · show J.s + V (a + (n + 1)) = _
      rw [ih.js]; rfl
    · show (if J.n = 0 then _ else min J.mn (V (a + (n + 1)))) = _
      rw [if_neg hJ0, ih.jmn]; rfl
    · show (if J.n = 0 then _ else max J.mx (V (a + (n + 1)))) = _
      rw [if_neg hJ0, ih.jmx]; rfl
    · show (if J.n = 0 then _ else pick (beforeB (slA V (a + (n + 1))).f J.f) (slA V (a + (n + 1))).f J.f) = _
      rw [if_neg hJ0, ih.jf, e1, b1]; rfl
    · show (if J.n = 0 then _ else pick (beforeB (slA V (a + (n + 1))).l J.l) J.l (slA V (a + (n + 1))).l) = _
      rw [if_neg hJ0, ih.jl, e2, b2]; rfl
    · show ((List.range J.h.length).map fun i => nth J.h i + nth (slA V (a + (n + 1))).h i) = _
      rw [ih.jh, slA_h]
      have e3 : upV V a (n + 1 + 1) = upV V a (n + 1) + (if 0 < V (a + (n + 1)) then 1 else 0) := rfl
      rw [e3]
      generalize upV V a (n + 1) = u
      generalize (if 0 < V (a + (n + 1)) then (1 : Int) else 0) = t
      simp only [List.length_cons, List.length_nil, List.range_succ, List.range_zero, List.nil_append, List.map_cons, List.map_nil, nth, List.getD_cons_zero, List.getD_cons_succ, List.singleton_append, List.cons.injEq, and_true]
      omega
end

end Go.Proofs.Ytjmaeiilkbfnaaa

namespace Go.Proofs.Ytjmaeiilkbfnaaa
open Go.RowKit

theorem rf_and17 {D : List (Option Tmp)} {Φ : Fact} {o : Oper} {a : Act} {w : World} (hw : Region.wanted o (yieldD D a.tmps) = true) {t : Tmp} (hd : o.dst = some t) (x y : Operand) (ho : o.op = .binOp .and 3 x y 3) (p q r : Int) (hx : a.eval x = .int .i64 p) (hy : a.eval y = .int .i64 q) (hr : bits .and .i64 p q = r) (h : Φ (.int .i64 r) w) : StepD Try.prog D Φ o a w := by
  refine step_val hw hd _ _ ?_ (Below.refl _ _) h
  unfold execOp
  rw [ho]
  simp only [hx, hy]
  simp [go_sem, hr]
def ints2F (p q : Int) : Fact := fun v w => ∃ e, v = .slice (some ⟨e, 0, none⟩) 2 2 ∧ Ints w (some ⟨e, 0, none⟩) 2 [p, q]
theorem ints2F_mono (p q : Int) : Mono (ints2F p q) := fun _ _ _ hb ⟨e, he, h⟩ => ⟨e, he, h.below hb⟩
theorem rf_ints2 {D : List (Option Tmp)} {Φ : Fact} {o : Oper} {a : Act} {w : World} (hw : Region.wanted o (yieldD D a.tmps) = true) {t : Tmp} (hd : o.dst = some t) (x y : Operand) (ho : o.op = .buildSlice 25 2 #[(0, x), (1, y)]) (p q : Int) (hx : a.eval x = .int .i64 p) (hy : a.eval y = .int .i64 q) (h : ∀ v w', ints2F p q v w' → Φ v w') : StepD Try.prog D Φ o a w := by
  have e : (Instr.buildSlice 25 2 #[(0, .int .i64 p), (1, .int .i64 q)]).run Try.prog w = .ok (.slice (some ⟨w.heap.size, 0, none⟩) 2 2) (w.alloc (.cells #[.int .i64 p, .int .i64 q] 3)) := by kernel_rfl
  refine step_val hw hd (.slice (some ⟨w.heap.size, 0, none⟩) 2 2) (w.alloc (.cells #[.int .i64 p, .int .i64 q] 3)) ?_ ((Below.refl _ w).alloc (Nat.le_refl _) _) (h _ _ ⟨_, rfl, ints_of_has (xs := [p, q]) (Has.made _ _ _) rfl⟩)
  unfold execOp
  rw [ho]
  generalize a.eval = ev at hx hy ⊢
  simp only [List.map_toArray, List.map_cons, List.map_nil, hx, hy, Sem.run_bind, e, Result.andThen_ok]
  rfl

def ssl16D : List (Option Tmp) := [some 74, some 75, some 76, some 77, some 78, some 79, some 80, some 81, some 82, some 83, some 84, some 85, some 86, some 87, some 88, some 89]
def ssl16F (b f n c k y : Nat) (x m I W : Int) : List Fact := [isV (.int .i64 0), isV (.int .i64 0), isV (.bool false), isV (.bool false), isV (.pointer (some ⟨y, 1, none⟩)), isV (.int .i64 (m - 500)), isV (.slice (some ⟨b, f, none⟩) n c), isV (.int .i64 I), isV (.int .i64 W), isV (.int .i64 (I - W)), isV (.pointer (some ⟨b, f + k * 1, none⟩)), isV (.int .i64 x), isV (.int .i64 m), isV (.int .i64 (m - 500)), isV (.bool false), isV (.bool false)]
theorem ssl16F_mono (b f n c k y : Nat) (x m I W : Int) : ∀ φ ∈ ssl16F b f n c k y x m I W, Mono φ := by
  unfold ssl16F
  refine monos_cons (mono_isV _) ?_
  refine monos_cons (mono_isV _) ?_
  refine monos_cons (mono_isV _) ?_
  refine monos_cons (mono_isV _) ?_
  refine monos_cons (mono_isV _) ?_
  refine monos_cons (mono_isV _) ?_
  refine monos_cons (mono_isV _) ?_
  refine monos_cons (mono_isV _) ?_
  refine monos_cons (mono_isV _) ?_
  refine monos_cons (mono_isV _) ?_
  refine monos_cons (mono_isV _) ?_
  refine monos_cons (mono_isV _) ?_
  refine monos_cons (mono_isV _) ?_
  refine monos_cons (mono_isV _) ?_
  refine monos_cons (mono_isV _) ?_
  refine monos_cons (mono_isV _) ?_
  exact monos_nil
structure ssl16S (b f n c k y : Nat) (x m I W : Int) (a0 : Act) (w0 : World) : Prop where
  size : a0.tmps.size = 182
  v0 : a0.tmps.getD 0 undef = .slice (some ⟨b, f, none⟩) n c
  v7 : a0.tmps.getD 7 undef = .int .i64 W
  v8 : a0.tmps.getD 8 undef = .int .i64 I
  v11 : a0.tmps.getD 11 undef = .pointer (some ⟨y, 0, none⟩)
  v12 : a0.tmps.getD 12 undef = .int .i64 0
  cy : w0.cell? ⟨y, 1, none⟩ = some (.int .i64 (m - 500))
  cv : w0.cell? ⟨b, f + k * 1, none⟩ = some (.int .i64 x)
  em : bits .and .i64 x 1023 = m
  mb : 0 ≤ m ∧ m ≤ 1023
  ek : I - W = (k : Int)
  kn : k < n
  kb : k ≤ 1000
section
variable {b f n c k y : Nat} {x m I W : Int} {a0 : Act} {w0 : World} (S : ssl16S b f n c k y x m I W a0 w0)
include S
set_option maxRecDepth 100000 in
set_option maxHeartbeats 8000000 in
theorem ssl16_ok : AllOps (fun j o => ∀ (a : Act) (w : World), Below w0.heap.size w0 w → FrD ssl16D a0 a → needs ssl16D (ssl16F b f n c k y x m I W) a w o.after.toList → StepD Try.prog ssl16D (factAt (ssl16F b f n c k y x m I W) j) o a w) 0 (opsOf 16 Try.f5) := by
  simp only [opsOf, Try.f5, opsAt, Option.bind, Option.or, Option.getD, reduceCtorEq, if_true, if_false, Nat.reduceEqDiff]
  refine ⟨?_, ?_⟩
  · intro _a _w _hB hF _hd
    exact step_move (guard_none rfl) rfl _ rfl ((hF.other 12 rfl).trans S.v12)
  refine ⟨?_, ?_⟩
  · intro a _w _hB _hF hd
    have h74 : a.tmps.getD 74 undef = .int .i64 0 := hd.1 rfl
    refine step_call (guard_none rfl) rfl _ _ (rf_call_run Try.func14 (by kernel_rfl) (by kernel_rfl) _ _ rfl) ?_
    simp only [List.map_toArray, List.map_cons, List.map_nil, Act.eval, h74]
    exact (num_any _ _).mono (by rintro e w1 ⟨rfl, rfl⟩; exact ⟨_, rfl, Below.refl _ _, rfl⟩)
  refine ⟨?_, ?_⟩
  · intro a _w _hB _hF hd
    have h75 : a.tmps.getD 75 undef = .int .i64 0 := hd.1 rfl
    exact rf_neq (guard_none rfl) rfl _ _ rfl _ _ h75 rfl false rfl rfl
  refine ⟨?_, ?_⟩
  · intro a _w _hB _hF hd
    have h76 : a.tmps.getD 76 undef = .bool false := hd.1 rfl
    exact step_move (guard_none rfl) rfl _ rfl h76
  refine ⟨?_, ?_⟩
  · intro a _w _hB hF hd
    have h77 : a.tmps.getD 77 undef = .bool false := hd.1 rfl
    exact rf_faddr (rf_open false rfl rfl h77) rfl _ _ _ rfl _ _ 1 _ ((hF.other 11 rfl).trans S.v11) (by omega) (fun _ _ => by kernel_rfl) rfl
  refine ⟨?_, ?_⟩
  · intro a _w hB _hF hd
    have h77 : a.tmps.getD 77 undef = .bool false := hd.2.1 rfl
    have h78 : a.tmps.getD 78 undef = .pointer (some ⟨y, 1, none⟩) := hd.1 rfl
    exact rf_loadi (rf_open false rfl rfl h77) rfl _ rfl _ _ h78 _ ((hB.cell (block_lt_of_cell S.cy)).trans S.cy) rfl
  refine ⟨?_, ?_⟩
  · intro a _w _hB hF hd
    have h77 : a.tmps.getD 77 undef = .bool false := hd.1 rfl
    exact step_move (rf_open false rfl rfl h77) rfl _ rfl ((hF.other 0 rfl).trans S.v0)
  refine ⟨?_, ?_⟩
  · intro a _w _hB hF hd
    have h77 : a.tmps.getD 77 undef = .bool false := hd.1 rfl
    exact step_move (rf_open false rfl rfl h77) rfl _ rfl ((hF.other 8 rfl).trans S.v8)
  refine ⟨?_, ?_⟩
  · intro a _w _hB hF hd
    have h77 : a.tmps.getD 77 undef = .bool false := hd.1 rfl
    exact step_move (rf_open false rfl rfl h77) rfl _ rfl ((hF.other 7 rfl).trans S.v7)
  refine ⟨?_, ?_⟩
  · intro a _w _hB _hF hd
    have h77 : a.tmps.getD 77 undef = .bool false := hd.2.2.1 rfl
    have h81 : a.tmps.getD 81 undef = .int .i64 I := hd.1 rfl
    have h82 : a.tmps.getD 82 undef = .int .i64 W := hd.2.1 rfl
    exact rf_sub (rf_open false rfl rfl h77) rfl _ _ rfl _ _ h81 h82 (by have := S.ek; have := S.kb; omega) (by have := S.ek; have := S.kb; omega) rfl
  refine ⟨?_, ?_⟩
  · intro a _w _hB _hF hd
    have h77 : a.tmps.getD 77 undef = .bool false := hd.2.2.1 rfl
    have h80 : a.tmps.getD 80 undef = .slice (some ⟨b, f, none⟩) n c := hd.1 rfl
    have h83 : a.tmps.getD 83 undef = .int .i64 (I - W) := hd.2.1 rfl
    exact rf_index (s := 1) (rf_open false rfl rfl h77) rfl 25 _ _ rfl Try.underlying25 (fun _ => by kernel_rfl) b f n c k _ h80 h83 S.ek S.kn rfl
  refine ⟨?_, ?_⟩
  · intro a _w hB _hF hd
    have h77 : a.tmps.getD 77 undef = .bool false := hd.2.1 rfl
    have h84 : a.tmps.getD 84 undef = .pointer (some ⟨b, f + k * 1, none⟩) := hd.1 rfl
    exact rf_loadi (rf_open false rfl rfl h77) rfl _ rfl _ _ h84 _ ((hB.cell (block_lt_of_cell S.cv)).trans S.cv) rfl
  refine ⟨?_, ?_⟩
  · intro a _w _hB _hF hd
    have h77 : a.tmps.getD 77 undef = .bool false := hd.2.1 rfl
    have h85 : a.tmps.getD 85 undef = .int .i64 x := hd.1 rfl
    exact rf_and17 (rf_open false rfl rfl h77) rfl _ _ rfl _ _ _ h85 rfl S.em rfl
  refine ⟨?_, ?_⟩
  · intro a _w _hB _hF hd
    have h77 : a.tmps.getD 77 undef = .bool false := hd.2.1 rfl
    have h86 : a.tmps.getD 86 undef = .int .i64 m := hd.1 rfl
    exact rf_sub (rf_open false rfl rfl h77) rfl _ _ rfl _ _ h86 rfl (by have := S.mb; omega) (by have := S.mb; omega) rfl
  refine ⟨?_, ?_⟩
  · intro a _w _hB _hF hd
    have h77 : a.tmps.getD 77 undef = .bool false := hd.2.2.1 rfl
    have h79 : a.tmps.getD 79 undef = .int .i64 (m - 500) := hd.1 rfl
    have h87 : a.tmps.getD 87 undef = .int .i64 (m - 500) := hd.2.1 rfl
    exact rf_neq (rf_open false rfl rfl h77) rfl _ _ rfl _ _ h79 h87 false (by simp) rfl
  refine ⟨?_, ?_⟩
  · intro a _w _hB _hF hd
    have h77 : a.tmps.getD 77 undef = .bool false := hd.1 rfl
    have h88 : a.tmps.getD 88 undef = .bool false := hd.2.1 rfl
    exact rf_pick (guard_none rfl) rfl _ _ _ rfl false h77 h88
  trivial
theorem ssl16_any {Q : Exit → Act → World → Prop} {l : List Oper} (hl : opsOf 16 Try.f5 = l) (hend : ∀ w : World, Below w0.heap.size w0 w → Q .normal (putAll a0 [(74, .int .i64 0), (75, .int .i64 0), (76, .bool false), (77, .bool false), (78, .pointer (some ⟨y, 1, none⟩)), (79, .int .i64 (m - 500)), (80, .slice (some ⟨b, f, none⟩) n c), (81, .int .i64 I), (82, .int .i64 W), (83, .int .i64 (I - W)), (84, .pointer (some ⟨b, f + k * 1, none⟩)), (85, .int .i64 x), (86, .int .i64 m), (87, .int .i64 (m - 500)), (88, .bool false), (89, .bool false)]) w) :
    (Code.region 16 l.toArray true).wp Try.prog Q a0 w0 := by
  subst hl
  refine region_facts2 (ssl16F b f n c k y x m I W) ssl16D 182 S.size rfl (by kernel_rfl) (by kernel_rfl) (ssl16F_mono _ _ _ _ _ _ _ _ _ _) (ssl16_ok S) fun a w hB hF h => ?_
  have hv : valsAre a [(74, .int .i64 0), (75, .int .i64 0), (76, .bool false), (77, .bool false), (78, .pointer (some ⟨y, 1, none⟩)), (79, .int .i64 (m - 500)), (80, .slice (some ⟨b, f, none⟩) n c), (81, .int .i64 I), (82, .int .i64 W), (83, .int .i64 (I - W)), (84, .pointer (some ⟨b, f + k * 1, none⟩)), (85, .int .i64 x), (86, .int .i64 m), (87, .int .i64 (m - 500)), (88, .bool false), (89, .bool false)] := by
    refine ⟨?_, ?_, ?_, ?_, ?_, ?_, ?_, ?_, ?_, ?_, ?_, ?_, ?_, ?_, ?_, ?_, trivial⟩
    · exact h 0 (some 74) rfl
    · exact h 1 (some 75) rfl
    · exact h 2 (some 76) rfl
    · exact h 3 (some 77) rfl
    · exact h 4 (some 78) rfl
    · exact h 5 (some 79) rfl
    · exact h 6 (some 80) rfl
    · exact h 7 (some 81) rfl
    · exact h 8 (some 82) rfl
    · exact h 9 (some 83) rfl
    · exact h 10 (some 84) rfl
    · exact h 11 (some 85) rfl
    · exact h 12 (some 86) rfl
    · exact h 13 (some 87) rfl
    · exact h 14 (some 88) rfl
    · exact h 15 (some 89) rfl
  rw [frame_is hF _ hv (by rfl) (by rfl)]
  exact hend w hB
end

def ssl30D : List (Option Tmp) := [some 122, some 123, some 124, some 125, some 126, some 127, some 128, some 129, some 130, some 131, some 132, some 133, some 134, some 135, some 136, some 137, some 138, some 139, some 140, some 141, some 142, some 143, some 144, some 145, some 146, some 147, some 148, some 149, some 150, some 151, some 152, some 153, some 154, some 155, some 156, some 157, some 158, some 159, some 160, some 161, some 162, some 163, some 164, some 165, some 166, some 167, some 168, some 169, some 170, some 171, some 172, some 173, some 174, some 175, some 176, some 177, some 178, some 179, some 180, some 181]
def ssl30F (g y hb hc : Nat) (I F su lo hi up n : Int) : List Fact := [isV (.pointer (some ⟨y, 0, none⟩)), isV (.int .i64 n), isV (.int .i64 I), isV (.int .i64 F), isV (.int .i64 (I - F)), isV (.int .i64 ((I - F) + 1)), isV (.bool false), isV (.bool false), isV (.pointer (some ⟨y, 1, none⟩)), isV (.int .i64 su), isV (.int .i64 su), isV (.bool false), isV (.bool false), isV (.bool false), isV (.pointer (some ⟨y, 2, none⟩)), isV (.int .i64 lo), isV (.int .i64 lo), isV (.bool false), isV (.bool false), isV (.bool false), isV (.pointer (some ⟨y, 3, none⟩)), isV (.int .i64 hi), isV (.int .i64 hi), isV (.bool false), isV (.bool false), isV (.bool false), isV (.pointer (some ⟨y, 4, none⟩)), isV (.pointer (some ⟨y, 6, none⟩)), isV (.int .i64 (F + 1)), isV (.int .i64 F), isV (.int .i64 (F + 1)), isV (.bool false), isV (.bool false), isV (.bool false), isV (.pointer (some ⟨y, 8, none⟩)), isV (.pointer (some ⟨y, 10, none⟩)), isV (.int .i64 (I + 1)), isV (.int .i64 I), isV (.int .i64 (I + 1)), isV (.bool false), isV (.bool false), isV (.bool false), isV (.pointer (some ⟨y, 12, none⟩)), isV (.slice (some ⟨hb, 0, none⟩) 2 hc), isV (.pointer (some ⟨y, 0, none⟩)), isV (.int .i64 n), isV (.int .i64 up), isV (.int .i64 (n - up)), isV (.int .i64 up), ints2F (n - up) up, isV (.bool true), isV (.bool false), isV (.bool false), isV (.bool false), isV (.pointer (some ⟨g, 0, none⟩)), isV (.int .i64 n), isV (.pointer (some ⟨y, 0, none⟩)), isV (.int .i64 n), isV (.bool false), isV (.bool false)]
theorem ssl30F_mono (g y hb hc : Nat) (I F su lo hi up n : Int) : ∀ φ ∈ ssl30F g y hb hc I F su lo hi up n, Mono φ := by
  unfold ssl30F
  refine monos_cons (mono_isV _) ?_
  refine monos_cons (mono_isV _) ?_
  refine monos_cons (mono_isV _) ?_
  refine monos_cons (mono_isV _) ?_
  refine monos_cons (mono_isV _) ?_
  refine monos_cons (mono_isV _) ?_
  refine monos_cons (mono_isV _) ?_
  refine monos_cons (mono_isV _) ?_
  refine monos_cons (mono_isV _) ?_
  refine monos_cons (mono_isV _) ?_
  refine monos_cons (mono_isV _) ?_
  refine monos_cons (mono_isV _) ?_
  refine monos_cons (mono_isV _) ?_
  refine monos_cons (mono_isV _) ?_
  refine monos_cons (mono_isV _) ?_
  refine monos_cons (mono_isV _) ?_
  refine monos_cons (mono_isV _) ?_
  refine monos_cons (mono_isV _) ?_
  refine monos_cons (mono_isV _) ?_
  refine monos_cons (mono_isV _) ?_
  refine monos_cons (mono_isV _) ?_
  refine monos_cons (mono_isV _) ?_
  refine monos_cons (mono_isV _) ?_
  refine monos_cons (mono_isV _) ?_
  refine monos_cons (mono_isV _) ?_
  refine monos_cons (mono_isV _) ?_
  refine monos_cons (mono_isV _) ?_
  refine monos_cons (mono_isV _) ?_
  refine monos_cons (mono_isV _) ?_
  refine monos_cons (mono_isV _) ?_
  refine monos_cons (mono_isV _) ?_
  refine monos_cons (mono_isV _) ?_
  refine monos_cons (mono_isV _) ?_
  refine monos_cons (mono_isV _) ?_
  refine monos_cons (mono_isV _) ?_
  refine monos_cons (mono_isV _) ?_
  refine monos_cons (mono_isV _) ?_
  refine monos_cons (mono_isV _) ?_
  refine monos_cons (mono_isV _) ?_
  refine monos_cons (mono_isV _) ?_
  refine monos_cons (mono_isV _) ?_
  refine monos_cons (mono_isV _) ?_
  refine monos_cons (mono_isV _) ?_
  refine monos_cons (mono_isV _) ?_
  refine monos_cons (mono_isV _) ?_
  refine monos_cons (mono_isV _) ?_
  refine monos_cons (mono_isV _) ?_
  refine monos_cons (mono_isV _) ?_
  refine monos_cons (mono_isV _) ?_
  refine monos_cons (ints2F_mono _ _) ?_
  refine monos_cons (mono_isV _) ?_
  refine monos_cons (mono_isV _) ?_
  refine monos_cons (mono_isV _) ?_
  refine monos_cons (mono_isV _) ?_
  refine monos_cons (mono_isV _) ?_
  refine monos_cons (mono_isV _) ?_
  refine monos_cons (mono_isV _) ?_
  refine monos_cons (mono_isV _) ?_
  refine monos_cons (mono_isV _) ?_
  refine monos_cons (mono_isV _) ?_
  exact monos_nil
structure ssl30S (g y hb hc : Nat) (I F su lo hi up n : Int) (a0 : Act) (w0 : World) : Prop where
  size : a0.tmps.size = 182
  v5 : a0.tmps.getD 5 undef = .pointer (some ⟨g, 0, none⟩)
  v8 : a0.tmps.getD 8 undef = .int .i64 I
  v13 : a0.tmps.getD 13 undef = .int .i64 F
  v14 : a0.tmps.getD 14 undef = .int .i64 su
  v15 : a0.tmps.getD 15 undef = .int .i64 lo
  v16 : a0.tmps.getD 16 undef = .int .i64 hi
  v17 : a0.tmps.getD 17 undef = .int .i64 up
  v20 : a0.tmps.getD 20 undef = .pointer (some ⟨y, 0, none⟩)
  cy0 : w0.cell? ⟨y, 0, none⟩ = some (.int .i64 (n))
  cy1 : w0.cell? ⟨y, 1, none⟩ = some (.int .i64 (su))
  cy2 : w0.cell? ⟨y, 2, none⟩ = some (.int .i64 (lo))
  cy3 : w0.cell? ⟨y, 3, none⟩ = some (.int .i64 (hi))
  cy6 : w0.cell? ⟨y, 6, none⟩ = some (.int .i64 (F + 1))
  cy10 : w0.cell? ⟨y, 10, none⟩ = some (.int .i64 (I + 1))
  cy12 : w0.cell? ⟨y, 12, none⟩ = some (.slice (some ⟨hb, 0, none⟩) 2 hc)
  hh : Ints w0 (some ⟨hb, 0, none⟩) 2 [n - up, up]
  en : I - F + 1 = n
  rI : 0 ≤ F ∧ F ≤ I ∧ I ≤ 1000
  rU : 0 ≤ up ∧ up ≤ n ∧ n ≤ 1001
  cl : ∀ w, Below w0.heap.size w0 w → Calls Try.prog 31 #[.pointer (some ⟨g, 0, none⟩)] w fun e w2 => e = .returned (.int .i64 n) ∧ ∃ k, w2 = w.drewN k
section
variable {g y hb hc : Nat} {I F su lo hi up n : Int} {a0 : Act} {w0 : World} (S : ssl30S g y hb hc I F su lo hi up n a0 w0)
include S
set_option maxRecDepth 100000 in
set_option maxHeartbeats 8000000 in
theorem ssl30_ok : AllOps (fun j o => ∀ (a : Act) (w : World), Below w0.heap.size w0 w → FrD ssl30D a0 a → needs ssl30D (ssl30F g y hb hc I F su lo hi up n) a w o.after.toList → StepD Try.prog ssl30D (factAt (ssl30F g y hb hc I F su lo hi up n) j) o a w) 0 (opsOf 30 Try.f5) := by
  simp only [opsOf, Try.f5, opsAt, Option.bind, Option.or, Option.getD, reduceCtorEq, if_true, if_false, Nat.reduceEqDiff]
  refine ⟨?_, ?_⟩
  · intro _a _w _hB hF _hd
    exact rf_faddr (guard_none rfl) rfl _ _ _ rfl _ _ 0 _ ((hF.other 20 rfl).trans S.v20) (by omega) (fun _ _ => by kernel_rfl) rfl
  refine ⟨?_, ?_⟩
  · intro a _w hB _hF hd
    have h122 : a.tmps.getD 122 undef = .pointer (some ⟨y, 0, none⟩) := hd.1 rfl
    exact rf_loadi (guard_none rfl) rfl _ rfl _ _ h122 _ ((hB.cell (block_lt_of_cell S.cy0)).trans S.cy0) rfl
  refine ⟨?_, ?_⟩
  · intro _a _w _hB hF _hd
    exact step_move (guard_none rfl) rfl _ rfl ((hF.other 8 rfl).trans S.v8)
  refine ⟨?_, ?_⟩
  · intro _a _w _hB hF _hd
    exact step_move (guard_none rfl) rfl _ rfl ((hF.other 13 rfl).trans S.v13)
  refine ⟨?_, ?_⟩
  · intro a _w _hB _hF hd
    have h124 : a.tmps.getD 124 undef = .int .i64 I := hd.1 rfl
    have h125 : a.tmps.getD 125 undef = .int .i64 F := hd.2.1 rfl
    exact rf_sub (guard_none rfl) rfl _ _ rfl _ _ h124 h125 (by have := S.rI; omega) (by have := S.rI; omega) rfl
  refine ⟨?_, ?_⟩
  · intro a _w _hB _hF hd
    have h126 : a.tmps.getD 126 undef = .int .i64 (I - F) := hd.1 rfl
    exact rf_add (guard_none rfl) rfl _ _ rfl _ _ h126 rfl (by have := S.rI; omega) (by have := S.rI; omega) rfl
  refine ⟨?_, ?_⟩
  · intro a _w _hB _hF hd
    have h123 : a.tmps.getD 123 undef = .int .i64 n := hd.1 rfl
    have h127 : a.tmps.getD 127 undef = .int .i64 ((I - F) + 1) := hd.2.1 rfl
    exact rf_neq (guard_none rfl) rfl _ _ rfl _ _ h123 h127 false (by have := S.en; simp; omega) rfl
  refine ⟨?_, ?_⟩
  · intro a _w _hB _hF hd
    have h128 : a.tmps.getD 128 undef = .bool false := hd.1 rfl
    exact step_move (guard_none rfl) rfl _ rfl h128
  refine ⟨?_, ?_⟩
  · intro a _w _hB hF hd
    have h129 : a.tmps.getD 129 undef = .bool false := hd.1 rfl
    exact rf_faddr (rf_open false rfl rfl h129) rfl _ _ _ rfl _ _ 1 _ ((hF.other 20 rfl).trans S.v20) (by omega) (fun _ _ => by kernel_rfl) rfl
  refine ⟨?_, ?_⟩
  · intro a _w hB _hF hd
    have h129 : a.tmps.getD 129 undef = .bool false := hd.2.1 rfl
    have h130 : a.tmps.getD 130 undef = .pointer (some ⟨y, 1, none⟩) := hd.1 rfl
    exact rf_loadi (rf_open false rfl rfl h129) rfl _ rfl _ _ h130 _ ((hB.cell (block_lt_of_cell S.cy1)).trans S.cy1) rfl
  refine ⟨?_, ?_⟩
  · intro a _w _hB hF hd
    have h129 : a.tmps.getD 129 undef = .bool false := hd.1 rfl
    exact step_move (rf_open false rfl rfl h129) rfl _ rfl ((hF.other 14 rfl).trans S.v14)
  refine ⟨?_, ?_⟩
  · intro a _w _hB _hF hd
    have h129 : a.tmps.getD 129 undef = .bool false := hd.2.2.1 rfl
    have h131 : a.tmps.getD 131 undef = .int .i64 su := hd.1 rfl
    have h132 : a.tmps.getD 132 undef = .int .i64 su := hd.2.1 rfl
    exact rf_neq (rf_open false rfl rfl h129) rfl _ _ rfl _ _ h131 h132 false (by simp) rfl
  refine ⟨?_, ?_⟩
  · intro a _w _hB _hF hd
    have h129 : a.tmps.getD 129 undef = .bool false := hd.1 rfl
    have h133 : a.tmps.getD 133 undef = .bool false := hd.2.1 rfl
    exact rf_pick (guard_none rfl) rfl _ _ _ rfl false h129 h133
  refine ⟨?_, ?_⟩
  · intro a _w _hB _hF hd
    have h134 : a.tmps.getD 134 undef = .bool false := hd.1 rfl
    exact step_move (guard_none rfl) rfl _ rfl h134
  refine ⟨?_, ?_⟩
  · intro a _w _hB hF hd
    have h135 : a.tmps.getD 135 undef = .bool false := hd.1 rfl
    exact rf_faddr (rf_open false rfl rfl h135) rfl _ _ _ rfl _ _ 2 _ ((hF.other 20 rfl).trans S.v20) (by omega) (fun _ _ => by kernel_rfl) rfl
  refine ⟨?_, ?_⟩
  · intro a _w hB _hF hd
    have h135 : a.tmps.getD 135 undef = .bool false := hd.2.1 rfl
    have h136 : a.tmps.getD 136 undef = .pointer (some ⟨y, 2, none⟩) := hd.1 rfl
    exact rf_loadi (rf_open false rfl rfl h135) rfl _ rfl _ _ h136 _ ((hB.cell (block_lt_of_cell S.cy2)).trans S.cy2) rfl
  refine ⟨?_, ?_⟩
  · intro a _w _hB hF hd
    have h135 : a.tmps.getD 135 undef = .bool false := hd.1 rfl
    exact step_move (rf_open false rfl rfl h135) rfl _ rfl ((hF.other 15 rfl).trans S.v15)
  refine ⟨?_, ?_⟩
  · intro a _w _hB _hF hd
    have h135 : a.tmps.getD 135 undef = .bool false := hd.2.2.1 rfl
    have h137 : a.tmps.getD 137 undef = .int .i64 lo := hd.1 rfl
    have h138 : a.tmps.getD 138 undef = .int .i64 lo := hd.2.1 rfl
    exact rf_neq (rf_open false rfl rfl h135) rfl _ _ rfl _ _ h137 h138 false (by simp) rfl
  refine ⟨?_, ?_⟩
  · intro a _w _hB _hF hd
    have h135 : a.tmps.getD 135 undef = .bool false := hd.1 rfl
    have h139 : a.tmps.getD 139 undef = .bool false := hd.2.1 rfl
    exact rf_pick (guard_none rfl) rfl _ _ _ rfl false h135 h139
  refine ⟨?_, ?_⟩
  · intro a _w _hB _hF hd
    have h140 : a.tmps.getD 140 undef = .bool false := hd.1 rfl
    exact step_move (guard_none rfl) rfl _ rfl h140
  refine ⟨?_, ?_⟩
  · intro a _w _hB hF hd
    have h141 : a.tmps.getD 141 undef = .bool false := hd.1 rfl
    exact rf_faddr (rf_open false rfl rfl h141) rfl _ _ _ rfl _ _ 3 _ ((hF.other 20 rfl).trans S.v20) (by omega) (fun _ _ => by kernel_rfl) rfl
  refine ⟨?_, ?_⟩
  · intro a _w hB _hF hd
    have h141 : a.tmps.getD 141 undef = .bool false := hd.2.1 rfl
    have h142 : a.tmps.getD 142 undef = .pointer (some ⟨y, 3, none⟩) := hd.1 rfl
    exact rf_loadi (rf_open false rfl rfl h141) rfl _ rfl _ _ h142 _ ((hB.cell (block_lt_of_cell S.cy3)).trans S.cy3) rfl
  refine ⟨?_, ?_⟩
  · intro a _w _hB hF hd
    have h141 : a.tmps.getD 141 undef = .bool false := hd.1 rfl
    exact step_move (rf_open false rfl rfl h141) rfl _ rfl ((hF.other 16 rfl).trans S.v16)
  refine ⟨?_, ?_⟩
  · intro a _w _hB _hF hd
    have h141 : a.tmps.getD 141 undef = .bool false := hd.2.2.1 rfl
    have h143 : a.tmps.getD 143 undef = .int .i64 hi := hd.1 rfl
    have h144 : a.tmps.getD 144 undef = .int .i64 hi := hd.2.1 rfl
    exact rf_neq (rf_open false rfl rfl h141) rfl _ _ rfl _ _ h143 h144 false (by simp) rfl
  refine ⟨?_, ?_⟩
  · intro a _w _hB _hF hd
    have h141 : a.tmps.getD 141 undef = .bool false := hd.1 rfl
    have h145 : a.tmps.getD 145 undef = .bool false := hd.2.1 rfl
    exact rf_pick (guard_none rfl) rfl _ _ _ rfl false h141 h145
  refine ⟨?_, ?_⟩
  · intro a _w _hB _hF hd
    have h146 : a.tmps.getD 146 undef = .bool false := hd.1 rfl
    exact step_move (guard_none rfl) rfl _ rfl h146
  refine ⟨?_, ?_⟩
  · intro a _w _hB hF hd
    have h147 : a.tmps.getD 147 undef = .bool false := hd.1 rfl
    exact rf_faddr (rf_open false rfl rfl h147) rfl _ _ _ rfl _ _ 4 _ ((hF.other 20 rfl).trans S.v20) (by omega) (fun _ _ => by kernel_rfl) rfl
  refine ⟨?_, ?_⟩
  · intro a _w _hB _hF hd
    have h147 : a.tmps.getD 147 undef = .bool false := hd.2.1 rfl
    have h148 : a.tmps.getD 148 undef = .pointer (some ⟨y, 4, none⟩) := hd.1 rfl
    exact rf_faddr (rf_open false rfl rfl h147) rfl _ _ _ rfl _ _ 2 _ h148 (by omega) (fun _ _ => by kernel_rfl) rfl
  refine ⟨?_, ?_⟩
  · intro a _w hB _hF hd
    have h147 : a.tmps.getD 147 undef = .bool false := hd.2.1 rfl
    have h149 : a.tmps.getD 149 undef = .pointer (some ⟨y, 6, none⟩) := hd.1 rfl
    exact rf_loadi (rf_open false rfl rfl h147) rfl _ rfl _ _ h149 _ ((hB.cell (block_lt_of_cell S.cy6)).trans S.cy6) rfl
  refine ⟨?_, ?_⟩
  · intro a _w _hB hF hd
    have h147 : a.tmps.getD 147 undef = .bool false := hd.1 rfl
    exact step_move (rf_open false rfl rfl h147) rfl _ rfl ((hF.other 13 rfl).trans S.v13)
  refine ⟨?_, ?_⟩
  · intro a _w _hB _hF hd
    have h147 : a.tmps.getD 147 undef = .bool false := hd.2.1 rfl
    have h151 : a.tmps.getD 151 undef = .int .i64 F := hd.1 rfl
    exact rf_add (rf_open false rfl rfl h147) rfl _ _ rfl _ _ h151 rfl (by have := S.rI; omega) (by have := S.rI; omega) rfl
  refine ⟨?_, ?_⟩
  · intro a _w _hB _hF hd
    have h147 : a.tmps.getD 147 undef = .bool false := hd.2.2.1 rfl
    have h150 : a.tmps.getD 150 undef = .int .i64 (F + 1) := hd.1 rfl
    have h152 : a.tmps.getD 152 undef = .int .i64 (F + 1) := hd.2.1 rfl
    exact rf_neq (rf_open false rfl rfl h147) rfl _ _ rfl _ _ h150 h152 false (by simp) rfl
  refine ⟨?_, ?_⟩
  · intro a _w _hB _hF hd
    have h147 : a.tmps.getD 147 undef = .bool false := hd.1 rfl
    have h153 : a.tmps.getD 153 undef = .bool false := hd.2.1 rfl
    exact rf_pick (guard_none rfl) rfl _ _ _ rfl false h147 h153
  refine ⟨?_, ?_⟩
  · intro a _w _hB _hF hd
    have h154 : a.tmps.getD 154 undef = .bool false := hd.1 rfl
    exact step_move (guard_none rfl) rfl _ rfl h154
  refine ⟨?_, ?_⟩
  · intro a _w _hB hF hd
    have h155 : a.tmps.getD 155 undef = .bool false := hd.1 rfl
    exact rf_faddr (rf_open false rfl rfl h155) rfl _ _ _ rfl _ _ 8 _ ((hF.other 20 rfl).trans S.v20) (by omega) (fun _ _ => by kernel_rfl) rfl
  refine ⟨?_, ?_⟩
  · intro a _w _hB _hF hd
    have h155 : a.tmps.getD 155 undef = .bool false := hd.2.1 rfl
    have h156 : a.tmps.getD 156 undef = .pointer (some ⟨y, 8, none⟩) := hd.1 rfl
    exact rf_faddr (rf_open false rfl rfl h155) rfl _ _ _ rfl _ _ 2 _ h156 (by omega) (fun _ _ => by kernel_rfl) rfl
  refine ⟨?_, ?_⟩
  · intro a _w hB _hF hd
    have h155 : a.tmps.getD 155 undef = .bool false := hd.2.1 rfl
    have h157 : a.tmps.getD 157 undef = .pointer (some ⟨y, 10, none⟩) := hd.1 rfl
    exact rf_loadi (rf_open false rfl rfl h155) rfl _ rfl _ _ h157 _ ((hB.cell (block_lt_of_cell S.cy10)).trans S.cy10) rfl
  refine ⟨?_, ?_⟩
  · intro a _w _hB hF hd
    have h155 : a.tmps.getD 155 undef = .bool false := hd.1 rfl
    exact step_move (rf_open false rfl rfl h155) rfl _ rfl ((hF.other 8 rfl).trans S.v8)
  refine ⟨?_, ?_⟩
  · intro a _w _hB _hF hd
    have h155 : a.tmps.getD 155 undef = .bool false := hd.2.1 rfl
    have h159 : a.tmps.getD 159 undef = .int .i64 I := hd.1 rfl
    exact rf_add (rf_open false rfl rfl h155) rfl _ _ rfl _ _ h159 rfl (by have := S.rI; omega) (by have := S.rI; omega) rfl
  refine ⟨?_, ?_⟩
  · intro a _w _hB _hF hd
    have h155 : a.tmps.getD 155 undef = .bool false := hd.2.2.1 rfl
    have h158 : a.tmps.getD 158 undef = .int .i64 (I + 1) := hd.1 rfl
    have h160 : a.tmps.getD 160 undef = .int .i64 (I + 1) := hd.2.1 rfl
    exact rf_neq (rf_open false rfl rfl h155) rfl _ _ rfl _ _ h158 h160 false (by simp) rfl
  refine ⟨?_, ?_⟩
  · intro a _w _hB _hF hd
    have h155 : a.tmps.getD 155 undef = .bool false := hd.1 rfl
    have h161 : a.tmps.getD 161 undef = .bool false := hd.2.1 rfl
    exact rf_pick (guard_none rfl) rfl _ _ _ rfl false h155 h161
  refine ⟨?_, ?_⟩
  · intro a _w _hB _hF hd
    have h162 : a.tmps.getD 162 undef = .bool false := hd.1 rfl
    exact step_move (guard_none rfl) rfl _ rfl h162
  refine ⟨?_, ?_⟩
  · intro a _w _hB hF hd
    have h163 : a.tmps.getD 163 undef = .bool false := hd.1 rfl
    exact rf_faddr (rf_open false rfl rfl h163) rfl _ _ _ rfl _ _ 12 _ ((hF.other 20 rfl).trans S.v20) (by omega) (fun _ _ => by kernel_rfl) rfl
  refine ⟨?_, ?_⟩
  · intro a _w hB _hF hd
    have h163 : a.tmps.getD 163 undef = .bool false := hd.2.1 rfl
    have h164 : a.tmps.getD 164 undef = .pointer (some ⟨y, 12, none⟩) := hd.1 rfl
    exact rf_load1 (rf_open false rfl rfl h163) rfl _ _ rfl _ _ h164 (run_ldN ((hB.cell (block_lt_of_cell S.cy12)).trans S.cy12)) rfl
  refine ⟨?_, ?_⟩
  · intro a _w _hB hF hd
    have h163 : a.tmps.getD 163 undef = .bool false := hd.1 rfl
    exact rf_faddr (rf_open false rfl rfl h163) rfl _ _ _ rfl _ _ 0 _ ((hF.other 20 rfl).trans S.v20) (by omega) (fun _ _ => by kernel_rfl) rfl
  refine ⟨?_, ?_⟩
  · intro a _w hB _hF hd
    have h163 : a.tmps.getD 163 undef = .bool false := hd.2.1 rfl
    have h166 : a.tmps.getD 166 undef = .pointer (some ⟨y, 0, none⟩) := hd.1 rfl
    exact rf_loadi (rf_open false rfl rfl h163) rfl _ rfl _ _ h166 _ ((hB.cell (block_lt_of_cell S.cy0)).trans S.cy0) rfl
  refine ⟨?_, ?_⟩
  · intro a _w _hB hF hd
    have h163 : a.tmps.getD 163 undef = .bool false := hd.1 rfl
    exact step_move (rf_open false rfl rfl h163) rfl _ rfl ((hF.other 17 rfl).trans S.v17)
  refine ⟨?_, ?_⟩
  · intro a _w _hB _hF hd
    have h163 : a.tmps.getD 163 undef = .bool false := hd.2.2.1 rfl
    have h167 : a.tmps.getD 167 undef = .int .i64 n := hd.1 rfl
    have h168 : a.tmps.getD 168 undef = .int .i64 up := hd.2.1 rfl
    exact rf_sub (rf_open false rfl rfl h163) rfl _ _ rfl _ _ h167 h168 (by have := S.rU; omega) (by have := S.rU; omega) rfl
  refine ⟨?_, ?_⟩
  · intro a _w _hB hF hd
    have h163 : a.tmps.getD 163 undef = .bool false := hd.1 rfl
    exact step_move (rf_open false rfl rfl h163) rfl _ rfl ((hF.other 17 rfl).trans S.v17)
  refine ⟨?_, ?_⟩
  · intro a _w _hB _hF hd
    have h163 : a.tmps.getD 163 undef = .bool false := hd.2.2.1 rfl
    have h169 : a.tmps.getD 169 undef = .int .i64 (n - up) := hd.1 rfl
    have h170 : a.tmps.getD 170 undef = .int .i64 up := hd.2.1 rfl
    exact rf_ints2 (rf_open false rfl rfl h163) rfl _ _ rfl _ _ h169 h170 (fun _ _ h => h)
  refine ⟨?_, ?_⟩
  · intro a w hB _hF hd
    have h163 : a.tmps.getD 163 undef = .bool false := hd.2.2.1 rfl
    have h165 : a.tmps.getD 165 undef = .slice (some ⟨hb, 0, none⟩) 2 hc := hd.1 rfl
    obtain ⟨e171, h171, p171⟩ : ints2F (n - up) up (a.tmps.getD 171 undef) w := hd.2.1 rfl
    refine step_call (rf_open false rfl rfl h163) rfl _ _ (rf_call_run Try.func34 (by kernel_rfl) (by kernel_rfl) _ _ rfl) ?_
    simp only [List.map_toArray, List.map_cons, List.map_nil, Act.eval, h165, h171]
    exact (sameInts_true _ _ 2 _ _ [n - up, up] _ (S.hh.below hB) p171 (by unfold maxLen; omega)).mono (by rintro e w1 ⟨rfl, k, rfl⟩; exact ⟨_, rfl, below_drewN (Below.refl _ _) _, rfl⟩)
  refine ⟨?_, ?_⟩
  · intro a _w _hB _hF hd
    have h163 : a.tmps.getD 163 undef = .bool false := hd.2.1 rfl
    have h172 : a.tmps.getD 172 undef = .bool true := hd.1 rfl
    exact step_not (rf_open false rfl rfl h163) rfl _ _ rfl h172 rfl
  refine ⟨?_, ?_⟩
  · intro a _w _hB _hF hd
    have h163 : a.tmps.getD 163 undef = .bool false := hd.1 rfl
    have h173 : a.tmps.getD 173 undef = .bool false := hd.2.1 rfl
    exact rf_pick (guard_none rfl) rfl _ _ _ rfl false h163 h173
  refine ⟨?_, ?_⟩
  · intro a _w _hB _hF hd
    have h174 : a.tmps.getD 174 undef = .bool false := hd.1 rfl
    exact step_move (guard_none rfl) rfl _ rfl h174
  refine ⟨?_, ?_⟩
  · intro a _w _hB hF hd
    have h175 : a.tmps.getD 175 undef = .bool false := hd.1 rfl
    exact step_move (rf_open false rfl rfl h175) rfl _ rfl ((hF.other 5 rfl).trans S.v5)
  refine ⟨?_, ?_⟩
  · intro a w hB _hF hd
    have h175 : a.tmps.getD 175 undef = .bool false := hd.2.1 rfl
    have h176 : a.tmps.getD 176 undef = .pointer (some ⟨g, 0, none⟩) := hd.1 rfl
    refine step_call (rf_open false rfl rfl h175) rfl _ _ (rf_call_run Try.func31 (by kernel_rfl) (by kernel_rfl) _ _ rfl) ?_
    simp only [List.map_toArray, List.map_cons, List.map_nil, Act.eval, h176]
    exact (S.cl w hB).mono (by rintro e w1 ⟨rfl, k, rfl⟩; exact ⟨_, rfl, below_drewN (Below.refl _ _) _, rfl⟩)
  refine ⟨?_, ?_⟩
  · intro a _w _hB hF hd
    have h175 : a.tmps.getD 175 undef = .bool false := hd.1 rfl
    exact rf_faddr (rf_open false rfl rfl h175) rfl _ _ _ rfl _ _ 0 _ ((hF.other 20 rfl).trans S.v20) (by omega) (fun _ _ => by kernel_rfl) rfl
  refine ⟨?_, ?_⟩
  · intro a _w hB _hF hd
    have h175 : a.tmps.getD 175 undef = .bool false := hd.2.1 rfl
    have h178 : a.tmps.getD 178 undef = .pointer (some ⟨y, 0, none⟩) := hd.1 rfl
    exact rf_loadi (rf_open false rfl rfl h175) rfl _ rfl _ _ h178 _ ((hB.cell (block_lt_of_cell S.cy0)).trans S.cy0) rfl
  refine ⟨?_, ?_⟩
  · intro a _w _hB _hF hd
    have h175 : a.tmps.getD 175 undef = .bool false := hd.2.2.1 rfl
    have h177 : a.tmps.getD 177 undef = .int .i64 n := hd.1 rfl
    have h179 : a.tmps.getD 179 undef = .int .i64 n := hd.2.1 rfl
    exact rf_neq (rf_open false rfl rfl h175) rfl _ _ rfl _ _ h177 h179 false (by simp) rfl
  refine ⟨?_, ?_⟩
  · intro a _w _hB _hF hd
    have h175 : a.tmps.getD 175 undef = .bool false := hd.1 rfl
    have h180 : a.tmps.getD 180 undef = .bool false := hd.2.1 rfl
    exact rf_pick (guard_none rfl) rfl _ _ _ rfl false h175 h180
  trivial
theorem ssl30_any {Q : Exit → Act → World → Prop} {l : List Oper} (hl : opsOf 30 Try.f5 = l) (hend : ∀ (e171 : Nat), ∀ w : World, Below w0.heap.size w0 w → Ints w (some ⟨e171, 0, none⟩) 2 [n - up, up] → Q .normal (putAll a0 [(122, .pointer (some ⟨y, 0, none⟩)), (123, .int .i64 n), (124, .int .i64 I), (125, .int .i64 F), (126, .int .i64 (I - F)), (127, .int .i64 ((I - F) + 1)), (128, .bool false), (129, .bool false), (130, .pointer (some ⟨y, 1, none⟩)), (131, .int .i64 su), (132, .int .i64 su), (133, .bool false), (134, .bool false), (135, .bool false), (136, .pointer (some ⟨y, 2, none⟩)), (137, .int .i64 lo), (138, .int .i64 lo), (139, .bool false), (140, .bool false), (141, .bool false), (142, .pointer (some ⟨y, 3, none⟩)), (143, .int .i64 hi), (144, .int .i64 hi), (145, .bool false), (146, .bool false), (147, .bool false), (148, .pointer (some ⟨y, 4, none⟩)), (149, .pointer (some ⟨y, 6, none⟩)), (150, .int .i64 (F + 1)), (151, .int .i64 F), (152, .int .i64 (F + 1)), (153, .bool false), (154, .bool false), (155, .bool false), (156, .pointer (some ⟨y, 8, none⟩)), (157, .pointer (some ⟨y, 10, none⟩)), (158, .int .i64 (I + 1)), (159, .int .i64 I), (160, .int .i64 (I + 1)), (161, .bool false), (162, .bool false), (163, .bool false), (164, .pointer (some ⟨y, 12, none⟩)), (165, .slice (some ⟨hb, 0, none⟩) 2 hc), (166, .pointer (some ⟨y, 0, none⟩)), (167, .int .i64 n), (168, .int .i64 up), (169, .int .i64 (n - up)), (170, .int .i64 up), (171, .slice (some ⟨e171, 0, none⟩) 2 2), (172, .bool true), (173, .bool false), (174, .bool false), (175, .bool false), (176, .pointer (some ⟨g, 0, none⟩)), (177, .int .i64 n), (178, .pointer (some ⟨y, 0, none⟩)), (179, .int .i64 n), (180, .bool false), (181, .bool false)]) w) :
    (Code.region 30 l.toArray true).wp Try.prog Q a0 w0 := by
  subst hl
  refine region_facts2 (ssl30F g y hb hc I F su lo hi up n) ssl30D 182 S.size rfl (by kernel_rfl) (by kernel_rfl) (ssl30F_mono _ _ _ _ _ _ _ _ _ _ _) (ssl30_ok S) fun a w hB hF h => ?_
  obtain ⟨e171, h171, p171⟩ : ints2F (n - up) up (a.tmps.getD 171 undef) w := h 49 (some 171) rfl
  have hv : valsAre a [(122, .pointer (some ⟨y, 0, none⟩)), (123, .int .i64 n), (124, .int .i64 I), (125, .int .i64 F), (126, .int .i64 (I - F)), (127, .int .i64 ((I - F) + 1)), (128, .bool false), (129, .bool false), (130, .pointer (some ⟨y, 1, none⟩)), (131, .int .i64 su), (132, .int .i64 su), (133, .bool false), (134, .bool false), (135, .bool false), (136, .pointer (some ⟨y, 2, none⟩)), (137, .int .i64 lo), (138, .int .i64 lo), (139, .bool false), (140, .bool false), (141, .bool false), (142, .pointer (some ⟨y, 3, none⟩)), (143, .int .i64 hi), (144, .int .i64 hi), (145, .bool false), (146, .bool false), (147, .bool false), (148, .pointer (some ⟨y, 4, none⟩)), (149, .pointer (some ⟨y, 6, none⟩)), (150, .int .i64 (F + 1)), (151, .int .i64 F), (152, .int .i64 (F + 1)), (153, .bool false), (154, .bool false), (155, .bool false), (156, .pointer (some ⟨y, 8, none⟩)), (157, .pointer (some ⟨y, 10, none⟩)), (158, .int .i64 (I + 1)), (159, .int .i64 I), (160, .int .i64 (I + 1)), (161, .bool false), (162, .bool false), (163, .bool false), (164, .pointer (some ⟨y, 12, none⟩)), (165, .slice (some ⟨hb, 0, none⟩) 2 hc), (166, .pointer (some ⟨y, 0, none⟩)), (167, .int .i64 n), (168, .int .i64 up), (169, .int .i64 (n - up)), (170, .int .i64 up), (171, .slice (some ⟨e171, 0, none⟩) 2 2), (172, .bool true), (173, .bool false), (174, .bool false), (175, .bool false), (176, .pointer (some ⟨g, 0, none⟩)), (177, .int .i64 n), (178, .pointer (some ⟨y, 0, none⟩)), (179, .int .i64 n), (180, .bool false), (181, .bool false)] := by
    refine ⟨?_, ?_, ?_, ?_, ?_, ?_, ?_, ?_, ?_, ?_, ?_, ?_, ?_, ?_, ?_, ?_, ?_, ?_, ?_, ?_, ?_, ?_, ?_, ?_, ?_, ?_, ?_, ?_, ?_, ?_, ?_, ?_, ?_, ?_, ?_, ?_, ?_, ?_, ?_, ?_, ?_, ?_, ?_, ?_, ?_, ?_, ?_, ?_, ?_, ?_, ?_, ?_, ?_, ?_, ?_, ?_, ?_, ?_, ?_, ?_, trivial⟩
    · exact h 0 (some 122) rfl
    · exact h 1 (some 123) rfl
    · exact h 2 (some 124) rfl
    · exact h 3 (some 125) rfl
    · exact h 4 (some 126) rfl
    · exact h 5 (some 127) rfl
    · exact h 6 (some 128) rfl
    · exact h 7 (some 129) rfl
    · exact h 8 (some 130) rfl
    · exact h 9 (some 131) rfl
    · exact h 10 (some 132) rfl
    · exact h 11 (some 133) rfl
    · exact h 12 (some 134) rfl
    · exact h 13 (some 135) rfl
    · exact h 14 (some 136) rfl
    · exact h 15 (some 137) rfl
    · exact h 16 (some 138) rfl
    · exact h 17 (some 139) rfl
    · exact h 18 (some 140) rfl
    · exact h 19 (some 141) rfl
    · exact h 20 (some 142) rfl
    · exact h 21 (some 143) rfl
    · exact h 22 (some 144) rfl
    · exact h 23 (some 145) rfl
    · exact h 24 (some 146) rfl
    · exact h 25 (some 147) rfl
    · exact h 26 (some 148) rfl
    · exact h 27 (some 149) rfl
    · exact h 28 (some 150) rfl
    · exact h 29 (some 151) rfl
    · exact h 30 (some 152) rfl
    · exact h 31 (some 153) rfl
    · exact h 32 (some 154) rfl
    · exact h 33 (some 155) rfl
    · exact h 34 (some 156) rfl
    · exact h 35 (some 157) rfl
    · exact h 36 (some 158) rfl
    · exact h 37 (some 159) rfl
    · exact h 38 (some 160) rfl
    · exact h 39 (some 161) rfl
    · exact h 40 (some 162) rfl
    · exact h 41 (some 163) rfl
    · exact h 42 (some 164) rfl
    · exact h 43 (some 165) rfl
    · exact h 44 (some 166) rfl
    · exact h 45 (some 167) rfl
    · exact h 46 (some 168) rfl
    · exact h 47 (some 169) rfl
    · exact h 48 (some 170) rfl
    · exact h171
    · exact h 50 (some 172) rfl
    · exact h 51 (some 173) rfl
    · exact h 52 (some 174) rfl
    · exact h 53 (some 175) rfl
    · exact h 54 (some 176) rfl
    · exact h 55 (some 177) rfl
    · exact h 56 (some 178) rfl
    · exact h 57 (some 179) rfl
    · exact h 58 (some 180) rfl
    · exact h 59 (some 181) rfl
  rw [frame_is hF _ hv (by rfl) (by rfl)]
  exact hend e171 w hB p171
end

end Go.Proofs.Ytjmaeiilkbfnaaa
