/-
  Records' drawn end; RecordBack's drawn region, of a record and of none: their facts, one by one (written by gen/rcrecs.py).
-/
import Derived.Test.YtdbcmcdmipehgaaRf
import Derived.Test.YtdbcmcdmipehgaaRcAwake
import Derived.Test.YtdbcmcdmipehgaaRcRMay2
namespace Go.Proofs.Ytdbcmcdmipehgaa
open Go.RowKit

section
variable {D : List (Option Tmp)} {Φ : Fact} {o : Oper} {a : Act} {w : World}
theorem rf_eqlB (hw : Region.wanted o (yieldD D a.tmps) = true) {t : Tmp} (hd : o.dst = some t) (x y : Operand) (ho : o.op = .binOp .eql 4 x y 4) (p : Bool) (hx : a.eval x = .bool p) (hy : a.eval y = .bool p) (h : Φ (.bool true) w) : StepD Try.prog D Φ o a w :=
  step_val hw hd _ w (by unfold execOp; rw [ho]; generalize a.eval = ev at hx hy ⊢; simp [hx, hy, go_sem]) (Below.refl _ _) h
theorem rf_neqB (hw : Region.wanted o (yieldD D a.tmps) = true) {t : Tmp} (hd : o.dst = some t) (x y : Operand) (ho : o.op = .binOp .neq 4 x y 4) (p : Bool) (hx : a.eval x = .bool p) (hy : a.eval y = .bool p) (h : Φ (.bool false) w) : StepD Try.prog D Φ o a w :=
  step_val hw hd _ w (by unfold execOp; rw [ho]; generalize a.eval = ev at hx hy ⊢; simp [hx, hy, go_sem]) (Below.refl _ _) h
theorem rf_lenS (hw : Region.wanted o (yieldD D a.tmps) = true) {t : Tmp} (hd : o.dst = some t) (x : Operand) (ho : o.op = .call { callee := .builtin .len, args := #[x], argTypes := #[9] }) (p : ByteArray) (hx : a.eval x = .string p) (h : Φ (.int .i64 p.size) w) : StepD Try.prog D Φ o a w :=
  step_val hw hd _ w (by unfold execOp; rw [ho]; generalize a.eval = ev at hx ⊢; simp [hx, go_sem]) (Below.refl _ _) h
theorem empty_ne {p : ByteArray} (hp : 0 < p.size) : p.toList.isEmpty = false := by
  cases e : p.toList with
  | nil =>
    rw [toList_nil_iff_emptyBytes] at e
    subst e
    exact absurd hp (by decide)
  | cons => rfl
theorem rf_eqlE (hw : Region.wanted o (yieldD D a.tmps) = true) {t : Tmp} (hd : o.dst = some t) (x : Operand) (ho : o.op = .binOp .eql 9 x (.const (.string ⟨#[]⟩)) 9) (p : ByteArray) (hx : a.eval x = .string p) (hp : 0 < p.size) (h : Φ (.bool false) w) : StepD Try.prog D Φ o a w :=
  step_val hw hd _ w (by
    unfold execOp
    rw [ho]
    have hk : a.eval (.const (.string ⟨#[]⟩)) = .string ⟨#[]⟩ := rfl
    have he := empty_ne hp
    generalize a.eval = ev at hx hk ⊢
    simp [hx, hk, he, go_sem]) (Below.refl _ _) h
end

def rr8D : List (Option Tmp) := [some 59, some 60, some 61, some 62, some 63, some 64, some 65, some 66, some 4]
def rr8F (r : Rc) (A : Option Addr) (n c _g : Nat) (v : Bool) : List Fact := [isV (.agg (recC r A n c)), isV (.bool v), isV (.agg (recC r A n c)), isV (.bool v), isV (.bool true), isV (.bool true), isV (.bool true), isV (.bool true), isV (.bool true)]
theorem rr8F_mono (r : Rc) (A : Option Addr) (n c g : Nat) (v : Bool) : ∀ φ ∈ rr8F r A n c g v, Mono φ := by
  unfold rr8F
  repeat (first | exact monos_nil | (refine monos_cons (mono_isV _) ?_))
structure rr8S (r : Rc) (A : Option Addr) (n c g : Nat) (v : Bool) (a0 : Act) (w0 : World) : Prop where
  size : a0.tmps.size = 67
  v2 : a0.tmps.getD 2 undef = .pointer (some ⟨g, 0, none⟩)
  box : Has w0 g 30 (recC r A n c)
  i : Ints w0 A n r.hs
  hv : mayR r = v
section
variable {r : Rc} {A : Option Addr} {n c g : Nat} {v : Bool} {a0 : Act} {w0 : World} (S : rr8S r A n c g v a0 w0)
include S
set_option maxRecDepth 100000 in
set_option maxHeartbeats 8000000 in
theorem rr8_ok : AllOps (fun j o => ∀ (a : Act) (w : World), Below w0.heap.size w0 w → FrD rr8D a0 a → needs rr8D (rr8F r A n c g v) a w o.after.toList → StepD Try.prog rr8D (factAt (rr8F r A n c g v) j) o a w) 0 (opsOf 8 Try.f3) := by
  simp only [opsOf, Try.f3, opsAt, Option.bind, Option.or, Option.getD, reduceCtorEq, if_true, if_false, Nat.reduceEqDiff]
  refine ⟨?_, ?_⟩
  · intro _a _w hB hF _hd
    exact rf_loadS (guard_none rfl) rfl _ _ rfl _ _ ((hF.other 2 rfl).trans S.v2) (recC r A n c).toList (rf_range (S.box.below hB S.box.lt)) Try.underlying30 rfl (by kernel_rfl) rfl
  refine ⟨?_, ?_⟩
  · intro a _w hB _hF hd
    have h59 : a.tmps.getD 59 undef = .agg (recC r A n c) := hd.1 rfl
    refine step_call (guard_none rfl) rfl _ _ (rf_call_run Try.func13 (by kernel_rfl) (by kernel_rfl) _ _ rfl) ?_
    simp only [List.map_toArray, List.map_cons, List.map_nil, Act.eval, h59]
    exact (may_any r A n c v S.hv _ (S.i.below hB)).mono (by rintro e w1 ⟨rfl, hb⟩; exact ⟨_, rfl, hb, rfl⟩)
  refine ⟨?_, ?_⟩
  · intro _a _w hB hF _hd
    exact rf_loadS (guard_none rfl) rfl _ _ rfl _ _ ((hF.other 2 rfl).trans S.v2) (recC r A n c).toList (rf_range (S.box.below hB S.box.lt)) Try.underlying30 rfl (by kernel_rfl) rfl
  refine ⟨?_, ?_⟩
  · intro a _w hB _hF hd
    have h61 : a.tmps.getD 61 undef = .agg (recC r A n c) := hd.1 rfl
    refine step_call (guard_none rfl) rfl _ _ (rf_call_run Try.func14 (by kernel_rfl) (by kernel_rfl) _ _ rfl) ?_
    simp only [List.map_toArray, List.map_cons, List.map_nil, Act.eval, h61]
    exact (rmay_any r A n c v S.hv _ (S.i.below hB)).mono (by rintro e w1 ⟨rfl, hb⟩; exact ⟨_, rfl, hb, rfl⟩)
  refine ⟨?_, ?_⟩
  · intro a _w _hB _hF hd
    have h60 : a.tmps.getD 60 undef = .bool v := hd.1 rfl
    have h62 : a.tmps.getD 62 undef = .bool v := hd.2.1 rfl
    exact rf_eqlB (guard_none rfl) rfl _ _ rfl _ h60 h62 rfl
  refine ⟨?_, ?_⟩
  · intro a _w _hB _hF hd
    have h63 : a.tmps.getD 63 undef = .bool true := hd.1 rfl
    exact step_move (guard_none rfl) rfl _ rfl h63
  refine ⟨?_, ?_⟩
  · intro a _w _hB _hF hd
    have h64 : a.tmps.getD 64 undef = .bool true := hd.1 rfl
    refine step_call (rf_open true rfl rfl h64) rfl _ _ (rf_call_run Try.func15 (by kernel_rfl) (by kernel_rfl) _ _ rfl) ?_
    simp only [List.map_toArray, List.map_nil]
    exact (awake_any _).mono (by rintro e w1 ⟨rfl, hb⟩; exact ⟨_, rfl, hb, rfl⟩)
  refine ⟨?_, ?_⟩
  · intro a _w _hB _hF hd
    have h64 : a.tmps.getD 64 undef = .bool true := hd.1 rfl
    have h65 : a.tmps.getD 65 undef = .bool true := hd.2.1 rfl
    exact rf_pick (guard_none rfl) rfl _ _ _ rfl true h64 h65
  refine ⟨?_, ?_⟩
  · intro a _w _hB _hF hd
    have h66 : a.tmps.getD 66 undef = .bool true := hd.1 rfl
    exact step_assign (guard_none rfl) rfl _ rfl h66
  trivial
theorem rr8_any {Q : Exit → Act → World → Prop} {l : List Oper} (hl : opsOf 8 Try.f3 = l) (hend : ∀ w : World, Below w0.heap.size w0 w → Q .normal (putAll a0 [(59, .agg (recC r A n c)), (60, .bool v), (61, .agg (recC r A n c)), (62, .bool v), (63, .bool true), (64, .bool true), (65, .bool true), (66, .bool true), (4, .bool true)]) w) :
    (Code.region 8 l.toArray true).wp Try.prog Q a0 w0 := by
  subst hl
  refine region_facts2 (rr8F r A n c g v) rr8D 67 S.size rfl (by kernel_rfl) (by kernel_rfl) (rr8F_mono _ _ _ _ _ _) (rr8_ok S) fun a w hB hF h => ?_
  have hv : valsAre a [(59, .agg (recC r A n c)), (60, .bool v), (61, .agg (recC r A n c)), (62, .bool v), (63, .bool true), (64, .bool true), (65, .bool true), (66, .bool true), (4, .bool true)] := by
    refine ⟨?_, ?_, ?_, ?_, ?_, ?_, ?_, ?_, ?_, trivial⟩
    · exact h 0 (some 59) rfl
    · exact h 1 (some 60) rfl
    · exact h 2 (some 61) rfl
    · exact h 3 (some 62) rfl
    · exact h 4 (some 63) rfl
    · exact h 5 (some 64) rfl
    · exact h 6 (some 65) rfl
    · exact h 7 (some 66) rfl
    · exact h 8 (some 4) rfl
  rw [frame_is hF _ hv (by rfl) (by rfl)]
  exact hend w hB
end

def rb4D : List (Option Tmp) := [some 24, some 25, some 26, some 27, some 28, some 29, some 30, some 31, some 32, some 33, some 34, some 35, some 36, some 37, some 38, some 39, some 40, some 41, some 42, some 43]
def rb4F (r : Rc) (A : Option Addr) (n c _g : Nat) (p : ByteArray) : List Fact := [isV (.int .i64 0), isV (.int .i64 0), isV (.bool true), isV (.agg (recC r A n c)), isV (.bool true), isV (.bool false), isV (.bool false), isV (.int .i64 0), isV (.int .i64 0), isV (.bool true), isV (.bool true), isV (.string p), isV (.bool false), isV (.bool false), isV (.string p), isV (.int .i64 p.size), isV (.bool false), isV (.bool false), isV (.bool false), isV (.bool false)]
theorem rb4F_mono (r : Rc) (A : Option Addr) (n c g : Nat) (p : ByteArray) : ∀ φ ∈ rb4F r A n c g p, Mono φ := by
  unfold rb4F
  repeat (first | exact monos_nil | (refine monos_cons (mono_isV _) ?_))
structure rb4S (r : Rc) (A : Option Addr) (n c g : Nat) (p : ByteArray) (a0 : Act) (w0 : World) : Prop where
  size : a0.tmps.size = 103
  v3 : a0.tmps.getD 3 undef = .pointer (some ⟨g, 0, none⟩)
  v7 : a0.tmps.getD 7 undef = .string p
  v8 : a0.tmps.getD 8 undef = .int .i64 0
  box : Has w0 g 30 (recC r A n c)
  i : Ints w0 A n r.hs
  hv : mayR r = true
  n : 0 < p.size ∧ p.size ≤ 60
section
variable {r : Rc} {A : Option Addr} {n c g : Nat} {p : ByteArray} {a0 : Act} {w0 : World} (S : rb4S r A n c g p a0 w0)
include S
set_option maxRecDepth 100000 in
set_option maxHeartbeats 8000000 in
theorem rb4_ok : AllOps (fun j o => ∀ (a : Act) (w : World), Below w0.heap.size w0 w → FrD rb4D a0 a → needs rb4D (rb4F r A n c g p) a w o.after.toList → StepD Try.prog rb4D (factAt (rb4F r A n c g p) j) o a w) 0 (opsOf 4 Try.f4) := by
  simp only [opsOf, Try.f4, opsAt, Option.bind, Option.or, Option.getD, reduceCtorEq, if_true, if_false, Nat.reduceEqDiff]
  refine ⟨?_, ?_⟩
  · intro _a _w _hB hF _hd
    exact step_move (guard_none rfl) rfl _ rfl ((hF.other 8 rfl).trans S.v8)
  refine ⟨?_, ?_⟩
  · intro a _w _hB _hF hd
    have h24 : a.tmps.getD 24 undef = .int .i64 0 := hd.1 rfl
    refine step_call (guard_none rfl) rfl _ _ (rf_call_run Try.func10 (by kernel_rfl) (by kernel_rfl) _ _ rfl) ?_
    simp only [List.map_toArray, List.map_cons, List.map_nil, Act.eval, h24]
    exact (num_any _ _).mono (by rintro e w1 ⟨rfl, rfl⟩; exact ⟨_, rfl, Below.refl _ _, rfl⟩)
  refine ⟨?_, ?_⟩
  · intro a _w _hB _hF hd
    have h25 : a.tmps.getD 25 undef = .int .i64 0 := hd.1 rfl
    exact rf_eql (guard_none rfl) rfl _ _ rfl _ _ h25 rfl true rfl rfl
  refine ⟨?_, ?_⟩
  · intro _a _w hB hF _hd
    exact rf_loadS (guard_none rfl) rfl _ _ rfl _ _ ((hF.other 3 rfl).trans S.v3) (recC r A n c).toList (rf_range (S.box.below hB S.box.lt)) Try.underlying30 rfl (by kernel_rfl) rfl
  refine ⟨?_, ?_⟩
  · intro a _w hB _hF hd
    have h27 : a.tmps.getD 27 undef = .agg (recC r A n c) := hd.1 rfl
    refine step_call (guard_none rfl) rfl _ _ (rf_call_run Try.func13 (by kernel_rfl) (by kernel_rfl) _ _ rfl) ?_
    simp only [List.map_toArray, List.map_cons, List.map_nil, Act.eval, h27]
    exact (may_any r A n c true S.hv _ (S.i.below hB)).mono (by rintro e w1 ⟨rfl, hb⟩; exact ⟨_, rfl, hb, rfl⟩)
  refine ⟨?_, ?_⟩
  · intro a _w _hB _hF hd
    have h26 : a.tmps.getD 26 undef = .bool true := hd.1 rfl
    have h28 : a.tmps.getD 28 undef = .bool true := hd.2.1 rfl
    exact rf_neqB (guard_none rfl) rfl _ _ rfl _ h26 h28 rfl
  refine ⟨?_, ?_⟩
  · intro a _w _hB _hF hd
    have h29 : a.tmps.getD 29 undef = .bool false := hd.1 rfl
    exact step_move (guard_none rfl) rfl _ rfl h29
  refine ⟨?_, ?_⟩
  · intro a _w _hB hF hd
    have h30 : a.tmps.getD 30 undef = .bool false := hd.1 rfl
    exact step_move (rf_open false rfl rfl h30) rfl _ rfl ((hF.other 8 rfl).trans S.v8)
  refine ⟨?_, ?_⟩
  · intro a _w _hB _hF hd
    have h30 : a.tmps.getD 30 undef = .bool false := hd.2.1 rfl
    have h31 : a.tmps.getD 31 undef = .int .i64 0 := hd.1 rfl
    refine step_call (rf_open false rfl rfl h30) rfl _ _ (rf_call_run Try.func10 (by kernel_rfl) (by kernel_rfl) _ _ rfl) ?_
    simp only [List.map_toArray, List.map_cons, List.map_nil, Act.eval, h31]
    exact (num_any _ _).mono (by rintro e w1 ⟨rfl, rfl⟩; exact ⟨_, rfl, Below.refl _ _, rfl⟩)
  refine ⟨?_, ?_⟩
  · intro a _w _hB _hF hd
    have h30 : a.tmps.getD 30 undef = .bool false := hd.2.1 rfl
    have h32 : a.tmps.getD 32 undef = .int .i64 0 := hd.1 rfl
    exact rf_eql (rf_open false rfl rfl h30) rfl _ _ rfl _ _ h32 rfl true rfl rfl
  refine ⟨?_, ?_⟩
  · intro a _w _hB _hF hd
    have h30 : a.tmps.getD 30 undef = .bool false := hd.2.2.1 rfl
    have h33 : a.tmps.getD 33 undef = .bool true := hd.1 rfl
    exact step_move (rf_open false rfl rfl h30) rfl _ rfl h33
  refine ⟨?_, ?_⟩
  · intro a _w _hB hF hd
    have h34 : a.tmps.getD 34 undef = .bool true := hd.1 rfl
    exact step_move (rf_open true rfl rfl h34) rfl _ rfl ((hF.other 7 rfl).trans S.v7)
  refine ⟨?_, ?_⟩
  · intro a _w _hB _hF hd
    have h34 : a.tmps.getD 34 undef = .bool true := hd.2.1 rfl
    have h35 : a.tmps.getD 35 undef = .string p := hd.1 rfl
    exact rf_eqlE (rf_open true rfl rfl h34) rfl _ rfl _ h35 (by have := S.n; omega) rfl
  refine ⟨?_, ?_⟩
  · intro a _w _hB _hF hd
    have h34 : a.tmps.getD 34 undef = .bool true := hd.2.1 rfl
    have h36 : a.tmps.getD 36 undef = .bool false := hd.1 rfl
    exact step_move (rf_open true rfl rfl h34) rfl _ rfl h36
  refine ⟨?_, ?_⟩
  · intro a _w _hB hF hd
    have h37 : a.tmps.getD 37 undef = .bool false := hd.1 rfl
    exact step_move (rf_open false rfl rfl h37) rfl _ rfl ((hF.other 7 rfl).trans S.v7)
  refine ⟨?_, ?_⟩
  · intro a _w _hB _hF hd
    have h37 : a.tmps.getD 37 undef = .bool false := hd.2.1 rfl
    have h38 : a.tmps.getD 38 undef = .string p := hd.1 rfl
    exact rf_lenS (rf_open false rfl rfl h37) rfl _ rfl _ h38 rfl
  refine ⟨?_, ?_⟩
  · intro a _w _hB _hF hd
    have h37 : a.tmps.getD 37 undef = .bool false := hd.2.1 rfl
    have h39 : a.tmps.getD 39 undef = .int .i64 p.size := hd.1 rfl
    exact rf_gtr (rf_open false rfl rfl h37) rfl _ _ rfl _ _ h39 rfl false (decide_eq_false (by have := S.n; omega)) rfl
  refine ⟨?_, ?_⟩
  · intro a _w _hB _hF hd
    have h34 : a.tmps.getD 34 undef = .bool true := hd.2.2.1 rfl
    have h37 : a.tmps.getD 37 undef = .bool false := hd.1 rfl
    have h40 : a.tmps.getD 40 undef = .bool false := hd.2.1 rfl
    exact rf_pick (rf_open true rfl rfl h34) rfl _ _ _ rfl false h37 h40
  refine ⟨?_, ?_⟩
  · intro a _w _hB _hF hd
    have h30 : a.tmps.getD 30 undef = .bool false := hd.2.2.1 rfl
    have h34 : a.tmps.getD 34 undef = .bool true := hd.1 rfl
    have h41 : a.tmps.getD 41 undef = .bool false := hd.2.1 rfl
    exact rf_pick (rf_open false rfl rfl h30) rfl _ _ _ rfl true h34 h41
  refine ⟨?_, ?_⟩
  · intro a _w _hB _hF hd
    have h30 : a.tmps.getD 30 undef = .bool false := hd.1 rfl
    have h42 : a.tmps.getD 42 undef = .bool false := hd.2.1 rfl
    exact rf_pick (guard_none rfl) rfl _ _ _ rfl false h30 h42
  trivial
theorem rb4_any {Q : Exit → Act → World → Prop} {l : List Oper} (hl : opsOf 4 Try.f4 = l) (hend : ∀ w : World, Below w0.heap.size w0 w → Q .normal (putAll a0 [(24, .int .i64 0), (25, .int .i64 0), (26, .bool true), (27, .agg (recC r A n c)), (28, .bool true), (29, .bool false), (30, .bool false), (31, .int .i64 0), (32, .int .i64 0), (33, .bool true), (34, .bool true), (35, .string p), (36, .bool false), (37, .bool false), (38, .string p), (39, .int .i64 p.size), (40, .bool false), (41, .bool false), (42, .bool false), (43, .bool false)]) w) :
    (Code.region 4 l.toArray true).wp Try.prog Q a0 w0 := by
  subst hl
  refine region_facts2 (rb4F r A n c g p) rb4D 103 S.size rfl (by kernel_rfl) (by kernel_rfl) (rb4F_mono _ _ _ _ _ _) (rb4_ok S) fun a w hB hF h => ?_
  have hv : valsAre a [(24, .int .i64 0), (25, .int .i64 0), (26, .bool true), (27, .agg (recC r A n c)), (28, .bool true), (29, .bool false), (30, .bool false), (31, .int .i64 0), (32, .int .i64 0), (33, .bool true), (34, .bool true), (35, .string p), (36, .bool false), (37, .bool false), (38, .string p), (39, .int .i64 p.size), (40, .bool false), (41, .bool false), (42, .bool false), (43, .bool false)] := by
    refine ⟨?_, ?_, ?_, ?_, ?_, ?_, ?_, ?_, ?_, ?_, ?_, ?_, ?_, ?_, ?_, ?_, ?_, ?_, ?_, ?_, trivial⟩
    · exact h 0 (some 24) rfl
    · exact h 1 (some 25) rfl
    · exact h 2 (some 26) rfl
    · exact h 3 (some 27) rfl
    · exact h 4 (some 28) rfl
    · exact h 5 (some 29) rfl
    · exact h 6 (some 30) rfl
    · exact h 7 (some 31) rfl
    · exact h 8 (some 32) rfl
    · exact h 9 (some 33) rfl
    · exact h 10 (some 34) rfl
    · exact h 11 (some 35) rfl
    · exact h 12 (some 36) rfl
    · exact h 13 (some 37) rfl
    · exact h 14 (some 38) rfl
    · exact h 15 (some 39) rfl
    · exact h 16 (some 40) rfl
    · exact h 17 (some 41) rfl
    · exact h 18 (some 42) rfl
    · exact h 19 (some 43) rfl
  rw [frame_is hF _ hv (by rfl) (by rfl)]
  exact hend w hB
end

def rn4D : List (Option Tmp) := [some 24, some 25, some 26, some 27, some 28, some 29, some 30, some 31, some 32, some 33, some 34, some 35, some 36, some 37, some 38, some 39, some 40, some 41, some 42, some 43]
def rn4F (r : Rc) (A : Option Addr) (n c _g : Nat) (_p : ByteArray) : List Fact := [isV (.int .i64 1000), isV (.int .i64 1000), isV (.bool false), isV (.agg (recC r A n c)), isV (.bool false), isV (.bool false), isV (.bool false), isV (.int .i64 1000), isV (.int .i64 1000), isV (.bool false), isV (.bool false), isV (undef), isV (undef), isV (undef), isV (undef), isV (undef), isV (undef), isV (undef), isV (.bool false), isV (.bool false)]
theorem rn4F_mono (r : Rc) (A : Option Addr) (n c g : Nat) (p : ByteArray) : ∀ φ ∈ rn4F r A n c g p, Mono φ := by
  unfold rn4F
  repeat (first | exact monos_nil | (refine monos_cons (mono_isV _) ?_))
structure rn4S (r : Rc) (A : Option Addr) (n c g : Nat) (p : ByteArray) (a0 : Act) (w0 : World) : Prop where
  size : a0.tmps.size = 103
  v3 : a0.tmps.getD 3 undef = .pointer (some ⟨g, 0, none⟩)
  v8 : a0.tmps.getD 8 undef = .int .i64 1000
  box : Has w0 g 30 (recC r A n c)
  i : Ints w0 A n r.hs
  hv : mayR r = false
section
variable {r : Rc} {A : Option Addr} {n c g : Nat} {p : ByteArray} {a0 : Act} {w0 : World} (S : rn4S r A n c g p a0 w0)
include S
set_option maxRecDepth 100000 in
set_option maxHeartbeats 8000000 in
theorem rn4_ok : AllOps (fun j o => ∀ (a : Act) (w : World), Below w0.heap.size w0 w → FrD rn4D a0 a → needs rn4D (rn4F r A n c g p) a w o.after.toList → StepD Try.prog rn4D (factAt (rn4F r A n c g p) j) o a w) 0 (opsOf 4 Try.f4) := by
  simp only [opsOf, Try.f4, opsAt, Option.bind, Option.or, Option.getD, reduceCtorEq, if_true, if_false, Nat.reduceEqDiff]
  refine ⟨?_, ?_⟩
  · intro _a _w _hB hF _hd
    exact step_move (guard_none rfl) rfl _ rfl ((hF.other 8 rfl).trans S.v8)
  refine ⟨?_, ?_⟩
  · intro a _w _hB _hF hd
    have h24 : a.tmps.getD 24 undef = .int .i64 1000 := hd.1 rfl
    refine step_call (guard_none rfl) rfl _ _ (rf_call_run Try.func10 (by kernel_rfl) (by kernel_rfl) _ _ rfl) ?_
    simp only [List.map_toArray, List.map_cons, List.map_nil, Act.eval, h24]
    exact (num_any _ _).mono (by rintro e w1 ⟨rfl, rfl⟩; exact ⟨_, rfl, Below.refl _ _, rfl⟩)
  refine ⟨?_, ?_⟩
  · intro a _w _hB _hF hd
    have h25 : a.tmps.getD 25 undef = .int .i64 1000 := hd.1 rfl
    exact rf_eql (guard_none rfl) rfl _ _ rfl _ _ h25 rfl false rfl rfl
  refine ⟨?_, ?_⟩
  · intro _a _w hB hF _hd
    exact rf_loadS (guard_none rfl) rfl _ _ rfl _ _ ((hF.other 3 rfl).trans S.v3) (recC r A n c).toList (rf_range (S.box.below hB S.box.lt)) Try.underlying30 rfl (by kernel_rfl) rfl
  refine ⟨?_, ?_⟩
  · intro a _w hB _hF hd
    have h27 : a.tmps.getD 27 undef = .agg (recC r A n c) := hd.1 rfl
    refine step_call (guard_none rfl) rfl _ _ (rf_call_run Try.func13 (by kernel_rfl) (by kernel_rfl) _ _ rfl) ?_
    simp only [List.map_toArray, List.map_cons, List.map_nil, Act.eval, h27]
    exact (may_any r A n c false S.hv _ (S.i.below hB)).mono (by rintro e w1 ⟨rfl, hb⟩; exact ⟨_, rfl, hb, rfl⟩)
  refine ⟨?_, ?_⟩
  · intro a _w _hB _hF hd
    have h26 : a.tmps.getD 26 undef = .bool false := hd.1 rfl
    have h28 : a.tmps.getD 28 undef = .bool false := hd.2.1 rfl
    exact rf_neqB (guard_none rfl) rfl _ _ rfl _ h26 h28 rfl
  refine ⟨?_, ?_⟩
  · intro a _w _hB _hF hd
    have h29 : a.tmps.getD 29 undef = .bool false := hd.1 rfl
    exact step_move (guard_none rfl) rfl _ rfl h29
  refine ⟨?_, ?_⟩
  · intro a _w _hB hF hd
    have h30 : a.tmps.getD 30 undef = .bool false := hd.1 rfl
    exact step_move (rf_open false rfl rfl h30) rfl _ rfl ((hF.other 8 rfl).trans S.v8)
  refine ⟨?_, ?_⟩
  · intro a _w _hB _hF hd
    have h30 : a.tmps.getD 30 undef = .bool false := hd.2.1 rfl
    have h31 : a.tmps.getD 31 undef = .int .i64 1000 := hd.1 rfl
    refine step_call (rf_open false rfl rfl h30) rfl _ _ (rf_call_run Try.func10 (by kernel_rfl) (by kernel_rfl) _ _ rfl) ?_
    simp only [List.map_toArray, List.map_cons, List.map_nil, Act.eval, h31]
    exact (num_any _ _).mono (by rintro e w1 ⟨rfl, rfl⟩; exact ⟨_, rfl, Below.refl _ _, rfl⟩)
  refine ⟨?_, ?_⟩
  · intro a _w _hB _hF hd
    have h30 : a.tmps.getD 30 undef = .bool false := hd.2.1 rfl
    have h32 : a.tmps.getD 32 undef = .int .i64 1000 := hd.1 rfl
    exact rf_eql (rf_open false rfl rfl h30) rfl _ _ rfl _ _ h32 rfl false rfl rfl
  refine ⟨?_, ?_⟩
  · intro a _w _hB _hF hd
    have h30 : a.tmps.getD 30 undef = .bool false := hd.2.2.1 rfl
    have h33 : a.tmps.getD 33 undef = .bool false := hd.1 rfl
    exact step_move (rf_open false rfl rfl h30) rfl _ rfl h33
  refine ⟨?_, ?_⟩
  · intro a _w _hB _hF hd
    have h34 : a.tmps.getD 34 undef = .bool false := hd.1 rfl
    exact rf_shut true rfl rfl h34 rfl
  refine ⟨?_, ?_⟩
  · intro a _w _hB _hF hd
    have h34 : a.tmps.getD 34 undef = .bool false := hd.2.1 rfl
    exact rf_shut true rfl rfl h34 rfl
  refine ⟨?_, ?_⟩
  · intro a _w _hB _hF hd
    have h34 : a.tmps.getD 34 undef = .bool false := hd.2.1 rfl
    exact rf_shut true rfl rfl h34 rfl
  refine ⟨?_, ?_⟩
  · intro a _w _hB _hF hd
    have h37 : a.tmps.getD 37 undef = undef := hd.1 rfl
    exact rf_shutu false rfl rfl h37 rfl
  refine ⟨?_, ?_⟩
  · intro a _w _hB _hF hd
    have h37 : a.tmps.getD 37 undef = undef := hd.2.1 rfl
    exact rf_shutu false rfl rfl h37 rfl
  refine ⟨?_, ?_⟩
  · intro a _w _hB _hF hd
    have h37 : a.tmps.getD 37 undef = undef := hd.2.1 rfl
    exact rf_shutu false rfl rfl h37 rfl
  refine ⟨?_, ?_⟩
  · intro a _w _hB _hF hd
    have h34 : a.tmps.getD 34 undef = .bool false := hd.2.2.1 rfl
    exact rf_shut true rfl rfl h34 rfl
  refine ⟨?_, ?_⟩
  · intro a _w _hB _hF hd
    have h30 : a.tmps.getD 30 undef = .bool false := hd.2.2.1 rfl
    have h34 : a.tmps.getD 34 undef = .bool false := hd.1 rfl
    exact rf_pick (rf_open false rfl rfl h30) rfl _ _ _ rfl false h34 rfl
  refine ⟨?_, ?_⟩
  · intro a _w _hB _hF hd
    have h30 : a.tmps.getD 30 undef = .bool false := hd.1 rfl
    have h42 : a.tmps.getD 42 undef = .bool false := hd.2.1 rfl
    exact rf_pick (guard_none rfl) rfl _ _ _ rfl false h30 h42
  trivial
theorem rn4_any {Q : Exit → Act → World → Prop} {l : List Oper} (hl : opsOf 4 Try.f4 = l) (hend : ∀ w : World, Below w0.heap.size w0 w → Q .normal (putAll a0 [(24, .int .i64 1000), (25, .int .i64 1000), (26, .bool false), (27, .agg (recC r A n c)), (28, .bool false), (29, .bool false), (30, .bool false), (31, .int .i64 1000), (32, .int .i64 1000), (33, .bool false), (34, .bool false), (35, undef), (36, undef), (37, undef), (38, undef), (39, undef), (40, undef), (41, undef), (42, .bool false), (43, .bool false)]) w) :
    (Code.region 4 l.toArray true).wp Try.prog Q a0 w0 := by
  subst hl
  refine region_facts2 (rn4F r A n c g p) rn4D 103 S.size rfl (by kernel_rfl) (by kernel_rfl) (rn4F_mono _ _ _ _ _ _) (rn4_ok S) fun a w hB hF h => ?_
  have hv : valsAre a [(24, .int .i64 1000), (25, .int .i64 1000), (26, .bool false), (27, .agg (recC r A n c)), (28, .bool false), (29, .bool false), (30, .bool false), (31, .int .i64 1000), (32, .int .i64 1000), (33, .bool false), (34, .bool false), (35, undef), (36, undef), (37, undef), (38, undef), (39, undef), (40, undef), (41, undef), (42, .bool false), (43, .bool false)] := by
    refine ⟨?_, ?_, ?_, ?_, ?_, ?_, ?_, ?_, ?_, ?_, ?_, ?_, ?_, ?_, ?_, ?_, ?_, ?_, ?_, ?_, trivial⟩
    · exact h 0 (some 24) rfl
    · exact h 1 (some 25) rfl
    · exact h 2 (some 26) rfl
    · exact h 3 (some 27) rfl
    · exact h 4 (some 28) rfl
    · exact h 5 (some 29) rfl
    · exact h 6 (some 30) rfl
    · exact h 7 (some 31) rfl
    · exact h 8 (some 32) rfl
    · exact h 9 (some 33) rfl
    · exact h 10 (some 34) rfl
    · exact h 11 (some 35) rfl
    · exact h 12 (some 36) rfl
    · exact h 13 (some 37) rfl
    · exact h 14 (some 38) rfl
    · exact h 15 (some 39) rfl
    · exact h 16 (some 40) rfl
    · exact h 17 (some 41) rfl
    · exact h 18 (some 42) rfl
    · exact h 19 (some 43) rfl
  rw [frame_is hF _ hv (by rfl) (by rfl)]
  exact hend w hB
end

end Go.Proofs.Ytdbcmcdmipehgaa
