/-
  The drawn regions of fit and haveTwice (written by gen/trreg.py).
-/
import Derived.Test.YtjgjbhbpndjnnaaG25
import Derived.Test.YtjgjbhbpndjnnaaG15
import Derived.Test.YtjgjbhbpndjnnaaG10
import Derived.Test.YtjgjbhbpndjnnaaItM
import Derived.Test.YtjgjbhbpndjnnaaG2
namespace Go.Proofs.Ytjgjbhbpndjnnaa
open Go.RowKit

def tfbD : List (Option Tmp) := [some 22, some 23, some 24, some 25, some 26, some 27, some 28, some 29, some 30, some 31, some 32]
def tfbF (_g _y _n1 _c1 : Nat) (_A1 : Option Addr) (x : It) : List Fact := [isV (.agg #[.int .i64 x.s, .int .i64 x.t, .int .i64 x.q, .int .i64 x.v]), isV (.bool false), isV (.bool true), isV (.bool true), isV (undef), isV (undef), isV (undef), isV (undef), isV (undef), isV (undef), isV (.bool true)]
theorem tfbF_mono (g y n1 c1 : Nat) (A1 : Option Addr) (x : It) : ∀ φ ∈ tfbF g y n1 c1 A1 x, Mono φ := by
  unfold tfbF
  refine monos_cons (mono_isV _) ?_
  refine monos_cons (mono_isV _) ?_
  refine monos_cons (mono_isV _) ?_
  refine monos_cons (mono_isV _) ?_
  refine monos_cons (mono_isV _) ?_
  refine monos_cons (mono_isV _) ?_
  refine monos_cons (mono_isV _) ?_
  refine monos_cons (mono_isV _) ?_
  refine monos_cons (mono_isV _) ?_
  refine monos_cons (mono_isV _) ?_
  refine monos_cons (mono_isV _) ?_
  exact monos_nil
structure tfbS (g y n1 c1 : Nat) (A1 : Option Addr) (x : It) (a0 : Act) (w0 : World) : Prop where
  size : a0.tmps.size = 34
  v6 : a0.tmps.getD 6 undef = .pointer (some ⟨y, 0, none⟩)
  bx : Has w0 y 23 #[.int .i64 x.s, .int .i64 x.t, .int .i64 x.q, .int .i64 x.v]
  hi : itemB x = false
section
variable {g y n1 c1 : Nat} {A1 : Option Addr} {x : It} {a0 : Act} {w0 : World} (S : tfbS g y n1 c1 A1 x a0 w0)
include S
set_option maxRecDepth 100000 in
set_option maxHeartbeats 8000000 in
theorem tfb_ok : AllOps (fun j o => ∀ (a : Act) (w : World), Below w0.heap.size w0 w → FrD tfbD a0 a → needs tfbD (tfbF g y n1 c1 A1 x) a w o.after.toList → StepD Try.prog tfbD (factAt (tfbF g y n1 c1 A1 x) j) o a w) 0 (opsOf 6 Try.f59) := by
  simp only [opsOf, Try.f59, opsAt, Option.bind, Option.or, Option.getD, reduceCtorEq, if_true, if_false, Nat.reduceEqDiff]
  refine ⟨?_, ?_⟩
  · intro _a _w hB hF _hd
    exact rf_loadS (guard_none rfl) rfl _ _ rfl _ _ ((hF.other 6 rfl).trans S.v6) _ (rf_range (S.bx.below hB S.bx.lt)) Try.underlying23 rfl (by kernel_rfl) rfl
  refine ⟨?_, ?_⟩
  · intro a _w _hB _hF hd
    have h22 : a.tmps.getD 22 undef = .agg #[.int .i64 x.s, .int .i64 x.t, .int .i64 x.q, .int .i64 x.v] := hd.1 rfl
    refine step_call (guard_none rfl) rfl _ _ (rf_call_run Try.func40 (by kernel_rfl) (by kernel_rfl) _ _ rfl) ?_
    simp only [List.map_toArray, List.map_cons, List.map_nil, Act.eval, h22]
    exact (item_any x _).mono (by rintro e w1 ⟨rfl, hb⟩; exact ⟨_, rfl, hb, by rw [S.hi]; rfl⟩)
  refine ⟨?_, ?_⟩
  · intro a _w _hB _hF hd
    have h23 : a.tmps.getD 23 undef = .bool false := hd.1 rfl
    exact step_not (guard_none rfl) rfl _ _ rfl h23 rfl
  refine ⟨?_, ?_⟩
  · intro a _w _hB _hF hd
    have h24 : a.tmps.getD 24 undef = .bool true := hd.1 rfl
    exact step_move (guard_none rfl) rfl _ rfl h24
  refine ⟨?_, ?_⟩
  · intro a _w _hB _hF hd
    have h25 : a.tmps.getD 25 undef = .bool true := hd.1 rfl
    exact rf_shut false rfl rfl h25 rfl
  refine ⟨?_, ?_⟩
  · intro a _w _hB _hF hd
    have h25 : a.tmps.getD 25 undef = .bool true := hd.2.1 rfl
    exact rf_shut false rfl rfl h25 rfl
  refine ⟨?_, ?_⟩
  · intro a _w _hB _hF hd
    have h25 : a.tmps.getD 25 undef = .bool true := hd.1 rfl
    exact rf_shut false rfl rfl h25 rfl
  refine ⟨?_, ?_⟩
  · intro a _w _hB _hF hd
    have h25 : a.tmps.getD 25 undef = .bool true := hd.1 rfl
    exact rf_shut false rfl rfl h25 rfl
  refine ⟨?_, ?_⟩
  · intro a _w _hB _hF hd
    have h25 : a.tmps.getD 25 undef = .bool true := hd.2.2.1 rfl
    exact rf_shut false rfl rfl h25 rfl
  refine ⟨?_, ?_⟩
  · intro a _w _hB _hF hd
    have h25 : a.tmps.getD 25 undef = .bool true := hd.2.2.1 rfl
    exact rf_shut false rfl rfl h25 rfl
  refine ⟨?_, ?_⟩
  · intro a _w _hB _hF hd
    have h25 : a.tmps.getD 25 undef = .bool true := hd.1 rfl
    exact rf_pick (guard_none rfl) rfl _ _ _ rfl true h25 rfl
  trivial
theorem tfb_any {Q : Exit → Act → World → Prop} {l : List Oper} (hl : opsOf 6 Try.f59 = l) (hend : ∀ w : World, Below w0.heap.size w0 w → Q .normal (putAll a0 [(22, .agg #[.int .i64 x.s, .int .i64 x.t, .int .i64 x.q, .int .i64 x.v]), (23, .bool false), (24, .bool true), (25, .bool true), (26, undef), (27, undef), (28, undef), (29, undef), (30, undef), (31, undef), (32, .bool true)]) w) :
    (Code.region 6 l.toArray true).wp Try.prog Q a0 w0 := by
  subst hl
  refine region_facts2 (tfbF g y n1 c1 A1 x) tfbD 34 S.size rfl (by kernel_rfl) (by kernel_rfl) (tfbF_mono _ _ _ _ _ _) (tfb_ok S) fun a w hB hF h => ?_
  have hv : valsAre a [(22, .agg #[.int .i64 x.s, .int .i64 x.t, .int .i64 x.q, .int .i64 x.v]), (23, .bool false), (24, .bool true), (25, .bool true), (26, undef), (27, undef), (28, undef), (29, undef), (30, undef), (31, undef), (32, .bool true)] := by
    refine ⟨?_, ?_, ?_, ?_, ?_, ?_, ?_, ?_, ?_, ?_, ?_, trivial⟩
    · exact h 0 (some 22) rfl
    · exact h 1 (some 23) rfl
    · exact h 2 (some 24) rfl
    · exact h 3 (some 25) rfl
    · exact h 4 (some 26) rfl
    · exact h 5 (some 27) rfl
    · exact h 6 (some 28) rfl
    · exact h 7 (some 29) rfl
    · exact h 8 (some 30) rfl
    · exact h 9 (some 31) rfl
    · exact h 10 (some 32) rfl
  rw [frame_is hF _ hv (by rfl) (by rfl)]
  exact hend w hB
end

def tfgD : List (Option Tmp) := [some 22, some 23, some 24, some 25, some 26, some 27, some 28, some 29, some 30, some 31, some 32]
def tfgF (g y n1 c1 : Nat) (A1 : Option Addr) (x : It) (σ : Int) (β : Bool) : List Fact := [isV (.agg #[.int .i64 x.s, .int .i64 x.t, .int .i64 x.q, .int .i64 x.v]), isV (.bool true), isV (.bool false), isV (.bool false), isV (.pointer (some ⟨y, 0, none⟩)), isV (.int .i64 x.s), isV (.pointer (some ⟨g, 0, none⟩)), isV (.slice A1 n1 c1), isV (.int .i64 σ), isV (.bool β), isV (.bool β)]
theorem tfgF_mono (g y n1 c1 : Nat) (A1 : Option Addr) (x : It) (σ : Int) (β : Bool) : ∀ φ ∈ tfgF g y n1 c1 A1 x σ β, Mono φ := by
  unfold tfgF
  refine monos_cons (mono_isV _) ?_
  refine monos_cons (mono_isV _) ?_
  refine monos_cons (mono_isV _) ?_
  refine monos_cons (mono_isV _) ?_
  refine monos_cons (mono_isV _) ?_
  refine monos_cons (mono_isV _) ?_
  refine monos_cons (mono_isV _) ?_
  refine monos_cons (mono_isV _) ?_
  refine monos_cons (mono_isV _) ?_
  refine monos_cons (mono_isV _) ?_
  refine monos_cons (mono_isV _) ?_
  exact monos_nil
structure tfgS (g y n1 c1 : Nat) (A1 : Option Addr) (x : It) (σ : Int) (β : Bool) (a0 : Act) (w0 : World) : Prop where
  size : a0.tmps.size = 34
  v0 : a0.tmps.getD 0 undef = .pointer (some ⟨g, 0, none⟩)
  v1 : a0.tmps.getD 1 undef = .slice A1 n1 c1
  v6 : a0.tmps.getD 6 undef = .pointer (some ⟨y, 0, none⟩)
  bx : Has w0 y 23 #[.int .i64 x.s, .int .i64 x.t, .int .i64 x.q, .int .i64 x.v]
  hi : itemB x = true
  ht : (x.s != σ) = β
  cs : ∀ w, Below w0.heap.size w0 w → Calls Try.prog 77 #[.pointer (some ⟨g, 0, none⟩), .slice A1 n1 c1] w fun e w1 => e = .returned (.int .i64 σ) ∧ w = w1
section
variable {g y n1 c1 : Nat} {A1 : Option Addr} {x : It} {σ : Int} {β : Bool} {a0 : Act} {w0 : World} (S : tfgS g y n1 c1 A1 x σ β a0 w0)
include S
set_option maxRecDepth 100000 in
set_option maxHeartbeats 8000000 in
theorem tfg_ok : AllOps (fun j o => ∀ (a : Act) (w : World), Below w0.heap.size w0 w → FrD tfgD a0 a → needs tfgD (tfgF g y n1 c1 A1 x σ β) a w o.after.toList → StepD Try.prog tfgD (factAt (tfgF g y n1 c1 A1 x σ β) j) o a w) 0 (opsOf 6 Try.f59) := by
  simp only [opsOf, Try.f59, opsAt, Option.bind, Option.or, Option.getD, reduceCtorEq, if_true, if_false, Nat.reduceEqDiff]
  refine ⟨?_, ?_⟩
  · intro _a _w hB hF _hd
    exact rf_loadS (guard_none rfl) rfl _ _ rfl _ _ ((hF.other 6 rfl).trans S.v6) _ (rf_range (S.bx.below hB S.bx.lt)) Try.underlying23 rfl (by kernel_rfl) rfl
  refine ⟨?_, ?_⟩
  · intro a _w _hB _hF hd
    have h22 : a.tmps.getD 22 undef = .agg #[.int .i64 x.s, .int .i64 x.t, .int .i64 x.q, .int .i64 x.v] := hd.1 rfl
    refine step_call (guard_none rfl) rfl _ _ (rf_call_run Try.func40 (by kernel_rfl) (by kernel_rfl) _ _ rfl) ?_
    simp only [List.map_toArray, List.map_cons, List.map_nil, Act.eval, h22]
    exact (item_any x _).mono (by rintro e w1 ⟨rfl, hb⟩; exact ⟨_, rfl, hb, by rw [S.hi]; rfl⟩)
  refine ⟨?_, ?_⟩
  · intro a _w _hB _hF hd
    have h23 : a.tmps.getD 23 undef = .bool true := hd.1 rfl
    exact step_not (guard_none rfl) rfl _ _ rfl h23 rfl
  refine ⟨?_, ?_⟩
  · intro a _w _hB _hF hd
    have h24 : a.tmps.getD 24 undef = .bool false := hd.1 rfl
    exact step_move (guard_none rfl) rfl _ rfl h24
  refine ⟨?_, ?_⟩
  · intro a _w _hB hF hd
    have h25 : a.tmps.getD 25 undef = .bool false := hd.1 rfl
    exact rf_faddr (rf_open false rfl rfl h25) rfl _ _ _ rfl _ _ 0 _ ((hF.other 6 rfl).trans S.v6) (by omega) (fun _ _ => by kernel_rfl) rfl
  refine ⟨?_, ?_⟩
  · intro a _w hB _hF hd
    have h25 : a.tmps.getD 25 undef = .bool false := hd.2.1 rfl
    have h26 : a.tmps.getD 26 undef = .pointer (some ⟨y, 0, none⟩) := hd.1 rfl
    exact rf_loadi (rf_open false rfl rfl h25) rfl _ rfl _ _ h26 _ ((Has.cell (S.bx.below hB S.bx.lt) 0).trans rfl) rfl
  refine ⟨?_, ?_⟩
  · intro a _w _hB hF hd
    have h25 : a.tmps.getD 25 undef = .bool false := hd.1 rfl
    exact step_move (rf_open false rfl rfl h25) rfl _ rfl ((hF.other 0 rfl).trans S.v0)
  refine ⟨?_, ?_⟩
  · intro a _w _hB hF hd
    have h25 : a.tmps.getD 25 undef = .bool false := hd.1 rfl
    exact step_move (rf_open false rfl rfl h25) rfl _ rfl ((hF.other 1 rfl).trans S.v1)
  refine ⟨?_, ?_⟩
  · intro a w hB _hF hd
    have h25 : a.tmps.getD 25 undef = .bool false := hd.2.2.1 rfl
    have h28 : a.tmps.getD 28 undef = .pointer (some ⟨g, 0, none⟩) := hd.1 rfl
    have h29 : a.tmps.getD 29 undef = .slice A1 n1 c1 := hd.2.1 rfl
    refine step_call (rf_open false rfl rfl h25) rfl _ _ (rf_call_run Try.func77 (by kernel_rfl) (by kernel_rfl) _ _ rfl) ?_
    simp only [List.map_toArray, List.map_cons, List.map_nil, Act.eval, h28, h29]
    exact (S.cs w hB).mono (by rintro e w1 ⟨rfl, rfl⟩; exact ⟨_, rfl, Below.refl _ _, rfl⟩)
  refine ⟨?_, ?_⟩
  · intro a _w _hB _hF hd
    have h25 : a.tmps.getD 25 undef = .bool false := hd.2.2.1 rfl
    have h27 : a.tmps.getD 27 undef = .int .i64 x.s := hd.1 rfl
    have h30 : a.tmps.getD 30 undef = .int .i64 σ := hd.2.1 rfl
    exact rf_neq (rf_open false rfl rfl h25) rfl _ _ rfl _ _ h27 h30 β S.ht rfl
  refine ⟨?_, ?_⟩
  · intro a _w _hB _hF hd
    have h25 : a.tmps.getD 25 undef = .bool false := hd.1 rfl
    have h31 : a.tmps.getD 31 undef = .bool β := hd.2.1 rfl
    exact rf_pick (guard_none rfl) rfl _ _ _ rfl false h25 h31
  trivial
theorem tfg_any {Q : Exit → Act → World → Prop} {l : List Oper} (hl : opsOf 6 Try.f59 = l) (hend : ∀ w : World, Below w0.heap.size w0 w → Q .normal (putAll a0 [(22, .agg #[.int .i64 x.s, .int .i64 x.t, .int .i64 x.q, .int .i64 x.v]), (23, .bool true), (24, .bool false), (25, .bool false), (26, .pointer (some ⟨y, 0, none⟩)), (27, .int .i64 x.s), (28, .pointer (some ⟨g, 0, none⟩)), (29, .slice A1 n1 c1), (30, .int .i64 σ), (31, .bool β), (32, .bool β)]) w) :
    (Code.region 6 l.toArray true).wp Try.prog Q a0 w0 := by
  subst hl
  refine region_facts2 (tfgF g y n1 c1 A1 x σ β) tfgD 34 S.size rfl (by kernel_rfl) (by kernel_rfl) (tfgF_mono _ _ _ _ _ _ _ _) (tfg_ok S) fun a w hB hF h => ?_
  have hv : valsAre a [(22, .agg #[.int .i64 x.s, .int .i64 x.t, .int .i64 x.q, .int .i64 x.v]), (23, .bool true), (24, .bool false), (25, .bool false), (26, .pointer (some ⟨y, 0, none⟩)), (27, .int .i64 x.s), (28, .pointer (some ⟨g, 0, none⟩)), (29, .slice A1 n1 c1), (30, .int .i64 σ), (31, .bool β), (32, .bool β)] := by
    refine ⟨?_, ?_, ?_, ?_, ?_, ?_, ?_, ?_, ?_, ?_, ?_, trivial⟩
    · exact h 0 (some 22) rfl
    · exact h 1 (some 23) rfl
    · exact h 2 (some 24) rfl
    · exact h 3 (some 25) rfl
    · exact h 4 (some 26) rfl
    · exact h 5 (some 27) rfl
    · exact h 6 (some 28) rfl
    · exact h 7 (some 29) rfl
    · exact h 8 (some 30) rfl
    · exact h 9 (some 31) rfl
    · exact h 10 (some 32) rfl
  rw [frame_is hF _ hv (by rfl) (by rfl)]
  exact hend w hB
end

def thhD : List (Option Tmp) := [some 18, some 19, some 20, some 21, some 22, some 23, some 24, some 25, some 26, some 27, some 28, some 29, some 30, some 31, some 32, some 33, some 34, some 35, some 36, some 37]
def thhF (g _y _m _d _b _n _c : Nat) (_A root : Option Addr) (_iq : Int) (x : It) : List Fact := [isV (.pointer (some ⟨g, 0, none⟩)), isV (.pointer (some ⟨g, 0, none⟩)), isV (.pointer (some ⟨g, 1, none⟩)), isV (.pointer root), isV (.agg #[.int .i64 x.s, .int .i64 x.t, .int .i64 x.q, .int .i64 x.v]), isV (.bool true), isV (.bool true), isV (undef), isV (undef), isV (undef), isV (undef), isV (undef), isV (undef), isV (undef), isV (undef), isV (undef), isV (undef), isV (undef), isV (undef), isV (.bool true)]
theorem thhF_mono (g y m d b n c : Nat) (A root : Option Addr) (iq : Int) (x : It) : ∀ φ ∈ thhF g y m d b n c A root iq x, Mono φ := by
  unfold thhF
  refine monos_cons (mono_isV _) ?_
  refine monos_cons (mono_isV _) ?_
  refine monos_cons (mono_isV _) ?_
  refine monos_cons (mono_isV _) ?_
  refine monos_cons (mono_isV _) ?_
  refine monos_cons (mono_isV _) ?_
  refine monos_cons (mono_isV _) ?_
  refine monos_cons (mono_isV _) ?_
  refine monos_cons (mono_isV _) ?_
  refine monos_cons (mono_isV _) ?_
  refine monos_cons (mono_isV _) ?_
  refine monos_cons (mono_isV _) ?_
  refine monos_cons (mono_isV _) ?_
  refine monos_cons (mono_isV _) ?_
  refine monos_cons (mono_isV _) ?_
  refine monos_cons (mono_isV _) ?_
  refine monos_cons (mono_isV _) ?_
  refine monos_cons (mono_isV _) ?_
  refine monos_cons (mono_isV _) ?_
  refine monos_cons (mono_isV _) ?_
  exact monos_nil
structure thhS (g y m d b n c : Nat) (A root : Option Addr) (iq : Int) (x : It) (a0 : Act) (w0 : World) : Prop where
  size : a0.tmps.size = 39
  v0 : a0.tmps.getD 0 undef = .pointer (some ⟨g, 0, none⟩)
  v7 : a0.tmps.getD 7 undef = .pointer (some ⟨y, 0, none⟩)
  st : Has w0 g 88 #[.slice A m d, .pointer root]
  bx : Has w0 y 23 #[.int .i64 x.s, .int .i64 x.t, .int .i64 x.q, .int .i64 x.v]
  ch : ∀ w, Below w0.heap.size w0 w → Calls Try.prog 80 #[.pointer root, .agg #[.int .i64 x.s, .int .i64 x.t, .int .i64 x.q, .int .i64 x.v]] w fun e w1 => e = .returned (.bool true) ∧ Below w.heap.size w w1
section
variable {g y m d b n c : Nat} {A root : Option Addr} {iq : Int} {x : It} {a0 : Act} {w0 : World} (S : thhS g y m d b n c A root iq x a0 w0)
include S
set_option maxRecDepth 100000 in
set_option maxHeartbeats 8000000 in
theorem thh_ok : AllOps (fun j o => ∀ (a : Act) (w : World), Below w0.heap.size w0 w → FrD thhD a0 a → needs thhD (thhF g y m d b n c A root iq x) a w o.after.toList → StepD Try.prog thhD (factAt (thhF g y m d b n c A root iq x) j) o a w) 0 (opsOf 5 Try.f60) := by
  simp only [opsOf, Try.f60, opsAt, Option.bind, Option.or, Option.getD, reduceCtorEq, if_true, if_false, Nat.reduceEqDiff]
  refine ⟨?_, ?_⟩
  · intro _a _w _hB hF _hd
    exact step_move (guard_none rfl) rfl _ rfl ((hF.other 0 rfl).trans S.v0)
  refine ⟨?_, ?_⟩
  · intro a _w _hB _hF hd
    have h18 : a.tmps.getD 18 undef = .pointer (some ⟨g, 0, none⟩) := hd.1 rfl
    exact rf_nilck (guard_none rfl) rfl _ rfl _ h18 rfl
  refine ⟨?_, ?_⟩
  · intro a _w _hB _hF hd
    have h19 : a.tmps.getD 19 undef = .pointer (some ⟨g, 0, none⟩) := hd.1 rfl
    exact rf_faddr (guard_none rfl) rfl _ _ _ rfl _ _ 1 _ h19 (by omega) (fun _ _ => by kernel_rfl) rfl
  refine ⟨?_, ?_⟩
  · intro a _w hB _hF hd
    have h20 : a.tmps.getD 20 undef = .pointer (some ⟨g, 1, none⟩) := hd.1 rfl
    exact rf_load1 (guard_none rfl) rfl _ _ rfl _ _ h20 (run_ldPart ((Has.cell (S.st.below hB S.st.lt) 1).trans rfl)) rfl
  refine ⟨?_, ?_⟩
  · intro _a _w hB hF _hd
    exact rf_loadS (guard_none rfl) rfl _ _ rfl _ _ ((hF.other 7 rfl).trans S.v7) _ (rf_range (S.bx.below hB S.bx.lt)) Try.underlying23 rfl (by kernel_rfl) rfl
  refine ⟨?_, ?_⟩
  · intro a w hB _hF hd
    have h21 : a.tmps.getD 21 undef = .pointer root := hd.1 rfl
    have h22 : a.tmps.getD 22 undef = .agg #[.int .i64 x.s, .int .i64 x.t, .int .i64 x.q, .int .i64 x.v] := hd.2.1 rfl
    refine step_call (guard_none rfl) rfl _ _ (rf_call_run Try.func80 (by kernel_rfl) (by kernel_rfl) _ _ rfl) ?_
    simp only [List.map_toArray, List.map_cons, List.map_nil, Act.eval, h21, h22]
    exact (S.ch w hB).mono (by rintro e w1 ⟨rfl, hb⟩; exact ⟨_, rfl, hb, rfl⟩)
  refine ⟨?_, ?_⟩
  · intro a _w _hB _hF hd
    have h23 : a.tmps.getD 23 undef = .bool true := hd.1 rfl
    exact step_move (guard_none rfl) rfl _ rfl h23
  refine ⟨?_, ?_⟩
  · intro a _w _hB _hF hd
    have h24 : a.tmps.getD 24 undef = .bool true := hd.1 rfl
    exact rf_shut false rfl rfl h24 rfl
  refine ⟨?_, ?_⟩
  · intro a _w _hB _hF hd
    have h24 : a.tmps.getD 24 undef = .bool true := hd.2.1 rfl
    exact rf_shut false rfl rfl h24 rfl
  refine ⟨?_, ?_⟩
  · intro a _w _hB _hF hd
    have h24 : a.tmps.getD 24 undef = .bool true := hd.2.1 rfl
    exact rf_shut false rfl rfl h24 rfl
  refine ⟨?_, ?_⟩
  · intro a _w _hB _hF hd
    have h27 : a.tmps.getD 27 undef = undef := hd.1 rfl
    exact rf_shutu true rfl rfl h27 rfl
  refine ⟨?_, ?_⟩
  · intro a _w _hB _hF hd
    have h27 : a.tmps.getD 27 undef = undef := hd.1 rfl
    exact rf_shutu true rfl rfl h27 rfl
  refine ⟨?_, ?_⟩
  · intro a _w _hB _hF hd
    have h27 : a.tmps.getD 27 undef = undef := hd.2.1 rfl
    exact rf_shutu true rfl rfl h27 rfl
  refine ⟨?_, ?_⟩
  · intro a _w _hB _hF hd
    have h27 : a.tmps.getD 27 undef = undef := hd.2.2.1 rfl
    exact rf_shutu true rfl rfl h27 rfl
  refine ⟨?_, ?_⟩
  · intro a _w _hB _hF hd
    have h27 : a.tmps.getD 27 undef = undef := hd.2.1 rfl
    exact rf_shutu true rfl rfl h27 rfl
  refine ⟨?_, ?_⟩
  · intro a _w _hB _hF hd
    have h27 : a.tmps.getD 27 undef = undef := hd.1 rfl
    exact rf_shutu true rfl rfl h27 rfl
  refine ⟨?_, ?_⟩
  · intro a _w _hB _hF hd
    have h27 : a.tmps.getD 27 undef = undef := hd.2.2.1 rfl
    exact rf_shutu true rfl rfl h27 rfl
  refine ⟨?_, ?_⟩
  · intro a _w _hB _hF hd
    have h27 : a.tmps.getD 27 undef = undef := hd.2.1 rfl
    exact rf_shutu true rfl rfl h27 rfl
  refine ⟨?_, ?_⟩
  · intro a _w _hB _hF hd
    have h24 : a.tmps.getD 24 undef = .bool true := hd.2.2.1 rfl
    exact rf_shut false rfl rfl h24 rfl
  refine ⟨?_, ?_⟩
  · intro a _w _hB _hF hd
    have h24 : a.tmps.getD 24 undef = .bool true := hd.1 rfl
    exact rf_pick (guard_none rfl) rfl _ _ _ rfl true h24 rfl
  trivial
theorem thh_any {Q : Exit → Act → World → Prop} {l : List Oper} (hl : opsOf 5 Try.f60 = l) (hend : ∀ w : World, Below w0.heap.size w0 w → Q .normal (putAll a0 [(18, .pointer (some ⟨g, 0, none⟩)), (19, .pointer (some ⟨g, 0, none⟩)), (20, .pointer (some ⟨g, 1, none⟩)), (21, .pointer root), (22, .agg #[.int .i64 x.s, .int .i64 x.t, .int .i64 x.q, .int .i64 x.v]), (23, .bool true), (24, .bool true), (25, undef), (26, undef), (27, undef), (28, undef), (29, undef), (30, undef), (31, undef), (32, undef), (33, undef), (34, undef), (35, undef), (36, undef), (37, .bool true)]) w) :
    (Code.region 5 l.toArray true).wp Try.prog Q a0 w0 := by
  subst hl
  refine region_facts2 (thhF g y m d b n c A root iq x) thhD 39 S.size rfl (by kernel_rfl) (by kernel_rfl) (thhF_mono _ _ _ _ _ _ _ _ _ _ _) (thh_ok S) fun a w hB hF h => ?_
  have hv : valsAre a [(18, .pointer (some ⟨g, 0, none⟩)), (19, .pointer (some ⟨g, 0, none⟩)), (20, .pointer (some ⟨g, 1, none⟩)), (21, .pointer root), (22, .agg #[.int .i64 x.s, .int .i64 x.t, .int .i64 x.q, .int .i64 x.v]), (23, .bool true), (24, .bool true), (25, undef), (26, undef), (27, undef), (28, undef), (29, undef), (30, undef), (31, undef), (32, undef), (33, undef), (34, undef), (35, undef), (36, undef), (37, .bool true)] := by
    refine ⟨?_, ?_, ?_, ?_, ?_, ?_, ?_, ?_, ?_, ?_, ?_, ?_, ?_, ?_, ?_, ?_, ?_, ?_, ?_, ?_, trivial⟩
    · exact h 0 (some 18) rfl
    · exact h 1 (some 19) rfl
    · exact h 2 (some 20) rfl
    · exact h 3 (some 21) rfl
    · exact h 4 (some 22) rfl
    · exact h 5 (some 23) rfl
    · exact h 6 (some 24) rfl
    · exact h 7 (some 25) rfl
    · exact h 8 (some 26) rfl
    · exact h 9 (some 27) rfl
    · exact h 10 (some 28) rfl
    · exact h 11 (some 29) rfl
    · exact h 12 (some 30) rfl
    · exact h 13 (some 31) rfl
    · exact h 14 (some 32) rfl
    · exact h 15 (some 33) rfl
    · exact h 16 (some 34) rfl
    · exact h 17 (some 35) rfl
    · exact h 18 (some 36) rfl
    · exact h 19 (some 37) rfl
  rw [frame_is hF _ hv (by rfl) (by rfl)]
  exact hend w hB
end

def thzD : List (Option Tmp) := [some 18, some 19, some 20, some 21, some 22, some 23, some 24, some 25, some 26, some 27, some 28, some 29, some 30, some 31, some 32, some 33, some 34, some 35, some 36, some 37]
def thzF (g _y _m _d _b _n _c : Nat) (_A root : Option Addr) (iq : Int) (x : It) : List Fact := [isV (.pointer (some ⟨g, 0, none⟩)), isV (.pointer (some ⟨g, 0, none⟩)), isV (.pointer (some ⟨g, 1, none⟩)), isV (.pointer root), isV (.agg #[.int .i64 x.s, .int .i64 x.t, .int .i64 x.q, .int .i64 x.v]), isV (.bool false), isV (.bool false), isV (.int .i64 iq), isV (.bool false), isV (.bool false), isV (undef), isV (undef), isV (undef), isV (undef), isV (undef), isV (undef), isV (undef), isV (undef), isV (.bool false), isV (.bool false)]
theorem thzF_mono (g y m d b n c : Nat) (A root : Option Addr) (iq : Int) (x : It) : ∀ φ ∈ thzF g y m d b n c A root iq x, Mono φ := by
  unfold thzF
  refine monos_cons (mono_isV _) ?_
  refine monos_cons (mono_isV _) ?_
  refine monos_cons (mono_isV _) ?_
  refine monos_cons (mono_isV _) ?_
  refine monos_cons (mono_isV _) ?_
  refine monos_cons (mono_isV _) ?_
  refine monos_cons (mono_isV _) ?_
  refine monos_cons (mono_isV _) ?_
  refine monos_cons (mono_isV _) ?_
  refine monos_cons (mono_isV _) ?_
  refine monos_cons (mono_isV _) ?_
  refine monos_cons (mono_isV _) ?_
  refine monos_cons (mono_isV _) ?_
  refine monos_cons (mono_isV _) ?_
  refine monos_cons (mono_isV _) ?_
  refine monos_cons (mono_isV _) ?_
  refine monos_cons (mono_isV _) ?_
  refine monos_cons (mono_isV _) ?_
  refine monos_cons (mono_isV _) ?_
  refine monos_cons (mono_isV _) ?_
  exact monos_nil
structure thzS (g y m d b n c : Nat) (A root : Option Addr) (iq : Int) (x : It) (a0 : Act) (w0 : World) : Prop where
  size : a0.tmps.size = 39
  v0 : a0.tmps.getD 0 undef = .pointer (some ⟨g, 0, none⟩)
  v6 : a0.tmps.getD 6 undef = .int .i64 iq
  v7 : a0.tmps.getD 7 undef = .pointer (some ⟨y, 0, none⟩)
  st : Has w0 g 88 #[.slice A m d, .pointer root]
  bx : Has w0 y 23 #[.int .i64 x.s, .int .i64 x.t, .int .i64 x.q, .int .i64 x.v]
  ch : ∀ w, Below w0.heap.size w0 w → Calls Try.prog 80 #[.pointer root, .agg #[.int .i64 x.s, .int .i64 x.t, .int .i64 x.q, .int .i64 x.v]] w fun e w1 => e = .returned (.bool false) ∧ Below w.heap.size w w1
  hz : decide (0 < iq) = false
section
variable {g y m d b n c : Nat} {A root : Option Addr} {iq : Int} {x : It} {a0 : Act} {w0 : World} (S : thzS g y m d b n c A root iq x a0 w0)
include S
set_option maxRecDepth 100000 in
set_option maxHeartbeats 8000000 in
theorem thz_ok : AllOps (fun j o => ∀ (a : Act) (w : World), Below w0.heap.size w0 w → FrD thzD a0 a → needs thzD (thzF g y m d b n c A root iq x) a w o.after.toList → StepD Try.prog thzD (factAt (thzF g y m d b n c A root iq x) j) o a w) 0 (opsOf 5 Try.f60) := by
  simp only [opsOf, Try.f60, opsAt, Option.bind, Option.or, Option.getD, reduceCtorEq, if_true, if_false, Nat.reduceEqDiff]
  refine ⟨?_, ?_⟩
  · intro _a _w _hB hF _hd
    exact step_move (guard_none rfl) rfl _ rfl ((hF.other 0 rfl).trans S.v0)
  refine ⟨?_, ?_⟩
  · intro a _w _hB _hF hd
    have h18 : a.tmps.getD 18 undef = .pointer (some ⟨g, 0, none⟩) := hd.1 rfl
    exact rf_nilck (guard_none rfl) rfl _ rfl _ h18 rfl
  refine ⟨?_, ?_⟩
  · intro a _w _hB _hF hd
    have h19 : a.tmps.getD 19 undef = .pointer (some ⟨g, 0, none⟩) := hd.1 rfl
    exact rf_faddr (guard_none rfl) rfl _ _ _ rfl _ _ 1 _ h19 (by omega) (fun _ _ => by kernel_rfl) rfl
  refine ⟨?_, ?_⟩
  · intro a _w hB _hF hd
    have h20 : a.tmps.getD 20 undef = .pointer (some ⟨g, 1, none⟩) := hd.1 rfl
    exact rf_load1 (guard_none rfl) rfl _ _ rfl _ _ h20 (run_ldPart ((Has.cell (S.st.below hB S.st.lt) 1).trans rfl)) rfl
  refine ⟨?_, ?_⟩
  · intro _a _w hB hF _hd
    exact rf_loadS (guard_none rfl) rfl _ _ rfl _ _ ((hF.other 7 rfl).trans S.v7) _ (rf_range (S.bx.below hB S.bx.lt)) Try.underlying23 rfl (by kernel_rfl) rfl
  refine ⟨?_, ?_⟩
  · intro a w hB _hF hd
    have h21 : a.tmps.getD 21 undef = .pointer root := hd.1 rfl
    have h22 : a.tmps.getD 22 undef = .agg #[.int .i64 x.s, .int .i64 x.t, .int .i64 x.q, .int .i64 x.v] := hd.2.1 rfl
    refine step_call (guard_none rfl) rfl _ _ (rf_call_run Try.func80 (by kernel_rfl) (by kernel_rfl) _ _ rfl) ?_
    simp only [List.map_toArray, List.map_cons, List.map_nil, Act.eval, h21, h22]
    exact (S.ch w hB).mono (by rintro e w1 ⟨rfl, hb⟩; exact ⟨_, rfl, hb, rfl⟩)
  refine ⟨?_, ?_⟩
  · intro a _w _hB _hF hd
    have h23 : a.tmps.getD 23 undef = .bool false := hd.1 rfl
    exact step_move (guard_none rfl) rfl _ rfl h23
  refine ⟨?_, ?_⟩
  · intro a _w _hB hF hd
    have h24 : a.tmps.getD 24 undef = .bool false := hd.1 rfl
    exact step_move (rf_open false rfl rfl h24) rfl _ rfl ((hF.other 6 rfl).trans S.v6)
  refine ⟨?_, ?_⟩
  · intro a _w _hB _hF hd
    have h24 : a.tmps.getD 24 undef = .bool false := hd.2.1 rfl
    have h25 : a.tmps.getD 25 undef = .int .i64 iq := hd.1 rfl
    exact rf_gtr (rf_open false rfl rfl h24) rfl _ _ rfl _ _ h25 rfl false S.hz rfl
  refine ⟨?_, ?_⟩
  · intro a _w _hB _hF hd
    have h24 : a.tmps.getD 24 undef = .bool false := hd.2.1 rfl
    have h26 : a.tmps.getD 26 undef = .bool false := hd.1 rfl
    exact step_move (rf_open false rfl rfl h24) rfl _ rfl h26
  refine ⟨?_, ?_⟩
  · intro a _w _hB _hF hd
    have h27 : a.tmps.getD 27 undef = .bool false := hd.1 rfl
    exact rf_shut true rfl rfl h27 rfl
  refine ⟨?_, ?_⟩
  · intro a _w _hB _hF hd
    have h27 : a.tmps.getD 27 undef = .bool false := hd.1 rfl
    exact rf_shut true rfl rfl h27 rfl
  refine ⟨?_, ?_⟩
  · intro a _w _hB _hF hd
    have h27 : a.tmps.getD 27 undef = .bool false := hd.2.1 rfl
    exact rf_shut true rfl rfl h27 rfl
  refine ⟨?_, ?_⟩
  · intro a _w _hB _hF hd
    have h27 : a.tmps.getD 27 undef = .bool false := hd.2.2.1 rfl
    exact rf_shut true rfl rfl h27 rfl
  refine ⟨?_, ?_⟩
  · intro a _w _hB _hF hd
    have h27 : a.tmps.getD 27 undef = .bool false := hd.2.1 rfl
    exact rf_shut true rfl rfl h27 rfl
  refine ⟨?_, ?_⟩
  · intro a _w _hB _hF hd
    have h27 : a.tmps.getD 27 undef = .bool false := hd.1 rfl
    exact rf_shut true rfl rfl h27 rfl
  refine ⟨?_, ?_⟩
  · intro a _w _hB _hF hd
    have h27 : a.tmps.getD 27 undef = .bool false := hd.2.2.1 rfl
    exact rf_shut true rfl rfl h27 rfl
  refine ⟨?_, ?_⟩
  · intro a _w _hB _hF hd
    have h27 : a.tmps.getD 27 undef = .bool false := hd.2.1 rfl
    exact rf_shut true rfl rfl h27 rfl
  refine ⟨?_, ?_⟩
  · intro a _w _hB _hF hd
    have h24 : a.tmps.getD 24 undef = .bool false := hd.2.2.1 rfl
    have h27 : a.tmps.getD 27 undef = .bool false := hd.1 rfl
    exact rf_pick (rf_open false rfl rfl h24) rfl _ _ _ rfl false h27 rfl
  refine ⟨?_, ?_⟩
  · intro a _w _hB _hF hd
    have h24 : a.tmps.getD 24 undef = .bool false := hd.1 rfl
    have h36 : a.tmps.getD 36 undef = .bool false := hd.2.1 rfl
    exact rf_pick (guard_none rfl) rfl _ _ _ rfl false h24 h36
  trivial
theorem thz_any {Q : Exit → Act → World → Prop} {l : List Oper} (hl : opsOf 5 Try.f60 = l) (hend : ∀ w : World, Below w0.heap.size w0 w → Q .normal (putAll a0 [(18, .pointer (some ⟨g, 0, none⟩)), (19, .pointer (some ⟨g, 0, none⟩)), (20, .pointer (some ⟨g, 1, none⟩)), (21, .pointer root), (22, .agg #[.int .i64 x.s, .int .i64 x.t, .int .i64 x.q, .int .i64 x.v]), (23, .bool false), (24, .bool false), (25, .int .i64 iq), (26, .bool false), (27, .bool false), (28, undef), (29, undef), (30, undef), (31, undef), (32, undef), (33, undef), (34, undef), (35, undef), (36, .bool false), (37, .bool false)]) w) :
    (Code.region 5 l.toArray true).wp Try.prog Q a0 w0 := by
  subst hl
  refine region_facts2 (thzF g y m d b n c A root iq x) thzD 39 S.size rfl (by kernel_rfl) (by kernel_rfl) (thzF_mono _ _ _ _ _ _ _ _ _ _ _) (thz_ok S) fun a w hB hF h => ?_
  have hv : valsAre a [(18, .pointer (some ⟨g, 0, none⟩)), (19, .pointer (some ⟨g, 0, none⟩)), (20, .pointer (some ⟨g, 1, none⟩)), (21, .pointer root), (22, .agg #[.int .i64 x.s, .int .i64 x.t, .int .i64 x.q, .int .i64 x.v]), (23, .bool false), (24, .bool false), (25, .int .i64 iq), (26, .bool false), (27, .bool false), (28, undef), (29, undef), (30, undef), (31, undef), (32, undef), (33, undef), (34, undef), (35, undef), (36, .bool false), (37, .bool false)] := by
    refine ⟨?_, ?_, ?_, ?_, ?_, ?_, ?_, ?_, ?_, ?_, ?_, ?_, ?_, ?_, ?_, ?_, ?_, ?_, ?_, ?_, trivial⟩
    · exact h 0 (some 18) rfl
    · exact h 1 (some 19) rfl
    · exact h 2 (some 20) rfl
    · exact h 3 (some 21) rfl
    · exact h 4 (some 22) rfl
    · exact h 5 (some 23) rfl
    · exact h 6 (some 24) rfl
    · exact h 7 (some 25) rfl
    · exact h 8 (some 26) rfl
    · exact h 9 (some 27) rfl
    · exact h 10 (some 28) rfl
    · exact h 11 (some 29) rfl
    · exact h 12 (some 30) rfl
    · exact h 13 (some 31) rfl
    · exact h 14 (some 32) rfl
    · exact h 15 (some 33) rfl
    · exact h 16 (some 34) rfl
    · exact h 17 (some 35) rfl
    · exact h 18 (some 36) rfl
    · exact h 19 (some 37) rfl
  rw [frame_is hF _ hv (by rfl) (by rfl)]
  exact hend w hB
end

def thpD : List (Option Tmp) := [some 18, some 19, some 20, some 21, some 22, some 23, some 24, some 25, some 26, some 27, some 28, some 29, some 30, some 31, some 32, some 33, some 34, some 35, some 36, some 37]
def thpF (g _y _m _d b n c : Nat) (_A root : Option Addr) (iq : Int) (x : It) (k : Nat) (v : It) (β : Bool) : List Fact := [isV (.pointer (some ⟨g, 0, none⟩)), isV (.pointer (some ⟨g, 0, none⟩)), isV (.pointer (some ⟨g, 1, none⟩)), isV (.pointer root), isV (.agg #[.int .i64 x.s, .int .i64 x.t, .int .i64 x.q, .int .i64 x.v]), isV (.bool false), isV (.bool false), isV (.int .i64 iq), isV (.bool true), isV (.bool true), isV (.slice (some ⟨b, 0, none⟩) n c), isV (.int .i64 iq), isV (.int .i64 ((k : Int))), isV (.pointer (some ⟨b, k * 4, none⟩)), isV (.agg #[.int .i64 v.s, .int .i64 v.t, .int .i64 v.q, .int .i64 v.v]), isV (.agg #[.int .i64 x.s, .int .i64 x.t, .int .i64 x.q, .int .i64 x.v]), isV (.int .i64 (cmpT v x)), isV (.bool β), isV (.bool β), isV (.bool β)]
theorem thpF_mono (g y m d b n c : Nat) (A root : Option Addr) (iq : Int) (x : It) (k : Nat) (v : It) (β : Bool) : ∀ φ ∈ thpF g y m d b n c A root iq x k v β, Mono φ := by
  unfold thpF
  refine monos_cons (mono_isV _) ?_
  refine monos_cons (mono_isV _) ?_
  refine monos_cons (mono_isV _) ?_
  refine monos_cons (mono_isV _) ?_
  refine monos_cons (mono_isV _) ?_
  refine monos_cons (mono_isV _) ?_
  refine monos_cons (mono_isV _) ?_
  refine monos_cons (mono_isV _) ?_
  refine monos_cons (mono_isV _) ?_
  refine monos_cons (mono_isV _) ?_
  refine monos_cons (mono_isV _) ?_
  refine monos_cons (mono_isV _) ?_
  refine monos_cons (mono_isV _) ?_
  refine monos_cons (mono_isV _) ?_
  refine monos_cons (mono_isV _) ?_
  refine monos_cons (mono_isV _) ?_
  refine monos_cons (mono_isV _) ?_
  refine monos_cons (mono_isV _) ?_
  refine monos_cons (mono_isV _) ?_
  refine monos_cons (mono_isV _) ?_
  exact monos_nil
structure thpS (g y m d b n c : Nat) (A root : Option Addr) (iq : Int) (x : It) (k : Nat) (v : It) (β : Bool) (a0 : Act) (w0 : World) : Prop where
  size : a0.tmps.size = 39
  v0 : a0.tmps.getD 0 undef = .pointer (some ⟨g, 0, none⟩)
  v5 : a0.tmps.getD 5 undef = .slice (some ⟨b, 0, none⟩) n c
  v6 : a0.tmps.getD 6 undef = .int .i64 iq
  v7 : a0.tmps.getD 7 undef = .pointer (some ⟨y, 0, none⟩)
  st : Has w0 g 88 #[.slice A m d, .pointer root]
  bx : Has w0 y 23 #[.int .i64 x.s, .int .i64 x.t, .int .i64 x.q, .int .i64 x.v]
  ch : ∀ w, Below w0.heap.size w0 w → Calls Try.prog 80 #[.pointer root, .agg #[.int .i64 x.s, .int .i64 x.t, .int .i64 x.q, .int .i64 x.v]] w fun e w1 => e = .returned (.bool false) ∧ Below w.heap.size w w1
  hz : decide (0 < iq) = true
  hk : iq - 1 = (k : Int)
  lk : k < n
  ln : n ≤ 8192
  rw : w0.rangeAt b (k * 4) (itemL v)
  ht : decide (cmpT v x = 0) = β
section
variable {g y m d b n c : Nat} {A root : Option Addr} {iq : Int} {x : It} {k : Nat} {v : It} {β : Bool} {a0 : Act} {w0 : World} (S : thpS g y m d b n c A root iq x k v β a0 w0)
include S
set_option maxRecDepth 100000 in
set_option maxHeartbeats 8000000 in
theorem thp_ok : AllOps (fun j o => ∀ (a : Act) (w : World), Below w0.heap.size w0 w → FrD thpD a0 a → needs thpD (thpF g y m d b n c A root iq x k v β) a w o.after.toList → StepD Try.prog thpD (factAt (thpF g y m d b n c A root iq x k v β) j) o a w) 0 (opsOf 5 Try.f60) := by
  simp only [opsOf, Try.f60, opsAt, Option.bind, Option.or, Option.getD, reduceCtorEq, if_true, if_false, Nat.reduceEqDiff]
  refine ⟨?_, ?_⟩
  · intro _a _w _hB hF _hd
    exact step_move (guard_none rfl) rfl _ rfl ((hF.other 0 rfl).trans S.v0)
  refine ⟨?_, ?_⟩
  · intro a _w _hB _hF hd
    have h18 : a.tmps.getD 18 undef = .pointer (some ⟨g, 0, none⟩) := hd.1 rfl
    exact rf_nilck (guard_none rfl) rfl _ rfl _ h18 rfl
  refine ⟨?_, ?_⟩
  · intro a _w _hB _hF hd
    have h19 : a.tmps.getD 19 undef = .pointer (some ⟨g, 0, none⟩) := hd.1 rfl
    exact rf_faddr (guard_none rfl) rfl _ _ _ rfl _ _ 1 _ h19 (by omega) (fun _ _ => by kernel_rfl) rfl
  refine ⟨?_, ?_⟩
  · intro a _w hB _hF hd
    have h20 : a.tmps.getD 20 undef = .pointer (some ⟨g, 1, none⟩) := hd.1 rfl
    exact rf_load1 (guard_none rfl) rfl _ _ rfl _ _ h20 (run_ldPart ((Has.cell (S.st.below hB S.st.lt) 1).trans rfl)) rfl
  refine ⟨?_, ?_⟩
  · intro _a _w hB hF _hd
    exact rf_loadS (guard_none rfl) rfl _ _ rfl _ _ ((hF.other 7 rfl).trans S.v7) _ (rf_range (S.bx.below hB S.bx.lt)) Try.underlying23 rfl (by kernel_rfl) rfl
  refine ⟨?_, ?_⟩
  · intro a w hB _hF hd
    have h21 : a.tmps.getD 21 undef = .pointer root := hd.1 rfl
    have h22 : a.tmps.getD 22 undef = .agg #[.int .i64 x.s, .int .i64 x.t, .int .i64 x.q, .int .i64 x.v] := hd.2.1 rfl
    refine step_call (guard_none rfl) rfl _ _ (rf_call_run Try.func80 (by kernel_rfl) (by kernel_rfl) _ _ rfl) ?_
    simp only [List.map_toArray, List.map_cons, List.map_nil, Act.eval, h21, h22]
    exact (S.ch w hB).mono (by rintro e w1 ⟨rfl, hb⟩; exact ⟨_, rfl, hb, rfl⟩)
  refine ⟨?_, ?_⟩
  · intro a _w _hB _hF hd
    have h23 : a.tmps.getD 23 undef = .bool false := hd.1 rfl
    exact step_move (guard_none rfl) rfl _ rfl h23
  refine ⟨?_, ?_⟩
  · intro a _w _hB hF hd
    have h24 : a.tmps.getD 24 undef = .bool false := hd.1 rfl
    exact step_move (rf_open false rfl rfl h24) rfl _ rfl ((hF.other 6 rfl).trans S.v6)
  refine ⟨?_, ?_⟩
  · intro a _w _hB _hF hd
    have h24 : a.tmps.getD 24 undef = .bool false := hd.2.1 rfl
    have h25 : a.tmps.getD 25 undef = .int .i64 iq := hd.1 rfl
    exact rf_gtr (rf_open false rfl rfl h24) rfl _ _ rfl _ _ h25 rfl true S.hz rfl
  refine ⟨?_, ?_⟩
  · intro a _w _hB _hF hd
    have h24 : a.tmps.getD 24 undef = .bool false := hd.2.1 rfl
    have h26 : a.tmps.getD 26 undef = .bool true := hd.1 rfl
    exact step_move (rf_open false rfl rfl h24) rfl _ rfl h26
  refine ⟨?_, ?_⟩
  · intro a _w _hB hF hd
    have h27 : a.tmps.getD 27 undef = .bool true := hd.1 rfl
    exact step_move (rf_open true rfl rfl h27) rfl _ rfl ((hF.other 5 rfl).trans S.v5)
  refine ⟨?_, ?_⟩
  · intro a _w _hB hF hd
    have h27 : a.tmps.getD 27 undef = .bool true := hd.1 rfl
    exact step_move (rf_open true rfl rfl h27) rfl _ rfl ((hF.other 6 rfl).trans S.v6)
  refine ⟨?_, ?_⟩
  · intro a _w _hB _hF hd
    have h27 : a.tmps.getD 27 undef = .bool true := hd.2.1 rfl
    have h29 : a.tmps.getD 29 undef = .int .i64 iq := hd.1 rfl
    exact rf_subr (rf_open true rfl rfl h27) rfl _ _ rfl _ _ _ h29 rfl S.hk (by omega) (by have := S.lk; have := S.ln; omega) rfl
  refine ⟨?_, ?_⟩
  · intro a _w _hB _hF hd
    have h27 : a.tmps.getD 27 undef = .bool true := hd.2.2.1 rfl
    have h28 : a.tmps.getD 28 undef = .slice (some ⟨b, 0, none⟩) n c := hd.1 rfl
    have h30 : a.tmps.getD 30 undef = .int .i64 ((k : Int)) := hd.2.1 rfl
    exact rf_indexIt0 (rf_open true rfl rfl h27) rfl _ _ rfl b n c k _ h28 h30 rfl S.lk rfl
  refine ⟨?_, ?_⟩
  · intro a _w hB _hF hd
    have h27 : a.tmps.getD 27 undef = .bool true := hd.2.1 rfl
    have h31 : a.tmps.getD 31 undef = .pointer (some ⟨b, k * 4, none⟩) := hd.1 rfl
    exact rf_loadIt (rf_open true rfl rfl h27) rfl _ rfl b (k * 4) h31 v (rangeAt_keep S.rw (by simp [itemL]) fun _ hp => hB.cell hp) rfl
  refine ⟨?_, ?_⟩
  · intro a _w hB hF hd
    have h27 : a.tmps.getD 27 undef = .bool true := hd.1 rfl
    exact rf_loadS (rf_open true rfl rfl h27) rfl _ _ rfl _ _ ((hF.other 7 rfl).trans S.v7) _ (rf_range (S.bx.below hB S.bx.lt)) Try.underlying23 rfl (by kernel_rfl) rfl
  refine ⟨?_, ?_⟩
  · intro a _w _hB _hF hd
    have h27 : a.tmps.getD 27 undef = .bool true := hd.2.2.1 rfl
    have h32 : a.tmps.getD 32 undef = .agg #[.int .i64 v.s, .int .i64 v.t, .int .i64 v.q, .int .i64 v.v] := hd.1 rfl
    have h33 : a.tmps.getD 33 undef = .agg #[.int .i64 x.s, .int .i64 x.t, .int .i64 x.q, .int .i64 x.v] := hd.2.1 rfl
    refine step_call (rf_open true rfl rfl h27) rfl _ _ (rf_call_run Try.func72 (by kernel_rfl) (by kernel_rfl) _ _ rfl) ?_
    simp only [List.map_toArray, List.map_cons, List.map_nil, Act.eval, h32, h33]
    exact (compare_any v x _).mono (by rintro e w1 ⟨rfl, hb⟩; exact ⟨_, rfl, hb, rfl⟩)
  refine ⟨?_, ?_⟩
  · intro a _w _hB _hF hd
    have h27 : a.tmps.getD 27 undef = .bool true := hd.2.1 rfl
    have h34 : a.tmps.getD 34 undef = .int .i64 (cmpT v x) := hd.1 rfl
    exact rf_eql (rf_open true rfl rfl h27) rfl _ _ rfl _ _ h34 rfl β S.ht rfl
  refine ⟨?_, ?_⟩
  · intro a _w _hB _hF hd
    have h24 : a.tmps.getD 24 undef = .bool false := hd.2.2.1 rfl
    have h27 : a.tmps.getD 27 undef = .bool true := hd.1 rfl
    have h35 : a.tmps.getD 35 undef = .bool β := hd.2.1 rfl
    exact rf_pick (rf_open false rfl rfl h24) rfl _ _ _ rfl true h27 h35
  refine ⟨?_, ?_⟩
  · intro a _w _hB _hF hd
    have h24 : a.tmps.getD 24 undef = .bool false := hd.1 rfl
    have h36 : a.tmps.getD 36 undef = .bool β := hd.2.1 rfl
    exact rf_pick (guard_none rfl) rfl _ _ _ rfl false h24 h36
  trivial
theorem thp_any {Q : Exit → Act → World → Prop} {l : List Oper} (hl : opsOf 5 Try.f60 = l) (hend : ∀ w : World, Below w0.heap.size w0 w → Q .normal (putAll a0 [(18, .pointer (some ⟨g, 0, none⟩)), (19, .pointer (some ⟨g, 0, none⟩)), (20, .pointer (some ⟨g, 1, none⟩)), (21, .pointer root), (22, .agg #[.int .i64 x.s, .int .i64 x.t, .int .i64 x.q, .int .i64 x.v]), (23, .bool false), (24, .bool false), (25, .int .i64 iq), (26, .bool true), (27, .bool true), (28, .slice (some ⟨b, 0, none⟩) n c), (29, .int .i64 iq), (30, .int .i64 ((k : Int))), (31, .pointer (some ⟨b, k * 4, none⟩)), (32, .agg #[.int .i64 v.s, .int .i64 v.t, .int .i64 v.q, .int .i64 v.v]), (33, .agg #[.int .i64 x.s, .int .i64 x.t, .int .i64 x.q, .int .i64 x.v]), (34, .int .i64 (cmpT v x)), (35, .bool β), (36, .bool β), (37, .bool β)]) w) :
    (Code.region 5 l.toArray true).wp Try.prog Q a0 w0 := by
  subst hl
  refine region_facts2 (thpF g y m d b n c A root iq x k v β) thpD 39 S.size rfl (by kernel_rfl) (by kernel_rfl) (thpF_mono _ _ _ _ _ _ _ _ _ _ _ _ _ _) (thp_ok S) fun a w hB hF h => ?_
  have hv : valsAre a [(18, .pointer (some ⟨g, 0, none⟩)), (19, .pointer (some ⟨g, 0, none⟩)), (20, .pointer (some ⟨g, 1, none⟩)), (21, .pointer root), (22, .agg #[.int .i64 x.s, .int .i64 x.t, .int .i64 x.q, .int .i64 x.v]), (23, .bool false), (24, .bool false), (25, .int .i64 iq), (26, .bool true), (27, .bool true), (28, .slice (some ⟨b, 0, none⟩) n c), (29, .int .i64 iq), (30, .int .i64 ((k : Int))), (31, .pointer (some ⟨b, k * 4, none⟩)), (32, .agg #[.int .i64 v.s, .int .i64 v.t, .int .i64 v.q, .int .i64 v.v]), (33, .agg #[.int .i64 x.s, .int .i64 x.t, .int .i64 x.q, .int .i64 x.v]), (34, .int .i64 (cmpT v x)), (35, .bool β), (36, .bool β), (37, .bool β)] := by
    refine ⟨?_, ?_, ?_, ?_, ?_, ?_, ?_, ?_, ?_, ?_, ?_, ?_, ?_, ?_, ?_, ?_, ?_, ?_, ?_, ?_, trivial⟩
    · exact h 0 (some 18) rfl
    · exact h 1 (some 19) rfl
    · exact h 2 (some 20) rfl
    · exact h 3 (some 21) rfl
    · exact h 4 (some 22) rfl
    · exact h 5 (some 23) rfl
    · exact h 6 (some 24) rfl
    · exact h 7 (some 25) rfl
    · exact h 8 (some 26) rfl
    · exact h 9 (some 27) rfl
    · exact h 10 (some 28) rfl
    · exact h 11 (some 29) rfl
    · exact h 12 (some 30) rfl
    · exact h 13 (some 31) rfl
    · exact h 14 (some 32) rfl
    · exact h 15 (some 33) rfl
    · exact h 16 (some 34) rfl
    · exact h 17 (some 35) rfl
    · exact h 18 (some 36) rfl
    · exact h 19 (some 37) rfl
  rw [frame_is hF _ hv (by rfl) (by rfl)]
  exact hend w hB
end

end Go.Proofs.Ytjgjbhbpndjnnaa
