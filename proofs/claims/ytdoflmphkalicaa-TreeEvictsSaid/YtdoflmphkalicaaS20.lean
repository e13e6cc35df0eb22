/-
  The drawn regions of fit and haveTwice (written by gen/trreg.py).
  Walks: slices.SortedFunc of items; series, fit, haveTwice.
  Walk: haveTwice.
-/
import Derived.Test.YtdoflmphkalicaaS7
import Derived.Test.YtdoflmphkalicaaS8
import Derived.Test.YtdoflmphkalicaaRfB
import Derived.Test.YtdoflmphkalicaaS15
import Derived.Test.YtdoflmphkalicaaCmp
import Derived.Test.YtdoflmphkalicaaLeaf
import Derived.Test.YtdoflmphkalicaaS17
import Derived.Test.YtdoflmphkalicaaS18
import Derived.Test.YtdoflmphkalicaaS19
namespace Go.Proofs.Ytdoflmphkalicaa
open Go.RowKit

def tfbD : List (Option Tmp) := [some 22, some 23, some 24, some 25, some 26, some 27, some 28, some 29, some 30, some 31, some 32]
def tfbF (_g _y _n1 _c1 : Nat) (_A1 : Option Addr) (x : It) : List Fact := [isV (.agg #[.int .i64 x.s, .int .i64 x.t, .int .i64 x.q, .int .i64 x.v]), isV (.bool false), isV (.bool true), isV (.bool true), isV (undef), isV (undef), isV (undef), isV (undef), isV (undef), isV (undef), isV (.bool true)]
theorem tfbF_mono (g y n1 c1 : Nat) (A1 : Option Addr) (x : It) : ∀ φ ∈ tfbF g y n1 c1 A1 x, Mono φ := by
  unfold tfbF
  refine monos_cons (mono_isV _) ?_
  refine monos_cons (mono_isV _) ?_
  refine monos_cons (mono_isV _) ?_
  refine monos_cons (mono_isV _) ?_
  refine monos_cons (mono_isV _) ?_
  refine monos_cons (mono_isV _) ?_
  refine monos_cons (mono_isV _) ?_
  refine monos_cons (mono_isV _) ?_
  refine monos_cons (mono_isV _) ?_
  refine monos_cons (mono_isV _) ?_
  refine monos_cons (mono_isV _) ?_
  exact monos_nil
structure tfbS (g y n1 c1 : Nat) (A1 : Option Addr) (x : It) (a0 : Act) (w0 : World) : Prop where
  size : a0.tmps.size = 34
  v6 : a0.tmps.getD 6 undef = .pointer (some ⟨y, 0, none⟩)
  bx : Has w0 y 47 #[.int .i64 x.s, .int .i64 x.t, .int .i64 x.q, .int .i64 x.v]
  hi : itemB x = false
section
variable {g y n1 c1 : Nat} {A1 : Option Addr} {x : It} {a0 : Act} {w0 : World} (S : tfbS g y n1 c1 A1 x a0 w0)
include S
set_option maxRecDepth 100000 in
set_option maxHeartbeats 8000000 in
theorem tfb_ok : AllOps (fun j o => ∀ (a : Act) (w : World), Below w0.heap.size w0 w → FrD tfbD a0 a → needs tfbD (tfbF g y n1 c1 A1 x) a w o.after.toList → StepD Try.prog tfbD (factAt (tfbF g y n1 c1 A1 x) j) o a w) 0 (opsOf 6 Try.f44) := by
  simp only [opsOf, Try.f44, opsAt, Option.bind, Option.or, Option.getD, reduceCtorEq, if_true, if_false, Nat.reduceEqDiff]
  refine ⟨?_, ?_⟩
  · intro _a _w hB hF _hd
    exact rf_loadS (guard_none rfl) rfl _ _ rfl _ _ ((hF.other 6 rfl).trans S.v6) _ (rf_range (S.bx.below hB S.bx.lt)) Try.underlying47 rfl (by kernel_rfl) rfl
  refine ⟨?_, ?_⟩
  · intro a _w _hB _hF hd
    have h22 : a.tmps.getD 22 undef = .agg #[.int .i64 x.s, .int .i64 x.t, .int .i64 x.q, .int .i64 x.v] := hd.1 rfl
    refine step_call (guard_none rfl) rfl _ _ (rf_call_run Try.func59 (by kernel_rfl) (by kernel_rfl) _ _ rfl) ?_
    simp only [List.map_toArray, List.map_cons, List.map_nil, Act.eval, h22]
    exact (item_any x _).mono (by rintro e w1 ⟨rfl, hb⟩; exact ⟨_, rfl, hb, by rw [S.hi]; rfl⟩)
  refine ⟨?_, ?_⟩
  · intro a _w _hB _hF hd
    have h23 : a.tmps.getD 23 undef = .bool false := hd.1 rfl
    exact step_not (guard_none rfl) rfl _ _ rfl h23 rfl
  refine ⟨?_, ?_⟩
  · intro a _w _hB _hF hd
    have h24 : a.tmps.getD 24 undef = .bool true := hd.1 rfl
    exact step_move (guard_none rfl) rfl _ rfl h24
  refine ⟨?_, ?_⟩
  · intro a _w _hB _hF hd
    have h25 : a.tmps.getD 25 undef = .bool true := hd.1 rfl
    exact rf_shut false rfl rfl h25 rfl
  refine ⟨?_, ?_⟩
  · intro a _w _hB _hF hd
    have h25 : a.tmps.getD 25 undef = .bool true := hd.2.1 rfl
    exact rf_shut false rfl rfl h25 rfl
  refine ⟨?_, ?_⟩
  · intro a _w _hB _hF hd
    have h25 : a.tmps.getD 25 undef = .bool true := hd.1 rfl
    exact rf_shut false rfl rfl h25 rfl
  refine ⟨?_, ?_⟩
  · intro a _w _hB _hF hd
    have h25 : a.tmps.getD 25 undef = .bool true := hd.1 rfl
    exact rf_shut false rfl rfl h25 rfl
  refine ⟨?_, ?_⟩
  · intro a _w _hB _hF hd
    have h25 : a.tmps.getD 25 undef = .bool true := hd.2.2.1 rfl
    exact rf_shut false rfl rfl h25 rfl
  refine ⟨?_, ?_⟩
  · intro a _w _hB _hF hd
    have h25 : a.tmps.getD 25 undef = .bool true := hd.2.2.1 rfl
    exact rf_shut false rfl rfl h25 rfl
  refine ⟨?_, ?_⟩
  · intro a _w _hB _hF hd
    have h25 : a.tmps.getD 25 undef = .bool true := hd.1 rfl
    exact rf_pick (guard_none rfl) rfl _ _ _ rfl true h25 rfl
  trivial
theorem tfb_any {Q : Exit → Act → World → Prop} {l : List Oper} (hl : opsOf 6 Try.f44 = l) (hend : ∀ w : World, Below w0.heap.size w0 w → Q .normal (putAll a0 [(22, .agg #[.int .i64 x.s, .int .i64 x.t, .int .i64 x.q, .int .i64 x.v]), (23, .bool false), (24, .bool true), (25, .bool true), (26, undef), (27, undef), (28, undef), (29, undef), (30, undef), (31, undef), (32, .bool true)]) w) :
    (Code.region 6 l.toArray true).wp Try.prog Q a0 w0 := by
  subst hl
  refine region_facts2 (tfbF g y n1 c1 A1 x) tfbD 34 S.size rfl (by kernel_rfl) (by kernel_rfl) (tfbF_mono _ _ _ _ _ _) (tfb_ok S) fun a w hB hF h => ?_
  have hv : valsAre a [(22, .agg #[.int .i64 x.s, .int .i64 x.t, .int .i64 x.q, .int .i64 x.v]), (23, .bool false), (24, .bool true), (25, .bool true), (26, undef), (27, undef), (28, undef), (29, undef), (30, undef), (31, undef), (32, .bool true)] := by
    refine ⟨?_, ?_, ?_, ?_, ?_, ?_, ?_, ?_, ?_, ?_, ?_, trivial⟩
    · exact h 0 (some 22) rfl
    · exact h 1 (some 23) rfl
    · exact h 2 (some 24) rfl
    · exact h 3 (some 25) rfl
    · exact h 4 (some 26) rfl
    · exact h 5 (some 27) rfl
    · exact h 6 (some 28) rfl
    · exact h 7 (some 29) rfl
    · exact h 8 (some 30) rfl
    · exact h 9 (some 31) rfl
    · exact h 10 (some 32) rfl
  rw [frame_is hF _ hv (by rfl) (by rfl)]
  exact hend w hB
end

def tfgD : List (Option Tmp) := [some 22, some 23, some 24, some 25, some 26, some 27, some 28, some 29, some 30, some 31, some 32]
def tfgF (g y n1 c1 : Nat) (A1 : Option Addr) (x : It) (σ : Int) (β : Bool) : List Fact := [isV (.agg #[.int .i64 x.s, .int .i64 x.t, .int .i64 x.q, .int .i64 x.v]), isV (.bool true), isV (.bool false), isV (.bool false), isV (.pointer (some ⟨y, 0, none⟩)), isV (.int .i64 x.s), isV (.pointer (some ⟨g, 0, none⟩)), isV (.slice A1 n1 c1), isV (.int .i64 σ), isV (.bool β), isV (.bool β)]
theorem tfgF_mono (g y n1 c1 : Nat) (A1 : Option Addr) (x : It) (σ : Int) (β : Bool) : ∀ φ ∈ tfgF g y n1 c1 A1 x σ β, Mono φ := by
  unfold tfgF
  refine monos_cons (mono_isV _) ?_
  refine monos_cons (mono_isV _) ?_
  refine monos_cons (mono_isV _) ?_
  refine monos_cons (mono_isV _) ?_
  refine monos_cons (mono_isV _) ?_
  refine monos_cons (mono_isV _) ?_
  refine monos_cons (mono_isV _) ?_
  refine monos_cons (mono_isV _) ?_
  refine monos_cons (mono_isV _) ?_
  refine monos_cons (mono_isV _) ?_
  refine monos_cons (mono_isV _) ?_
  exact monos_nil
structure tfgS (g y n1 c1 : Nat) (A1 : Option Addr) (x : It) (σ : Int) (β : Bool) (a0 : Act) (w0 : World) : Prop where
  size : a0.tmps.size = 34
  v0 : a0.tmps.getD 0 undef = .pointer (some ⟨g, 0, none⟩)
  v1 : a0.tmps.getD 1 undef = .slice A1 n1 c1
  v6 : a0.tmps.getD 6 undef = .pointer (some ⟨y, 0, none⟩)
  bx : Has w0 y 47 #[.int .i64 x.s, .int .i64 x.t, .int .i64 x.q, .int .i64 x.v]
  hi : itemB x = true
  ht : (x.s != σ) = β
  cs : ∀ w, Below w0.heap.size w0 w → Calls Try.prog 71 #[.pointer (some ⟨g, 0, none⟩), .slice A1 n1 c1] w fun e w1 => e = .returned (.int .i64 σ) ∧ w = w1
section
variable {g y n1 c1 : Nat} {A1 : Option Addr} {x : It} {σ : Int} {β : Bool} {a0 : Act} {w0 : World} (S : tfgS g y n1 c1 A1 x σ β a0 w0)
include S
set_option maxRecDepth 100000 in
set_option maxHeartbeats 8000000 in
theorem tfg_ok : AllOps (fun j o => ∀ (a : Act) (w : World), Below w0.heap.size w0 w → FrD tfgD a0 a → needs tfgD (tfgF g y n1 c1 A1 x σ β) a w o.after.toList → StepD Try.prog tfgD (factAt (tfgF g y n1 c1 A1 x σ β) j) o a w) 0 (opsOf 6 Try.f44) := by
  simp only [opsOf, Try.f44, opsAt, Option.bind, Option.or, Option.getD, reduceCtorEq, if_true, if_false, Nat.reduceEqDiff]
  refine ⟨?_, ?_⟩
  · intro _a _w hB hF _hd
    exact rf_loadS (guard_none rfl) rfl _ _ rfl _ _ ((hF.other 6 rfl).trans S.v6) _ (rf_range (S.bx.below hB S.bx.lt)) Try.underlying47 rfl (by kernel_rfl) rfl
  refine ⟨?_, ?_⟩
  · intro a _w _hB _hF hd
    have h22 : a.tmps.getD 22 undef = .agg #[.int .i64 x.s, .int .i64 x.t, .int .i64 x.q, .int .i64 x.v] := hd.1 rfl
    refine step_call (guard_none rfl) rfl _ _ (rf_call_run Try.func59 (by kernel_rfl) (by kernel_rfl) _ _ rfl) ?_
    simp only [List.map_toArray, List.map_cons, List.map_nil, Act.eval, h22]
    exact (item_any x _).mono (by rintro e w1 ⟨rfl, hb⟩; exact ⟨_, rfl, hb, by rw [S.hi]; rfl⟩)
  refine ⟨?_, ?_⟩
  · intro a _w _hB _hF hd
    have h23 : a.tmps.getD 23 undef = .bool true := hd.1 rfl
    exact step_not (guard_none rfl) rfl _ _ rfl h23 rfl
  refine ⟨?_, ?_⟩
  · intro a _w _hB _hF hd
    have h24 : a.tmps.getD 24 undef = .bool false := hd.1 rfl
    exact step_move (guard_none rfl) rfl _ rfl h24
  refine ⟨?_, ?_⟩
  · intro a _w _hB hF hd
    have h25 : a.tmps.getD 25 undef = .bool false := hd.1 rfl
    exact rf_faddr (rf_open false rfl rfl h25) rfl _ _ _ rfl _ _ 0 _ ((hF.other 6 rfl).trans S.v6) (by omega) (fun _ _ => by kernel_rfl) rfl
  refine ⟨?_, ?_⟩
  · intro a _w hB _hF hd
    have h25 : a.tmps.getD 25 undef = .bool false := hd.2.1 rfl
    have h26 : a.tmps.getD 26 undef = .pointer (some ⟨y, 0, none⟩) := hd.1 rfl
    exact rf_loadi (rf_open false rfl rfl h25) rfl _ rfl _ _ h26 _ ((Has.cell (S.bx.below hB S.bx.lt) 0).trans rfl) rfl
  refine ⟨?_, ?_⟩
  · intro a _w _hB hF hd
    have h25 : a.tmps.getD 25 undef = .bool false := hd.1 rfl
    exact step_move (rf_open false rfl rfl h25) rfl _ rfl ((hF.other 0 rfl).trans S.v0)
  refine ⟨?_, ?_⟩
  · intro a _w _hB hF hd
    have h25 : a.tmps.getD 25 undef = .bool false := hd.1 rfl
    exact step_move (rf_open false rfl rfl h25) rfl _ rfl ((hF.other 1 rfl).trans S.v1)
  refine ⟨?_, ?_⟩
  · intro a w hB _hF hd
    have h25 : a.tmps.getD 25 undef = .bool false := hd.2.2.1 rfl
    have h28 : a.tmps.getD 28 undef = .pointer (some ⟨g, 0, none⟩) := hd.1 rfl
    have h29 : a.tmps.getD 29 undef = .slice A1 n1 c1 := hd.2.1 rfl
    refine step_call (rf_open false rfl rfl h25) rfl _ _ (rf_call_run Try.func71 (by kernel_rfl) (by kernel_rfl) _ _ rfl) ?_
    simp only [List.map_toArray, List.map_cons, List.map_nil, Act.eval, h28, h29]
    exact (S.cs w hB).mono (by rintro e w1 ⟨rfl, rfl⟩; exact ⟨_, rfl, Below.refl _ _, rfl⟩)
  refine ⟨?_, ?_⟩
  · intro a _w _hB _hF hd
    have h25 : a.tmps.getD 25 undef = .bool false := hd.2.2.1 rfl
    have h27 : a.tmps.getD 27 undef = .int .i64 x.s := hd.1 rfl
    have h30 : a.tmps.getD 30 undef = .int .i64 σ := hd.2.1 rfl
    exact rf_neq (rf_open false rfl rfl h25) rfl _ _ rfl _ _ h27 h30 β S.ht rfl
  refine ⟨?_, ?_⟩
  · intro a _w _hB _hF hd
    have h25 : a.tmps.getD 25 undef = .bool false := hd.1 rfl
    have h31 : a.tmps.getD 31 undef = .bool β := hd.2.1 rfl
    exact rf_pick (guard_none rfl) rfl _ _ _ rfl false h25 h31
  trivial
theorem tfg_any {Q : Exit → Act → World → Prop} {l : List Oper} (hl : opsOf 6 Try.f44 = l) (hend : ∀ w : World, Below w0.heap.size w0 w → Q .normal (putAll a0 [(22, .agg #[.int .i64 x.s, .int .i64 x.t, .int .i64 x.q, .int .i64 x.v]), (23, .bool true), (24, .bool false), (25, .bool false), (26, .pointer (some ⟨y, 0, none⟩)), (27, .int .i64 x.s), (28, .pointer (some ⟨g, 0, none⟩)), (29, .slice A1 n1 c1), (30, .int .i64 σ), (31, .bool β), (32, .bool β)]) w) :
    (Code.region 6 l.toArray true).wp Try.prog Q a0 w0 := by
  subst hl
  refine region_facts2 (tfgF g y n1 c1 A1 x σ β) tfgD 34 S.size rfl (by kernel_rfl) (by kernel_rfl) (tfgF_mono _ _ _ _ _ _ _ _) (tfg_ok S) fun a w hB hF h => ?_
  have hv : valsAre a [(22, .agg #[.int .i64 x.s, .int .i64 x.t, .int .i64 x.q, .int .i64 x.v]), (23, .bool true), (24, .bool false), (25, .bool false), (26, .pointer (some ⟨y, 0, none⟩)), (27, .int .i64 x.s), (28, .pointer (some ⟨g, 0, none⟩)), (29, .slice A1 n1 c1), (30, .int .i64 σ), (31, .bool β), (32, .bool β)] := by
    refine ⟨?_, ?_, ?_, ?_, ?_, ?_, ?_, ?_, ?_, ?_, ?_, trivial⟩
    · exact h 0 (some 22) rfl
    · exact h 1 (some 23) rfl
    · exact h 2 (some 24) rfl
    · exact h 3 (some 25) rfl
    · exact h 4 (some 26) rfl
    · exact h 5 (some 27) rfl
    · exact h 6 (some 28) rfl
    · exact h 7 (some 29) rfl
    · exact h 8 (some 30) rfl
    · exact h 9 (some 31) rfl
    · exact h 10 (some 32) rfl
  rw [frame_is hF _ hv (by rfl) (by rfl)]
  exact hend w hB
end

def thhD : List (Option Tmp) := [some 18, some 19, some 20, some 21, some 22, some 23, some 24, some 25, some 26, some 27, some 28, some 29, some 30, some 31, some 32, some 33, some 34, some 35, some 36, some 37]
def thhF (g _y _m _d _b _n _c : Nat) (_A root : Option Addr) (_iq : Int) (x : It) : List Fact := [isV (.pointer (some ⟨g, 0, none⟩)), isV (.pointer (some ⟨g, 0, none⟩)), isV (.pointer (some ⟨g, 1, none⟩)), isV (.pointer root), isV (.agg #[.int .i64 x.s, .int .i64 x.t, .int .i64 x.q, .int .i64 x.v]), isV (.bool true), isV (.bool true), isV (undef), isV (undef), isV (undef), isV (undef), isV (undef), isV (undef), isV (undef), isV (undef), isV (undef), isV (undef), isV (undef), isV (undef), isV (.bool true)]
theorem thhF_mono (g y m d b n c : Nat) (A root : Option Addr) (iq : Int) (x : It) : ∀ φ ∈ thhF g y m d b n c A root iq x, Mono φ := by
  unfold thhF
  refine monos_cons (mono_isV _) ?_
  refine monos_cons (mono_isV _) ?_
  refine monos_cons (mono_isV _) ?_
  refine monos_cons (mono_isV _) ?_
  refine monos_cons (mono_isV _) ?_
  refine monos_cons (mono_isV _) ?_
  refine monos_cons (mono_isV _) ?_
  refine monos_cons (mono_isV _) ?_
  refine monos_cons (mono_isV _) ?_
  refine monos_cons (mono_isV _) ?_
  refine monos_cons (mono_isV _) ?_
  refine monos_cons (mono_isV _) ?_
  refine monos_cons (mono_isV _) ?_
  refine monos_cons (mono_isV _) ?_
  refine monos_cons (mono_isV _) ?_
  refine monos_cons (mono_isV _) ?_
  refine monos_cons (mono_isV _) ?_
  refine monos_cons (mono_isV _) ?_
  refine monos_cons (mono_isV _) ?_
  refine monos_cons (mono_isV _) ?_
  exact monos_nil
structure thhS (g y m d b n c : Nat) (A root : Option Addr) (iq : Int) (x : It) (a0 : Act) (w0 : World) : Prop where
  size : a0.tmps.size = 39
  v0 : a0.tmps.getD 0 undef = .pointer (some ⟨g, 0, none⟩)
  v7 : a0.tmps.getD 7 undef = .pointer (some ⟨y, 0, none⟩)
  st : Has w0 g 77 #[.slice A m d, .pointer root]
  bx : Has w0 y 47 #[.int .i64 x.s, .int .i64 x.t, .int .i64 x.q, .int .i64 x.v]
  ch : ∀ w, Below w0.heap.size w0 w → Calls Try.prog 75 #[.pointer root, .agg #[.int .i64 x.s, .int .i64 x.t, .int .i64 x.q, .int .i64 x.v]] w fun e w1 => e = .returned (.bool true) ∧ Below w.heap.size w w1
section
variable {g y m d b n c : Nat} {A root : Option Addr} {iq : Int} {x : It} {a0 : Act} {w0 : World} (S : thhS g y m d b n c A root iq x a0 w0)
include S
set_option maxRecDepth 100000 in
set_option maxHeartbeats 8000000 in
theorem thh_ok : AllOps (fun j o => ∀ (a : Act) (w : World), Below w0.heap.size w0 w → FrD thhD a0 a → needs thhD (thhF g y m d b n c A root iq x) a w o.after.toList → StepD Try.prog thhD (factAt (thhF g y m d b n c A root iq x) j) o a w) 0 (opsOf 5 Try.f45) := by
  simp only [opsOf, Try.f45, opsAt, Option.bind, Option.or, Option.getD, reduceCtorEq, if_true, if_false, Nat.reduceEqDiff]
  refine ⟨?_, ?_⟩
  · intro _a _w _hB hF _hd
    exact step_move (guard_none rfl) rfl _ rfl ((hF.other 0 rfl).trans S.v0)
  refine ⟨?_, ?_⟩
  · intro a _w _hB _hF hd
    have h18 : a.tmps.getD 18 undef = .pointer (some ⟨g, 0, none⟩) := hd.1 rfl
    exact rf_nilck (guard_none rfl) rfl _ rfl _ h18 rfl
  refine ⟨?_, ?_⟩
  · intro a _w _hB _hF hd
    have h19 : a.tmps.getD 19 undef = .pointer (some ⟨g, 0, none⟩) := hd.1 rfl
    exact rf_faddr (guard_none rfl) rfl _ _ _ rfl _ _ 1 _ h19 (by omega) (fun _ _ => by kernel_rfl) rfl
  refine ⟨?_, ?_⟩
  · intro a _w hB _hF hd
    have h20 : a.tmps.getD 20 undef = .pointer (some ⟨g, 1, none⟩) := hd.1 rfl
    exact rf_load1 (guard_none rfl) rfl _ _ rfl _ _ h20 (run_ldPart ((Has.cell (S.st.below hB S.st.lt) 1).trans rfl)) rfl
  refine ⟨?_, ?_⟩
  · intro _a _w hB hF _hd
    exact rf_loadS (guard_none rfl) rfl _ _ rfl _ _ ((hF.other 7 rfl).trans S.v7) _ (rf_range (S.bx.below hB S.bx.lt)) Try.underlying47 rfl (by kernel_rfl) rfl
  refine ⟨?_, ?_⟩
  · intro a w hB _hF hd
    have h21 : a.tmps.getD 21 undef = .pointer root := hd.1 rfl
    have h22 : a.tmps.getD 22 undef = .agg #[.int .i64 x.s, .int .i64 x.t, .int .i64 x.q, .int .i64 x.v] := hd.2.1 rfl
    refine step_call (guard_none rfl) rfl _ _ (rf_call_run Try.func75 (by kernel_rfl) (by kernel_rfl) _ _ rfl) ?_
    simp only [List.map_toArray, List.map_cons, List.map_nil, Act.eval, h21, h22]
    exact (S.ch w hB).mono (by rintro e w1 ⟨rfl, hb⟩; exact ⟨_, rfl, hb, rfl⟩)
  refine ⟨?_, ?_⟩
  · intro a _w _hB _hF hd
    have h23 : a.tmps.getD 23 undef = .bool true := hd.1 rfl
    exact step_move (guard_none rfl) rfl _ rfl h23
  refine ⟨?_, ?_⟩
  · intro a _w _hB _hF hd
    have h24 : a.tmps.getD 24 undef = .bool true := hd.1 rfl
    exact rf_shut false rfl rfl h24 rfl
  refine ⟨?_, ?_⟩
  · intro a _w _hB _hF hd
    have h24 : a.tmps.getD 24 undef = .bool true := hd.2.1 rfl
    exact rf_shut false rfl rfl h24 rfl
  refine ⟨?_, ?_⟩
  · intro a _w _hB _hF hd
    have h24 : a.tmps.getD 24 undef = .bool true := hd.2.1 rfl
    exact rf_shut false rfl rfl h24 rfl
  refine ⟨?_, ?_⟩
  · intro a _w _hB _hF hd
    have h27 : a.tmps.getD 27 undef = undef := hd.1 rfl
    exact rf_shutu true rfl rfl h27 rfl
  refine ⟨?_, ?_⟩
  · intro a _w _hB _hF hd
    have h27 : a.tmps.getD 27 undef = undef := hd.1 rfl
    exact rf_shutu true rfl rfl h27 rfl
  refine ⟨?_, ?_⟩
  · intro a _w _hB _hF hd
    have h27 : a.tmps.getD 27 undef = undef := hd.2.1 rfl
    exact rf_shutu true rfl rfl h27 rfl
  refine ⟨?_, ?_⟩
  · intro a _w _hB _hF hd
    have h27 : a.tmps.getD 27 undef = undef := hd.2.2.1 rfl
    exact rf_shutu true rfl rfl h27 rfl
  refine ⟨?_, ?_⟩
  · intro a _w _hB _hF hd
    have h27 : a.tmps.getD 27 undef = undef := hd.2.1 rfl
    exact rf_shutu true rfl rfl h27 rfl
  refine ⟨?_, ?_⟩
  · intro a _w _hB _hF hd
    have h27 : a.tmps.getD 27 undef = undef := hd.1 rfl
    exact rf_shutu true rfl rfl h27 rfl
  refine ⟨?_, ?_⟩
  · intro a _w _hB _hF hd
    have h27 : a.tmps.getD 27 undef = undef := hd.2.2.1 rfl
    exact rf_shutu true rfl rfl h27 rfl
  refine ⟨?_, ?_⟩
  · intro a _w _hB _hF hd
    have h27 : a.tmps.getD 27 undef = undef := hd.2.1 rfl
    exact rf_shutu true rfl rfl h27 rfl
  refine ⟨?_, ?_⟩
  · intro a _w _hB _hF hd
    have h24 : a.tmps.getD 24 undef = .bool true := hd.2.2.1 rfl
    exact rf_shut false rfl rfl h24 rfl
  refine ⟨?_, ?_⟩
  · intro a _w _hB _hF hd
    have h24 : a.tmps.getD 24 undef = .bool true := hd.1 rfl
    exact rf_pick (guard_none rfl) rfl _ _ _ rfl true h24 rfl
  trivial
theorem thh_any {Q : Exit → Act → World → Prop} {l : List Oper} (hl : opsOf 5 Try.f45 = l) (hend : ∀ w : World, Below w0.heap.size w0 w → Q .normal (putAll a0 [(18, .pointer (some ⟨g, 0, none⟩)), (19, .pointer (some ⟨g, 0, none⟩)), (20, .pointer (some ⟨g, 1, none⟩)), (21, .pointer root), (22, .agg #[.int .i64 x.s, .int .i64 x.t, .int .i64 x.q, .int .i64 x.v]), (23, .bool true), (24, .bool true), (25, undef), (26, undef), (27, undef), (28, undef), (29, undef), (30, undef), (31, undef), (32, undef), (33, undef), (34, undef), (35, undef), (36, undef), (37, .bool true)]) w) :
    (Code.region 5 l.toArray true).wp Try.prog Q a0 w0 := by
  subst hl
  refine region_facts2 (thhF g y m d b n c A root iq x) thhD 39 S.size rfl (by kernel_rfl) (by kernel_rfl) (thhF_mono _ _ _ _ _ _ _ _ _ _ _) (thh_ok S) fun a w hB hF h => ?_
  have hv : valsAre a [(18, .pointer (some ⟨g, 0, none⟩)), (19, .pointer (some ⟨g, 0, none⟩)), (20, .pointer (some ⟨g, 1, none⟩)), (21, .pointer root), (22, .agg #[.int .i64 x.s, .int .i64 x.t, .int .i64 x.q, .int .i64 x.v]), (23, .bool true), (24, .bool true), (25, undef), (26, undef), (27, undef), (28, undef), (29, undef), (30, undef), (31, undef), (32, undef), (33, undef), (34, undef), (35, undef), (36, undef), (37, .bool true)] := by
    refine ⟨?_, ?_, ?_, ?_, ?_, ?_, ?_, ?_, ?_, ?_, ?_, ?_, ?_, ?_, ?_, ?_, ?_, ?_, ?_, ?_, trivial⟩
    · exact h 0 (some 18) rfl
    · exact h 1 (some 19) rfl
    · exact h 2 (some 20) rfl
    · exact h 3 (some 21) rfl
    · exact h 4 (some 22) rfl
    · exact h 5 (some 23) rfl
    · exact h 6 (some 24) rfl
    · exact h 7 (some 25) rfl
    · exact h 8 (some 26) rfl
    · exact h 9 (some 27) rfl
    · exact h 10 (some 28) rfl
    · exact h 11 (some 29) rfl
    · exact h 12 (some 30) rfl
    · exact h 13 (some 31) rfl
    · exact h 14 (some 32) rfl
    · exact h 15 (some 33) rfl
    · exact h 16 (some 34) rfl
    · exact h 17 (some 35) rfl
    · exact h 18 (some 36) rfl
    · exact h 19 (some 37) rfl
  rw [frame_is hF _ hv (by rfl) (by rfl)]
  exact hend w hB
end

def thzD : List (Option Tmp) := [some 18, some 19, some 20, some 21, some 22, some 23, some 24, some 25, some 26, some 27, some 28, some 29, some 30, some 31, some 32, some 33, some 34, some 35, some 36, some 37]
def thzF (g _y _m _d _b _n _c : Nat) (_A root : Option Addr) (iq : Int) (x : It) : List Fact := [isV (.pointer (some ⟨g, 0, none⟩)), isV (.pointer (some ⟨g, 0, none⟩)), isV (.pointer (some ⟨g, 1, none⟩)), isV (.pointer root), isV (.agg #[.int .i64 x.s, .int .i64 x.t, .int .i64 x.q, .int .i64 x.v]), isV (.bool false), isV (.bool false), isV (.int .i64 iq), isV (.bool false), isV (.bool false), isV (undef), isV (undef), isV (undef), isV (undef), isV (undef), isV (undef), isV (undef), isV (undef), isV (.bool false), isV (.bool false)]
theorem thzF_mono (g y m d b n c : Nat) (A root : Option Addr) (iq : Int) (x : It) : ∀ φ ∈ thzF g y m d b n c A root iq x, Mono φ := by
  unfold thzF
  refine monos_cons (mono_isV _) ?_
  refine monos_cons (mono_isV _) ?_
  refine monos_cons (mono_isV _) ?_
  refine monos_cons (mono_isV _) ?_
  refine monos_cons (mono_isV _) ?_
  refine monos_cons (mono_isV _) ?_
  refine monos_cons (mono_isV _) ?_
  refine monos_cons (mono_isV _) ?_
  refine monos_cons (mono_isV _) ?_
  refine monos_cons (mono_isV _) ?_
  refine monos_cons (mono_isV _) ?_
  refine monos_cons (mono_isV _) ?_
  refine monos_cons (mono_isV _) ?_
  refine monos_cons (mono_isV _) ?_
  refine monos_cons (mono_isV _) ?_
  refine monos_cons (mono_isV _) ?_
  refine monos_cons (mono_isV _) ?_
  refine monos_cons (mono_isV _) ?_
  refine monos_cons (mono_isV _) ?_
  refine monos_cons (mono_isV _) ?_
  exact monos_nil
structure thzS (g y m d b n c : Nat) (A root : Option Addr) (iq : Int) (x : It) (a0 : Act) (w0 : World) : Prop where
  size : a0.tmps.size = 39
  v0 : a0.tmps.getD 0 undef = .pointer (some ⟨g, 0, none⟩)
  v6 : a0.tmps.getD 6 undef = .int .i64 iq
  v7 : a0.tmps.getD 7 undef = .pointer (some ⟨y, 0, none⟩)
  st : Has w0 g 77 #[.slice A m d, .pointer root]
  bx : Has w0 y 47 #[.int .i64 x.s, .int .i64 x.t, .int .i64 x.q, .int .i64 x.v]
  ch : ∀ w, Below w0.heap.size w0 w → Calls Try.prog 75 #[.pointer root, .agg #[.int .i64 x.s, .int .i64 x.t, .int .i64 x.q, .int .i64 x.v]] w fun e w1 => e = .returned (.bool false) ∧ Below w.heap.size w w1
  hz : decide (0 < iq) = false
section
variable {g y m d b n c : Nat} {A root : Option Addr} {iq : Int} {x : It} {a0 : Act} {w0 : World} (S : thzS g y m d b n c A root iq x a0 w0)
include S
set_option maxRecDepth 100000 in
set_option maxHeartbeats 8000000 in
theorem thz_ok : AllOps (fun j o => ∀ (a : Act) (w : World), Below w0.heap.size w0 w → FrD thzD a0 a → needs thzD (thzF g y m d b n c A root iq x) a w o.after.toList → StepD Try.prog thzD (factAt (thzF g y m d b n c A root iq x) j) o a w) 0 (opsOf 5 Try.f45) := by
  simp only [opsOf, Try.f45, opsAt, Option.bind, Option.or, Option.getD, reduceCtorEq, if_true, if_false, Nat.reduceEqDiff]
  refine ⟨?_, ?_⟩
  · intro _a _w _hB hF _hd
    exact step_move (guard_none rfl) rfl _ rfl ((hF.other 0 rfl).trans S.v0)
  refine ⟨?_, ?_⟩
  · intro a _w _hB _hF hd
    have h18 : a.tmps.getD 18 undef = .pointer (some ⟨g, 0, none⟩) := hd.1 rfl
    exact rf_nilck (guard_none rfl) rfl _ rfl _ h18 rfl
  refine ⟨?_, ?_⟩
  · intro a _w _hB _hF hd
    have h19 : a.tmps.getD 19 undef = .pointer (some ⟨g, 0, none⟩) := hd.1 rfl
    exact rf_faddr (guard_none rfl) rfl _ _ _ rfl _ _ 1 _ h19 (by omega) (fun _ _ => by kernel_rfl) rfl
  refine ⟨?_, ?_⟩
  · intro a _w hB _hF hd
    have h20 : a.tmps.getD 20 undef = .pointer (some ⟨g, 1, none⟩) := hd.1 rfl
    exact rf_load1 (guard_none rfl) rfl _ _ rfl _ _ h20 (run_ldPart ((Has.cell (S.st.below hB S.st.lt) 1).trans rfl)) rfl
  refine ⟨?_, ?_⟩
  · intro _a _w hB hF _hd
    exact rf_loadS (guard_none rfl) rfl _ _ rfl _ _ ((hF.other 7 rfl).trans S.v7) _ (rf_range (S.bx.below hB S.bx.lt)) Try.underlying47 rfl (by kernel_rfl) rfl
  refine ⟨?_, ?_⟩
  · intro a w hB _hF hd
    have h21 : a.tmps.getD 21 undef = .pointer root := hd.1 rfl
    have h22 : a.tmps.getD 22 undef = .agg #[.int .i64 x.s, .int .i64 x.t, .int .i64 x.q, .int .i64 x.v] := hd.2.1 rfl
    refine step_call (guard_none rfl) rfl _ _ (rf_call_run Try.func75 (by kernel_rfl) (by kernel_rfl) _ _ rfl) ?_
    simp only [List.map_toArray, List.map_cons, List.map_nil, Act.eval, h21, h22]
    exact (S.ch w hB).mono (by rintro e w1 ⟨rfl, hb⟩; exact ⟨_, rfl, hb, rfl⟩)
  refine ⟨?_, ?_⟩
  · intro a _w _hB _hF hd
    have h23 : a.tmps.getD 23 undef = .bool false := hd.1 rfl
    exact step_move (guard_none rfl) rfl _ rfl h23
  refine ⟨?_, ?_⟩
  · intro a _w _hB hF hd
    have h24 : a.tmps.getD 24 undef = .bool false := hd.1 rfl
    exact step_move (rf_open false rfl rfl h24) rfl _ rfl ((hF.other 6 rfl).trans S.v6)
  refine ⟨?_, ?_⟩
  · intro a _w _hB _hF hd
    have h24 : a.tmps.getD 24 undef = .bool false := hd.2.1 rfl
    have h25 : a.tmps.getD 25 undef = .int .i64 iq := hd.1 rfl
    exact rf_gtr (rf_open false rfl rfl h24) rfl _ _ rfl _ _ h25 rfl false S.hz rfl
  refine ⟨?_, ?_⟩
  · intro a _w _hB _hF hd
    have h24 : a.tmps.getD 24 undef = .bool false := hd.2.1 rfl
    have h26 : a.tmps.getD 26 undef = .bool false := hd.1 rfl
    exact step_move (rf_open false rfl rfl h24) rfl _ rfl h26
  refine ⟨?_, ?_⟩
  · intro a _w _hB _hF hd
    have h27 : a.tmps.getD 27 undef = .bool false := hd.1 rfl
    exact rf_shut true rfl rfl h27 rfl
  refine ⟨?_, ?_⟩
  · intro a _w _hB _hF hd
    have h27 : a.tmps.getD 27 undef = .bool false := hd.1 rfl
    exact rf_shut true rfl rfl h27 rfl
  refine ⟨?_, ?_⟩
  · intro a _w _hB _hF hd
    have h27 : a.tmps.getD 27 undef = .bool false := hd.2.1 rfl
    exact rf_shut true rfl rfl h27 rfl
  refine ⟨?_, ?_⟩
  · intro a _w _hB _hF hd
    have h27 : a.tmps.getD 27 undef = .bool false := hd.2.2.1 rfl
    exact rf_shut true rfl rfl h27 rfl
  refine ⟨?_, ?_⟩
  · intro a _w _hB _hF hd
    have h27 : a.tmps.getD 27 undef = .bool false := hd.2.1 rfl
    exact rf_shut true rfl rfl h27 rfl
  refine ⟨?_, ?_⟩
  · intro a _w _hB _hF hd
    have h27 : a.tmps.getD 27 undef = .bool false := hd.1 rfl
    exact rf_shut true rfl rfl h27 rfl
  refine ⟨?_, ?_⟩
  · intro a _w _hB _hF hd
    have h27 : a.tmps.getD 27 undef = .bool false := hd.2.2.1 rfl
    exact rf_shut true rfl rfl h27 rfl
  refine ⟨?_, ?_⟩
  · intro a _w _hB _hF hd
    have h27 : a.tmps.getD 27 undef = .bool false := hd.2.1 rfl
    exact rf_shut true rfl rfl h27 rfl
  refine ⟨?_, ?_⟩
  · intro a _w _hB _hF hd
    have h24 : a.tmps.getD 24 undef = .bool false := hd.2.2.1 rfl
    have h27 : a.tmps.getD 27 undef = .bool false := hd.1 rfl
    exact rf_pick (rf_open false rfl rfl h24) rfl _ _ _ rfl false h27 rfl
  refine ⟨?_, ?_⟩
  · intro a _w _hB _hF hd
    have h24 : a.tmps.getD 24 undef = .bool false := hd.1 rfl
    have h36 : a.tmps.getD 36 undef = .bool false := hd.2.1 rfl
    exact rf_pick (guard_none rfl) rfl _ _ _ rfl false h24 h36
  trivial
theorem thz_any {Q : Exit → Act → World → Prop} {l : List Oper} (hl : opsOf 5 Try.f45 = l) (hend : ∀ w : World, Below w0.heap.size w0 w → Q .normal (putAll a0 [(18, .pointer (some ⟨g, 0, none⟩)), (19, .pointer (some ⟨g, 0, none⟩)), (20, .pointer (some ⟨g, 1, none⟩)), (21, .pointer root), (22, .agg #[.int .i64 x.s, .int .i64 x.t, .int .i64 x.q, .int .i64 x.v]), (23, .bool false), (24, .bool false), (25, .int .i64 iq), (26, .bool false), (27, .bool false), (28, undef), (29, undef), (30, undef), (31, undef), (32, undef), (33, undef), (34, undef), (35, undef), (36, .bool false), (37, .bool false)]) w) :
    (Code.region 5 l.toArray true).wp Try.prog Q a0 w0 := by
  subst hl
  refine region_facts2 (thzF g y m d b n c A root iq x) thzD 39 S.size rfl (by kernel_rfl) (by kernel_rfl) (thzF_mono _ _ _ _ _ _ _ _ _ _ _) (thz_ok S) fun a w hB hF h => ?_
  have hv : valsAre a [(18, .pointer (some ⟨g, 0, none⟩)), (19, .pointer (some ⟨g, 0, none⟩)), (20, .pointer (some ⟨g, 1, none⟩)), (21, .pointer root), (22, .agg #[.int .i64 x.s, .int .i64 x.t, .int .i64 x.q, .int .i64 x.v]), (23, .bool false), (24, .bool false), (25, .int .i64 iq), (26, .bool false), (27, .bool false), (28, undef), (29, undef), (30, undef), (31, undef), (32, undef), (33, undef), (34, undef), (35, undef), (36, .bool false), (37, .bool false)] := by
    refine ⟨?_, ?_, ?_, ?_, ?_, ?_, ?_, ?_, ?_, ?_, ?_, ?_, ?_, ?_, ?_, ?_, ?_, ?_, ?_, ?_, trivial⟩
    · exact h 0 (some 18) rfl
    · exact h 1 (some 19) rfl
    · exact h 2 (some 20) rfl
    · exact h 3 (some 21) rfl
    · exact h 4 (some 22) rfl
    · exact h 5 (some 23) rfl
    · exact h 6 (some 24) rfl
    · exact h 7 (some 25) rfl
    · exact h 8 (some 26) rfl
    · exact h 9 (some 27) rfl
    · exact h 10 (some 28) rfl
    · exact h 11 (some 29) rfl
    · exact h 12 (some 30) rfl
    · exact h 13 (some 31) rfl
    · exact h 14 (some 32) rfl
    · exact h 15 (some 33) rfl
    · exact h 16 (some 34) rfl
    · exact h 17 (some 35) rfl
    · exact h 18 (some 36) rfl
    · exact h 19 (some 37) rfl
  rw [frame_is hF _ hv (by rfl) (by rfl)]
  exact hend w hB
end

def thpD : List (Option Tmp) := [some 18, some 19, some 20, some 21, some 22, some 23, some 24, some 25, some 26, some 27, some 28, some 29, some 30, some 31, some 32, some 33, some 34, some 35, some 36, some 37]
def thpF (g _y _m _d b n c : Nat) (_A root : Option Addr) (iq : Int) (x : It) (k : Nat) (v : It) (β : Bool) : List Fact := [isV (.pointer (some ⟨g, 0, none⟩)), isV (.pointer (some ⟨g, 0, none⟩)), isV (.pointer (some ⟨g, 1, none⟩)), isV (.pointer root), isV (.agg #[.int .i64 x.s, .int .i64 x.t, .int .i64 x.q, .int .i64 x.v]), isV (.bool false), isV (.bool false), isV (.int .i64 iq), isV (.bool true), isV (.bool true), isV (.slice (some ⟨b, 0, none⟩) n c), isV (.int .i64 iq), isV (.int .i64 ((k : Int))), isV (.pointer (some ⟨b, k * 4, none⟩)), isV (.agg #[.int .i64 v.s, .int .i64 v.t, .int .i64 v.q, .int .i64 v.v]), isV (.agg #[.int .i64 x.s, .int .i64 x.t, .int .i64 x.q, .int .i64 x.v]), isV (.int .i64 (cmpT v x)), isV (.bool β), isV (.bool β), isV (.bool β)]
theorem thpF_mono (g y m d b n c : Nat) (A root : Option Addr) (iq : Int) (x : It) (k : Nat) (v : It) (β : Bool) : ∀ φ ∈ thpF g y m d b n c A root iq x k v β, Mono φ := by
  unfold thpF
  refine monos_cons (mono_isV _) ?_
  refine monos_cons (mono_isV _) ?_
  refine monos_cons (mono_isV _) ?_
  refine monos_cons (mono_isV _) ?_
  refine monos_cons (mono_isV _) ?_
  refine monos_cons (mono_isV _) ?_
  refine monos_cons (mono_isV _) ?_
  refine monos_cons (mono_isV _) ?_
  refine monos_cons (mono_isV _) ?_
  refine monos_cons (mono_isV _) ?_
  refine monos_cons (mono_isV _) ?_
  refine monos_cons (mono_isV _) ?_
  refine monos_cons (mono_isV _) ?_
  refine monos_cons (mono_isV _) ?_
  refine monos_cons (mono_isV _) ?_
  refine monos_cons (mono_isV _) ?_
  refine monos_cons (mono_isV _) ?_
  refine monos_cons (mono_isV _) ?_
  refine monos_cons (mono_isV _) ?_
  refine monos_cons (mono_isV _) ?_
  exact monos_nil
structure thpS (g y m d b n c : Nat) (A root : Option Addr) (iq : Int) (x : It) (k : Nat) (v : It) (β : Bool) (a0 : Act) (w0 : World) : Prop where
  size : a0.tmps.size = 39
  v0 : a0.tmps.getD 0 undef = .pointer (some ⟨g, 0, none⟩)
  v5 : a0.tmps.getD 5 undef = .slice (some ⟨b, 0, none⟩) n c
  v6 : a0.tmps.getD 6 undef = .int .i64 iq
  v7 : a0.tmps.getD 7 undef = .pointer (some ⟨y, 0, none⟩)
  st : Has w0 g 77 #[.slice A m d, .pointer root]
  bx : Has w0 y 47 #[.int .i64 x.s, .int .i64 x.t, .int .i64 x.q, .int .i64 x.v]
  ch : ∀ w, Below w0.heap.size w0 w → Calls Try.prog 75 #[.pointer root, .agg #[.int .i64 x.s, .int .i64 x.t, .int .i64 x.q, .int .i64 x.v]] w fun e w1 => e = .returned (.bool false) ∧ Below w.heap.size w w1
  hz : decide (0 < iq) = true
  hk : iq - 1 = (k : Int)
  lk : k < n
  ln : n ≤ 8192
  rw : w0.rangeAt b (k * 4) (itemL v)
  ht : decide (cmpT v x = 0) = β
section
variable {g y m d b n c : Nat} {A root : Option Addr} {iq : Int} {x : It} {k : Nat} {v : It} {β : Bool} {a0 : Act} {w0 : World} (S : thpS g y m d b n c A root iq x k v β a0 w0)
include S
set_option maxRecDepth 100000 in
set_option maxHeartbeats 8000000 in
theorem thp_ok : AllOps (fun j o => ∀ (a : Act) (w : World), Below w0.heap.size w0 w → FrD thpD a0 a → needs thpD (thpF g y m d b n c A root iq x k v β) a w o.after.toList → StepD Try.prog thpD (factAt (thpF g y m d b n c A root iq x k v β) j) o a w) 0 (opsOf 5 Try.f45) := by
  simp only [opsOf, Try.f45, opsAt, Option.bind, Option.or, Option.getD, reduceCtorEq, if_true, if_false, Nat.reduceEqDiff]
  refine ⟨?_, ?_⟩
  · intro _a _w _hB hF _hd
    exact step_move (guard_none rfl) rfl _ rfl ((hF.other 0 rfl).trans S.v0)
  refine ⟨?_, ?_⟩
  · intro a _w _hB _hF hd
    have h18 : a.tmps.getD 18 undef = .pointer (some ⟨g, 0, none⟩) := hd.1 rfl
    exact rf_nilck (guard_none rfl) rfl _ rfl _ h18 rfl
  refine ⟨?_, ?_⟩
  · intro a _w _hB _hF hd
    have h19 : a.tmps.getD 19 undef = .pointer (some ⟨g, 0, none⟩) := hd.1 rfl
    exact rf_faddr (guard_none rfl) rfl _ _ _ rfl _ _ 1 _ h19 (by omega) (fun _ _ => by kernel_rfl) rfl
  refine ⟨?_, ?_⟩
  · intro a _w hB _hF hd
    have h20 : a.tmps.getD 20 undef = .pointer (some ⟨g, 1, none⟩) := hd.1 rfl
    exact rf_load1 (guard_none rfl) rfl _ _ rfl _ _ h20 (run_ldPart ((Has.cell (S.st.below hB S.st.lt) 1).trans rfl)) rfl
  refine ⟨?_, ?_⟩
  · intro _a _w hB hF _hd
    exact rf_loadS (guard_none rfl) rfl _ _ rfl _ _ ((hF.other 7 rfl).trans S.v7) _ (rf_range (S.bx.below hB S.bx.lt)) Try.underlying47 rfl (by kernel_rfl) rfl
  refine ⟨?_, ?_⟩
  · intro a w hB _hF hd
    have h21 : a.tmps.getD 21 undef = .pointer root := hd.1 rfl
    have h22 : a.tmps.getD 22 undef = .agg #[.int .i64 x.s, .int .i64 x.t, .int .i64 x.q, .int .i64 x.v] := hd.2.1 rfl
    refine step_call (guard_none rfl) rfl _ _ (rf_call_run Try.func75 (by kernel_rfl) (by kernel_rfl) _ _ rfl) ?_
    simp only [List.map_toArray, List.map_cons, List.map_nil, Act.eval, h21, h22]
    exact (S.ch w hB).mono (by rintro e w1 ⟨rfl, hb⟩; exact ⟨_, rfl, hb, rfl⟩)
  refine ⟨?_, ?_⟩
  · intro a _w _hB _hF hd
    have h23 : a.tmps.getD 23 undef = .bool false := hd.1 rfl
    exact step_move (guard_none rfl) rfl _ rfl h23
  refine ⟨?_, ?_⟩
  · intro a _w _hB hF hd
    have h24 : a.tmps.getD 24 undef = .bool false := hd.1 rfl
    exact step_move (rf_open false rfl rfl h24) rfl _ rfl ((hF.other 6 rfl).trans S.v6)
  refine ⟨?_, ?_⟩
  · intro a _w _hB _hF hd
    have h24 : a.tmps.getD 24 undef = .bool false := hd.2.1 rfl
    have h25 : a.tmps.getD 25 undef = .int .i64 iq := hd.1 rfl
    exact rf_gtr (rf_open false rfl rfl h24) rfl _ _ rfl _ _ h25 rfl true S.hz rfl
  refine ⟨?_, ?_⟩
  · intro a _w _hB _hF hd
    have h24 : a.tmps.getD 24 undef = .bool false := hd.2.1 rfl
    have h26 : a.tmps.getD 26 undef = .bool true := hd.1 rfl
    exact step_move (rf_open false rfl rfl h24) rfl _ rfl h26
  refine ⟨?_, ?_⟩
  · intro a _w _hB hF hd
    have h27 : a.tmps.getD 27 undef = .bool true := hd.1 rfl
    exact step_move (rf_open true rfl rfl h27) rfl _ rfl ((hF.other 5 rfl).trans S.v5)
  refine ⟨?_, ?_⟩
  · intro a _w _hB hF hd
    have h27 : a.tmps.getD 27 undef = .bool true := hd.1 rfl
    exact step_move (rf_open true rfl rfl h27) rfl _ rfl ((hF.other 6 rfl).trans S.v6)
  refine ⟨?_, ?_⟩
  · intro a _w _hB _hF hd
    have h27 : a.tmps.getD 27 undef = .bool true := hd.2.1 rfl
    have h29 : a.tmps.getD 29 undef = .int .i64 iq := hd.1 rfl
    exact rf_subr (rf_open true rfl rfl h27) rfl _ _ rfl _ _ _ h29 rfl S.hk (by omega) (by have := S.lk; have := S.ln; omega) rfl
  refine ⟨?_, ?_⟩
  · intro a _w _hB _hF hd
    have h27 : a.tmps.getD 27 undef = .bool true := hd.2.2.1 rfl
    have h28 : a.tmps.getD 28 undef = .slice (some ⟨b, 0, none⟩) n c := hd.1 rfl
    have h30 : a.tmps.getD 30 undef = .int .i64 ((k : Int)) := hd.2.1 rfl
    exact rf_indexIt0 (rf_open true rfl rfl h27) rfl _ _ rfl b n c k _ h28 h30 rfl S.lk rfl
  refine ⟨?_, ?_⟩
  · intro a _w hB _hF hd
    have h27 : a.tmps.getD 27 undef = .bool true := hd.2.1 rfl
    have h31 : a.tmps.getD 31 undef = .pointer (some ⟨b, k * 4, none⟩) := hd.1 rfl
    exact rf_loadIt (rf_open true rfl rfl h27) rfl _ rfl b (k * 4) h31 v (rangeAt_keep S.rw (by simp [itemL]) fun _ hp => hB.cell hp) rfl
  refine ⟨?_, ?_⟩
  · intro a _w hB hF hd
    have h27 : a.tmps.getD 27 undef = .bool true := hd.1 rfl
    exact rf_loadS (rf_open true rfl rfl h27) rfl _ _ rfl _ _ ((hF.other 7 rfl).trans S.v7) _ (rf_range (S.bx.below hB S.bx.lt)) Try.underlying47 rfl (by kernel_rfl) rfl
  refine ⟨?_, ?_⟩
  · intro a _w _hB _hF hd
    have h27 : a.tmps.getD 27 undef = .bool true := hd.2.2.1 rfl
    have h32 : a.tmps.getD 32 undef = .agg #[.int .i64 v.s, .int .i64 v.t, .int .i64 v.q, .int .i64 v.v] := hd.1 rfl
    have h33 : a.tmps.getD 33 undef = .agg #[.int .i64 x.s, .int .i64 x.t, .int .i64 x.q, .int .i64 x.v] := hd.2.1 rfl
    refine step_call (rf_open true rfl rfl h27) rfl _ _ (rf_call_run Try.func74 (by kernel_rfl) (by kernel_rfl) _ _ rfl) ?_
    simp only [List.map_toArray, List.map_cons, List.map_nil, Act.eval, h32, h33]
    exact (compare_any v x _).mono (by rintro e w1 ⟨rfl, hb⟩; exact ⟨_, rfl, hb, rfl⟩)
  refine ⟨?_, ?_⟩
  · intro a _w _hB _hF hd
    have h27 : a.tmps.getD 27 undef = .bool true := hd.2.1 rfl
    have h34 : a.tmps.getD 34 undef = .int .i64 (cmpT v x) := hd.1 rfl
    exact rf_eql (rf_open true rfl rfl h27) rfl _ _ rfl _ _ h34 rfl β S.ht rfl
  refine ⟨?_, ?_⟩
  · intro a _w _hB _hF hd
    have h24 : a.tmps.getD 24 undef = .bool false := hd.2.2.1 rfl
    have h27 : a.tmps.getD 27 undef = .bool true := hd.1 rfl
    have h35 : a.tmps.getD 35 undef = .bool β := hd.2.1 rfl
    exact rf_pick (rf_open false rfl rfl h24) rfl _ _ _ rfl true h27 h35
  refine ⟨?_, ?_⟩
  · intro a _w _hB _hF hd
    have h24 : a.tmps.getD 24 undef = .bool false := hd.1 rfl
    have h36 : a.tmps.getD 36 undef = .bool β := hd.2.1 rfl
    exact rf_pick (guard_none rfl) rfl _ _ _ rfl false h24 h36
  trivial
theorem thp_any {Q : Exit → Act → World → Prop} {l : List Oper} (hl : opsOf 5 Try.f45 = l) (hend : ∀ w : World, Below w0.heap.size w0 w → Q .normal (putAll a0 [(18, .pointer (some ⟨g, 0, none⟩)), (19, .pointer (some ⟨g, 0, none⟩)), (20, .pointer (some ⟨g, 1, none⟩)), (21, .pointer root), (22, .agg #[.int .i64 x.s, .int .i64 x.t, .int .i64 x.q, .int .i64 x.v]), (23, .bool false), (24, .bool false), (25, .int .i64 iq), (26, .bool true), (27, .bool true), (28, .slice (some ⟨b, 0, none⟩) n c), (29, .int .i64 iq), (30, .int .i64 ((k : Int))), (31, .pointer (some ⟨b, k * 4, none⟩)), (32, .agg #[.int .i64 v.s, .int .i64 v.t, .int .i64 v.q, .int .i64 v.v]), (33, .agg #[.int .i64 x.s, .int .i64 x.t, .int .i64 x.q, .int .i64 x.v]), (34, .int .i64 (cmpT v x)), (35, .bool β), (36, .bool β), (37, .bool β)]) w) :
    (Code.region 5 l.toArray true).wp Try.prog Q a0 w0 := by
  subst hl
  refine region_facts2 (thpF g y m d b n c A root iq x k v β) thpD 39 S.size rfl (by kernel_rfl) (by kernel_rfl) (thpF_mono _ _ _ _ _ _ _ _ _ _ _ _ _ _) (thp_ok S) fun a w hB hF h => ?_
  have hv : valsAre a [(18, .pointer (some ⟨g, 0, none⟩)), (19, .pointer (some ⟨g, 0, none⟩)), (20, .pointer (some ⟨g, 1, none⟩)), (21, .pointer root), (22, .agg #[.int .i64 x.s, .int .i64 x.t, .int .i64 x.q, .int .i64 x.v]), (23, .bool false), (24, .bool false), (25, .int .i64 iq), (26, .bool true), (27, .bool true), (28, .slice (some ⟨b, 0, none⟩) n c), (29, .int .i64 iq), (30, .int .i64 ((k : Int))), (31, .pointer (some ⟨b, k * 4, none⟩)), (32, .agg #[.int .i64 v.s, .int .i64 v.t, .int .i64 v.q, .int .i64 v.v]), (33, .agg #[.int .i64 x.s, .int .i64 x.t, .int .i64 x.q, .int .i64 x.v]), (34, .int .i64 (cmpT v x)), (35, .bool β), (36, .bool β), (37, .bool β)] := by
    refine ⟨?_, ?_, ?_, ?_, ?_, ?_, ?_, ?_, ?_, ?_, ?_, ?_, ?_, ?_, ?_, ?_, ?_, ?_, ?_, ?_, trivial⟩
    · exact h 0 (some 18) rfl
    · exact h 1 (some 19) rfl
    · exact h 2 (some 20) rfl
    · exact h 3 (some 21) rfl
    · exact h 4 (some 22) rfl
    · exact h 5 (some 23) rfl
    · exact h 6 (some 24) rfl
    · exact h 7 (some 25) rfl
    · exact h 8 (some 26) rfl
    · exact h 9 (some 27) rfl
    · exact h 10 (some 28) rfl
    · exact h 11 (some 29) rfl
    · exact h 12 (some 30) rfl
    · exact h 13 (some 31) rfl
    · exact h 14 (some 32) rfl
    · exact h 15 (some 33) rfl
    · exact h 16 (some 34) rfl
    · exact h 17 (some 35) rfl
    · exact h 18 (some 36) rfl
    · exact h 19 (some 37) rfl
  rw [frame_is hF _ hv (by rfl) (by rfl)]
  exact hend w hB
end

end Go.Proofs.Ytdoflmphkalicaa

namespace Go.Proofs.Ytdoflmphkalicaa
open Go.RowKit

set_option maxRecDepth 100000 in
set_option maxHeartbeats 1000000 in
theorem tsorted_any (Bs : Nat) (A : Option Addr) (len cap : Nat) (zs : List It) (hl8 : len ≤ 8192) (w : World) (hc : w.cell? ⟨Bs, 0, none⟩ = some (.slice A len cap)) (hI : Items w A len zs) :
    Calls Try.prog 72 #[.func (.func 88) #[] #[.pointer (some ⟨Bs, 0, none⟩)], .func (.func 74) #[] #[]] w fun e w' => ∃ A2 n2 c2 ys, e = .returned (.slice A2 n2 c2) ∧ ys.Perm zs ∧ SrdB lt2 ys ∧ OwnIt w' w.heap.size (.slice A2 n2 c2) ys ∧ Below w.heap.size w w' := by
  have HC := Lib.hid (collect_any Bs A len cap zs hl8 w hc hI)
  have HL := Lib.hid hI.1
  clear hc hI
  go_enter Try.func72, Try.ntmps72
  go_upto_region 2 with (refine HC.out.mono ?_; clear HC; rintro e w1 ⟨v, rfl, ho, hb⟩; obtain ⟨A2, c2, rfl, _⟩ := ho.form)
  have HS : Hid (Calls Try.prog 87 #[.slice A2 zs.length c2, .func (.func 74) #[] #[]] w1 fun e w2 => e = .returned (.tuple #[]) ∧ ∃ ys, ys.Perm zs ∧ SrdB lt2 ys ∧ OwnIt w2 w.heap.size (.slice A2 zs.length c2) ys ∧ Below w.heap.size w w2) := by
    rcases ho.shape with ⟨rfl, e1, rfl, rfl⟩ | ⟨b, rfl⟩
    · refine (isort_none w1 none 0).mono ?_
      rintro e w2 ⟨rfl, rfl⟩
      exact ⟨rfl, [], List.Perm.refl _, List.Pairwise.nil, ho, hb⟩
    · obtain ⟨_, hbb, hnc, hcm, _⟩ := ho.blk
      refine (isort_any (ho.lo (Nat.zero_le _)) (by have := HL.out; omega)).mono ?_
      rintro e w2 ⟨rfl, ys, k1, k2, k3, k4⟩
      obtain ⟨q1, _, q3, q4, cur, q5, q6, q7⟩ := k3.blk
      exact ⟨rfl, ys, k1, k2, own_mk hbb q1 q3 q4 q5 q6 q7, hb.trans ⟨k4.os, k4.tape, k4.output, k4.size, fun k hk => k4.other k (by have := hb.size; omega) (by simp; omega)⟩⟩
  clear ho hb
  go_wp2_with (refine HS.out.mono ?_; clear HS; rintro e w2 ⟨rfl, ys, k1, k2, k3, k4⟩)
  go_ret
  exact ⟨A2, zs.length, c2, ys, rfl, k1, k2, k3, k4⟩

theorem nthI_elem {xs : List It} {k : Nat} (h : k < xs.length) : nthI xs k = xs[k] := by
  unfold nthI
  rw [List.getD_eq_getElem?_getD, List.getElem?_eq_getElem h]
  rfl
theorem nthI_in {xs : List It} {k : Nat} (h : k < xs.length) : nthI xs k ∈ xs := by rw [nthI_elem h]; exact List.getElem_mem h
/-! The series. -/
/-- The series that is there, or the first one's. -/
def serT (R xs : List It) : Int := match R with | [] => (nthI xs 0).s | y :: _ => y.s
section
variable {P : Nat → Prop} {g m d : Nat} {A root : Option Addr} {bs : List Int} {w : World}
set_option maxHeartbeats 1000000 in
theorem tseries_any (T : Tr) (hT : TBd P w g bs A m d T.ptr) (hA : T.At bs P w) (hR : ItsT bs T.row) (C : Option Addr) (n c : Nat) (xs : List It) (hI : Items w C n xs) (hn : 0 < n) :
    Calls Try.prog 71 #[.pointer (some ⟨g, 0, none⟩), .slice C n c] w fun e w' => e = .returned (.int .i64 (serT T.row xs)) ∧ w = w' := by
  have hc1 : w.cell? ⟨g, 1, none⟩ = some (.pointer T.ptr) := hT.st.cell 1
  cases T with
  | nil =>
    obtain ⟨b, o, rfl, hi⟩ := hI.2 hn
    have h0 : w.cell? ⟨b, o, none⟩ = some (.int .i64 (nthI xs 0).s) := by
      have := hi 0 hn 0 _ rfl
      simpa using this
    show Calls _ _ _ _ fun e w' => e = .returned (.int .i64 (nthI xs 0).s) ∧ w = w'
    have hc1' : w.cell? ⟨g, 1, none⟩ = some (.pointer none) := hc1
    have hn1 : (0 : Int) < (n : Nat) := by omega
    clear hT hA hR hI hi hc1
    generalize (nthI xs 0).s = σ at h0 ⊢
    go_enter Try.func71, Try.ntmps71
    go_wp2_with fail
    go_ret
    exact ⟨rfl, rfl⟩
  | node b H l v r =>
    have hs : serT (Tr.node b H l v r).row xs = v.s := by
      have hv : v ∈ (Tr.node b H l v r).row := by simp [Tr.row]
      cases h : (Tr.node b H l v r).row with
      | nil => rw [h] at hv; cases hv
      | cons y q => exact hR.one y (by rw [h]; simp) v hv
    rw [hs]
    have hc2 : w.cell? ⟨g, 1, none⟩ = some (.pointer (some ⟨b, 0, none⟩)) := hc1
    have hc3 : w.cell? ⟨b, 1, none⟩ = some (.int .i64 v.s) := hA.2.2.1.cell 1
    clear hT hA hR hI hn hc1 hs
    generalize v.s = σ at hc3 ⊢
    go_enter Try.func71, Try.ntmps71
    go_wp2_with fail
    go_ret
    exact ⟨rfl, rfl⟩

/-- Those that come may stand with those that are there. -/
def fitT (R xs : List It) : Bool := decide (xs.length + R.length ≤ 8192) && xs.all fun x => itemB x && decide (x.s = serT R xs)
theorem fitT_iff {R xs : List It} (hR : ItsT bs R) : fitT R xs = true ↔ ItsT bs (R ++ xs) := by
  have key : ∀ x, x ∈ xs → 0 < xs.length ∧ nthI xs 0 ∈ xs := fun x hx => by
    have hl := List.length_pos_of_mem hx
    exact ⟨hl, nthI_in hl⟩
  have hser : ∀ y, y ∈ R → serT R xs = y.s := fun y hy => by
    cases R with
    | nil => cases hy
    | cons z q => exact hR.one z (by simp) y hy
  unfold fitT
  rw [Bool.and_eq_true, decide_eq_true_iff, List.all_eq_true]
  constructor
  · rintro ⟨h1, h2⟩
    have h3 : ∀ x, x ∈ xs → itemB x = true ∧ x.s = serT R xs := fun x hx => by have := h2 x hx; simpa using this
    refine ⟨hR.bd, fun x hx => ?_, fun x hx y hy => ?_, by rw [List.length_append]; omega⟩
    · rcases List.mem_append.1 hx with hx | hx
      · exact hR.it x hx
      · exact (h3 x hx).1
    · rcases List.mem_append.1 hx with hx | hx <;> rcases List.mem_append.1 hy with hy | hy
      · exact hR.one x hx y hy
      · rw [(h3 y hy).2, hser x hx]
      · rw [(h3 x hx).2, hser y hy]
      · rw [(h3 x hx).2, (h3 y hy).2]
  · intro h
    refine ⟨by have := h.le; rw [List.length_append] at this; omega, fun x hx => ?_⟩
    rw [Bool.and_eq_true, decide_eq_true_iff]
    refine ⟨h.it x (List.mem_append_right _ hx), ?_⟩
    cases R with
    | nil => exact h.one x (by simpa using hx) _ (by simpa using (key x hx).2)
    | cons z q => exact h.one x (List.mem_append_right _ hx) z (by simp)

set_option maxRecDepth 100000 in
set_option maxHeartbeats 2000000 in
theorem tfit_any (T : Tr) (hT : TBd P w g bs A m d T.ptr) (hA : T.At bs P w) (hR : ItsT bs T.row) (C : Option Addr) (n c : Nat) (xs : List It) (hI : Items w C n xs) (hn : n ≤ 17592186044416) :
    Calls Try.prog 44 #[.pointer (some ⟨g, 0, none⟩), .slice C n c] w fun e w' => e = .returned (.bool (fitT T.row xs)) ∧ Below w.heap.size w w' := by
  have hc1 : w.cell? ⟨g, 1, none⟩ = some (.pointer T.ptr) := hT.st.cell 1
  have HCT := Lib.hid (tcount_any bs P T w hA)
  have HL := Lib.hid hI.1
  have HII := Lib.hid hI
  have HSE := Lib.hid (fun w' (hb : Below w.heap.size w w') (h0 : 0 < n) => tseries_any T (hT.below hb) (hA.below hb) hR C n c xs (hI.below hb) h0)
  have hr8 := hR.le
  clear hT hA hR hI
  generalize hK : T.row.length = K at HCT hr8
  generalize T.ptr = tp at hc1 HCT
  generalize hσ : serT T.row xs = σ at HSE
  by_cases hbig : 8192 - (K : Int) < (n : Int)
  · have hf : fitT T.row xs = false := by
      unfold fitT
      rw [decide_eq_false (by rw [HL.out, hK]; omega)]
      rfl
    rw [hf]
    clear hf HII HSE hK hσ
    go_enter Try.func44, Try.ntmps44
    go_wp2_with (refine HCT.out.mono ?_; clear HCT; rintro e w1 ⟨rfl, rfl⟩)
    go_ret
    exact ⟨rfl, Below.refl _ _⟩
  · have HF : Hid (fitT T.row xs = xs.all fun x => itemB x && decide (x.s = σ)) := by
      show fitT T.row xs = _
      unfold fitT
      rw [decide_eq_true (by rw [HL.out, hK]; omega), hσ]
      rfl
    clear hK hσ
    generalize fitT T.row xs = β at HF ⊢
    go_enter Try.func44, Try.ntmps44
    go_wp2_with (refine HCT.out.mono ?_; clear HCT; rintro e w1 ⟨rfl, rfl⟩)
    go_loopw [18] (fun i wr => ∃ j : Nat, j ≤ n ∧ i = .int .i64 j ∧ Hid (∀ k, k < j → itemB (nthI xs k) = true ∧ (nthI xs k).s = σ) ∧ Hid (Below w.heap.size w wr)) (fun i _ => n - (intOf i).toNat)
    case atStart => exact ⟨0, Nat.zero_le _, rfl, (fun k hk => absurd hk (Nat.not_lt_zero _)), Below.refl _ _⟩
    case round =>
      obtain ⟨j, hj, rfl, HD, HW⟩ := hrel
      by_cases hlt : j < n
      · obtain ⟨b, o, rfl, hi⟩ := (HII.out.below HW.out).2 (by omega)
        have hx := hi j hlt
        have hx0 : wr.cell? ⟨b, o + j * 4, none⟩ = some (.int .i64 (nthI xs j).s) := hx 0 _ rfl
        have hx1 : wr.cell? ⟨b, o + j * 4 + 1, none⟩ = some (.int .i64 (nthI xs j).t) := hx 1 _ rfl
        have hx2 : wr.cell? ⟨b, o + j * 4 + 2, none⟩ = some (.int .i64 (nthI xs j).q) := hx 2 _ rfl
        have hx3 : wr.cell? ⟨b, o + j * 4 + 3, none⟩ = some (.int .i64 (nthI xs j).v) := hx 3 _ rfl
        have HMEM := Lib.hid (show nthI xs j ∈ xs from nthI_in (by rw [HL.out]; exact hlt))
        have HAL : Hid (∀ q : Array Value, Below w.heap.size w (wr.alloc (.cells q 47))) := fun q => HW.out.trans (((Below.refl _ _).alloc (Nat.le_refl _) _).mono HW.out.size)
        clear hi hx HII
        generalize hX : nthI xs j = X at hx0 hx1 hx2 hx3 HMEM
        go_upto_region 6 with fail
        by_cases hit : itemB X = true
        · by_cases hse : X.s = σ
          · have hne : (X.s != σ) = false := by simp [hse]
            refine tfg_any (g := g) (y := wr.heap.size) (n1 := n) (c1 := c) (A1 := some ⟨b, o, none⟩) (x := X) (σ := σ) (β := false) ⟨rfl, rfl, rfl, rfl, Has.made _ _ _, hit, hne, fun w' hb => HSE.out w' ((HAL.out _).trans (hb.mono (by have := HW.out.size; simp; omega))) (by omega)⟩ (by kernel_rfl) ?_
            intro w4 hB4
            have HW4 := Lib.hid ((HAL.out _).trans (hB4.mono (by have := HW.out.size; simp; omega)))
            have HD2 : Hid (∀ k, k < j + 1 → itemB (nthI xs k) = true ∧ (nthI xs k).s = σ) := fun k hk => by
              by_cases hkj : k = j
              · subst hkj; rw [hX]; exact ⟨hit, hse⟩
              · exact HD.out k (by omega)
            clear hB4 hne HD HW HAL HMEM hX hit hse hx0 hx1 hx2 hx3
            simp only [putAll, Act.put, List.setIfInBounds_toArray, List.set_cons_succ, List.set_cons_zero]
            go_wp2_with fail
            go_roundw
            case rel => exact ⟨j + 1, by omega, by go_num, HD2, HW4⟩
            case measure => simp [intOf]; omega
          · have hne : (X.s != σ) = true := by simp [hse]
            have hβ : β = false := by
              rw [HF.out]
              exact Bool.eq_false_iff.2 fun e => hse (by have := List.all_eq_true.1 e X HMEM.out; simp at this; exact this.2)
            refine tfg_any (g := g) (y := wr.heap.size) (n1 := n) (c1 := c) (A1 := some ⟨b, o, none⟩) (x := X) (σ := σ) (β := true) ⟨rfl, rfl, rfl, rfl, Has.made _ _ _, hit, hne, fun w' hb => HSE.out w' ((HAL.out _).trans (hb.mono (by have := HW.out.size; simp; omega))) (by omega)⟩ (by kernel_rfl) ?_
            intro w4 hB4
            have HW4 := Lib.hid ((HAL.out _).trans (hB4.mono (by have := HW.out.size; simp; omega)))
            clear hB4 hne HD HW HAL HMEM hX hit hse hx0 hx1 hx2 hx3 HF
            subst hβ
            simp only [putAll, Act.put, List.setIfInBounds_toArray, List.set_cons_succ, List.set_cons_zero]
            go_wp2_with fail
            go_ret
            exact ⟨rfl, HW4.out⟩
        · have hit2 : itemB X = false := by simpa using hit
          have hβ : β = false := by
            rw [HF.out]
            exact Bool.eq_false_iff.2 fun e => hit (by have := List.all_eq_true.1 e X HMEM.out; simp at this; exact this.1)
          refine tfb_any (g := g) (y := wr.heap.size) (n1 := n) (c1 := c) (A1 := some ⟨b, o, none⟩) (x := X) ⟨rfl, rfl, Has.made _ _ _, hit2⟩ (by kernel_rfl) ?_
          intro w4 hB4
          have HW4 := Lib.hid ((HAL.out _).trans (hB4.mono (by have := HW.out.size; simp; omega)))
          clear hB4 HD HW HAL HMEM hX hit hit2 hx0 hx1 hx2 hx3 HF
          subst hβ
          simp only [putAll, Act.put, List.setIfInBounds_toArray, List.set_cons_succ, List.set_cons_zero]
          go_wp2_with fail
          go_ret
          exact ⟨rfl, HW4.out⟩
      · have hjn : j = n := by omega
        subst hjn
        have hβ : β = true := by
          rw [HF.out, List.all_eq_true]
          intro x hx
          obtain ⟨k, hk, e⟩ := List.mem_iff_getElem.1 hx
          have := HD.out k (by rw [← HL.out]; exact hk)
          rw [nthI_elem hk, e] at this
          simp [this]
        clear HF HD HII
        subst hβ
        go_wp2_with fail
        go_ret
        exact ⟨rfl, HW.out⟩
end

end Go.Proofs.Ytdoflmphkalicaa

namespace Go.Proofs.Ytdoflmphkalicaa
open Go.RowKit

/-- None stands alike with one that is there, nor two with one another. -/
def NewS (R xs : List It) : Prop := (∀ x, x ∈ xs → twinB R x = false) ∧ xs.Pairwise fun a b => ¬ (a.t = b.t ∧ a.q = b.q)
theorem NewS.perm {R xs ys : List It} (h : NewS R xs) (hp : ys.Perm xs) : NewS R ys :=
  ⟨fun x hx => h.1 x (hp.mem_iff.1 hx), (hp.pairwise_iff (fun hab e => hab ⟨e.1.symm, e.2.symm⟩)).2 h.2⟩
theorem NewS.of {R ys : List It} (h1 : StrS ys) (h2 : ∀ x, x ∈ ys → twinB R x = false) : NewS R ys :=
  ⟨h2, List.Pairwise.imp (fun hab e => by rw [lt2_iff] at hab; omega) h1⟩
open Classical in
noncomputable def twiceT (R xs : List It) : Bool := decide (¬ NewS R xs)
open Classical in
theorem twiceT_no {R xs : List It} (h : NewS R xs) : twiceT R xs = false := by
  unfold twiceT
  exact decide_eq_false (fun e => e h)
open Classical in
theorem twiceT_yes {R xs : List It} (h : ¬ NewS R xs) : twiceT R xs = true := by
  unfold twiceT
  exact decide_eq_true h
/-- What the loop knows ahead of round j. -/
def TwiD (R ys : List It) (j : Nat) : Prop := StrS (ys.take j) ∧ ∀ x, x ∈ ys.take j → twinB R x = false
theorem take_snoc {ys : List It} {j : Nat} (h : j < ys.length) : ys.take (j + 1) = ys.take j ++ [nthI ys j] := by
  rw [List.take_add_one, List.getElem?_eq_getElem h, nthI_elem h]
  rfl
theorem TwiD.zero (R ys : List It) : TwiD R ys 0 := ⟨List.Pairwise.nil, fun x hx => by cases hx⟩
theorem TwiD.first {R ys : List It} (h : 0 < ys.length) (h2 : twinB R (nthI ys 0) = false) : TwiD R ys 1 := by
  unfold TwiD
  rw [show ys.take 1 = [nthI ys 0] by rw [take_snoc h]; rfl]
  exact ⟨List.pairwise_singleton _ _, fun x hx => by simp at hx; exact hx ▸ h2⟩
theorem TwiD.next {R ys : List It} {k : Nat} (h : TwiD R ys (k + 1)) (hs : SrdB lt2 ys) (hl : k + 1 < ys.length) (h2 : twinB R (nthI ys (k + 1)) = false) (hz : ¬ cmpT (nthI ys k) (nthI ys (k + 1)) = 0) : TwiD R ys (k + 1 + 1) := by
  obtain ⟨a1, a2⟩ := h
  have hlt : lt2 (nthI ys k) (nthI ys (k + 1)) = true := by
    have h3 := (List.pairwise_iff_getElem.1 hs) k (k + 1) (by omega) hl (by omega)
    rw [← nthI_elem, ← nthI_elem, lt2_no] at h3
    rw [cmpT_zero] at hz
    rw [lt2_iff]
    omega
  have hlast : ∀ y, y ∈ ys.take (k + 1) → lt2 y (nthI ys (k + 1)) = true := fun y hy => by
    rw [take_snoc (by omega)] at hy a1
    rcases List.mem_append.1 hy with hy | hy
    · exact lt2_trans ((List.pairwise_append.1 a1).2.2 y hy _ (by simp)) hlt
    · simp at hy; exact hy ▸ hlt
  unfold TwiD
  rw [take_snoc hl]
  refine ⟨List.pairwise_append.2 ⟨a1, List.pairwise_singleton _ _, fun y hy z hz => by simp at hz; exact hz ▸ hlast y hy⟩, fun x hx => ?_⟩
  rcases List.mem_append.1 hx with hx | hx
  · exact a2 x hx
  · simp at hx; exact hx ▸ h2
theorem NewS.two {R ys : List It} (h : NewS R ys) {k : Nat} (hl : k + 1 < ys.length) : ¬ cmpT (nthI ys k) (nthI ys (k + 1)) = 0 := fun e => by
  have h3 := (List.pairwise_iff_getElem.1 h.2) k (k + 1) (by omega) hl (by omega)
  rw [← nthI_elem, ← nthI_elem] at h3
  exact h3 (cmpT_zero.1 e)

section
variable {P : Nat → Prop} {g m d : Nat} {A root : Option Addr} {bs : List Int} {w : World}
set_option maxRecDepth 100000 in
set_option maxHeartbeats 4000000 in
theorem ttwice_any (T : Tr) (hT : TBd P w g bs A m d T.ptr) (hA : T.At bs P w) (hS : StrS T.row) (C : Option Addr) (n c : Nat) (xs : List It) (hI : Items w C n xs) (hn : n ≤ 8192) :
    Calls Try.prog 45 #[.pointer (some ⟨g, 0, none⟩), .slice C n c] w fun e w' => e = .returned (.bool (twiceT T.row xs)) ∧ Below w.heap.size w w' := by
  have HH := Lib.hid (fun w' (hb : Below w.heap.size w w') x => thas_any bs P T x w' (hA.below hb) hS)
  have HST := Lib.hid (fun w' (hb : Below w.heap.size w w') => (hT.below hb).st)
  have HLX := Lib.hid hI.1
  have HB1 := Lib.hid ((Below.refl _ w).alloc (Nat.le_refl _) (.cells #[.slice C n c] 36))
  have HSO := Lib.hid (tsorted_any w.heap.size C n c xs hn (w.alloc (.cells #[.slice C n c] 36)) ((Has.made w 36 #[.slice C n c]).cell 0) (hI.below HB1.out))
  clear hT hA hS hI
  generalize T.row = R at HH ⊢
  generalize T.ptr = tp at HH HST
  generalize hβx : twiceT R xs = β
  have HBX := Lib.hid hβx
  clear hβx
  go_enter Try.func45, Try.ntmps45
  go_upto_region 2 with (first | (refine (tvals_any C n c w).mono ?_; rintro e w1 ⟨rfl, rfl⟩) | (refine HSO.out.mono ?_; clear HSO; rintro e w2 ⟨A2, n2, c2, ys, rfl, hp, hs, ho, hb⟩))
  have hB2 := HB1.out.trans (hb.mono (by simp))
  have hyl : ys.length = n2 := ho.len
  have hnn : n2 = n := by rw [← hyl, hp.length_eq, HLX.out]
  subst hnn
  have HP := Lib.hid hp
  have HS := Lib.hid hs
  have HO := Lib.hid ho
  have HB2 := Lib.hid hB2
  have HYL := Lib.hid hyl
  clear hp hs ho hb hB2 hyl HB1
  have HTW : Hid (β = twiceT R ys) := by
    show β = twiceT R ys
    rw [← HBX.out]
    by_cases h : NewS R ys
    · rw [twiceT_no h, twiceT_no (h.perm HP.out.symm)]
    · rw [twiceT_yes h, twiceT_yes (fun e => h (e.perm HP.out))]
  clear HBX HP HLX
  go_wp2_with fail
  go_loopw [13] (fun i wr => ∃ j : Nat, j ≤ n2 ∧ i = .int .i64 j ∧ Hid (TwiD R ys j) ∧ Hid (Below w2.heap.size w2 wr)) (fun i _ => n2 - (intOf i).toNat)
  case atStart => exact ⟨0, Nat.zero_le _, rfl, TwiD.zero _ _, Below.refl _ _⟩
  case round =>
    obtain ⟨j, hj, rfl, HD, HW⟩ := hrel
    by_cases hlt : j < n2
    · have hown := HO.out.belowT HW.out
      obtain ⟨b, rfl⟩ : ∃ b, A2 = some ⟨b, 0, none⟩ := by
        rcases HO.out.shape with ⟨_, h, _⟩ | h
        · omega
        · exact h
      have hx := hown.item hlt
      have HRW := Lib.hid (fun k (hk : k < n2) => hown.item hk)
      have hx0 : wr.cell? ⟨b, j * 4, none⟩ = some (.int .i64 (nthI ys j).s) := hx 0 _ rfl
      have hx1 : wr.cell? ⟨b, j * 4 + 1, none⟩ = some (.int .i64 (nthI ys j).t) := hx 1 _ rfl
      have hx2 : wr.cell? ⟨b, j * 4 + 2, none⟩ = some (.int .i64 (nthI ys j).q) := hx 2 _ rfl
      have hx3 : wr.cell? ⟨b, j * 4 + 3, none⟩ = some (.int .i64 (nthI ys j).v) := hx 3 _ rfl
      have HAW : Hid (∀ q : Array Value, Below wr.heap.size wr (wr.alloc (.cells q 47))) := fun q => (Below.refl _ _).alloc (Nat.le_refl _) _
      have HAL : Hid (∀ q : Array Value, Below w2.heap.size w2 (wr.alloc (.cells q 47))) := fun q => HW.out.trans ((HAW.out q).mono HW.out.size)
      have HMEM := Lib.hid (show nthI ys j ∈ ys from nthI_in (by rw [HYL.out]; exact hlt))
      clear hown hx
      generalize hX : nthI ys j = X at hx0 hx1 hx2 hx3 HMEM
      have HX := Lib.hid hX
      clear hX
      go_upto_region 5 with fail
      cases htw : twinB R X with
      | true =>
        have hβ : twiceT R ys = true := twiceT_yes fun e => by have := e.1 X HMEM.out; rw [htw] at this; cases this
        refine thh_any (g := g) (y := wr.heap.size) (m := m) (d := d) (b := b) (n := n2) (c := c2) (A := A) (root := tp) (iq := j) (x := X) ⟨rfl, rfl, rfl, HST.out _ (HB2.out.trans ((HAL.out _).mono HB2.out.size)), Has.made _ _ _, fun w' hb => htw ▸ HH.out w' ((HB2.out.trans ((HAL.out _).mono HB2.out.size)).trans (hb.mono (by have := HB2.out.size; have := HW.out.size; simp; omega))) X⟩ (by kernel_rfl) ?_
        intro w4 hB4
        have HW4 := Lib.hid ((HAL.out _).trans (hB4.mono (by have := HW.out.size; simp; omega)))
        clear hB4 HD HW HAL HMEM hx0 hx1 hx2 hx3 HH HST HRW HX HAW
        have hβ2 : β = true := HTW.out.trans hβ
        clear hβ htw HTW
        subst hβ2
        simp only [putAll, Act.put, List.setIfInBounds_toArray, List.set_cons_succ, List.set_cons_zero]
        go_wp2_with fail
        go_ret
        exact ⟨rfl, HB2.out.trans (HW4.out.mono HB2.out.size)⟩
      | false =>
        cases j with
        | zero =>
          have hz : decide ((0 : Int) < ((0 : Nat) : Int)) = false := by decide
          refine thz_any (g := g) (y := wr.heap.size) (m := m) (d := d) (b := b) (n := n2) (c := c2) (A := A) (root := tp) (iq := ((0 : Nat) : Int)) (x := X) ⟨rfl, rfl, rfl, rfl, HST.out _ (HB2.out.trans ((HAL.out _).mono HB2.out.size)), Has.made _ _ _, fun w' hb => htw ▸ HH.out w' ((HB2.out.trans ((HAL.out _).mono HB2.out.size)).trans (hb.mono (by have := HB2.out.size; have := HW.out.size; simp; omega))) X, hz⟩ (by kernel_rfl) ?_
          intro w4 hB4
          have HW4 := Lib.hid ((HAL.out _).trans (hB4.mono (by have := HW.out.size; simp; omega)))
          have HD2 : Hid (TwiD R ys 1) := TwiD.first (by rw [HYL.out]; exact hlt) (by rw [HX.out]; exact htw)
          clear hB4 HD HW HAL HMEM hx0 hx1 hx2 hx3 HRW HX HAW htw hz
          simp only [putAll, Act.put, List.setIfInBounds_toArray, List.set_cons_succ, List.set_cons_zero]
          go_wp2_with fail
          go_roundw
          case rel => exact ⟨1, by omega, by go_num, HD2, HW4⟩
          case measure => simp [intOf]; omega
        | succ k =>
          have hz : decide ((0 : Int) < ((k + 1 : Nat) : Int)) = true := decide_eq_true (by omega)
          have HRK := Lib.hid (rangeAt_keep (HRW.out k (by omega)) (by simp [itemL]) fun _ hp => (HAW.out #[.int .i64 X.s, .int .i64 X.t, .int .i64 X.q, .int .i64 X.v]).cell hp)
          generalize hV : nthI ys k = V at HRK
          have HV := Lib.hid hV
          clear hV
          by_cases hc0 : cmpT V X = 0
          · have hβ : twiceT R ys = true := twiceT_yes fun e => by
              have := e.two (k := k) (by rw [HYL.out]; exact hlt)
              rw [HV.out, HX.out] at this
              exact this hc0
            refine thp_any (g := g) (y := wr.heap.size) (m := m) (d := d) (b := b) (n := n2) (c := c2) (A := A) (root := tp) (iq := ((k + 1 : Nat) : Int)) (x := X) (k := k) (v := V) (β := true) ⟨rfl, rfl, rfl, rfl, rfl, HST.out _ (HB2.out.trans ((HAL.out _).mono HB2.out.size)), Has.made _ _ _, fun w' hb => htw ▸ HH.out w' ((HB2.out.trans ((HAL.out _).mono HB2.out.size)).trans (hb.mono (by have := HB2.out.size; have := HW.out.size; simp; omega))) X, hz, by omega, by omega, hn, HRK.out, decide_eq_true hc0⟩ (by kernel_rfl) ?_
            intro w4 hB4
            have HW4 := Lib.hid ((HAL.out _).trans (hB4.mono (by have := HW.out.size; simp; omega)))
            clear hB4 HD HW HAL HMEM hx0 hx1 hx2 hx3 HH HST HRW HX HAW HRK HV hz
            have hβ2 : β = true := HTW.out.trans hβ
            clear hβ htw hc0 HTW
            subst hβ2
            simp only [putAll, Act.put, List.setIfInBounds_toArray, List.set_cons_succ, List.set_cons_zero]
            go_wp2_with fail
            go_ret
            exact ⟨rfl, HB2.out.trans (HW4.out.mono HB2.out.size)⟩
          · refine thp_any (g := g) (y := wr.heap.size) (m := m) (d := d) (b := b) (n := n2) (c := c2) (A := A) (root := tp) (iq := ((k + 1 : Nat) : Int)) (x := X) (k := k) (v := V) (β := false) ⟨rfl, rfl, rfl, rfl, rfl, HST.out _ (HB2.out.trans ((HAL.out _).mono HB2.out.size)), Has.made _ _ _, fun w' hb => htw ▸ HH.out w' ((HB2.out.trans ((HAL.out _).mono HB2.out.size)).trans (hb.mono (by have := HB2.out.size; have := HW.out.size; simp; omega))) X, hz, by omega, by omega, hn, HRK.out, decide_eq_false hc0⟩ (by kernel_rfl) ?_
            intro w4 hB4
            have HW4 := Lib.hid ((HAL.out _).trans (hB4.mono (by have := HW.out.size; simp; omega)))
            have HD2 : Hid (TwiD R ys (k + 1 + 1)) := HD.out.next HS.out (by rw [HYL.out]; exact hlt) (by rw [HX.out]; exact htw) (by rw [HV.out, HX.out]; exact hc0)
            clear hB4 HD HW HAL HMEM hx0 hx1 hx2 hx3 HRW HX HAW HRK HV hz htw hc0
            simp only [putAll, Act.put, List.setIfInBounds_toArray, List.set_cons_succ, List.set_cons_zero]
            go_wp2_with fail
            go_roundw
            case rel => exact ⟨k + 1 + 1, by omega, by go_num, HD2, HW4⟩
            case measure => simp [intOf]; omega
    · have hjn : j = n2 := by omega
      subst hjn
      have hβ : twiceT R ys = false := twiceT_no (by
        have h := HD.out
        unfold TwiD at h
        rw [List.take_of_length_le (by rw [HYL.out]; exact Nat.le_refl _)] at h
        exact NewS.of h.1 h.2)
      have hβ2 : β = false := HTW.out.trans hβ
      clear hβ HD HH HST HTW
      subst hβ2
      go_wp2_with fail
      go_ret
      exact ⟨rfl, HB2.out.trans (HW.out.mono HB2.out.size)⟩
end

end Go.Proofs.Ytdoflmphkalicaa
