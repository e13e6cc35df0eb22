/-
  RegistryRow's end (written by gen/rgrow.py).
-/
import Derived.Test.YtamgllaoeociaaaGRows
import Derived.Test.YtamgllaoeociaaaRgProg
namespace Go.Proofs.Ytamgllaoeociaaa
open Go.RowKit

theorem rf_subw {D : List (Option Tmp)} {Φ : Fact} {o : Oper} {a : Act} {w : World} (hw : Region.wanted o (yieldD D a.tmps) = true) {t : Tmp} (hd : o.dst = some t) (x y : Operand) (ho : o.op = .binOp .sub 3 x y 3) (p q r : Int) (hx : a.eval x = .int .i64 p) (hy : a.eval y = .int .i64 q) (hr : wrap64 (p - q) = r) (h : Φ (.int .i64 r) w) : StepD Try.prog D Φ o a w :=
  step_val hw hd _ w (by subst hr; unfold execOp; rw [ho]; have e := IntWalk.i64_left (p - q); generalize a.eval = ev at hx hy ⊢; simp [hx, hy, go_sem, e]) (Below.refl _ _) h

def ra27D : List (Option Tmp) := [some 87, some 88, some 89, some 90, some 91, some 92, some 93, some 94, some 95, some 96, some 97, some 98, some 99, some 100, some 101, some 102, some 103, some 104, some 105, some 106, some 107, some 108, some 109, some 110, some 111, some 112, some 113]
def ra27F (_gs : List Nat) (g ln : Nat) (_m x : Int) (ids : List Int) (A : Option Addr) (c : Nat) : List Fact := [isV (.pointer (some ⟨g, 0, none⟩)), rowN ln ids, isV (.slice A ln c), isV (.bool true), isV (.bool false), isV (.bool false), isV (.pointer (some ⟨g, 0, none⟩)), isV (.int .i64 x), isV (.bool true), isV (.bool true), isV (.bool true), isV (undef), isV (undef), isV (undef), isV (undef), isV (undef), isV (undef), isV (undef), isV (undef), isV (undef), isV (undef), isV (undef), isV (undef), isV (undef), isV (.bool true), isV (.bool false), isV (.bool false)]
theorem ra27F_mono (gs : List Nat) (g ln : Nat) (m x : Int) (ids : List Int) (A : Option Addr) (c : Nat) : ∀ φ ∈ ra27F gs g ln m x ids A c, Mono φ := by
  unfold ra27F
  repeat (first | exact monos_nil | (refine monos_cons (mono_isV _) ?_) | (refine monos_cons (rowN_mono _ _) ?_))
structure ra27S (gs : List Nat) (g ln : Nat) (m x : Int) (ids : List Int) (A : Option Addr) (c : Nat) (a0 : Act) (w0 : World) : Prop where
  size : a0.tmps.size = 114
  v6 : a0.tmps.getD 6 undef = .pointer (some ⟨g, 0, none⟩)
  v8 : a0.tmps.getD 8 undef = .slice A ln c
  v10 : a0.tmps.getD 10 undef = .int .i64 x
  v11 : a0.tmps.getD 11 undef = .bool true
  rg : Reg w0 gs g m ids
  hl : ids.length = ln
  lm : ids.length ≤ 1000000000
  lx : ln ≤ maxLen
  xw : (Lit.int .i64 x).wf = true
  hx : decide (x ∈ ids) = true
  rw : Ints w0 A ln ids
section
variable {gs : List Nat} {g ln : Nat} {m x : Int} {ids : List Int} {A : Option Addr} {c : Nat} {a0 : Act} {w0 : World} (S : ra27S gs g ln m x ids A c a0 w0)
include S
set_option maxRecDepth 100000 in
set_option maxHeartbeats 8000000 in
theorem ra27_ok : AllOps (fun j o => ∀ (a : Act) (w : World), Below w0.heap.size w0 w → FrD ra27D a0 a → needs ra27D (ra27F gs g ln m x ids A c) a w o.after.toList → StepD Try.prog ra27D (factAt (ra27F gs g ln m x ids A c) j) o a w) 0 (opsOf 27 Try.f4) := by
  simp only [opsOf, Try.f4, opsAt, Option.bind, Option.or, Option.getD, reduceCtorEq, if_true, if_false, Nat.reduceEqDiff]
  refine ⟨?_, ?_⟩
  · intro _a _w _hB hF _hd
    exact step_move (guard_none rfl) rfl _ rfl ((hF.other 6 rfl).trans S.v6)
  refine ⟨?_, ?_⟩
  · intro a w hB _hF hd
    have h87 : a.tmps.getD 87 undef = .pointer (some ⟨g, 0, none⟩) := hd.1 rfl
    refine step_call (guard_none rfl) rfl _ _ (rf_call_run Try.func14 (by kernel_rfl) (by kernel_rfl) _ _ rfl) ?_
    simp only [List.map_toArray, List.map_cons, List.map_nil, Act.eval, h87]
    exact (gids_any gs g m ids w (S.rg.below hB) S.lm).mono (by rintro e w1 ⟨A, c, rfl, ho, hb⟩; exact ⟨_, rfl, hb, A, c, S.hl ▸ rfl, S.hl ▸ ho.ints⟩)
  refine ⟨?_, ?_⟩
  · intro _a _w _hB hF _hd
    exact step_move (guard_none rfl) rfl _ rfl ((hF.other 8 rfl).trans S.v8)
  refine ⟨?_, ?_⟩
  · intro a w hB _hF hd
    obtain ⟨A88, c88, h88, p88⟩ : rowN ln ids (a.tmps.getD 88 undef) w := hd.1 rfl
    have h89 : a.tmps.getD 89 undef = .slice A ln c := hd.2.1 rfl
    refine step_call (guard_none rfl) rfl _ _ (rf_call_run Try.func15 (by kernel_rfl) (by kernel_rfl) _ _ rfl) ?_
    simp only [List.map_toArray, List.map_cons, List.map_nil, Act.eval, h88, h89]
    exact (sameInts_true _ _ ln _ _ ids _ p88 (S.rw.below hB) S.lx).mono (by rintro e w1 ⟨rfl, k, rfl⟩; exact ⟨_, rfl, below_drewN (Below.refl _ _) _, rfl⟩)
  refine ⟨?_, ?_⟩
  · intro a _w _hB _hF hd
    have h90 : a.tmps.getD 90 undef = .bool true := hd.1 rfl
    exact step_not (guard_none rfl) rfl _ _ rfl h90 rfl
  refine ⟨?_, ?_⟩
  · intro a _w _hB _hF hd
    have h91 : a.tmps.getD 91 undef = .bool false := hd.1 rfl
    exact step_move (guard_none rfl) rfl _ rfl h91
  refine ⟨?_, ?_⟩
  · intro a _w _hB hF hd
    have h92 : a.tmps.getD 92 undef = .bool false := hd.1 rfl
    exact step_move (rf_open false rfl rfl h92) rfl _ rfl ((hF.other 6 rfl).trans S.v6)
  refine ⟨?_, ?_⟩
  · intro a _w _hB hF hd
    have h92 : a.tmps.getD 92 undef = .bool false := hd.1 rfl
    exact step_move (rf_open false rfl rfl h92) rfl _ rfl ((hF.other 10 rfl).trans S.v10)
  refine ⟨?_, ?_⟩
  · intro a w hB _hF hd
    have h92 : a.tmps.getD 92 undef = .bool false := hd.2.2.1 rfl
    have h93 : a.tmps.getD 93 undef = .pointer (some ⟨g, 0, none⟩) := hd.1 rfl
    have h94 : a.tmps.getD 94 undef = .int .i64 x := hd.2.1 rfl
    refine step_call (rf_open false rfl rfl h92) rfl _ _ (rf_call_run Try.func12 (by kernel_rfl) (by kernel_rfl) _ _ rfl) ?_
    simp only [List.map_toArray, List.map_cons, List.map_nil, Act.eval, h93, h94]
    exact (ghas_any gs g m ids x w (S.rg.below hB) S.xw).mono (by rintro e w1 ⟨rfl, rfl⟩; exact ⟨_, rfl, Below.refl _ _, congrArg Value.bool S.hx⟩)
  refine ⟨?_, ?_⟩
  · intro a _w _hB hF hd
    have h92 : a.tmps.getD 92 undef = .bool false := hd.1 rfl
    exact step_move (rf_open false rfl rfl h92) rfl _ rfl ((hF.other 11 rfl).trans S.v11)
  refine ⟨?_, ?_⟩
  · intro a _w _hB _hF hd
    have h92 : a.tmps.getD 92 undef = .bool false := hd.2.2.1 rfl
    have h96 : a.tmps.getD 96 undef = .bool true := hd.1 rfl
    exact step_move (rf_open false rfl rfl h92) rfl _ rfl h96
  refine ⟨?_, ?_⟩
  · intro a _w _hB _hF hd
    have h97 : a.tmps.getD 97 undef = .bool true := hd.1 rfl
    exact rf_shut false rfl rfl h97 rfl
  refine ⟨?_, ?_⟩
  · intro a _w _hB _hF hd
    have h97 : a.tmps.getD 97 undef = .bool true := hd.2.1 rfl
    exact rf_shut false rfl rfl h97 rfl
  refine ⟨?_, ?_⟩
  · intro a _w _hB _hF hd
    have h97 : a.tmps.getD 97 undef = .bool true := hd.2.1 rfl
    exact rf_shut false rfl rfl h97 rfl
  refine ⟨?_, ?_⟩
  · intro a _w _hB _hF hd
    have h97 : a.tmps.getD 97 undef = .bool true := hd.2.1 rfl
    exact rf_shut false rfl rfl h97 rfl
  refine ⟨?_, ?_⟩
  · intro a _w _hB _hF hd
    have h101 : a.tmps.getD 101 undef = undef := hd.1 rfl
    exact rf_shutu true rfl rfl h101 rfl
  refine ⟨?_, ?_⟩
  · intro a _w _hB _hF hd
    have h101 : a.tmps.getD 101 undef = undef := hd.1 rfl
    exact rf_shutu true rfl rfl h101 rfl
  refine ⟨?_, ?_⟩
  · intro a _w _hB _hF hd
    have h101 : a.tmps.getD 101 undef = undef := hd.2.1 rfl
    exact rf_shutu true rfl rfl h101 rfl
  refine ⟨?_, ?_⟩
  · intro a _w _hB _hF hd
    have h101 : a.tmps.getD 101 undef = undef := hd.2.1 rfl
    exact rf_shutu true rfl rfl h101 rfl
  refine ⟨?_, ?_⟩
  · intro a _w _hB _hF hd
    have h101 : a.tmps.getD 101 undef = undef := hd.2.2.1 rfl
    exact rf_shutu true rfl rfl h101 rfl
  refine ⟨?_, ?_⟩
  · intro a _w _hB _hF hd
    have h101 : a.tmps.getD 101 undef = undef := hd.2.1 rfl
    exact rf_shutu true rfl rfl h101 rfl
  refine ⟨?_, ?_⟩
  · intro a _w _hB _hF hd
    have h101 : a.tmps.getD 101 undef = undef := hd.1 rfl
    exact rf_shutu true rfl rfl h101 rfl
  refine ⟨?_, ?_⟩
  · intro a _w _hB _hF hd
    have h101 : a.tmps.getD 101 undef = undef := hd.2.2.1 rfl
    exact rf_shutu true rfl rfl h101 rfl
  refine ⟨?_, ?_⟩
  · intro a _w _hB _hF hd
    have h97 : a.tmps.getD 97 undef = .bool true := hd.2.2.1 rfl
    exact rf_shut false rfl rfl h97 rfl
  refine ⟨?_, ?_⟩
  · intro a _w _hB _hF hd
    have h92 : a.tmps.getD 92 undef = .bool false := hd.2.2.1 rfl
    have h97 : a.tmps.getD 97 undef = .bool true := hd.1 rfl
    exact rf_pick (rf_open false rfl rfl h92) rfl _ _ _ rfl true h97 rfl
  refine ⟨?_, ?_⟩
  · intro a _w _hB _hF hd
    have h92 : a.tmps.getD 92 undef = .bool false := hd.2.2.1 rfl
    have h95 : a.tmps.getD 95 undef = .bool true := hd.1 rfl
    have h111 : a.tmps.getD 111 undef = .bool true := hd.2.1 rfl
    exact rf_neqb (rf_open false rfl rfl h92) rfl _ _ rfl _ _ _ h95 h111 (by simp) rfl
  refine ⟨?_, ?_⟩
  · intro a _w _hB _hF hd
    have h92 : a.tmps.getD 92 undef = .bool false := hd.1 rfl
    have h112 : a.tmps.getD 112 undef = .bool false := hd.2.1 rfl
    exact rf_pick (guard_none rfl) rfl _ _ _ rfl false h92 h112
  trivial
theorem ra27_any {Q : Exit → Act → World → Prop} {l : List Oper} (hl : opsOf 27 Try.f4 = l) (hend : ∀ (A88 : Option Addr) (c88 : Nat), ∀ w : World, Below w0.heap.size w0 w → Ints w A88 ln ids → Q .normal (putAll a0 [(87, .pointer (some ⟨g, 0, none⟩)), (88, .slice A88 ln c88), (89, .slice A ln c), (90, .bool true), (91, .bool false), (92, .bool false), (93, .pointer (some ⟨g, 0, none⟩)), (94, .int .i64 x), (95, .bool true), (96, .bool true), (97, .bool true), (98, undef), (99, undef), (100, undef), (101, undef), (102, undef), (103, undef), (104, undef), (105, undef), (106, undef), (107, undef), (108, undef), (109, undef), (110, undef), (111, .bool true), (112, .bool false), (113, .bool false)]) w) :
    (Code.region 27 l.toArray false).wp Try.prog Q a0 w0 := by
  subst hl
  refine region_facts (ra27F gs g ln m x ids A c) ra27D 114 S.size rfl (by kernel_rfl) (by kernel_rfl) (ra27F_mono _ _ _ _ _ _ _ _) (ra27_ok S) fun a w hB hF h => ?_
  obtain ⟨A88, c88, h88, p88⟩ : rowN ln ids (a.tmps.getD 88 undef) w := h 1 (some 88) rfl
  have hv : valsAre a [(87, .pointer (some ⟨g, 0, none⟩)), (88, .slice A88 ln c88), (89, .slice A ln c), (90, .bool true), (91, .bool false), (92, .bool false), (93, .pointer (some ⟨g, 0, none⟩)), (94, .int .i64 x), (95, .bool true), (96, .bool true), (97, .bool true), (98, undef), (99, undef), (100, undef), (101, undef), (102, undef), (103, undef), (104, undef), (105, undef), (106, undef), (107, undef), (108, undef), (109, undef), (110, undef), (111, .bool true), (112, .bool false), (113, .bool false)] := by
    refine ⟨?_, ?_, ?_, ?_, ?_, ?_, ?_, ?_, ?_, ?_, ?_, ?_, ?_, ?_, ?_, ?_, ?_, ?_, ?_, ?_, ?_, ?_, ?_, ?_, ?_, ?_, ?_, trivial⟩
    · exact h 0 (some 87) rfl
    · exact h88
    · exact h 2 (some 89) rfl
    · exact h 3 (some 90) rfl
    · exact h 4 (some 91) rfl
    · exact h 5 (some 92) rfl
    · exact h 6 (some 93) rfl
    · exact h 7 (some 94) rfl
    · exact h 8 (some 95) rfl
    · exact h 9 (some 96) rfl
    · exact h 10 (some 97) rfl
    · exact h 11 (some 98) rfl
    · exact h 12 (some 99) rfl
    · exact h 13 (some 100) rfl
    · exact h 14 (some 101) rfl
    · exact h 15 (some 102) rfl
    · exact h 16 (some 103) rfl
    · exact h 17 (some 104) rfl
    · exact h 18 (some 105) rfl
    · exact h 19 (some 106) rfl
    · exact h 20 (some 107) rfl
    · exact h 21 (some 108) rfl
    · exact h 22 (some 109) rfl
    · exact h 23 (some 110) rfl
    · exact h 24 (some 111) rfl
    · exact h 25 (some 112) rfl
    · exact h 26 (some 113) rfl
  rw [frame_is hF _ hv (by rfl) (by rfl)]
  exact hend A88 c88 w hB p88
end

def rb27D : List (Option Tmp) := [some 87, some 88, some 89, some 90, some 91, some 92, some 93, some 94, some 95, some 96, some 97, some 98, some 99, some 100, some 101, some 102, some 103, some 104, some 105, some 106, some 107, some 108, some 109, some 110, some 111, some 112, some 113]
def rb27F (_gs : List Nat) (g ln : Nat) (_m x : Int) (ids : List Int) (b f c q : Nat) (v : Int) (hb : Bool) : List Fact := [isV (.pointer (some ⟨g, 0, none⟩)), rowN ln ids, isV (.slice (some ⟨b, f, none⟩) ln c), isV (.bool true), isV (.bool false), isV (.bool false), isV (.pointer (some ⟨g, 0, none⟩)), isV (.int .i64 x), isV (.bool hb), isV (.bool false), isV (.bool false), isV (.slice (some ⟨b, f, none⟩) ln c), isV (.int .i64 ln), isV (.bool true), isV (.bool true), isV (.slice (some ⟨b, f, none⟩) ln c), isV (.slice (some ⟨b, f, none⟩) ln c), isV (.int .i64 ln), isV (.int .i64 q), isV (.pointer (some ⟨b, f + q, none⟩)), isV (.int .i64 v), isV (.int .i64 x), isV (.bool hb), isV (.bool hb), isV (.bool hb), isV (.bool false), isV (.bool false)]
theorem rb27F_mono (gs : List Nat) (g ln : Nat) (m x : Int) (ids : List Int) (b f c q : Nat) (v : Int) (hb : Bool) : ∀ φ ∈ rb27F gs g ln m x ids b f c q v hb, Mono φ := by
  unfold rb27F
  repeat (first | exact monos_nil | (refine monos_cons (mono_isV _) ?_) | (refine monos_cons (rowN_mono _ _) ?_))
structure rb27S (gs : List Nat) (g ln : Nat) (m x : Int) (ids : List Int) (b f c q : Nat) (v : Int) (hb : Bool) (a0 : Act) (w0 : World) : Prop where
  size : a0.tmps.size = 114
  v6 : a0.tmps.getD 6 undef = .pointer (some ⟨g, 0, none⟩)
  v8 : a0.tmps.getD 8 undef = .slice (some ⟨b, f, none⟩) ln c
  v10 : a0.tmps.getD 10 undef = .int .i64 x
  v11 : a0.tmps.getD 11 undef = .bool false
  rg : Reg w0 gs g m ids
  hl : ids.length = ln
  lm : ids.length ≤ 1000000000
  lx : ln ≤ maxLen
  xw : (Lit.int .i64 x).wf = true
  hx : decide (x ∈ ids) = hb
  rw : Ints w0 (some ⟨b, f, none⟩) ln ids
  lp : q + 1 = ln
  q1 : wrap64 ((ln : Int) - 1) = (q : Int)
  cv : w0.cell? ⟨b, f + q, none⟩ = some (.int .i64 v)
  ev : (v == x) = hb
section
variable {gs : List Nat} {g ln : Nat} {m x : Int} {ids : List Int} {b f c q : Nat} {v : Int} {hb : Bool} {a0 : Act} {w0 : World} (S : rb27S gs g ln m x ids b f c q v hb a0 w0)
include S
set_option maxRecDepth 100000 in
set_option maxHeartbeats 8000000 in
theorem rb27_ok : AllOps (fun j o => ∀ (a : Act) (w : World), Below w0.heap.size w0 w → FrD rb27D a0 a → needs rb27D (rb27F gs g ln m x ids b f c q v hb) a w o.after.toList → StepD Try.prog rb27D (factAt (rb27F gs g ln m x ids b f c q v hb) j) o a w) 0 (opsOf 27 Try.f4) := by
  simp only [opsOf, Try.f4, opsAt, Option.bind, Option.or, Option.getD, reduceCtorEq, if_true, if_false, Nat.reduceEqDiff]
  refine ⟨?_, ?_⟩
  · intro _a _w _hB hF _hd
    exact step_move (guard_none rfl) rfl _ rfl ((hF.other 6 rfl).trans S.v6)
  refine ⟨?_, ?_⟩
  · intro a w hB _hF hd
    have h87 : a.tmps.getD 87 undef = .pointer (some ⟨g, 0, none⟩) := hd.1 rfl
    refine step_call (guard_none rfl) rfl _ _ (rf_call_run Try.func14 (by kernel_rfl) (by kernel_rfl) _ _ rfl) ?_
    simp only [List.map_toArray, List.map_cons, List.map_nil, Act.eval, h87]
    exact (gids_any gs g m ids w (S.rg.below hB) S.lm).mono (by rintro e w1 ⟨A, c, rfl, ho, hb⟩; exact ⟨_, rfl, hb, A, c, S.hl ▸ rfl, S.hl ▸ ho.ints⟩)
  refine ⟨?_, ?_⟩
  · intro _a _w _hB hF _hd
    exact step_move (guard_none rfl) rfl _ rfl ((hF.other 8 rfl).trans S.v8)
  refine ⟨?_, ?_⟩
  · intro a w hB _hF hd
    obtain ⟨A88, c88, h88, p88⟩ : rowN ln ids (a.tmps.getD 88 undef) w := hd.1 rfl
    have h89 : a.tmps.getD 89 undef = .slice (some ⟨b, f, none⟩) ln c := hd.2.1 rfl
    refine step_call (guard_none rfl) rfl _ _ (rf_call_run Try.func15 (by kernel_rfl) (by kernel_rfl) _ _ rfl) ?_
    simp only [List.map_toArray, List.map_cons, List.map_nil, Act.eval, h88, h89]
    exact (sameInts_true _ _ ln _ _ ids _ p88 (S.rw.below hB) S.lx).mono (by rintro e w1 ⟨rfl, k, rfl⟩; exact ⟨_, rfl, below_drewN (Below.refl _ _) _, rfl⟩)
  refine ⟨?_, ?_⟩
  · intro a _w _hB _hF hd
    have h90 : a.tmps.getD 90 undef = .bool true := hd.1 rfl
    exact step_not (guard_none rfl) rfl _ _ rfl h90 rfl
  refine ⟨?_, ?_⟩
  · intro a _w _hB _hF hd
    have h91 : a.tmps.getD 91 undef = .bool false := hd.1 rfl
    exact step_move (guard_none rfl) rfl _ rfl h91
  refine ⟨?_, ?_⟩
  · intro a _w _hB hF hd
    have h92 : a.tmps.getD 92 undef = .bool false := hd.1 rfl
    exact step_move (rf_open false rfl rfl h92) rfl _ rfl ((hF.other 6 rfl).trans S.v6)
  refine ⟨?_, ?_⟩
  · intro a _w _hB hF hd
    have h92 : a.tmps.getD 92 undef = .bool false := hd.1 rfl
    exact step_move (rf_open false rfl rfl h92) rfl _ rfl ((hF.other 10 rfl).trans S.v10)
  refine ⟨?_, ?_⟩
  · intro a w hB _hF hd
    have h92 : a.tmps.getD 92 undef = .bool false := hd.2.2.1 rfl
    have h93 : a.tmps.getD 93 undef = .pointer (some ⟨g, 0, none⟩) := hd.1 rfl
    have h94 : a.tmps.getD 94 undef = .int .i64 x := hd.2.1 rfl
    refine step_call (rf_open false rfl rfl h92) rfl _ _ (rf_call_run Try.func12 (by kernel_rfl) (by kernel_rfl) _ _ rfl) ?_
    simp only [List.map_toArray, List.map_cons, List.map_nil, Act.eval, h93, h94]
    exact (ghas_any gs g m ids x w (S.rg.below hB) S.xw).mono (by rintro e w1 ⟨rfl, rfl⟩; exact ⟨_, rfl, Below.refl _ _, congrArg Value.bool S.hx⟩)
  refine ⟨?_, ?_⟩
  · intro a _w _hB hF hd
    have h92 : a.tmps.getD 92 undef = .bool false := hd.1 rfl
    exact step_move (rf_open false rfl rfl h92) rfl _ rfl ((hF.other 11 rfl).trans S.v11)
  refine ⟨?_, ?_⟩
  · intro a _w _hB _hF hd
    have h92 : a.tmps.getD 92 undef = .bool false := hd.2.2.1 rfl
    have h96 : a.tmps.getD 96 undef = .bool false := hd.1 rfl
    exact step_move (rf_open false rfl rfl h92) rfl _ rfl h96
  refine ⟨?_, ?_⟩
  · intro a _w _hB hF hd
    have h97 : a.tmps.getD 97 undef = .bool false := hd.1 rfl
    exact step_move (rf_open false rfl rfl h97) rfl _ rfl ((hF.other 8 rfl).trans S.v8)
  refine ⟨?_, ?_⟩
  · intro a _w _hB _hF hd
    have h97 : a.tmps.getD 97 undef = .bool false := hd.2.1 rfl
    have h98 : a.tmps.getD 98 undef = .slice (some ⟨b, f, none⟩) ln c := hd.1 rfl
    exact rf_len (rf_open false rfl rfl h97) rfl _ _ rfl Try.underlying22 _ _ _ h98 rfl
  refine ⟨?_, ?_⟩
  · intro a _w _hB _hF hd
    have h97 : a.tmps.getD 97 undef = .bool false := hd.2.1 rfl
    have h99 : a.tmps.getD 99 undef = .int .i64 ln := hd.1 rfl
    exact rf_gtr (rf_open false rfl rfl h97) rfl _ _ rfl _ _ h99 rfl true (decide_eq_true (by have := S.lp; omega)) rfl
  refine ⟨?_, ?_⟩
  · intro a _w _hB _hF hd
    have h97 : a.tmps.getD 97 undef = .bool false := hd.2.1 rfl
    have h100 : a.tmps.getD 100 undef = .bool true := hd.1 rfl
    exact step_move (rf_open false rfl rfl h97) rfl _ rfl h100
  refine ⟨?_, ?_⟩
  · intro a _w _hB hF hd
    have h101 : a.tmps.getD 101 undef = .bool true := hd.1 rfl
    exact step_move (rf_open true rfl rfl h101) rfl _ rfl ((hF.other 8 rfl).trans S.v8)
  refine ⟨?_, ?_⟩
  · intro a _w _hB hF hd
    have h101 : a.tmps.getD 101 undef = .bool true := hd.1 rfl
    exact step_move (rf_open true rfl rfl h101) rfl _ rfl ((hF.other 8 rfl).trans S.v8)
  refine ⟨?_, ?_⟩
  · intro a _w _hB _hF hd
    have h101 : a.tmps.getD 101 undef = .bool true := hd.2.1 rfl
    have h103 : a.tmps.getD 103 undef = .slice (some ⟨b, f, none⟩) ln c := hd.1 rfl
    exact rf_len (rf_open true rfl rfl h101) rfl _ _ rfl Try.underlying22 _ _ _ h103 rfl
  refine ⟨?_, ?_⟩
  · intro a _w _hB _hF hd
    have h101 : a.tmps.getD 101 undef = .bool true := hd.2.1 rfl
    have h104 : a.tmps.getD 104 undef = .int .i64 ln := hd.1 rfl
    exact rf_subw (rf_open true rfl rfl h101) rfl _ _ rfl _ _ _ h104 rfl S.q1 rfl
  refine ⟨?_, ?_⟩
  · intro a _w _hB _hF hd
    have h101 : a.tmps.getD 101 undef = .bool true := hd.2.2.1 rfl
    have h102 : a.tmps.getD 102 undef = .slice (some ⟨b, f, none⟩) ln c := hd.1 rfl
    have h105 : a.tmps.getD 105 undef = .int .i64 q := hd.2.1 rfl
    exact rf_indexI (rf_open true rfl rfl h101) rfl _ _ rfl _ _ _ _ q _ h102 h105 rfl (by have := S.lp; omega) rfl
  refine ⟨?_, ?_⟩
  · intro a _w hB _hF hd
    have h101 : a.tmps.getD 101 undef = .bool true := hd.2.1 rfl
    have h106 : a.tmps.getD 106 undef = .pointer (some ⟨b, f + q, none⟩) := hd.1 rfl
    exact rf_loadi (rf_open true rfl rfl h101) rfl _ rfl _ _ h106 _ (rf_cell hB S.cv) rfl
  refine ⟨?_, ?_⟩
  · intro a _w _hB hF hd
    have h101 : a.tmps.getD 101 undef = .bool true := hd.1 rfl
    exact step_move (rf_open true rfl rfl h101) rfl _ rfl ((hF.other 10 rfl).trans S.v10)
  refine ⟨?_, ?_⟩
  · intro a _w _hB _hF hd
    have h101 : a.tmps.getD 101 undef = .bool true := hd.2.2.1 rfl
    have h107 : a.tmps.getD 107 undef = .int .i64 v := hd.1 rfl
    have h108 : a.tmps.getD 108 undef = .int .i64 x := hd.2.1 rfl
    exact rf_eql (rf_open true rfl rfl h101) rfl _ _ rfl _ _ h107 h108 hb S.ev rfl
  refine ⟨?_, ?_⟩
  · intro a _w _hB _hF hd
    have h97 : a.tmps.getD 97 undef = .bool false := hd.2.2.1 rfl
    have h101 : a.tmps.getD 101 undef = .bool true := hd.1 rfl
    have h109 : a.tmps.getD 109 undef = .bool hb := hd.2.1 rfl
    exact rf_pick (rf_open false rfl rfl h97) rfl _ _ _ rfl true h101 h109
  refine ⟨?_, ?_⟩
  · intro a _w _hB _hF hd
    have h92 : a.tmps.getD 92 undef = .bool false := hd.2.2.1 rfl
    have h97 : a.tmps.getD 97 undef = .bool false := hd.1 rfl
    have h110 : a.tmps.getD 110 undef = .bool hb := hd.2.1 rfl
    exact rf_pick (rf_open false rfl rfl h92) rfl _ _ _ rfl false h97 h110
  refine ⟨?_, ?_⟩
  · intro a _w _hB _hF hd
    have h92 : a.tmps.getD 92 undef = .bool false := hd.2.2.1 rfl
    have h95 : a.tmps.getD 95 undef = .bool hb := hd.1 rfl
    have h111 : a.tmps.getD 111 undef = .bool hb := hd.2.1 rfl
    exact rf_neqb (rf_open false rfl rfl h92) rfl _ _ rfl _ _ _ h95 h111 (by simp) rfl
  refine ⟨?_, ?_⟩
  · intro a _w _hB _hF hd
    have h92 : a.tmps.getD 92 undef = .bool false := hd.1 rfl
    have h112 : a.tmps.getD 112 undef = .bool false := hd.2.1 rfl
    exact rf_pick (guard_none rfl) rfl _ _ _ rfl false h92 h112
  trivial
theorem rb27_any {Q : Exit → Act → World → Prop} {l : List Oper} (hl : opsOf 27 Try.f4 = l) (hend : ∀ (A88 : Option Addr) (c88 : Nat), ∀ w : World, Below w0.heap.size w0 w → Ints w A88 ln ids → Q .normal (putAll a0 [(87, .pointer (some ⟨g, 0, none⟩)), (88, .slice A88 ln c88), (89, .slice (some ⟨b, f, none⟩) ln c), (90, .bool true), (91, .bool false), (92, .bool false), (93, .pointer (some ⟨g, 0, none⟩)), (94, .int .i64 x), (95, .bool hb), (96, .bool false), (97, .bool false), (98, .slice (some ⟨b, f, none⟩) ln c), (99, .int .i64 ln), (100, .bool true), (101, .bool true), (102, .slice (some ⟨b, f, none⟩) ln c), (103, .slice (some ⟨b, f, none⟩) ln c), (104, .int .i64 ln), (105, .int .i64 q), (106, .pointer (some ⟨b, f + q, none⟩)), (107, .int .i64 v), (108, .int .i64 x), (109, .bool hb), (110, .bool hb), (111, .bool hb), (112, .bool false), (113, .bool false)]) w) :
    (Code.region 27 l.toArray false).wp Try.prog Q a0 w0 := by
  subst hl
  refine region_facts (rb27F gs g ln m x ids b f c q v hb) rb27D 114 S.size rfl (by kernel_rfl) (by kernel_rfl) (rb27F_mono _ _ _ _ _ _ _ _ _ _ _ _) (rb27_ok S) fun a w hB hF h => ?_
  obtain ⟨A88, c88, h88, p88⟩ : rowN ln ids (a.tmps.getD 88 undef) w := h 1 (some 88) rfl
  have hv : valsAre a [(87, .pointer (some ⟨g, 0, none⟩)), (88, .slice A88 ln c88), (89, .slice (some ⟨b, f, none⟩) ln c), (90, .bool true), (91, .bool false), (92, .bool false), (93, .pointer (some ⟨g, 0, none⟩)), (94, .int .i64 x), (95, .bool hb), (96, .bool false), (97, .bool false), (98, .slice (some ⟨b, f, none⟩) ln c), (99, .int .i64 ln), (100, .bool true), (101, .bool true), (102, .slice (some ⟨b, f, none⟩) ln c), (103, .slice (some ⟨b, f, none⟩) ln c), (104, .int .i64 ln), (105, .int .i64 q), (106, .pointer (some ⟨b, f + q, none⟩)), (107, .int .i64 v), (108, .int .i64 x), (109, .bool hb), (110, .bool hb), (111, .bool hb), (112, .bool false), (113, .bool false)] := by
    refine ⟨?_, ?_, ?_, ?_, ?_, ?_, ?_, ?_, ?_, ?_, ?_, ?_, ?_, ?_, ?_, ?_, ?_, ?_, ?_, ?_, ?_, ?_, ?_, ?_, ?_, ?_, ?_, trivial⟩
    · exact h 0 (some 87) rfl
    · exact h88
    · exact h 2 (some 89) rfl
    · exact h 3 (some 90) rfl
    · exact h 4 (some 91) rfl
    · exact h 5 (some 92) rfl
    · exact h 6 (some 93) rfl
    · exact h 7 (some 94) rfl
    · exact h 8 (some 95) rfl
    · exact h 9 (some 96) rfl
    · exact h 10 (some 97) rfl
    · exact h 11 (some 98) rfl
    · exact h 12 (some 99) rfl
    · exact h 13 (some 100) rfl
    · exact h 14 (some 101) rfl
    · exact h 15 (some 102) rfl
    · exact h 16 (some 103) rfl
    · exact h 17 (some 104) rfl
    · exact h 18 (some 105) rfl
    · exact h 19 (some 106) rfl
    · exact h 20 (some 107) rfl
    · exact h 21 (some 108) rfl
    · exact h 22 (some 109) rfl
    · exact h 23 (some 110) rfl
    · exact h 24 (some 111) rfl
    · exact h 25 (some 112) rfl
    · exact h 26 (some 113) rfl
  rw [frame_is hF _ hv (by rfl) (by rfl)]
  exact hend A88 c88 w hB p88
end

end Go.Proofs.Ytamgllaoeociaaa
