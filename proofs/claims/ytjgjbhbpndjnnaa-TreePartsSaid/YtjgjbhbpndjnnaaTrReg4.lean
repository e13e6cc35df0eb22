/-
  The drawn regions of within (written by gen/trreg.py).
-/
import Derived.Test.YtjgjbhbpndjnnaaG25
import Derived.Test.YtjgjbhbpndjnnaaG15
import Derived.Test.YtjgjbhbpndjnnaaG10
import Derived.Test.YtjgjbhbpndjnnaaHeadK
namespace Go.Proofs.Ytjgjbhbpndjnnaa
open Go.RowKit

def tw2D : List (Option Tmp) := [some 12, some 13, some 14, some 15, some 16, some 17, some 18, some 19, some 20, some 9]
def tw2F (b y : Nat) (_v : It) (av : Ac) (_hk : Nat) (_p _q : Option Addr) (sa _sb : Int) (β : Bool) : List Fact := [isV (.pointer (some ⟨b, 0, none⟩)), isV (.pointer (some ⟨b, 0, none⟩)), isV (.pointer (some ⟨b, 6, none⟩)), isV (.pointer (some ⟨b, 14, none⟩)), isV (.pointer (some ⟨b, 15, none⟩)), isV (.int .i64 av.l.t), isV (.pointer (some ⟨y, 0, none⟩)), isV (.int .i64 sa), isV (.bool β), isV (.bool β)]
theorem tw2F_mono (b y : Nat) (v : It) (av : Ac) (hk : Nat) (p q : Option Addr) (sa sb : Int) (β : Bool) : ∀ φ ∈ tw2F b y v av hk p q sa sb β, Mono φ := by
  unfold tw2F
  refine monos_cons (mono_isV _) ?_
  refine monos_cons (mono_isV _) ?_
  refine monos_cons (mono_isV _) ?_
  refine monos_cons (mono_isV _) ?_
  refine monos_cons (mono_isV _) ?_
  refine monos_cons (mono_isV _) ?_
  refine monos_cons (mono_isV _) ?_
  refine monos_cons (mono_isV _) ?_
  refine monos_cons (mono_isV _) ?_
  refine monos_cons (mono_isV _) ?_
  exact monos_nil
structure tw2S (b y : Nat) (v : It) (av : Ac) (hk : Nat) (p q : Option Addr) (sa sb : Int) (β : Bool) (a0 : Act) (w0 : World) : Prop where
  size : a0.tmps.size = 102
  v1 : a0.tmps.getD 1 undef = .pointer (some ⟨b, 0, none⟩)
  v6 : a0.tmps.getD 6 undef = .pointer (some ⟨y, 0, none⟩)
  pb : Has w0 b 110 (prtC p v q av hk)
  bx : Has w0 y 54 #[.int .i64 sa, .int .i64 sb]
  ht : decide (av.l.t < sa) = β
section
variable {b y : Nat} {v : It} {av : Ac} {hk : Nat} {p q : Option Addr} {sa sb : Int} {β : Bool} {a0 : Act} {w0 : World} (S : tw2S b y v av hk p q sa sb β a0 w0)
include S
set_option maxRecDepth 100000 in
set_option maxHeartbeats 8000000 in
theorem tw2_ok : AllOps (fun j o => ∀ (a : Act) (w : World), Below w0.heap.size w0 w → FrD tw2D a0 a → needs tw2D (tw2F b y v av hk p q sa sb β) a w o.after.toList → StepD Try.prog tw2D (factAt (tw2F b y v av hk p q sa sb β) j) o a w) 0 (opsOf 2 Try.f65) := by
  simp only [opsOf, Try.f65, opsAt, Option.bind, Option.or, Option.getD, reduceCtorEq, if_true, if_false, Nat.reduceEqDiff]
  refine ⟨?_, ?_⟩
  · intro _a _w _hB hF _hd
    exact step_move (guard_none rfl) rfl _ rfl ((hF.other 1 rfl).trans S.v1)
  refine ⟨?_, ?_⟩
  · intro a _w _hB _hF hd
    have h12 : a.tmps.getD 12 undef = .pointer (some ⟨b, 0, none⟩) := hd.1 rfl
    exact rf_nilck (guard_none rfl) rfl _ rfl _ h12 rfl
  refine ⟨?_, ?_⟩
  · intro a _w _hB _hF hd
    have h13 : a.tmps.getD 13 undef = .pointer (some ⟨b, 0, none⟩) := hd.1 rfl
    exact rf_faddr (guard_none rfl) rfl _ _ _ rfl _ _ 6 _ h13 (by omega) (fun _ _ => by kernel_rfl) rfl
  refine ⟨?_, ?_⟩
  · intro a _w _hB _hF hd
    have h14 : a.tmps.getD 14 undef = .pointer (some ⟨b, 6, none⟩) := hd.1 rfl
    exact rf_faddr (guard_none rfl) rfl _ _ _ rfl _ _ 8 _ h14 (by omega) (fun _ _ => by kernel_rfl) rfl
  refine ⟨?_, ?_⟩
  · intro a _w _hB _hF hd
    have h15 : a.tmps.getD 15 undef = .pointer (some ⟨b, 14, none⟩) := hd.1 rfl
    exact rf_faddr (guard_none rfl) rfl _ _ _ rfl _ _ 1 _ h15 (by omega) (fun _ _ => by kernel_rfl) rfl
  refine ⟨?_, ?_⟩
  · intro a _w hB _hF hd
    have h16 : a.tmps.getD 16 undef = .pointer (some ⟨b, 15, none⟩) := hd.1 rfl
    exact rf_loadi (guard_none rfl) rfl _ rfl _ _ h16 _ ((Has.cell (S.pb.below hB S.pb.lt) 15).trans rfl) rfl
  refine ⟨?_, ?_⟩
  · intro _a _w _hB hF _hd
    exact rf_faddr (guard_none rfl) rfl _ _ _ rfl _ _ 0 _ ((hF.other 6 rfl).trans S.v6) (by omega) (fun _ _ => by kernel_rfl) rfl
  refine ⟨?_, ?_⟩
  · intro a _w hB _hF hd
    have h18 : a.tmps.getD 18 undef = .pointer (some ⟨y, 0, none⟩) := hd.1 rfl
    exact rf_loadi (guard_none rfl) rfl _ rfl _ _ h18 _ ((Has.cell (S.bx.below hB S.bx.lt) 0).trans rfl) rfl
  refine ⟨?_, ?_⟩
  · intro a _w _hB _hF hd
    have h17 : a.tmps.getD 17 undef = .int .i64 av.l.t := hd.1 rfl
    have h19 : a.tmps.getD 19 undef = .int .i64 sa := hd.2.1 rfl
    exact rf_lss (guard_none rfl) rfl _ _ rfl _ _ h17 h19 β S.ht rfl
  refine ⟨?_, ?_⟩
  · intro a _w _hB _hF hd
    have h20 : a.tmps.getD 20 undef = .bool β := hd.1 rfl
    exact step_assign (guard_none rfl) rfl _ rfl h20
  trivial
theorem tw2_any {Q : Exit → Act → World → Prop} {l : List Oper} (hl : opsOf 2 Try.f65 = l) (hend : ∀ w : World, Below w0.heap.size w0 w → Q .normal (putAll a0 [(12, .pointer (some ⟨b, 0, none⟩)), (13, .pointer (some ⟨b, 0, none⟩)), (14, .pointer (some ⟨b, 6, none⟩)), (15, .pointer (some ⟨b, 14, none⟩)), (16, .pointer (some ⟨b, 15, none⟩)), (17, .int .i64 av.l.t), (18, .pointer (some ⟨y, 0, none⟩)), (19, .int .i64 sa), (20, .bool β), (9, .bool β)]) w) :
    (Code.region 2 l.toArray true).wp Try.prog Q a0 w0 := by
  subst hl
  refine region_facts2 (tw2F b y v av hk p q sa sb β) tw2D 102 S.size rfl (by kernel_rfl) (by kernel_rfl) (tw2F_mono _ _ _ _ _ _ _ _ _ _) (tw2_ok S) fun a w hB hF h => ?_
  have hv : valsAre a [(12, .pointer (some ⟨b, 0, none⟩)), (13, .pointer (some ⟨b, 0, none⟩)), (14, .pointer (some ⟨b, 6, none⟩)), (15, .pointer (some ⟨b, 14, none⟩)), (16, .pointer (some ⟨b, 15, none⟩)), (17, .int .i64 av.l.t), (18, .pointer (some ⟨y, 0, none⟩)), (19, .int .i64 sa), (20, .bool β), (9, .bool β)] := by
    refine ⟨?_, ?_, ?_, ?_, ?_, ?_, ?_, ?_, ?_, ?_, trivial⟩
    · exact h 0 (some 12) rfl
    · exact h 1 (some 13) rfl
    · exact h 2 (some 14) rfl
    · exact h 3 (some 15) rfl
    · exact h 4 (some 16) rfl
    · exact h 5 (some 17) rfl
    · exact h 6 (some 18) rfl
    · exact h 7 (some 19) rfl
    · exact h 8 (some 20) rfl
    · exact h 9 (some 9) rfl
  rw [frame_is hF _ hv (by rfl) (by rfl)]
  exact hend w hB
end

def tw3D : List (Option Tmp) := [some 21, some 22, some 23, some 24, some 25, some 26, some 27, some 28, some 29, some 9]
def tw3F (b y : Nat) (_v : It) (av : Ac) (_hk : Nat) (_p _q : Option Addr) (_sa sb : Int) (β : Bool) : List Fact := [isV (.pointer (some ⟨b, 0, none⟩)), isV (.pointer (some ⟨b, 0, none⟩)), isV (.pointer (some ⟨b, 6, none⟩)), isV (.pointer (some ⟨b, 10, none⟩)), isV (.pointer (some ⟨b, 11, none⟩)), isV (.int .i64 av.f.t), isV (.pointer (some ⟨y, 1, none⟩)), isV (.int .i64 sb), isV (.bool β), isV (.bool β)]
theorem tw3F_mono (b y : Nat) (v : It) (av : Ac) (hk : Nat) (p q : Option Addr) (sa sb : Int) (β : Bool) : ∀ φ ∈ tw3F b y v av hk p q sa sb β, Mono φ := by
  unfold tw3F
  refine monos_cons (mono_isV _) ?_
  refine monos_cons (mono_isV _) ?_
  refine monos_cons (mono_isV _) ?_
  refine monos_cons (mono_isV _) ?_
  refine monos_cons (mono_isV _) ?_
  refine monos_cons (mono_isV _) ?_
  refine monos_cons (mono_isV _) ?_
  refine monos_cons (mono_isV _) ?_
  refine monos_cons (mono_isV _) ?_
  refine monos_cons (mono_isV _) ?_
  exact monos_nil
structure tw3S (b y : Nat) (v : It) (av : Ac) (hk : Nat) (p q : Option Addr) (sa sb : Int) (β : Bool) (a0 : Act) (w0 : World) : Prop where
  size : a0.tmps.size = 102
  v1 : a0.tmps.getD 1 undef = .pointer (some ⟨b, 0, none⟩)
  v6 : a0.tmps.getD 6 undef = .pointer (some ⟨y, 0, none⟩)
  pb : Has w0 b 110 (prtC p v q av hk)
  bx : Has w0 y 54 #[.int .i64 sa, .int .i64 sb]
  ht : decide (sb ≤ av.f.t) = β
section
variable {b y : Nat} {v : It} {av : Ac} {hk : Nat} {p q : Option Addr} {sa sb : Int} {β : Bool} {a0 : Act} {w0 : World} (S : tw3S b y v av hk p q sa sb β a0 w0)
include S
set_option maxRecDepth 100000 in
set_option maxHeartbeats 8000000 in
theorem tw3_ok : AllOps (fun j o => ∀ (a : Act) (w : World), Below w0.heap.size w0 w → FrD tw3D a0 a → needs tw3D (tw3F b y v av hk p q sa sb β) a w o.after.toList → StepD Try.prog tw3D (factAt (tw3F b y v av hk p q sa sb β) j) o a w) 0 (opsOf 3 Try.f65) := by
  simp only [opsOf, Try.f65, opsAt, Option.bind, Option.or, Option.getD, reduceCtorEq, if_true, if_false, Nat.reduceEqDiff]
  refine ⟨?_, ?_⟩
  · intro _a _w _hB hF _hd
    exact step_move (guard_none rfl) rfl _ rfl ((hF.other 1 rfl).trans S.v1)
  refine ⟨?_, ?_⟩
  · intro a _w _hB _hF hd
    have h21 : a.tmps.getD 21 undef = .pointer (some ⟨b, 0, none⟩) := hd.1 rfl
    exact rf_nilck (guard_none rfl) rfl _ rfl _ h21 rfl
  refine ⟨?_, ?_⟩
  · intro a _w _hB _hF hd
    have h22 : a.tmps.getD 22 undef = .pointer (some ⟨b, 0, none⟩) := hd.1 rfl
    exact rf_faddr (guard_none rfl) rfl _ _ _ rfl _ _ 6 _ h22 (by omega) (fun _ _ => by kernel_rfl) rfl
  refine ⟨?_, ?_⟩
  · intro a _w _hB _hF hd
    have h23 : a.tmps.getD 23 undef = .pointer (some ⟨b, 6, none⟩) := hd.1 rfl
    exact rf_faddr (guard_none rfl) rfl _ _ _ rfl _ _ 4 _ h23 (by omega) (fun _ _ => by kernel_rfl) rfl
  refine ⟨?_, ?_⟩
  · intro a _w _hB _hF hd
    have h24 : a.tmps.getD 24 undef = .pointer (some ⟨b, 10, none⟩) := hd.1 rfl
    exact rf_faddr (guard_none rfl) rfl _ _ _ rfl _ _ 1 _ h24 (by omega) (fun _ _ => by kernel_rfl) rfl
  refine ⟨?_, ?_⟩
  · intro a _w hB _hF hd
    have h25 : a.tmps.getD 25 undef = .pointer (some ⟨b, 11, none⟩) := hd.1 rfl
    exact rf_loadi (guard_none rfl) rfl _ rfl _ _ h25 _ ((Has.cell (S.pb.below hB S.pb.lt) 11).trans rfl) rfl
  refine ⟨?_, ?_⟩
  · intro _a _w _hB hF _hd
    exact rf_faddr (guard_none rfl) rfl _ _ _ rfl _ _ 1 _ ((hF.other 6 rfl).trans S.v6) (by omega) (fun _ _ => by kernel_rfl) rfl
  refine ⟨?_, ?_⟩
  · intro a _w hB _hF hd
    have h27 : a.tmps.getD 27 undef = .pointer (some ⟨y, 1, none⟩) := hd.1 rfl
    exact rf_loadi (guard_none rfl) rfl _ rfl _ _ h27 _ ((Has.cell (S.bx.below hB S.bx.lt) 1).trans rfl) rfl
  refine ⟨?_, ?_⟩
  · intro a _w _hB _hF hd
    have h26 : a.tmps.getD 26 undef = .int .i64 av.f.t := hd.1 rfl
    have h28 : a.tmps.getD 28 undef = .int .i64 sb := hd.2.1 rfl
    exact rf_geq (guard_none rfl) rfl _ _ rfl _ _ h26 h28 β S.ht rfl
  refine ⟨?_, ?_⟩
  · intro a _w _hB _hF hd
    have h29 : a.tmps.getD 29 undef = .bool β := hd.1 rfl
    exact step_assign (guard_none rfl) rfl _ rfl h29
  trivial
theorem tw3_any {Q : Exit → Act → World → Prop} {l : List Oper} (hl : opsOf 3 Try.f65 = l) (hend : ∀ w : World, Below w0.heap.size w0 w → Q .normal (putAll a0 [(21, .pointer (some ⟨b, 0, none⟩)), (22, .pointer (some ⟨b, 0, none⟩)), (23, .pointer (some ⟨b, 6, none⟩)), (24, .pointer (some ⟨b, 10, none⟩)), (25, .pointer (some ⟨b, 11, none⟩)), (26, .int .i64 av.f.t), (27, .pointer (some ⟨y, 1, none⟩)), (28, .int .i64 sb), (29, .bool β), (9, .bool β)]) w) :
    (Code.region 3 l.toArray true).wp Try.prog Q a0 w0 := by
  subst hl
  refine region_facts2 (tw3F b y v av hk p q sa sb β) tw3D 102 S.size rfl (by kernel_rfl) (by kernel_rfl) (tw3F_mono _ _ _ _ _ _ _ _ _ _) (tw3_ok S) fun a w hB hF h => ?_
  have hv : valsAre a [(21, .pointer (some ⟨b, 0, none⟩)), (22, .pointer (some ⟨b, 0, none⟩)), (23, .pointer (some ⟨b, 6, none⟩)), (24, .pointer (some ⟨b, 10, none⟩)), (25, .pointer (some ⟨b, 11, none⟩)), (26, .int .i64 av.f.t), (27, .pointer (some ⟨y, 1, none⟩)), (28, .int .i64 sb), (29, .bool β), (9, .bool β)] := by
    refine ⟨?_, ?_, ?_, ?_, ?_, ?_, ?_, ?_, ?_, ?_, trivial⟩
    · exact h 0 (some 21) rfl
    · exact h 1 (some 22) rfl
    · exact h 2 (some 23) rfl
    · exact h 3 (some 24) rfl
    · exact h 4 (some 25) rfl
    · exact h 5 (some 26) rfl
    · exact h 6 (some 27) rfl
    · exact h 7 (some 28) rfl
    · exact h 8 (some 29) rfl
    · exact h 9 (some 9) rfl
  rw [frame_is hF _ hv (by rfl) (by rfl)]
  exact hend w hB
end

def tw5fD : List (Option Tmp) := [some 32, some 33, some 34, some 35, some 36, some 37, some 38, some 39, some 40, some 41, some 42, some 43, some 44, some 45, some 46, some 47, some 48, some 49, some 50, some 51, some 31]
def tw5fF (b y : Nat) (_v : It) (av : Ac) (_hk : Nat) (_p _q : Option Addr) (sa _sb : Int) : List Fact := [isV (.pointer (some ⟨b, 0, none⟩)), isV (.pointer (some ⟨b, 0, none⟩)), isV (.pointer (some ⟨b, 6, none⟩)), isV (.pointer (some ⟨b, 10, none⟩)), isV (.pointer (some ⟨b, 11, none⟩)), isV (.int .i64 av.f.t), isV (.pointer (some ⟨y, 0, none⟩)), isV (.int .i64 sa), isV (.bool false), isV (.bool false), isV (undef), isV (undef), isV (undef), isV (undef), isV (undef), isV (undef), isV (undef), isV (undef), isV (undef), isV (.bool false), isV (.bool false)]
theorem tw5fF_mono (b y : Nat) (v : It) (av : Ac) (hk : Nat) (p q : Option Addr) (sa sb : Int) : ∀ φ ∈ tw5fF b y v av hk p q sa sb, Mono φ := by
  unfold tw5fF
  refine monos_cons (mono_isV _) ?_
  refine monos_cons (mono_isV _) ?_
  refine monos_cons (mono_isV _) ?_
  refine monos_cons (mono_isV _) ?_
  refine monos_cons (mono_isV _) ?_
  refine monos_cons (mono_isV _) ?_
  refine monos_cons (mono_isV _) ?_
  refine monos_cons (mono_isV _) ?_
  refine monos_cons (mono_isV _) ?_
  refine monos_cons (mono_isV _) ?_
  refine monos_cons (mono_isV _) ?_
  refine monos_cons (mono_isV _) ?_
  refine monos_cons (mono_isV _) ?_
  refine monos_cons (mono_isV _) ?_
  refine monos_cons (mono_isV _) ?_
  refine monos_cons (mono_isV _) ?_
  refine monos_cons (mono_isV _) ?_
  refine monos_cons (mono_isV _) ?_
  refine monos_cons (mono_isV _) ?_
  refine monos_cons (mono_isV _) ?_
  refine monos_cons (mono_isV _) ?_
  exact monos_nil
structure tw5fS (b y : Nat) (v : It) (av : Ac) (hk : Nat) (p q : Option Addr) (sa sb : Int) (a0 : Act) (w0 : World) : Prop where
  size : a0.tmps.size = 102
  v1 : a0.tmps.getD 1 undef = .pointer (some ⟨b, 0, none⟩)
  v6 : a0.tmps.getD 6 undef = .pointer (some ⟨y, 0, none⟩)
  pb : Has w0 b 110 (prtC p v q av hk)
  bx : Has w0 y 54 #[.int .i64 sa, .int .i64 sb]
  ht : decide (sa ≤ av.f.t) = false
section
variable {b y : Nat} {v : It} {av : Ac} {hk : Nat} {p q : Option Addr} {sa sb : Int} {a0 : Act} {w0 : World} (S : tw5fS b y v av hk p q sa sb a0 w0)
include S
set_option maxRecDepth 100000 in
set_option maxHeartbeats 8000000 in
theorem tw5f_ok : AllOps (fun j o => ∀ (a : Act) (w : World), Below w0.heap.size w0 w → FrD tw5fD a0 a → needs tw5fD (tw5fF b y v av hk p q sa sb) a w o.after.toList → StepD Try.prog tw5fD (factAt (tw5fF b y v av hk p q sa sb) j) o a w) 0 (opsOf 5 Try.f65) := by
  simp only [opsOf, Try.f65, opsAt, Option.bind, Option.or, Option.getD, reduceCtorEq, if_true, if_false, Nat.reduceEqDiff]
  refine ⟨?_, ?_⟩
  · intro _a _w _hB hF _hd
    exact step_move (guard_none rfl) rfl _ rfl ((hF.other 1 rfl).trans S.v1)
  refine ⟨?_, ?_⟩
  · intro a _w _hB _hF hd
    have h32 : a.tmps.getD 32 undef = .pointer (some ⟨b, 0, none⟩) := hd.1 rfl
    exact rf_nilck (guard_none rfl) rfl _ rfl _ h32 rfl
  refine ⟨?_, ?_⟩
  · intro a _w _hB _hF hd
    have h33 : a.tmps.getD 33 undef = .pointer (some ⟨b, 0, none⟩) := hd.1 rfl
    exact rf_faddr (guard_none rfl) rfl _ _ _ rfl _ _ 6 _ h33 (by omega) (fun _ _ => by kernel_rfl) rfl
  refine ⟨?_, ?_⟩
  · intro a _w _hB _hF hd
    have h34 : a.tmps.getD 34 undef = .pointer (some ⟨b, 6, none⟩) := hd.1 rfl
    exact rf_faddr (guard_none rfl) rfl _ _ _ rfl _ _ 4 _ h34 (by omega) (fun _ _ => by kernel_rfl) rfl
  refine ⟨?_, ?_⟩
  · intro a _w _hB _hF hd
    have h35 : a.tmps.getD 35 undef = .pointer (some ⟨b, 10, none⟩) := hd.1 rfl
    exact rf_faddr (guard_none rfl) rfl _ _ _ rfl _ _ 1 _ h35 (by omega) (fun _ _ => by kernel_rfl) rfl
  refine ⟨?_, ?_⟩
  · intro a _w hB _hF hd
    have h36 : a.tmps.getD 36 undef = .pointer (some ⟨b, 11, none⟩) := hd.1 rfl
    exact rf_loadi (guard_none rfl) rfl _ rfl _ _ h36 _ ((Has.cell (S.pb.below hB S.pb.lt) 11).trans rfl) rfl
  refine ⟨?_, ?_⟩
  · intro _a _w _hB hF _hd
    exact rf_faddr (guard_none rfl) rfl _ _ _ rfl _ _ 0 _ ((hF.other 6 rfl).trans S.v6) (by omega) (fun _ _ => by kernel_rfl) rfl
  refine ⟨?_, ?_⟩
  · intro a _w hB _hF hd
    have h38 : a.tmps.getD 38 undef = .pointer (some ⟨y, 0, none⟩) := hd.1 rfl
    exact rf_loadi (guard_none rfl) rfl _ rfl _ _ h38 _ ((Has.cell (S.bx.below hB S.bx.lt) 0).trans rfl) rfl
  refine ⟨?_, ?_⟩
  · intro a _w _hB _hF hd
    have h37 : a.tmps.getD 37 undef = .int .i64 av.f.t := hd.1 rfl
    have h39 : a.tmps.getD 39 undef = .int .i64 sa := hd.2.1 rfl
    exact rf_geq (guard_none rfl) rfl _ _ rfl _ _ h37 h39 false S.ht rfl
  refine ⟨?_, ?_⟩
  · intro a _w _hB _hF hd
    have h40 : a.tmps.getD 40 undef = .bool false := hd.1 rfl
    exact step_move (guard_none rfl) rfl _ rfl h40
  refine ⟨?_, ?_⟩
  · intro a _w _hB _hF hd
    have h41 : a.tmps.getD 41 undef = .bool false := hd.1 rfl
    exact rf_shut true rfl rfl h41 rfl
  refine ⟨?_, ?_⟩
  · intro a _w _hB _hF hd
    have h41 : a.tmps.getD 41 undef = .bool false := hd.2.1 rfl
    exact rf_shut true rfl rfl h41 rfl
  refine ⟨?_, ?_⟩
  · intro a _w _hB _hF hd
    have h41 : a.tmps.getD 41 undef = .bool false := hd.2.1 rfl
    exact rf_shut true rfl rfl h41 rfl
  refine ⟨?_, ?_⟩
  · intro a _w _hB _hF hd
    have h41 : a.tmps.getD 41 undef = .bool false := hd.2.1 rfl
    exact rf_shut true rfl rfl h41 rfl
  refine ⟨?_, ?_⟩
  · intro a _w _hB _hF hd
    have h41 : a.tmps.getD 41 undef = .bool false := hd.2.1 rfl
    exact rf_shut true rfl rfl h41 rfl
  refine ⟨?_, ?_⟩
  · intro a _w _hB _hF hd
    have h41 : a.tmps.getD 41 undef = .bool false := hd.2.1 rfl
    exact rf_shut true rfl rfl h41 rfl
  refine ⟨?_, ?_⟩
  · intro a _w _hB _hF hd
    have h41 : a.tmps.getD 41 undef = .bool false := hd.1 rfl
    exact rf_shut true rfl rfl h41 rfl
  refine ⟨?_, ?_⟩
  · intro a _w _hB _hF hd
    have h41 : a.tmps.getD 41 undef = .bool false := hd.2.1 rfl
    exact rf_shut true rfl rfl h41 rfl
  refine ⟨?_, ?_⟩
  · intro a _w _hB _hF hd
    have h41 : a.tmps.getD 41 undef = .bool false := hd.2.2.1 rfl
    exact rf_shut true rfl rfl h41 rfl
  refine ⟨?_, ?_⟩
  · intro a _w _hB _hF hd
    have h41 : a.tmps.getD 41 undef = .bool false := hd.1 rfl
    exact rf_pick (guard_none rfl) rfl _ _ _ rfl false h41 rfl
  refine ⟨?_, ?_⟩
  · intro a _w _hB _hF hd
    have h51 : a.tmps.getD 51 undef = .bool false := hd.1 rfl
    exact step_assign (guard_none rfl) rfl _ rfl h51
  trivial
theorem tw5f_any {Q : Exit → Act → World → Prop} {l : List Oper} (hl : opsOf 5 Try.f65 = l) (hend : ∀ w : World, Below w0.heap.size w0 w → Q .normal (putAll a0 [(32, .pointer (some ⟨b, 0, none⟩)), (33, .pointer (some ⟨b, 0, none⟩)), (34, .pointer (some ⟨b, 6, none⟩)), (35, .pointer (some ⟨b, 10, none⟩)), (36, .pointer (some ⟨b, 11, none⟩)), (37, .int .i64 av.f.t), (38, .pointer (some ⟨y, 0, none⟩)), (39, .int .i64 sa), (40, .bool false), (41, .bool false), (42, undef), (43, undef), (44, undef), (45, undef), (46, undef), (47, undef), (48, undef), (49, undef), (50, undef), (51, .bool false), (31, .bool false)]) w) :
    (Code.region 5 l.toArray true).wp Try.prog Q a0 w0 := by
  subst hl
  refine region_facts2 (tw5fF b y v av hk p q sa sb) tw5fD 102 S.size rfl (by kernel_rfl) (by kernel_rfl) (tw5fF_mono _ _ _ _ _ _ _ _ _) (tw5f_ok S) fun a w hB hF h => ?_
  have hv : valsAre a [(32, .pointer (some ⟨b, 0, none⟩)), (33, .pointer (some ⟨b, 0, none⟩)), (34, .pointer (some ⟨b, 6, none⟩)), (35, .pointer (some ⟨b, 10, none⟩)), (36, .pointer (some ⟨b, 11, none⟩)), (37, .int .i64 av.f.t), (38, .pointer (some ⟨y, 0, none⟩)), (39, .int .i64 sa), (40, .bool false), (41, .bool false), (42, undef), (43, undef), (44, undef), (45, undef), (46, undef), (47, undef), (48, undef), (49, undef), (50, undef), (51, .bool false), (31, .bool false)] := by
    refine ⟨?_, ?_, ?_, ?_, ?_, ?_, ?_, ?_, ?_, ?_, ?_, ?_, ?_, ?_, ?_, ?_, ?_, ?_, ?_, ?_, ?_, trivial⟩
    · exact h 0 (some 32) rfl
    · exact h 1 (some 33) rfl
    · exact h 2 (some 34) rfl
    · exact h 3 (some 35) rfl
    · exact h 4 (some 36) rfl
    · exact h 5 (some 37) rfl
    · exact h 6 (some 38) rfl
    · exact h 7 (some 39) rfl
    · exact h 8 (some 40) rfl
    · exact h 9 (some 41) rfl
    · exact h 10 (some 42) rfl
    · exact h 11 (some 43) rfl
    · exact h 12 (some 44) rfl
    · exact h 13 (some 45) rfl
    · exact h 14 (some 46) rfl
    · exact h 15 (some 47) rfl
    · exact h 16 (some 48) rfl
    · exact h 17 (some 49) rfl
    · exact h 18 (some 50) rfl
    · exact h 19 (some 51) rfl
    · exact h 20 (some 31) rfl
  rw [frame_is hF _ hv (by rfl) (by rfl)]
  exact hend w hB
end

def tw5tD : List (Option Tmp) := [some 32, some 33, some 34, some 35, some 36, some 37, some 38, some 39, some 40, some 41, some 42, some 43, some 44, some 45, some 46, some 47, some 48, some 49, some 50, some 51, some 31]
def tw5tF (b y : Nat) (_v : It) (av : Ac) (_hk : Nat) (_p _q : Option Addr) (sa sb : Int) (β : Bool) : List Fact := [isV (.pointer (some ⟨b, 0, none⟩)), isV (.pointer (some ⟨b, 0, none⟩)), isV (.pointer (some ⟨b, 6, none⟩)), isV (.pointer (some ⟨b, 10, none⟩)), isV (.pointer (some ⟨b, 11, none⟩)), isV (.int .i64 av.f.t), isV (.pointer (some ⟨y, 0, none⟩)), isV (.int .i64 sa), isV (.bool true), isV (.bool true), isV (.pointer (some ⟨b, 0, none⟩)), isV (.pointer (some ⟨b, 0, none⟩)), isV (.pointer (some ⟨b, 6, none⟩)), isV (.pointer (some ⟨b, 14, none⟩)), isV (.pointer (some ⟨b, 15, none⟩)), isV (.int .i64 av.l.t), isV (.pointer (some ⟨y, 1, none⟩)), isV (.int .i64 sb), isV (.bool β), isV (.bool β), isV (.bool β)]
theorem tw5tF_mono (b y : Nat) (v : It) (av : Ac) (hk : Nat) (p q : Option Addr) (sa sb : Int) (β : Bool) : ∀ φ ∈ tw5tF b y v av hk p q sa sb β, Mono φ := by
  unfold tw5tF
  refine monos_cons (mono_isV _) ?_
  refine monos_cons (mono_isV _) ?_
  refine monos_cons (mono_isV _) ?_
  refine monos_cons (mono_isV _) ?_
  refine monos_cons (mono_isV _) ?_
  refine monos_cons (mono_isV _) ?_
  refine monos_cons (mono_isV _) ?_
  refine monos_cons (mono_isV _) ?_
  refine monos_cons (mono_isV _) ?_
  refine monos_cons (mono_isV _) ?_
  refine monos_cons (mono_isV _) ?_
  refine monos_cons (mono_isV _) ?_
  refine monos_cons (mono_isV _) ?_
  refine monos_cons (mono_isV _) ?_
  refine monos_cons (mono_isV _) ?_
  refine monos_cons (mono_isV _) ?_
  refine monos_cons (mono_isV _) ?_
  refine monos_cons (mono_isV _) ?_
  refine monos_cons (mono_isV _) ?_
  refine monos_cons (mono_isV _) ?_
  refine monos_cons (mono_isV _) ?_
  exact monos_nil
structure tw5tS (b y : Nat) (v : It) (av : Ac) (hk : Nat) (p q : Option Addr) (sa sb : Int) (β : Bool) (a0 : Act) (w0 : World) : Prop where
  size : a0.tmps.size = 102
  v1 : a0.tmps.getD 1 undef = .pointer (some ⟨b, 0, none⟩)
  v6 : a0.tmps.getD 6 undef = .pointer (some ⟨y, 0, none⟩)
  pb : Has w0 b 110 (prtC p v q av hk)
  bx : Has w0 y 54 #[.int .i64 sa, .int .i64 sb]
  ht : decide (sa ≤ av.f.t) = true
  hu : decide (av.l.t < sb) = β
section
variable {b y : Nat} {v : It} {av : Ac} {hk : Nat} {p q : Option Addr} {sa sb : Int} {β : Bool} {a0 : Act} {w0 : World} (S : tw5tS b y v av hk p q sa sb β a0 w0)
include S
set_option maxRecDepth 100000 in
set_option maxHeartbeats 8000000 in
theorem tw5t_ok : AllOps (fun j o => ∀ (a : Act) (w : World), Below w0.heap.size w0 w → FrD tw5tD a0 a → needs tw5tD (tw5tF b y v av hk p q sa sb β) a w o.after.toList → StepD Try.prog tw5tD (factAt (tw5tF b y v av hk p q sa sb β) j) o a w) 0 (opsOf 5 Try.f65) := by
  simp only [opsOf, Try.f65, opsAt, Option.bind, Option.or, Option.getD, reduceCtorEq, if_true, if_false, Nat.reduceEqDiff]
  refine ⟨?_, ?_⟩
  · intro _a _w _hB hF _hd
    exact step_move (guard_none rfl) rfl _ rfl ((hF.other 1 rfl).trans S.v1)
  refine ⟨?_, ?_⟩
  · intro a _w _hB _hF hd
    have h32 : a.tmps.getD 32 undef = .pointer (some ⟨b, 0, none⟩) := hd.1 rfl
    exact rf_nilck (guard_none rfl) rfl _ rfl _ h32 rfl
  refine ⟨?_, ?_⟩
  · intro a _w _hB _hF hd
    have h33 : a.tmps.getD 33 undef = .pointer (some ⟨b, 0, none⟩) := hd.1 rfl
    exact rf_faddr (guard_none rfl) rfl _ _ _ rfl _ _ 6 _ h33 (by omega) (fun _ _ => by kernel_rfl) rfl
  refine ⟨?_, ?_⟩
  · intro a _w _hB _hF hd
    have h34 : a.tmps.getD 34 undef = .pointer (some ⟨b, 6, none⟩) := hd.1 rfl
    exact rf_faddr (guard_none rfl) rfl _ _ _ rfl _ _ 4 _ h34 (by omega) (fun _ _ => by kernel_rfl) rfl
  refine ⟨?_, ?_⟩
  · intro a _w _hB _hF hd
    have h35 : a.tmps.getD 35 undef = .pointer (some ⟨b, 10, none⟩) := hd.1 rfl
    exact rf_faddr (guard_none rfl) rfl _ _ _ rfl _ _ 1 _ h35 (by omega) (fun _ _ => by kernel_rfl) rfl
  refine ⟨?_, ?_⟩
  · intro a _w hB _hF hd
    have h36 : a.tmps.getD 36 undef = .pointer (some ⟨b, 11, none⟩) := hd.1 rfl
    exact rf_loadi (guard_none rfl) rfl _ rfl _ _ h36 _ ((Has.cell (S.pb.below hB S.pb.lt) 11).trans rfl) rfl
  refine ⟨?_, ?_⟩
  · intro _a _w _hB hF _hd
    exact rf_faddr (guard_none rfl) rfl _ _ _ rfl _ _ 0 _ ((hF.other 6 rfl).trans S.v6) (by omega) (fun _ _ => by kernel_rfl) rfl
  refine ⟨?_, ?_⟩
  · intro a _w hB _hF hd
    have h38 : a.tmps.getD 38 undef = .pointer (some ⟨y, 0, none⟩) := hd.1 rfl
    exact rf_loadi (guard_none rfl) rfl _ rfl _ _ h38 _ ((Has.cell (S.bx.below hB S.bx.lt) 0).trans rfl) rfl
  refine ⟨?_, ?_⟩
  · intro a _w _hB _hF hd
    have h37 : a.tmps.getD 37 undef = .int .i64 av.f.t := hd.1 rfl
    have h39 : a.tmps.getD 39 undef = .int .i64 sa := hd.2.1 rfl
    exact rf_geq (guard_none rfl) rfl _ _ rfl _ _ h37 h39 true S.ht rfl
  refine ⟨?_, ?_⟩
  · intro a _w _hB _hF hd
    have h40 : a.tmps.getD 40 undef = .bool true := hd.1 rfl
    exact step_move (guard_none rfl) rfl _ rfl h40
  refine ⟨?_, ?_⟩
  · intro a _w _hB hF hd
    have h41 : a.tmps.getD 41 undef = .bool true := hd.1 rfl
    exact step_move (rf_open true rfl rfl h41) rfl _ rfl ((hF.other 1 rfl).trans S.v1)
  refine ⟨?_, ?_⟩
  · intro a _w _hB _hF hd
    have h41 : a.tmps.getD 41 undef = .bool true := hd.2.1 rfl
    have h42 : a.tmps.getD 42 undef = .pointer (some ⟨b, 0, none⟩) := hd.1 rfl
    exact rf_nilck (rf_open true rfl rfl h41) rfl _ rfl _ h42 rfl
  refine ⟨?_, ?_⟩
  · intro a _w _hB _hF hd
    have h41 : a.tmps.getD 41 undef = .bool true := hd.2.1 rfl
    have h43 : a.tmps.getD 43 undef = .pointer (some ⟨b, 0, none⟩) := hd.1 rfl
    exact rf_faddr (rf_open true rfl rfl h41) rfl _ _ _ rfl _ _ 6 _ h43 (by omega) (fun _ _ => by kernel_rfl) rfl
  refine ⟨?_, ?_⟩
  · intro a _w _hB _hF hd
    have h41 : a.tmps.getD 41 undef = .bool true := hd.2.1 rfl
    have h44 : a.tmps.getD 44 undef = .pointer (some ⟨b, 6, none⟩) := hd.1 rfl
    exact rf_faddr (rf_open true rfl rfl h41) rfl _ _ _ rfl _ _ 8 _ h44 (by omega) (fun _ _ => by kernel_rfl) rfl
  refine ⟨?_, ?_⟩
  · intro a _w _hB _hF hd
    have h41 : a.tmps.getD 41 undef = .bool true := hd.2.1 rfl
    have h45 : a.tmps.getD 45 undef = .pointer (some ⟨b, 14, none⟩) := hd.1 rfl
    exact rf_faddr (rf_open true rfl rfl h41) rfl _ _ _ rfl _ _ 1 _ h45 (by omega) (fun _ _ => by kernel_rfl) rfl
  refine ⟨?_, ?_⟩
  · intro a _w hB _hF hd
    have h41 : a.tmps.getD 41 undef = .bool true := hd.2.1 rfl
    have h46 : a.tmps.getD 46 undef = .pointer (some ⟨b, 15, none⟩) := hd.1 rfl
    exact rf_loadi (rf_open true rfl rfl h41) rfl _ rfl _ _ h46 _ ((Has.cell (S.pb.below hB S.pb.lt) 15).trans rfl) rfl
  refine ⟨?_, ?_⟩
  · intro a _w _hB hF hd
    have h41 : a.tmps.getD 41 undef = .bool true := hd.1 rfl
    exact rf_faddr (rf_open true rfl rfl h41) rfl _ _ _ rfl _ _ 1 _ ((hF.other 6 rfl).trans S.v6) (by omega) (fun _ _ => by kernel_rfl) rfl
  refine ⟨?_, ?_⟩
  · intro a _w hB _hF hd
    have h41 : a.tmps.getD 41 undef = .bool true := hd.2.1 rfl
    have h48 : a.tmps.getD 48 undef = .pointer (some ⟨y, 1, none⟩) := hd.1 rfl
    exact rf_loadi (rf_open true rfl rfl h41) rfl _ rfl _ _ h48 _ ((Has.cell (S.bx.below hB S.bx.lt) 1).trans rfl) rfl
  refine ⟨?_, ?_⟩
  · intro a _w _hB _hF hd
    have h41 : a.tmps.getD 41 undef = .bool true := hd.2.2.1 rfl
    have h47 : a.tmps.getD 47 undef = .int .i64 av.l.t := hd.1 rfl
    have h49 : a.tmps.getD 49 undef = .int .i64 sb := hd.2.1 rfl
    exact rf_lss (rf_open true rfl rfl h41) rfl _ _ rfl _ _ h47 h49 β S.hu rfl
  refine ⟨?_, ?_⟩
  · intro a _w _hB _hF hd
    have h41 : a.tmps.getD 41 undef = .bool true := hd.1 rfl
    have h50 : a.tmps.getD 50 undef = .bool β := hd.2.1 rfl
    exact rf_pick (guard_none rfl) rfl _ _ _ rfl true h41 h50
  refine ⟨?_, ?_⟩
  · intro a _w _hB _hF hd
    have h51 : a.tmps.getD 51 undef = .bool β := hd.1 rfl
    exact step_assign (guard_none rfl) rfl _ rfl h51
  trivial
theorem tw5t_any {Q : Exit → Act → World → Prop} {l : List Oper} (hl : opsOf 5 Try.f65 = l) (hend : ∀ w : World, Below w0.heap.size w0 w → Q .normal (putAll a0 [(32, .pointer (some ⟨b, 0, none⟩)), (33, .pointer (some ⟨b, 0, none⟩)), (34, .pointer (some ⟨b, 6, none⟩)), (35, .pointer (some ⟨b, 10, none⟩)), (36, .pointer (some ⟨b, 11, none⟩)), (37, .int .i64 av.f.t), (38, .pointer (some ⟨y, 0, none⟩)), (39, .int .i64 sa), (40, .bool true), (41, .bool true), (42, .pointer (some ⟨b, 0, none⟩)), (43, .pointer (some ⟨b, 0, none⟩)), (44, .pointer (some ⟨b, 6, none⟩)), (45, .pointer (some ⟨b, 14, none⟩)), (46, .pointer (some ⟨b, 15, none⟩)), (47, .int .i64 av.l.t), (48, .pointer (some ⟨y, 1, none⟩)), (49, .int .i64 sb), (50, .bool β), (51, .bool β), (31, .bool β)]) w) :
    (Code.region 5 l.toArray true).wp Try.prog Q a0 w0 := by
  subst hl
  refine region_facts2 (tw5tF b y v av hk p q sa sb β) tw5tD 102 S.size rfl (by kernel_rfl) (by kernel_rfl) (tw5tF_mono _ _ _ _ _ _ _ _ _ _) (tw5t_ok S) fun a w hB hF h => ?_
  have hv : valsAre a [(32, .pointer (some ⟨b, 0, none⟩)), (33, .pointer (some ⟨b, 0, none⟩)), (34, .pointer (some ⟨b, 6, none⟩)), (35, .pointer (some ⟨b, 10, none⟩)), (36, .pointer (some ⟨b, 11, none⟩)), (37, .int .i64 av.f.t), (38, .pointer (some ⟨y, 0, none⟩)), (39, .int .i64 sa), (40, .bool true), (41, .bool true), (42, .pointer (some ⟨b, 0, none⟩)), (43, .pointer (some ⟨b, 0, none⟩)), (44, .pointer (some ⟨b, 6, none⟩)), (45, .pointer (some ⟨b, 14, none⟩)), (46, .pointer (some ⟨b, 15, none⟩)), (47, .int .i64 av.l.t), (48, .pointer (some ⟨y, 1, none⟩)), (49, .int .i64 sb), (50, .bool β), (51, .bool β), (31, .bool β)] := by
    refine ⟨?_, ?_, ?_, ?_, ?_, ?_, ?_, ?_, ?_, ?_, ?_, ?_, ?_, ?_, ?_, ?_, ?_, ?_, ?_, ?_, ?_, trivial⟩
    · exact h 0 (some 32) rfl
    · exact h 1 (some 33) rfl
    · exact h 2 (some 34) rfl
    · exact h 3 (some 35) rfl
    · exact h 4 (some 36) rfl
    · exact h 5 (some 37) rfl
    · exact h 6 (some 38) rfl
    · exact h 7 (some 39) rfl
    · exact h 8 (some 40) rfl
    · exact h 9 (some 41) rfl
    · exact h 10 (some 42) rfl
    · exact h 11 (some 43) rfl
    · exact h 12 (some 44) rfl
    · exact h 13 (some 45) rfl
    · exact h 14 (some 46) rfl
    · exact h 15 (some 47) rfl
    · exact h 16 (some 48) rfl
    · exact h 17 (some 49) rfl
    · exact h 18 (some 50) rfl
    · exact h 19 (some 51) rfl
    · exact h 20 (some 31) rfl
  rw [frame_is hF _ hv (by rfl) (by rfl)]
  exact hend w hB
end

def tw8fD : List (Option Tmp) := [some 67, some 68, some 69, some 70, some 71, some 72, some 73, some 74, some 75, some 76, some 77, some 78, some 79, some 80, some 81, some 82, some 83, some 84]
def tw8fF (b y : Nat) (v : It) (_av : Ac) (_hk : Nat) (_p _q : Option Addr) (sa _sb : Int) : List Fact := [isV (.pointer (some ⟨b, 0, none⟩)), isV (.pointer (some ⟨b, 0, none⟩)), isV (.pointer (some ⟨b, 1, none⟩)), isV (.pointer (some ⟨b, 2, none⟩)), isV (.int .i64 v.t), isV (.pointer (some ⟨y, 0, none⟩)), isV (.int .i64 sa), isV (.bool false), isV (.bool false), isV (undef), isV (undef), isV (undef), isV (undef), isV (undef), isV (undef), isV (undef), isV (undef), isV (.bool false)]
theorem tw8fF_mono (b y : Nat) (v : It) (av : Ac) (hk : Nat) (p q : Option Addr) (sa sb : Int) : ∀ φ ∈ tw8fF b y v av hk p q sa sb, Mono φ := by
  unfold tw8fF
  refine monos_cons (mono_isV _) ?_
  refine monos_cons (mono_isV _) ?_
  refine monos_cons (mono_isV _) ?_
  refine monos_cons (mono_isV _) ?_
  refine monos_cons (mono_isV _) ?_
  refine monos_cons (mono_isV _) ?_
  refine monos_cons (mono_isV _) ?_
  refine monos_cons (mono_isV _) ?_
  refine monos_cons (mono_isV _) ?_
  refine monos_cons (mono_isV _) ?_
  refine monos_cons (mono_isV _) ?_
  refine monos_cons (mono_isV _) ?_
  refine monos_cons (mono_isV _) ?_
  refine monos_cons (mono_isV _) ?_
  refine monos_cons (mono_isV _) ?_
  refine monos_cons (mono_isV _) ?_
  refine monos_cons (mono_isV _) ?_
  refine monos_cons (mono_isV _) ?_
  exact monos_nil
structure tw8fS (b y : Nat) (v : It) (av : Ac) (hk : Nat) (p q : Option Addr) (sa sb : Int) (a0 : Act) (w0 : World) : Prop where
  size : a0.tmps.size = 102
  v1 : a0.tmps.getD 1 undef = .pointer (some ⟨b, 0, none⟩)
  v6 : a0.tmps.getD 6 undef = .pointer (some ⟨y, 0, none⟩)
  pb : Has w0 b 110 (prtC p v q av hk)
  bx : Has w0 y 54 #[.int .i64 sa, .int .i64 sb]
  ht : decide (sa ≤ v.t) = false
section
variable {b y : Nat} {v : It} {av : Ac} {hk : Nat} {p q : Option Addr} {sa sb : Int} {a0 : Act} {w0 : World} (S : tw8fS b y v av hk p q sa sb a0 w0)
include S
set_option maxRecDepth 100000 in
set_option maxHeartbeats 8000000 in
theorem tw8f_ok : AllOps (fun j o => ∀ (a : Act) (w : World), Below w0.heap.size w0 w → FrD tw8fD a0 a → needs tw8fD (tw8fF b y v av hk p q sa sb) a w o.after.toList → StepD Try.prog tw8fD (factAt (tw8fF b y v av hk p q sa sb) j) o a w) 0 (opsOf 8 Try.f65) := by
  simp only [opsOf, Try.f65, opsAt, Option.bind, Option.or, Option.getD, reduceCtorEq, if_true, if_false, Nat.reduceEqDiff]
  refine ⟨?_, ?_⟩
  · intro _a _w _hB hF _hd
    exact step_move (guard_none rfl) rfl _ rfl ((hF.other 1 rfl).trans S.v1)
  refine ⟨?_, ?_⟩
  · intro a _w _hB _hF hd
    have h67 : a.tmps.getD 67 undef = .pointer (some ⟨b, 0, none⟩) := hd.1 rfl
    exact rf_nilck (guard_none rfl) rfl _ rfl _ h67 rfl
  refine ⟨?_, ?_⟩
  · intro a _w _hB _hF hd
    have h68 : a.tmps.getD 68 undef = .pointer (some ⟨b, 0, none⟩) := hd.1 rfl
    exact rf_faddr (guard_none rfl) rfl _ _ _ rfl _ _ 1 _ h68 (by omega) (fun _ _ => by kernel_rfl) rfl
  refine ⟨?_, ?_⟩
  · intro a _w _hB _hF hd
    have h69 : a.tmps.getD 69 undef = .pointer (some ⟨b, 1, none⟩) := hd.1 rfl
    exact rf_faddr (guard_none rfl) rfl _ _ _ rfl _ _ 1 _ h69 (by omega) (fun _ _ => by kernel_rfl) rfl
  refine ⟨?_, ?_⟩
  · intro a _w hB _hF hd
    have h70 : a.tmps.getD 70 undef = .pointer (some ⟨b, 2, none⟩) := hd.1 rfl
    exact rf_loadi (guard_none rfl) rfl _ rfl _ _ h70 _ ((Has.cell (S.pb.below hB S.pb.lt) 2).trans rfl) rfl
  refine ⟨?_, ?_⟩
  · intro _a _w _hB hF _hd
    exact rf_faddr (guard_none rfl) rfl _ _ _ rfl _ _ 0 _ ((hF.other 6 rfl).trans S.v6) (by omega) (fun _ _ => by kernel_rfl) rfl
  refine ⟨?_, ?_⟩
  · intro a _w hB _hF hd
    have h72 : a.tmps.getD 72 undef = .pointer (some ⟨y, 0, none⟩) := hd.1 rfl
    exact rf_loadi (guard_none rfl) rfl _ rfl _ _ h72 _ ((Has.cell (S.bx.below hB S.bx.lt) 0).trans rfl) rfl
  refine ⟨?_, ?_⟩
  · intro a _w _hB _hF hd
    have h71 : a.tmps.getD 71 undef = .int .i64 v.t := hd.1 rfl
    have h73 : a.tmps.getD 73 undef = .int .i64 sa := hd.2.1 rfl
    exact rf_geq (guard_none rfl) rfl _ _ rfl _ _ h71 h73 false S.ht rfl
  refine ⟨?_, ?_⟩
  · intro a _w _hB _hF hd
    have h74 : a.tmps.getD 74 undef = .bool false := hd.1 rfl
    exact step_move (guard_none rfl) rfl _ rfl h74
  refine ⟨?_, ?_⟩
  · intro a _w _hB _hF hd
    have h75 : a.tmps.getD 75 undef = .bool false := hd.1 rfl
    exact rf_shut true rfl rfl h75 rfl
  refine ⟨?_, ?_⟩
  · intro a _w _hB _hF hd
    have h75 : a.tmps.getD 75 undef = .bool false := hd.2.1 rfl
    exact rf_shut true rfl rfl h75 rfl
  refine ⟨?_, ?_⟩
  · intro a _w _hB _hF hd
    have h75 : a.tmps.getD 75 undef = .bool false := hd.2.1 rfl
    exact rf_shut true rfl rfl h75 rfl
  refine ⟨?_, ?_⟩
  · intro a _w _hB _hF hd
    have h75 : a.tmps.getD 75 undef = .bool false := hd.2.1 rfl
    exact rf_shut true rfl rfl h75 rfl
  refine ⟨?_, ?_⟩
  · intro a _w _hB _hF hd
    have h75 : a.tmps.getD 75 undef = .bool false := hd.2.1 rfl
    exact rf_shut true rfl rfl h75 rfl
  refine ⟨?_, ?_⟩
  · intro a _w _hB _hF hd
    have h75 : a.tmps.getD 75 undef = .bool false := hd.1 rfl
    exact rf_shut true rfl rfl h75 rfl
  refine ⟨?_, ?_⟩
  · intro a _w _hB _hF hd
    have h75 : a.tmps.getD 75 undef = .bool false := hd.2.1 rfl
    exact rf_shut true rfl rfl h75 rfl
  refine ⟨?_, ?_⟩
  · intro a _w _hB _hF hd
    have h75 : a.tmps.getD 75 undef = .bool false := hd.2.2.1 rfl
    exact rf_shut true rfl rfl h75 rfl
  refine ⟨?_, ?_⟩
  · intro a _w _hB _hF hd
    have h75 : a.tmps.getD 75 undef = .bool false := hd.1 rfl
    exact rf_pick (guard_none rfl) rfl _ _ _ rfl false h75 rfl
  trivial
theorem tw8f_any {Q : Exit → Act → World → Prop} {l : List Oper} (hl : opsOf 8 Try.f65 = l) (hend : ∀ w : World, Below w0.heap.size w0 w → Q .normal (putAll a0 [(67, .pointer (some ⟨b, 0, none⟩)), (68, .pointer (some ⟨b, 0, none⟩)), (69, .pointer (some ⟨b, 1, none⟩)), (70, .pointer (some ⟨b, 2, none⟩)), (71, .int .i64 v.t), (72, .pointer (some ⟨y, 0, none⟩)), (73, .int .i64 sa), (74, .bool false), (75, .bool false), (76, undef), (77, undef), (78, undef), (79, undef), (80, undef), (81, undef), (82, undef), (83, undef), (84, .bool false)]) w) :
    (Code.region 8 l.toArray true).wp Try.prog Q a0 w0 := by
  subst hl
  refine region_facts2 (tw8fF b y v av hk p q sa sb) tw8fD 102 S.size rfl (by kernel_rfl) (by kernel_rfl) (tw8fF_mono _ _ _ _ _ _ _ _ _) (tw8f_ok S) fun a w hB hF h => ?_
  have hv : valsAre a [(67, .pointer (some ⟨b, 0, none⟩)), (68, .pointer (some ⟨b, 0, none⟩)), (69, .pointer (some ⟨b, 1, none⟩)), (70, .pointer (some ⟨b, 2, none⟩)), (71, .int .i64 v.t), (72, .pointer (some ⟨y, 0, none⟩)), (73, .int .i64 sa), (74, .bool false), (75, .bool false), (76, undef), (77, undef), (78, undef), (79, undef), (80, undef), (81, undef), (82, undef), (83, undef), (84, .bool false)] := by
    refine ⟨?_, ?_, ?_, ?_, ?_, ?_, ?_, ?_, ?_, ?_, ?_, ?_, ?_, ?_, ?_, ?_, ?_, ?_, trivial⟩
    · exact h 0 (some 67) rfl
    · exact h 1 (some 68) rfl
    · exact h 2 (some 69) rfl
    · exact h 3 (some 70) rfl
    · exact h 4 (some 71) rfl
    · exact h 5 (some 72) rfl
    · exact h 6 (some 73) rfl
    · exact h 7 (some 74) rfl
    · exact h 8 (some 75) rfl
    · exact h 9 (some 76) rfl
    · exact h 10 (some 77) rfl
    · exact h 11 (some 78) rfl
    · exact h 12 (some 79) rfl
    · exact h 13 (some 80) rfl
    · exact h 14 (some 81) rfl
    · exact h 15 (some 82) rfl
    · exact h 16 (some 83) rfl
    · exact h 17 (some 84) rfl
  rw [frame_is hF _ hv (by rfl) (by rfl)]
  exact hend w hB
end

def tw8tD : List (Option Tmp) := [some 67, some 68, some 69, some 70, some 71, some 72, some 73, some 74, some 75, some 76, some 77, some 78, some 79, some 80, some 81, some 82, some 83, some 84]
def tw8tF (b y : Nat) (v : It) (_av : Ac) (_hk : Nat) (_p _q : Option Addr) (sa sb : Int) (β : Bool) : List Fact := [isV (.pointer (some ⟨b, 0, none⟩)), isV (.pointer (some ⟨b, 0, none⟩)), isV (.pointer (some ⟨b, 1, none⟩)), isV (.pointer (some ⟨b, 2, none⟩)), isV (.int .i64 v.t), isV (.pointer (some ⟨y, 0, none⟩)), isV (.int .i64 sa), isV (.bool true), isV (.bool true), isV (.pointer (some ⟨b, 0, none⟩)), isV (.pointer (some ⟨b, 0, none⟩)), isV (.pointer (some ⟨b, 1, none⟩)), isV (.pointer (some ⟨b, 2, none⟩)), isV (.int .i64 v.t), isV (.pointer (some ⟨y, 1, none⟩)), isV (.int .i64 sb), isV (.bool β), isV (.bool β)]
theorem tw8tF_mono (b y : Nat) (v : It) (av : Ac) (hk : Nat) (p q : Option Addr) (sa sb : Int) (β : Bool) : ∀ φ ∈ tw8tF b y v av hk p q sa sb β, Mono φ := by
  unfold tw8tF
  refine monos_cons (mono_isV _) ?_
  refine monos_cons (mono_isV _) ?_
  refine monos_cons (mono_isV _) ?_
  refine monos_cons (mono_isV _) ?_
  refine monos_cons (mono_isV _) ?_
  refine monos_cons (mono_isV _) ?_
  refine monos_cons (mono_isV _) ?_
  refine monos_cons (mono_isV _) ?_
  refine monos_cons (mono_isV _) ?_
  refine monos_cons (mono_isV _) ?_
  refine monos_cons (mono_isV _) ?_
  refine monos_cons (mono_isV _) ?_
  refine monos_cons (mono_isV _) ?_
  refine monos_cons (mono_isV _) ?_
  refine monos_cons (mono_isV _) ?_
  refine monos_cons (mono_isV _) ?_
  refine monos_cons (mono_isV _) ?_
  refine monos_cons (mono_isV _) ?_
  exact monos_nil
structure tw8tS (b y : Nat) (v : It) (av : Ac) (hk : Nat) (p q : Option Addr) (sa sb : Int) (β : Bool) (a0 : Act) (w0 : World) : Prop where
  size : a0.tmps.size = 102
  v1 : a0.tmps.getD 1 undef = .pointer (some ⟨b, 0, none⟩)
  v6 : a0.tmps.getD 6 undef = .pointer (some ⟨y, 0, none⟩)
  pb : Has w0 b 110 (prtC p v q av hk)
  bx : Has w0 y 54 #[.int .i64 sa, .int .i64 sb]
  ht : decide (sa ≤ v.t) = true
  hu : decide (v.t < sb) = β
section
variable {b y : Nat} {v : It} {av : Ac} {hk : Nat} {p q : Option Addr} {sa sb : Int} {β : Bool} {a0 : Act} {w0 : World} (S : tw8tS b y v av hk p q sa sb β a0 w0)
include S
set_option maxRecDepth 100000 in
set_option maxHeartbeats 8000000 in
theorem tw8t_ok : AllOps (fun j o => ∀ (a : Act) (w : World), Below w0.heap.size w0 w → FrD tw8tD a0 a → needs tw8tD (tw8tF b y v av hk p q sa sb β) a w o.after.toList → StepD Try.prog tw8tD (factAt (tw8tF b y v av hk p q sa sb β) j) o a w) 0 (opsOf 8 Try.f65) := by
  simp only [opsOf, Try.f65, opsAt, Option.bind, Option.or, Option.getD, reduceCtorEq, if_true, if_false, Nat.reduceEqDiff]
  refine ⟨?_, ?_⟩
  · intro _a _w _hB hF _hd
    exact step_move (guard_none rfl) rfl _ rfl ((hF.other 1 rfl).trans S.v1)
  refine ⟨?_, ?_⟩
  · intro a _w _hB _hF hd
    have h67 : a.tmps.getD 67 undef = .pointer (some ⟨b, 0, none⟩) := hd.1 rfl
    exact rf_nilck (guard_none rfl) rfl _ rfl _ h67 rfl
  refine ⟨?_, ?_⟩
  · intro a _w _hB _hF hd
    have h68 : a.tmps.getD 68 undef = .pointer (some ⟨b, 0, none⟩) := hd.1 rfl
    exact rf_faddr (guard_none rfl) rfl _ _ _ rfl _ _ 1 _ h68 (by omega) (fun _ _ => by kernel_rfl) rfl
  refine ⟨?_, ?_⟩
  · intro a _w _hB _hF hd
    have h69 : a.tmps.getD 69 undef = .pointer (some ⟨b, 1, none⟩) := hd.1 rfl
    exact rf_faddr (guard_none rfl) rfl _ _ _ rfl _ _ 1 _ h69 (by omega) (fun _ _ => by kernel_rfl) rfl
  refine ⟨?_, ?_⟩
  · intro a _w hB _hF hd
    have h70 : a.tmps.getD 70 undef = .pointer (some ⟨b, 2, none⟩) := hd.1 rfl
    exact rf_loadi (guard_none rfl) rfl _ rfl _ _ h70 _ ((Has.cell (S.pb.below hB S.pb.lt) 2).trans rfl) rfl
  refine ⟨?_, ?_⟩
  · intro _a _w _hB hF _hd
    exact rf_faddr (guard_none rfl) rfl _ _ _ rfl _ _ 0 _ ((hF.other 6 rfl).trans S.v6) (by omega) (fun _ _ => by kernel_rfl) rfl
  refine ⟨?_, ?_⟩
  · intro a _w hB _hF hd
    have h72 : a.tmps.getD 72 undef = .pointer (some ⟨y, 0, none⟩) := hd.1 rfl
    exact rf_loadi (guard_none rfl) rfl _ rfl _ _ h72 _ ((Has.cell (S.bx.below hB S.bx.lt) 0).trans rfl) rfl
  refine ⟨?_, ?_⟩
  · intro a _w _hB _hF hd
    have h71 : a.tmps.getD 71 undef = .int .i64 v.t := hd.1 rfl
    have h73 : a.tmps.getD 73 undef = .int .i64 sa := hd.2.1 rfl
    exact rf_geq (guard_none rfl) rfl _ _ rfl _ _ h71 h73 true S.ht rfl
  refine ⟨?_, ?_⟩
  · intro a _w _hB _hF hd
    have h74 : a.tmps.getD 74 undef = .bool true := hd.1 rfl
    exact step_move (guard_none rfl) rfl _ rfl h74
  refine ⟨?_, ?_⟩
  · intro a _w _hB hF hd
    have h75 : a.tmps.getD 75 undef = .bool true := hd.1 rfl
    exact step_move (rf_open true rfl rfl h75) rfl _ rfl ((hF.other 1 rfl).trans S.v1)
  refine ⟨?_, ?_⟩
  · intro a _w _hB _hF hd
    have h75 : a.tmps.getD 75 undef = .bool true := hd.2.1 rfl
    have h76 : a.tmps.getD 76 undef = .pointer (some ⟨b, 0, none⟩) := hd.1 rfl
    exact rf_nilck (rf_open true rfl rfl h75) rfl _ rfl _ h76 rfl
  refine ⟨?_, ?_⟩
  · intro a _w _hB _hF hd
    have h75 : a.tmps.getD 75 undef = .bool true := hd.2.1 rfl
    have h77 : a.tmps.getD 77 undef = .pointer (some ⟨b, 0, none⟩) := hd.1 rfl
    exact rf_faddr (rf_open true rfl rfl h75) rfl _ _ _ rfl _ _ 1 _ h77 (by omega) (fun _ _ => by kernel_rfl) rfl
  refine ⟨?_, ?_⟩
  · intro a _w _hB _hF hd
    have h75 : a.tmps.getD 75 undef = .bool true := hd.2.1 rfl
    have h78 : a.tmps.getD 78 undef = .pointer (some ⟨b, 1, none⟩) := hd.1 rfl
    exact rf_faddr (rf_open true rfl rfl h75) rfl _ _ _ rfl _ _ 1 _ h78 (by omega) (fun _ _ => by kernel_rfl) rfl
  refine ⟨?_, ?_⟩
  · intro a _w hB _hF hd
    have h75 : a.tmps.getD 75 undef = .bool true := hd.2.1 rfl
    have h79 : a.tmps.getD 79 undef = .pointer (some ⟨b, 2, none⟩) := hd.1 rfl
    exact rf_loadi (rf_open true rfl rfl h75) rfl _ rfl _ _ h79 _ ((Has.cell (S.pb.below hB S.pb.lt) 2).trans rfl) rfl
  refine ⟨?_, ?_⟩
  · intro a _w _hB hF hd
    have h75 : a.tmps.getD 75 undef = .bool true := hd.1 rfl
    exact rf_faddr (rf_open true rfl rfl h75) rfl _ _ _ rfl _ _ 1 _ ((hF.other 6 rfl).trans S.v6) (by omega) (fun _ _ => by kernel_rfl) rfl
  refine ⟨?_, ?_⟩
  · intro a _w hB _hF hd
    have h75 : a.tmps.getD 75 undef = .bool true := hd.2.1 rfl
    have h81 : a.tmps.getD 81 undef = .pointer (some ⟨y, 1, none⟩) := hd.1 rfl
    exact rf_loadi (rf_open true rfl rfl h75) rfl _ rfl _ _ h81 _ ((Has.cell (S.bx.below hB S.bx.lt) 1).trans rfl) rfl
  refine ⟨?_, ?_⟩
  · intro a _w _hB _hF hd
    have h75 : a.tmps.getD 75 undef = .bool true := hd.2.2.1 rfl
    have h80 : a.tmps.getD 80 undef = .int .i64 v.t := hd.1 rfl
    have h82 : a.tmps.getD 82 undef = .int .i64 sb := hd.2.1 rfl
    exact rf_lss (rf_open true rfl rfl h75) rfl _ _ rfl _ _ h80 h82 β S.hu rfl
  refine ⟨?_, ?_⟩
  · intro a _w _hB _hF hd
    have h75 : a.tmps.getD 75 undef = .bool true := hd.1 rfl
    have h83 : a.tmps.getD 83 undef = .bool β := hd.2.1 rfl
    exact rf_pick (guard_none rfl) rfl _ _ _ rfl true h75 h83
  trivial
theorem tw8t_any {Q : Exit → Act → World → Prop} {l : List Oper} (hl : opsOf 8 Try.f65 = l) (hend : ∀ w : World, Below w0.heap.size w0 w → Q .normal (putAll a0 [(67, .pointer (some ⟨b, 0, none⟩)), (68, .pointer (some ⟨b, 0, none⟩)), (69, .pointer (some ⟨b, 1, none⟩)), (70, .pointer (some ⟨b, 2, none⟩)), (71, .int .i64 v.t), (72, .pointer (some ⟨y, 0, none⟩)), (73, .int .i64 sa), (74, .bool true), (75, .bool true), (76, .pointer (some ⟨b, 0, none⟩)), (77, .pointer (some ⟨b, 0, none⟩)), (78, .pointer (some ⟨b, 1, none⟩)), (79, .pointer (some ⟨b, 2, none⟩)), (80, .int .i64 v.t), (81, .pointer (some ⟨y, 1, none⟩)), (82, .int .i64 sb), (83, .bool β), (84, .bool β)]) w) :
    (Code.region 8 l.toArray true).wp Try.prog Q a0 w0 := by
  subst hl
  refine region_facts2 (tw8tF b y v av hk p q sa sb β) tw8tD 102 S.size rfl (by kernel_rfl) (by kernel_rfl) (tw8tF_mono _ _ _ _ _ _ _ _ _ _) (tw8t_ok S) fun a w hB hF h => ?_
  have hv : valsAre a [(67, .pointer (some ⟨b, 0, none⟩)), (68, .pointer (some ⟨b, 0, none⟩)), (69, .pointer (some ⟨b, 1, none⟩)), (70, .pointer (some ⟨b, 2, none⟩)), (71, .int .i64 v.t), (72, .pointer (some ⟨y, 0, none⟩)), (73, .int .i64 sa), (74, .bool true), (75, .bool true), (76, .pointer (some ⟨b, 0, none⟩)), (77, .pointer (some ⟨b, 0, none⟩)), (78, .pointer (some ⟨b, 1, none⟩)), (79, .pointer (some ⟨b, 2, none⟩)), (80, .int .i64 v.t), (81, .pointer (some ⟨y, 1, none⟩)), (82, .int .i64 sb), (83, .bool β), (84, .bool β)] := by
    refine ⟨?_, ?_, ?_, ?_, ?_, ?_, ?_, ?_, ?_, ?_, ?_, ?_, ?_, ?_, ?_, ?_, ?_, ?_, trivial⟩
    · exact h 0 (some 67) rfl
    · exact h 1 (some 68) rfl
    · exact h 2 (some 69) rfl
    · exact h 3 (some 70) rfl
    · exact h 4 (some 71) rfl
    · exact h 5 (some 72) rfl
    · exact h 6 (some 73) rfl
    · exact h 7 (some 74) rfl
    · exact h 8 (some 75) rfl
    · exact h 9 (some 76) rfl
    · exact h 10 (some 77) rfl
    · exact h 11 (some 78) rfl
    · exact h 12 (some 79) rfl
    · exact h 13 (some 80) rfl
    · exact h 14 (some 81) rfl
    · exact h 15 (some 82) rfl
    · exact h 16 (some 83) rfl
    · exact h 17 (some 84) rfl
  rw [frame_is hF _ hv (by rfl) (by rfl)]
  exact hend w hB
end

def tw7D : List (Option Tmp) := [some 59, some 60, some 61, some 62, some 63, some 64, some 65, some 66, some 3]
def tw7F (g : Nat) (b _y : Nat) (_v : It) (_av : Ac) (_hk : Nat) (p _q : Option Addr) (sa sb : Int) (vo : Value) (base z : Nat) (ps : List (Ac × Nat)) (R : List Ac) : List Fact := [isV (.pointer (some ⟨g, 0, none⟩)), isV (.pointer (some ⟨b, 0, none⟩)), isV (.pointer (some ⟨b, 0, none⟩)), isV (.pointer (some ⟨b, 0, none⟩)), isV (.pointer p), isV (.agg #[.int .i64 sa, .int .i64 sb]), isV (vo), accsB base ps R vo z]
theorem tw7F_mono (g : Nat) (b y : Nat) (v : It) (av : Ac) (hk : Nat) (p q : Option Addr) (sa sb : Int) (vo : Value) (base z : Nat) (ps : List (Ac × Nat)) (R : List Ac) : ∀ φ ∈ tw7F g b y v av hk p q sa sb vo base z ps R, Mono φ := by
  unfold tw7F
  repeat (first | exact monos_nil | (refine monos_cons (mono_isV _) ?_) | (refine monos_cons (accsB_mono _ _ _ _ _) ?_))
structure tw7S (g : Nat) (b y : Nat) (v : It) (av : Ac) (hk : Nat) (p q : Option Addr) (sa sb : Int) (vo : Value) (base z : Nat) (ps : List (Ac × Nat)) (R : List Ac) (a0 : Act) (w0 : World) : Prop where
  size : a0.tmps.size = 102
  v0 : a0.tmps.getD 0 undef = .pointer (some ⟨g, 0, none⟩)
  v1 : a0.tmps.getD 1 undef = .pointer (some ⟨b, 0, none⟩)
  v3 : a0.tmps.getD 3 undef = vo
  v6 : a0.tmps.getD 6 undef = .pointer (some ⟨y, 0, none⟩)
  pb : Has w0 b 110 (prtC p v q av hk)
  fpb : vo.ownBlock ≠ some b
  bx : Has w0 y 54 #[.int .i64 sa, .int .i64 sb]
  fbx : vo.ownBlock ≠ some y
  c1 : ∀ w, ButO (slB vo) w0 w → Own w base vo ps → Calls Try.prog 65 #[.pointer (some ⟨g, 0, none⟩), .pointer p, .agg #[.int .i64 sa, .int .i64 sb], vo] w fun e w1 => ∃ v1, e = .returned v1 ∧ (∃ qs, Own w1 base v1 (ps ++ qs) ∧ qs.map (·.1) = R) ∧ ButO (slB vo) w w1 ∧ ∀ k, v1.ownBlock = some k → vo.ownBlock = some k ∨ z ≤ k
  jb : ∀ w w1 : World, (fun w => Own w base vo ps) w → Below w.heap.size w w1 → (fun w => Own w base vo ps) w1
  j0 : (fun w => Own w base vo ps) w0.drew
section
variable {g : Nat} {b y : Nat} {v : It} {av : Ac} {hk : Nat} {p q : Option Addr} {sa sb : Int} {vo : Value} {base z : Nat} {ps : List (Ac × Nat)} {R : List Ac} {a0 : Act} {w0 : World} (S : tw7S g b y v av hk p q sa sb vo base z ps R a0 w0)
include S
set_option maxRecDepth 100000 in
set_option maxHeartbeats 8000000 in
theorem tw7_ok : AllOps (fun j o => ∀ (a : Act) (w : World) (b1 b2 : Bool), (j = 7 → b1 = false ∧ b2 = false) → (j = 1000 → b1 = true ∧ b2 = false) → OI vo (fun w => Own w base vo ps) w0 b1 b2 w → FrD (tw7D.take 8) a0 a → needs tw7D (tw7F g b y v av hk p q sa sb vo base z ps R) a w o.after.toList → AskM Try.prog tw7D (factAt (tw7F g b y v av hk p q sa sb vo base z ps R) j) (ButO (slB vo)) (fun w w1 => w = w1) (OI vo (fun w => Own w base vo ps) w0) 7 1000 j o a w) 0 ((opsOf 7 Try.f65).take 8) := by
  simp only [opsOf, Try.f65, opsAt, Option.bind, Option.or, Option.getD, reduceCtorEq, if_true, if_false, Nat.reduceEqDiff, List.take_succ_cons, List.take_zero]
  refine ⟨?_, ?_⟩
  · intro _a _w _b1 _b2 _h1 _h2 _hI hF _hd
    refine askM_d (by decide) (by decide) ?_
    exact step_move (guard_none rfl) rfl _ rfl ((hF.other 0 rfl).trans S.v0)
  refine ⟨?_, ?_⟩
  · intro _a _w _b1 _b2 _h1 _h2 _hI hF _hd
    refine askM_d (by decide) (by decide) ?_
    exact step_move (guard_none rfl) rfl _ rfl ((hF.other 1 rfl).trans S.v1)
  refine ⟨?_, ?_⟩
  · intro a _w _b1 _b2 _h1 _h2 _hI _hF hd
    refine askM_d (by decide) (by decide) ?_
    have h60 : a.tmps.getD 60 undef = .pointer (some ⟨b, 0, none⟩) := hd.1 rfl
    exact rf_nilck (guard_none rfl) rfl _ rfl _ h60 rfl
  refine ⟨?_, ?_⟩
  · intro a _w _b1 _b2 _h1 _h2 _hI _hF hd
    refine askM_d (by decide) (by decide) ?_
    have h61 : a.tmps.getD 61 undef = .pointer (some ⟨b, 0, none⟩) := hd.1 rfl
    exact rf_faddr (guard_none rfl) rfl _ _ _ rfl _ _ 0 _ h61 (by omega) (fun _ _ => by kernel_rfl) rfl
  refine ⟨?_, ?_⟩
  · intro a _w _b1 _b2 _h1 _h2 hI _hF hd
    refine askM_d (by decide) (by decide) ?_
    have hB := hI.1
    have h62 : a.tmps.getD 62 undef = .pointer (some ⟨b, 0, none⟩) := hd.1 rfl
    exact rf_load1 (guard_none rfl) rfl _ _ rfl _ _ h62 (run_ldPart ((Has.cell (S.pb.butB hB S.fpb) 0).trans rfl)) rfl
  refine ⟨?_, ?_⟩
  · intro _a _w _b1 _b2 _h1 _h2 hI hF _hd
    refine askM_d (by decide) (by decide) ?_
    have hB := hI.1
    exact rf_loadS (guard_none rfl) rfl _ _ rfl _ _ ((hF.other 6 rfl).trans S.v6) _ (rf_range (S.bx.butB hB S.fbx)) Try.underlying54 rfl (by kernel_rfl) rfl
  refine ⟨?_, ?_⟩
  · intro _a _w _b1 _b2 _h1 _h2 _hI hF _hd
    refine askM_d (by decide) (by decide) ?_
    exact step_move (guard_none rfl) rfl _ rfl ((hF.other 3 rfl).trans S.v3)
  refine ⟨?_, ?_⟩
  · intro a w _b1 _b2 h1 _h2 hI _hF hd
    obtain ⟨rfl, rfl⟩ := h1 rfl
    refine askM_1 rfl ?_
    have h59 : a.tmps.getD 59 undef = .pointer (some ⟨g, 0, none⟩) := hd.1 rfl
    have h63 : a.tmps.getD 63 undef = .pointer p := hd.2.1 rfl
    have h64 : a.tmps.getD 64 undef = .agg #[.int .i64 sa, .int .i64 sb] := hd.2.2.1 rfl
    have h65 : a.tmps.getD 65 undef = vo := hd.2.2.2.1 rfl
    refine stepL_call (guard_none rfl) rfl _ _ (rf_call_run Try.func65 (by kernel_rfl) (by kernel_rfl) _ _ rfl) ?_
    simp only [List.map_toArray, List.map_cons, List.map_nil, Act.eval, h59, h63, h64, h65]
    exact (S.c1 w hI.1 (hI.2 rfl)).mono (by rintro e w1 ⟨v1, rfl, ho, hb, hs⟩; exact ⟨_, rfl, hb, ⟨hI.1.tr hb, fun h => by cases h⟩, v1, rfl, ho, hs⟩)
  trivial
set_option maxRecDepth 100000 in
theorem tw7_any {Q : Exit → Act → World → Prop} {l : List Oper} (hl : opsOf 7 Try.f65 = l) (hend : ∀ (v66 : Value), ∀ w : World, OI vo (fun w => Own w base vo ps) w0 true false w → ((∃ qs, Own w base v66 (ps ++ qs) ∧ qs.map (·.1) = R) ∧ ∀ k, v66.ownBlock = some k → vo.ownBlock = some k ∨ z ≤ k) → wpList Try.prog l.toArray Q (l.drop 8) (putAll a0 [(59, .pointer (some ⟨g, 0, none⟩)), (60, .pointer (some ⟨b, 0, none⟩)), (61, .pointer (some ⟨b, 0, none⟩)), (62, .pointer (some ⟨b, 0, none⟩)), (63, .pointer p), (64, .agg #[.int .i64 sa, .int .i64 sb]), (65, vo), (66, v66)]) w) :
    (Code.region 7 l.toArray true).wp Try.prog Q a0 w0 := by
  subst hl
  refine region_headM (ButO (slB vo)) (fun w w1 => w = w1) (OI vo (fun w => Own w base vo ps) w0) 7 1000 (tw7F g b y v av hk p q sa sb vo base z ps R) tw7D 8 102 S.size rfl (by kernel_rfl) (by kernel_rfl) (by kernel_rfl) (fun w => ButO.refl _ w) (fun _ => rfl) (by omega) (by omega) (fun e => by
      have h : ((opsOf 7 Try.f65)[1000]?) = none := by kernel_rfl
      rw [h] at e
      cases e) (fun b1 b2 w w1 h hb => ⟨h.1.thenB hb, fun e => S.jb w w1 (h.2 e) hb⟩) ⟨⟨rfl, rfl, rfl, Nat.le_refl _, fun _ _ _ => rfl⟩, fun _ => S.j0⟩ (tw7F_mono _ _ _ _ _ _ _ _ _ _ _ _ _ _ _) (late_mono (l1 := [.pointer (some ⟨g, 0, none⟩), .pointer (some ⟨b, 0, none⟩), .pointer (some ⟨b, 0, none⟩), .pointer (some ⟨b, 0, none⟩), .pointer p, .agg #[.int .i64 sa, .int .i64 sb], vo]) rfl _ (fun _ h => by cases h)) (fun _ _ v w w1 e h => e ▸ h) (tw7_ok S) fun a w hI hF h => ?_
  obtain ⟨v66, h66, p66⟩ : accsB base ps R vo z (a.tmps.getD 66 undef) w := h 7 (some 66) (by omega) rfl
  have hv : valsAre a [(59, .pointer (some ⟨g, 0, none⟩)), (60, .pointer (some ⟨b, 0, none⟩)), (61, .pointer (some ⟨b, 0, none⟩)), (62, .pointer (some ⟨b, 0, none⟩)), (63, .pointer p), (64, .agg #[.int .i64 sa, .int .i64 sb]), (65, vo), (66, v66)] := by
    refine ⟨?_, ?_, ?_, ?_, ?_, ?_, ?_, ?_, trivial⟩
    · exact h 0 (some 59) (by omega) rfl
    · exact h 1 (some 60) (by omega) rfl
    · exact h 2 (some 61) (by omega) rfl
    · exact h 3 (some 62) (by omega) rfl
    · exact h 4 (some 63) (by omega) rfl
    · exact h 5 (some 64) (by omega) rfl
    · exact h 6 (some 65) (by omega) rfl
    · exact h66
  rw [frame_is hF _ hv (by rfl) (by rfl)]
  exact hend v66 w hI p66
end

def tw0D : List (Option Tmp) := [some 94, some 95, some 96, some 97, some 98, some 99, some 100, some 101, some 8]
def tw0F (g : Nat) (b _y : Nat) (_v : It) (_av : Ac) (_hk : Nat) (_p q : Option Addr) (sa sb : Int) (vo : Value) (base z : Nat) (ps : List (Ac × Nat)) (R : List Ac) : List Fact := [isV (.pointer (some ⟨g, 0, none⟩)), isV (.pointer (some ⟨b, 0, none⟩)), isV (.pointer (some ⟨b, 0, none⟩)), isV (.pointer (some ⟨b, 5, none⟩)), isV (.pointer q), isV (.agg #[.int .i64 sa, .int .i64 sb]), isV (vo), accsB base ps R vo z]
theorem tw0F_mono (g : Nat) (b y : Nat) (v : It) (av : Ac) (hk : Nat) (p q : Option Addr) (sa sb : Int) (vo : Value) (base z : Nat) (ps : List (Ac × Nat)) (R : List Ac) : ∀ φ ∈ tw0F g b y v av hk p q sa sb vo base z ps R, Mono φ := by
  unfold tw0F
  repeat (first | exact monos_nil | (refine monos_cons (mono_isV _) ?_) | (refine monos_cons (accsB_mono _ _ _ _ _) ?_))
structure tw0S (g : Nat) (b y : Nat) (v : It) (av : Ac) (hk : Nat) (p q : Option Addr) (sa sb : Int) (vo : Value) (base z : Nat) (ps : List (Ac × Nat)) (R : List Ac) (a0 : Act) (w0 : World) : Prop where
  size : a0.tmps.size = 102
  v0 : a0.tmps.getD 0 undef = .pointer (some ⟨g, 0, none⟩)
  v1 : a0.tmps.getD 1 undef = .pointer (some ⟨b, 0, none⟩)
  v3 : a0.tmps.getD 3 undef = vo
  v6 : a0.tmps.getD 6 undef = .pointer (some ⟨y, 0, none⟩)
  pb : Has w0 b 110 (prtC p v q av hk)
  fpb : vo.ownBlock ≠ some b
  bx : Has w0 y 54 #[.int .i64 sa, .int .i64 sb]
  fbx : vo.ownBlock ≠ some y
  c1 : ∀ w, ButO (slB vo) w0 w → Own w base vo ps → Calls Try.prog 65 #[.pointer (some ⟨g, 0, none⟩), .pointer q, .agg #[.int .i64 sa, .int .i64 sb], vo] w fun e w1 => ∃ v1, e = .returned v1 ∧ (∃ qs, Own w1 base v1 (ps ++ qs) ∧ qs.map (·.1) = R) ∧ ButO (slB vo) w w1 ∧ ∀ k, v1.ownBlock = some k → vo.ownBlock = some k ∨ z ≤ k
  jb : ∀ w w1 : World, (fun w => Own w base vo ps) w → Below w.heap.size w w1 → (fun w => Own w base vo ps) w1
  j0 : (fun w => Own w base vo ps) w0.drew
section
variable {g : Nat} {b y : Nat} {v : It} {av : Ac} {hk : Nat} {p q : Option Addr} {sa sb : Int} {vo : Value} {base z : Nat} {ps : List (Ac × Nat)} {R : List Ac} {a0 : Act} {w0 : World} (S : tw0S g b y v av hk p q sa sb vo base z ps R a0 w0)
include S
set_option maxRecDepth 100000 in
set_option maxHeartbeats 8000000 in
theorem tw0_ok : AllOps (fun j o => ∀ (a : Act) (w : World) (b1 b2 : Bool), (j = 7 → b1 = false ∧ b2 = false) → (j = 1000 → b1 = true ∧ b2 = false) → OI vo (fun w => Own w base vo ps) w0 b1 b2 w → FrD (tw0D.take 8) a0 a → needs tw0D (tw0F g b y v av hk p q sa sb vo base z ps R) a w o.after.toList → AskM Try.prog tw0D (factAt (tw0F g b y v av hk p q sa sb vo base z ps R) j) (ButO (slB vo)) (fun w w1 => w = w1) (OI vo (fun w => Own w base vo ps) w0) 7 1000 j o a w) 0 ((opsOf 10 Try.f65).take 8) := by
  simp only [opsOf, Try.f65, opsAt, Option.bind, Option.or, Option.getD, reduceCtorEq, if_true, if_false, Nat.reduceEqDiff, List.take_succ_cons, List.take_zero]
  refine ⟨?_, ?_⟩
  · intro _a _w _b1 _b2 _h1 _h2 _hI hF _hd
    refine askM_d (by decide) (by decide) ?_
    exact step_move (guard_none rfl) rfl _ rfl ((hF.other 0 rfl).trans S.v0)
  refine ⟨?_, ?_⟩
  · intro _a _w _b1 _b2 _h1 _h2 _hI hF _hd
    refine askM_d (by decide) (by decide) ?_
    exact step_move (guard_none rfl) rfl _ rfl ((hF.other 1 rfl).trans S.v1)
  refine ⟨?_, ?_⟩
  · intro a _w _b1 _b2 _h1 _h2 _hI _hF hd
    refine askM_d (by decide) (by decide) ?_
    have h95 : a.tmps.getD 95 undef = .pointer (some ⟨b, 0, none⟩) := hd.1 rfl
    exact rf_nilck (guard_none rfl) rfl _ rfl _ h95 rfl
  refine ⟨?_, ?_⟩
  · intro a _w _b1 _b2 _h1 _h2 _hI _hF hd
    refine askM_d (by decide) (by decide) ?_
    have h96 : a.tmps.getD 96 undef = .pointer (some ⟨b, 0, none⟩) := hd.1 rfl
    exact rf_faddr (guard_none rfl) rfl _ _ _ rfl _ _ 5 _ h96 (by omega) (fun _ _ => by kernel_rfl) rfl
  refine ⟨?_, ?_⟩
  · intro a _w _b1 _b2 _h1 _h2 hI _hF hd
    refine askM_d (by decide) (by decide) ?_
    have hB := hI.1
    have h97 : a.tmps.getD 97 undef = .pointer (some ⟨b, 5, none⟩) := hd.1 rfl
    exact rf_load1 (guard_none rfl) rfl _ _ rfl _ _ h97 (run_ldPart ((Has.cell (S.pb.butB hB S.fpb) 5).trans rfl)) rfl
  refine ⟨?_, ?_⟩
  · intro _a _w _b1 _b2 _h1 _h2 hI hF _hd
    refine askM_d (by decide) (by decide) ?_
    have hB := hI.1
    exact rf_loadS (guard_none rfl) rfl _ _ rfl _ _ ((hF.other 6 rfl).trans S.v6) _ (rf_range (S.bx.butB hB S.fbx)) Try.underlying54 rfl (by kernel_rfl) rfl
  refine ⟨?_, ?_⟩
  · intro _a _w _b1 _b2 _h1 _h2 _hI hF _hd
    refine askM_d (by decide) (by decide) ?_
    exact step_move (guard_none rfl) rfl _ rfl ((hF.other 3 rfl).trans S.v3)
  refine ⟨?_, ?_⟩
  · intro a w _b1 _b2 h1 _h2 hI _hF hd
    obtain ⟨rfl, rfl⟩ := h1 rfl
    refine askM_1 rfl ?_
    have h94 : a.tmps.getD 94 undef = .pointer (some ⟨g, 0, none⟩) := hd.1 rfl
    have h98 : a.tmps.getD 98 undef = .pointer q := hd.2.1 rfl
    have h99 : a.tmps.getD 99 undef = .agg #[.int .i64 sa, .int .i64 sb] := hd.2.2.1 rfl
    have h100 : a.tmps.getD 100 undef = vo := hd.2.2.2.1 rfl
    refine stepL_call (guard_none rfl) rfl _ _ (rf_call_run Try.func65 (by kernel_rfl) (by kernel_rfl) _ _ rfl) ?_
    simp only [List.map_toArray, List.map_cons, List.map_nil, Act.eval, h94, h98, h99, h100]
    exact (S.c1 w hI.1 (hI.2 rfl)).mono (by rintro e w1 ⟨v1, rfl, ho, hb, hs⟩; exact ⟨_, rfl, hb, ⟨hI.1.tr hb, fun h => by cases h⟩, v1, rfl, ho, hs⟩)
  trivial
set_option maxRecDepth 100000 in
theorem tw0_any {Q : Exit → Act → World → Prop} {l : List Oper} (hl : opsOf 10 Try.f65 = l) (hend : ∀ (v101 : Value), ∀ w : World, OI vo (fun w => Own w base vo ps) w0 true false w → ((∃ qs, Own w base v101 (ps ++ qs) ∧ qs.map (·.1) = R) ∧ ∀ k, v101.ownBlock = some k → vo.ownBlock = some k ∨ z ≤ k) → wpList Try.prog l.toArray Q (l.drop 8) (putAll a0 [(94, .pointer (some ⟨g, 0, none⟩)), (95, .pointer (some ⟨b, 0, none⟩)), (96, .pointer (some ⟨b, 0, none⟩)), (97, .pointer (some ⟨b, 5, none⟩)), (98, .pointer q), (99, .agg #[.int .i64 sa, .int .i64 sb]), (100, vo), (101, v101)]) w) :
    (Code.region 10 l.toArray true).wp Try.prog Q a0 w0 := by
  subst hl
  refine region_headM (ButO (slB vo)) (fun w w1 => w = w1) (OI vo (fun w => Own w base vo ps) w0) 7 1000 (tw0F g b y v av hk p q sa sb vo base z ps R) tw0D 8 102 S.size rfl (by kernel_rfl) (by kernel_rfl) (by kernel_rfl) (fun w => ButO.refl _ w) (fun _ => rfl) (by omega) (by omega) (fun e => by
      have h : ((opsOf 10 Try.f65)[1000]?) = none := by kernel_rfl
      rw [h] at e
      cases e) (fun b1 b2 w w1 h hb => ⟨h.1.thenB hb, fun e => S.jb w w1 (h.2 e) hb⟩) ⟨⟨rfl, rfl, rfl, Nat.le_refl _, fun _ _ _ => rfl⟩, fun _ => S.j0⟩ (tw0F_mono _ _ _ _ _ _ _ _ _ _ _ _ _ _ _) (late_mono (l1 := [.pointer (some ⟨g, 0, none⟩), .pointer (some ⟨b, 0, none⟩), .pointer (some ⟨b, 0, none⟩), .pointer (some ⟨b, 5, none⟩), .pointer q, .agg #[.int .i64 sa, .int .i64 sb], vo]) rfl _ (fun _ h => by cases h)) (fun _ _ v w w1 e h => e ▸ h) (tw0_ok S) fun a w hI hF h => ?_
  obtain ⟨v101, h101, p101⟩ : accsB base ps R vo z (a.tmps.getD 101 undef) w := h 7 (some 101) (by omega) rfl
  have hv : valsAre a [(94, .pointer (some ⟨g, 0, none⟩)), (95, .pointer (some ⟨b, 0, none⟩)), (96, .pointer (some ⟨b, 0, none⟩)), (97, .pointer (some ⟨b, 5, none⟩)), (98, .pointer q), (99, .agg #[.int .i64 sa, .int .i64 sb]), (100, vo), (101, v101)] := by
    refine ⟨?_, ?_, ?_, ?_, ?_, ?_, ?_, ?_, trivial⟩
    · exact h 0 (some 94) (by omega) rfl
    · exact h 1 (some 95) (by omega) rfl
    · exact h 2 (some 96) (by omega) rfl
    · exact h 3 (some 97) (by omega) rfl
    · exact h 4 (some 98) (by omega) rfl
    · exact h 5 (some 99) (by omega) rfl
    · exact h 6 (some 100) (by omega) rfl
    · exact h101
  rw [frame_is hF _ hv (by rfl) (by rfl)]
  exact hend v101 w hI p101
end

end Go.Proofs.Ytjgjbhbpndjnnaa
