/-
  The drawn regions of within (written by gen/trreg.py).
  Walk: what is known of a part's items in a span (written by gen/trwin.py).
-/
import Derived.Test.YtdoflmphkalicaaS11
import Derived.Test.YtdoflmphkalicaaS7
import Derived.Test.YtdoflmphkalicaaS8
import Derived.Test.YtdoflmphkalicaaRfB
import Derived.Test.YtdoflmphkalicaaS3
import Derived.Test.YtdoflmphkalicaaS10
namespace Go.Proofs.Ytdoflmphkalicaa
open Go.RowKit

def tw2D : List (Option Tmp) := [some 12, some 13, some 14, some 15, some 16, some 17, some 18, some 19, some 20, some 9]
def tw2F (b y : Nat) (_v : It) (av : Ac) (_hk : Nat) (_p _q : Option Addr) (sa _sb : Int) (β : Bool) : List Fact := [isV (.pointer (some ⟨b, 0, none⟩)), isV (.pointer (some ⟨b, 0, none⟩)), isV (.pointer (some ⟨b, 6, none⟩)), isV (.pointer (some ⟨b, 14, none⟩)), isV (.pointer (some ⟨b, 15, none⟩)), isV (.int .i64 av.l.t), isV (.pointer (some ⟨y, 0, none⟩)), isV (.int .i64 sa), isV (.bool β), isV (.bool β)]
theorem tw2F_mono (b y : Nat) (v : It) (av : Ac) (hk : Nat) (p q : Option Addr) (sa sb : Int) (β : Bool) : ∀ φ ∈ tw2F b y v av hk p q sa sb β, Mono φ := by
  unfold tw2F
  refine monos_cons (mono_isV _) ?_
  refine monos_cons (mono_isV _) ?_
  refine monos_cons (mono_isV _) ?_
  refine monos_cons (mono_isV _) ?_
  refine monos_cons (mono_isV _) ?_
  refine monos_cons (mono_isV _) ?_
  refine monos_cons (mono_isV _) ?_
  refine monos_cons (mono_isV _) ?_
  refine monos_cons (mono_isV _) ?_
  refine monos_cons (mono_isV _) ?_
  exact monos_nil
structure tw2S (b y : Nat) (v : It) (av : Ac) (hk : Nat) (p q : Option Addr) (sa sb : Int) (β : Bool) (a0 : Act) (w0 : World) : Prop where
  size : a0.tmps.size = 102
  v1 : a0.tmps.getD 1 undef = .pointer (some ⟨b, 0, none⟩)
  v6 : a0.tmps.getD 6 undef = .pointer (some ⟨y, 0, none⟩)
  pb : Has w0 b 107 (prtC p v q av hk)
  bx : Has w0 y 38 #[.int .i64 sa, .int .i64 sb]
  ht : decide (av.l.t < sa) = β
section
variable {b y : Nat} {v : It} {av : Ac} {hk : Nat} {p q : Option Addr} {sa sb : Int} {β : Bool} {a0 : Act} {w0 : World} (S : tw2S b y v av hk p q sa sb β a0 w0)
include S
set_option maxRecDepth 100000 in
set_option maxHeartbeats 8000000 in
theorem tw2_ok : AllOps (fun j o => ∀ (a : Act) (w : World), Below w0.heap.size w0 w → FrD tw2D a0 a → needs tw2D (tw2F b y v av hk p q sa sb β) a w o.after.toList → StepD Try.prog tw2D (factAt (tw2F b y v av hk p q sa sb β) j) o a w) 0 (opsOf 2 Try.f51) := by
  simp only [opsOf, Try.f51, opsAt, Option.bind, Option.or, Option.getD, reduceCtorEq, if_true, if_false, Nat.reduceEqDiff]
  refine ⟨?_, ?_⟩
  · intro _a _w _hB hF _hd
    exact step_move (guard_none rfl) rfl _ rfl ((hF.other 1 rfl).trans S.v1)
  refine ⟨?_, ?_⟩
  · intro a _w _hB _hF hd
    have h12 : a.tmps.getD 12 undef = .pointer (some ⟨b, 0, none⟩) := hd.1 rfl
    exact rf_nilck (guard_none rfl) rfl _ rfl _ h12 rfl
  refine ⟨?_, ?_⟩
  · intro a _w _hB _hF hd
    have h13 : a.tmps.getD 13 undef = .pointer (some ⟨b, 0, none⟩) := hd.1 rfl
    exact rf_faddr (guard_none rfl) rfl _ _ _ rfl _ _ 6 _ h13 (by omega) (fun _ _ => by kernel_rfl) rfl
  refine ⟨?_, ?_⟩
  · intro a _w _hB _hF hd
    have h14 : a.tmps.getD 14 undef = .pointer (some ⟨b, 6, none⟩) := hd.1 rfl
    exact rf_faddr (guard_none rfl) rfl _ _ _ rfl _ _ 8 _ h14 (by omega) (fun _ _ => by kernel_rfl) rfl
  refine ⟨?_, ?_⟩
  · intro a _w _hB _hF hd
    have h15 : a.tmps.getD 15 undef = .pointer (some ⟨b, 14, none⟩) := hd.1 rfl
    exact rf_faddr (guard_none rfl) rfl _ _ _ rfl _ _ 1 _ h15 (by omega) (fun _ _ => by kernel_rfl) rfl
  refine ⟨?_, ?_⟩
  · intro a _w hB _hF hd
    have h16 : a.tmps.getD 16 undef = .pointer (some ⟨b, 15, none⟩) := hd.1 rfl
    exact rf_loadi (guard_none rfl) rfl _ rfl _ _ h16 _ ((Has.cell (S.pb.below hB S.pb.lt) 15).trans rfl) rfl
  refine ⟨?_, ?_⟩
  · intro _a _w _hB hF _hd
    exact rf_faddr (guard_none rfl) rfl _ _ _ rfl _ _ 0 _ ((hF.other 6 rfl).trans S.v6) (by omega) (fun _ _ => by kernel_rfl) rfl
  refine ⟨?_, ?_⟩
  · intro a _w hB _hF hd
    have h18 : a.tmps.getD 18 undef = .pointer (some ⟨y, 0, none⟩) := hd.1 rfl
    exact rf_loadi (guard_none rfl) rfl _ rfl _ _ h18 _ ((Has.cell (S.bx.below hB S.bx.lt) 0).trans rfl) rfl
  refine ⟨?_, ?_⟩
  · intro a _w _hB _hF hd
    have h17 : a.tmps.getD 17 undef = .int .i64 av.l.t := hd.1 rfl
    have h19 : a.tmps.getD 19 undef = .int .i64 sa := hd.2.1 rfl
    exact rf_lss (guard_none rfl) rfl _ _ rfl _ _ h17 h19 β S.ht rfl
  refine ⟨?_, ?_⟩
  · intro a _w _hB _hF hd
    have h20 : a.tmps.getD 20 undef = .bool β := hd.1 rfl
    exact step_assign (guard_none rfl) rfl _ rfl h20
  trivial
theorem tw2_any {Q : Exit → Act → World → Prop} {l : List Oper} (hl : opsOf 2 Try.f51 = l) (hend : ∀ w : World, Below w0.heap.size w0 w → Q .normal (putAll a0 [(12, .pointer (some ⟨b, 0, none⟩)), (13, .pointer (some ⟨b, 0, none⟩)), (14, .pointer (some ⟨b, 6, none⟩)), (15, .pointer (some ⟨b, 14, none⟩)), (16, .pointer (some ⟨b, 15, none⟩)), (17, .int .i64 av.l.t), (18, .pointer (some ⟨y, 0, none⟩)), (19, .int .i64 sa), (20, .bool β), (9, .bool β)]) w) :
    (Code.region 2 l.toArray true).wp Try.prog Q a0 w0 := by
  subst hl
  refine region_facts2 (tw2F b y v av hk p q sa sb β) tw2D 102 S.size rfl (by kernel_rfl) (by kernel_rfl) (tw2F_mono _ _ _ _ _ _ _ _ _ _) (tw2_ok S) fun a w hB hF h => ?_
  have hv : valsAre a [(12, .pointer (some ⟨b, 0, none⟩)), (13, .pointer (some ⟨b, 0, none⟩)), (14, .pointer (some ⟨b, 6, none⟩)), (15, .pointer (some ⟨b, 14, none⟩)), (16, .pointer (some ⟨b, 15, none⟩)), (17, .int .i64 av.l.t), (18, .pointer (some ⟨y, 0, none⟩)), (19, .int .i64 sa), (20, .bool β), (9, .bool β)] := by
    refine ⟨?_, ?_, ?_, ?_, ?_, ?_, ?_, ?_, ?_, ?_, trivial⟩
    · exact h 0 (some 12) rfl
    · exact h 1 (some 13) rfl
    · exact h 2 (some 14) rfl
    · exact h 3 (some 15) rfl
    · exact h 4 (some 16) rfl
    · exact h 5 (some 17) rfl
    · exact h 6 (some 18) rfl
    · exact h 7 (some 19) rfl
    · exact h 8 (some 20) rfl
    · exact h 9 (some 9) rfl
  rw [frame_is hF _ hv (by rfl) (by rfl)]
  exact hend w hB
end

def tw3D : List (Option Tmp) := [some 21, some 22, some 23, some 24, some 25, some 26, some 27, some 28, some 29, some 9]
def tw3F (b y : Nat) (_v : It) (av : Ac) (_hk : Nat) (_p _q : Option Addr) (_sa sb : Int) (β : Bool) : List Fact := [isV (.pointer (some ⟨b, 0, none⟩)), isV (.pointer (some ⟨b, 0, none⟩)), isV (.pointer (some ⟨b, 6, none⟩)), isV (.pointer (some ⟨b, 10, none⟩)), isV (.pointer (some ⟨b, 11, none⟩)), isV (.int .i64 av.f.t), isV (.pointer (some ⟨y, 1, none⟩)), isV (.int .i64 sb), isV (.bool β), isV (.bool β)]
theorem tw3F_mono (b y : Nat) (v : It) (av : Ac) (hk : Nat) (p q : Option Addr) (sa sb : Int) (β : Bool) : ∀ φ ∈ tw3F b y v av hk p q sa sb β, Mono φ := by
  unfold tw3F
  refine monos_cons (mono_isV _) ?_
  refine monos_cons (mono_isV _) ?_
  refine monos_cons (mono_isV _) ?_
  refine monos_cons (mono_isV _) ?_
  refine monos_cons (mono_isV _) ?_
  refine monos_cons (mono_isV _) ?_
  refine monos_cons (mono_isV _) ?_
  refine monos_cons (mono_isV _) ?_
  refine monos_cons (mono_isV _) ?_
  refine monos_cons (mono_isV _) ?_
  exact monos_nil
structure tw3S (b y : Nat) (v : It) (av : Ac) (hk : Nat) (p q : Option Addr) (sa sb : Int) (β : Bool) (a0 : Act) (w0 : World) : Prop where
  size : a0.tmps.size = 102
  v1 : a0.tmps.getD 1 undef = .pointer (some ⟨b, 0, none⟩)
  v6 : a0.tmps.getD 6 undef = .pointer (some ⟨y, 0, none⟩)
  pb : Has w0 b 107 (prtC p v q av hk)
  bx : Has w0 y 38 #[.int .i64 sa, .int .i64 sb]
  ht : decide (sb ≤ av.f.t) = β
section
variable {b y : Nat} {v : It} {av : Ac} {hk : Nat} {p q : Option Addr} {sa sb : Int} {β : Bool} {a0 : Act} {w0 : World} (S : tw3S b y v av hk p q sa sb β a0 w0)
include S
set_option maxRecDepth 100000 in
set_option maxHeartbeats 8000000 in
theorem tw3_ok : AllOps (fun j o => ∀ (a : Act) (w : World), Below w0.heap.size w0 w → FrD tw3D a0 a → needs tw3D (tw3F b y v av hk p q sa sb β) a w o.after.toList → StepD Try.prog tw3D (factAt (tw3F b y v av hk p q sa sb β) j) o a w) 0 (opsOf 3 Try.f51) := by
  simp only [opsOf, Try.f51, opsAt, Option.bind, Option.or, Option.getD, reduceCtorEq, if_true, if_false, Nat.reduceEqDiff]
  refine ⟨?_, ?_⟩
  · intro _a _w _hB hF _hd
    exact step_move (guard_none rfl) rfl _ rfl ((hF.other 1 rfl).trans S.v1)
  refine ⟨?_, ?_⟩
  · intro a _w _hB _hF hd
    have h21 : a.tmps.getD 21 undef = .pointer (some ⟨b, 0, none⟩) := hd.1 rfl
    exact rf_nilck (guard_none rfl) rfl _ rfl _ h21 rfl
  refine ⟨?_, ?_⟩
  · intro a _w _hB _hF hd
    have h22 : a.tmps.getD 22 undef = .pointer (some ⟨b, 0, none⟩) := hd.1 rfl
    exact rf_faddr (guard_none rfl) rfl _ _ _ rfl _ _ 6 _ h22 (by omega) (fun _ _ => by kernel_rfl) rfl
  refine ⟨?_, ?_⟩
  · intro a _w _hB _hF hd
    have h23 : a.tmps.getD 23 undef = .pointer (some ⟨b, 6, none⟩) := hd.1 rfl
    exact rf_faddr (guard_none rfl) rfl _ _ _ rfl _ _ 4 _ h23 (by omega) (fun _ _ => by kernel_rfl) rfl
  refine ⟨?_, ?_⟩
  · intro a _w _hB _hF hd
    have h24 : a.tmps.getD 24 undef = .pointer (some ⟨b, 10, none⟩) := hd.1 rfl
    exact rf_faddr (guard_none rfl) rfl _ _ _ rfl _ _ 1 _ h24 (by omega) (fun _ _ => by kernel_rfl) rfl
  refine ⟨?_, ?_⟩
  · intro a _w hB _hF hd
    have h25 : a.tmps.getD 25 undef = .pointer (some ⟨b, 11, none⟩) := hd.1 rfl
    exact rf_loadi (guard_none rfl) rfl _ rfl _ _ h25 _ ((Has.cell (S.pb.below hB S.pb.lt) 11).trans rfl) rfl
  refine ⟨?_, ?_⟩
  · intro _a _w _hB hF _hd
    exact rf_faddr (guard_none rfl) rfl _ _ _ rfl _ _ 1 _ ((hF.other 6 rfl).trans S.v6) (by omega) (fun _ _ => by kernel_rfl) rfl
  refine ⟨?_, ?_⟩
  · intro a _w hB _hF hd
    have h27 : a.tmps.getD 27 undef = .pointer (some ⟨y, 1, none⟩) := hd.1 rfl
    exact rf_loadi (guard_none rfl) rfl _ rfl _ _ h27 _ ((Has.cell (S.bx.below hB S.bx.lt) 1).trans rfl) rfl
  refine ⟨?_, ?_⟩
  · intro a _w _hB _hF hd
    have h26 : a.tmps.getD 26 undef = .int .i64 av.f.t := hd.1 rfl
    have h28 : a.tmps.getD 28 undef = .int .i64 sb := hd.2.1 rfl
    exact rf_geq (guard_none rfl) rfl _ _ rfl _ _ h26 h28 β S.ht rfl
  refine ⟨?_, ?_⟩
  · intro a _w _hB _hF hd
    have h29 : a.tmps.getD 29 undef = .bool β := hd.1 rfl
    exact step_assign (guard_none rfl) rfl _ rfl h29
  trivial
theorem tw3_any {Q : Exit → Act → World → Prop} {l : List Oper} (hl : opsOf 3 Try.f51 = l) (hend : ∀ w : World, Below w0.heap.size w0 w → Q .normal (putAll a0 [(21, .pointer (some ⟨b, 0, none⟩)), (22, .pointer (some ⟨b, 0, none⟩)), (23, .pointer (some ⟨b, 6, none⟩)), (24, .pointer (some ⟨b, 10, none⟩)), (25, .pointer (some ⟨b, 11, none⟩)), (26, .int .i64 av.f.t), (27, .pointer (some ⟨y, 1, none⟩)), (28, .int .i64 sb), (29, .bool β), (9, .bool β)]) w) :
    (Code.region 3 l.toArray true).wp Try.prog Q a0 w0 := by
  subst hl
  refine region_facts2 (tw3F b y v av hk p q sa sb β) tw3D 102 S.size rfl (by kernel_rfl) (by kernel_rfl) (tw3F_mono _ _ _ _ _ _ _ _ _ _) (tw3_ok S) fun a w hB hF h => ?_
  have hv : valsAre a [(21, .pointer (some ⟨b, 0, none⟩)), (22, .pointer (some ⟨b, 0, none⟩)), (23, .pointer (some ⟨b, 6, none⟩)), (24, .pointer (some ⟨b, 10, none⟩)), (25, .pointer (some ⟨b, 11, none⟩)), (26, .int .i64 av.f.t), (27, .pointer (some ⟨y, 1, none⟩)), (28, .int .i64 sb), (29, .bool β), (9, .bool β)] := by
    refine ⟨?_, ?_, ?_, ?_, ?_, ?_, ?_, ?_, ?_, ?_, trivial⟩
    · exact h 0 (some 21) rfl
    · exact h 1 (some 22) rfl
    · exact h 2 (some 23) rfl
    · exact h 3 (some 24) rfl
    · exact h 4 (some 25) rfl
    · exact h 5 (some 26) rfl
    · exact h 6 (some 27) rfl
    · exact h 7 (some 28) rfl
    · exact h 8 (some 29) rfl
    · exact h 9 (some 9) rfl
  rw [frame_is hF _ hv (by rfl) (by rfl)]
  exact hend w hB
end

def tw5fD : List (Option Tmp) := [some 32, some 33, some 34, some 35, some 36, some 37, some 38, some 39, some 40, some 41, some 42, some 43, some 44, some 45, some 46, some 47, some 48, some 49, some 50, some 51, some 31]
def tw5fF (b y : Nat) (_v : It) (av : Ac) (_hk : Nat) (_p _q : Option Addr) (sa _sb : Int) : List Fact := [isV (.pointer (some ⟨b, 0, none⟩)), isV (.pointer (some ⟨b, 0, none⟩)), isV (.pointer (some ⟨b, 6, none⟩)), isV (.pointer (some ⟨b, 10, none⟩)), isV (.pointer (some ⟨b, 11, none⟩)), isV (.int .i64 av.f.t), isV (.pointer (some ⟨y, 0, none⟩)), isV (.int .i64 sa), isV (.bool false), isV (.bool false), isV (undef), isV (undef), isV (undef), isV (undef), isV (undef), isV (undef), isV (undef), isV (undef), isV (undef), isV (.bool false), isV (.bool false)]
theorem tw5fF_mono (b y : Nat) (v : It) (av : Ac) (hk : Nat) (p q : Option Addr) (sa sb : Int) : ∀ φ ∈ tw5fF b y v av hk p q sa sb, Mono φ := by
  unfold tw5fF
  refine monos_cons (mono_isV _) ?_
  refine monos_cons (mono_isV _) ?_
  refine monos_cons (mono_isV _) ?_
  refine monos_cons (mono_isV _) ?_
  refine monos_cons (mono_isV _) ?_
  refine monos_cons (mono_isV _) ?_
  refine monos_cons (mono_isV _) ?_
  refine monos_cons (mono_isV _) ?_
  refine monos_cons (mono_isV _) ?_
  refine monos_cons (mono_isV _) ?_
  refine monos_cons (mono_isV _) ?_
  refine monos_cons (mono_isV _) ?_
  refine monos_cons (mono_isV _) ?_
  refine monos_cons (mono_isV _) ?_
  refine monos_cons (mono_isV _) ?_
  refine monos_cons (mono_isV _) ?_
  refine monos_cons (mono_isV _) ?_
  refine monos_cons (mono_isV _) ?_
  refine monos_cons (mono_isV _) ?_
  refine monos_cons (mono_isV _) ?_
  refine monos_cons (mono_isV _) ?_
  exact monos_nil
structure tw5fS (b y : Nat) (v : It) (av : Ac) (hk : Nat) (p q : Option Addr) (sa sb : Int) (a0 : Act) (w0 : World) : Prop where
  size : a0.tmps.size = 102
  v1 : a0.tmps.getD 1 undef = .pointer (some ⟨b, 0, none⟩)
  v6 : a0.tmps.getD 6 undef = .pointer (some ⟨y, 0, none⟩)
  pb : Has w0 b 107 (prtC p v q av hk)
  bx : Has w0 y 38 #[.int .i64 sa, .int .i64 sb]
  ht : decide (sa ≤ av.f.t) = false
section
variable {b y : Nat} {v : It} {av : Ac} {hk : Nat} {p q : Option Addr} {sa sb : Int} {a0 : Act} {w0 : World} (S : tw5fS b y v av hk p q sa sb a0 w0)
include S
set_option maxRecDepth 100000 in
set_option maxHeartbeats 8000000 in
theorem tw5f_ok : AllOps (fun j o => ∀ (a : Act) (w : World), Below w0.heap.size w0 w → FrD tw5fD a0 a → needs tw5fD (tw5fF b y v av hk p q sa sb) a w o.after.toList → StepD Try.prog tw5fD (factAt (tw5fF b y v av hk p q sa sb) j) o a w) 0 (opsOf 5 Try.f51) := by
  simp only [opsOf, Try.f51, opsAt, Option.bind, Option.or, Option.getD, reduceCtorEq, if_true, if_false, Nat.reduceEqDiff]
  refine ⟨?_, ?_⟩
  · intro _a _w _hB hF _hd
    exact step_move (guard_none rfl) rfl _ rfl ((hF.other 1 rfl).trans S.v1)
  refine ⟨?_, ?_⟩
  · intro a _w _hB _hF hd
    have h32 : a.tmps.getD 32 undef = .pointer (some ⟨b, 0, none⟩) := hd.1 rfl
    exact rf_nilck (guard_none rfl) rfl _ rfl _ h32 rfl
  refine ⟨?_, ?_⟩
  · intro a _w _hB _hF hd
    have h33 : a.tmps.getD 33 undef = .pointer (some ⟨b, 0, none⟩) := hd.1 rfl
    exact rf_faddr (guard_none rfl) rfl _ _ _ rfl _ _ 6 _ h33 (by omega) (fun _ _ => by kernel_rfl) rfl
  refine ⟨?_, ?_⟩
  · intro a _w _hB _hF hd
    have h34 : a.tmps.getD 34 undef = .pointer (some ⟨b, 6, none⟩) := hd.1 rfl
    exact rf_faddr (guard_none rfl) rfl _ _ _ rfl _ _ 4 _ h34 (by omega) (fun _ _ => by kernel_rfl) rfl
  refine ⟨?_, ?_⟩
  · intro a _w _hB _hF hd
    have h35 : a.tmps.getD 35 undef = .pointer (some ⟨b, 10, none⟩) := hd.1 rfl
    exact rf_faddr (guard_none rfl) rfl _ _ _ rfl _ _ 1 _ h35 (by omega) (fun _ _ => by kernel_rfl) rfl
  refine ⟨?_, ?_⟩
  · intro a _w hB _hF hd
    have h36 : a.tmps.getD 36 undef = .pointer (some ⟨b, 11, none⟩) := hd.1 rfl
    exact rf_loadi (guard_none rfl) rfl _ rfl _ _ h36 _ ((Has.cell (S.pb.below hB S.pb.lt) 11).trans rfl) rfl
  refine ⟨?_, ?_⟩
  · intro _a _w _hB hF _hd
    exact rf_faddr (guard_none rfl) rfl _ _ _ rfl _ _ 0 _ ((hF.other 6 rfl).trans S.v6) (by omega) (fun _ _ => by kernel_rfl) rfl
  refine ⟨?_, ?_⟩
  · intro a _w hB _hF hd
    have h38 : a.tmps.getD 38 undef = .pointer (some ⟨y, 0, none⟩) := hd.1 rfl
    exact rf_loadi (guard_none rfl) rfl _ rfl _ _ h38 _ ((Has.cell (S.bx.below hB S.bx.lt) 0).trans rfl) rfl
  refine ⟨?_, ?_⟩
  · intro a _w _hB _hF hd
    have h37 : a.tmps.getD 37 undef = .int .i64 av.f.t := hd.1 rfl
    have h39 : a.tmps.getD 39 undef = .int .i64 sa := hd.2.1 rfl
    exact rf_geq (guard_none rfl) rfl _ _ rfl _ _ h37 h39 false S.ht rfl
  refine ⟨?_, ?_⟩
  · intro a _w _hB _hF hd
    have h40 : a.tmps.getD 40 undef = .bool false := hd.1 rfl
    exact step_move (guard_none rfl) rfl _ rfl h40
  refine ⟨?_, ?_⟩
  · intro a _w _hB _hF hd
    have h41 : a.tmps.getD 41 undef = .bool false := hd.1 rfl
    exact rf_shut true rfl rfl h41 rfl
  refine ⟨?_, ?_⟩
  · intro a _w _hB _hF hd
    have h41 : a.tmps.getD 41 undef = .bool false := hd.2.1 rfl
    exact rf_shut true rfl rfl h41 rfl
  refine ⟨?_, ?_⟩
  · intro a _w _hB _hF hd
    have h41 : a.tmps.getD 41 undef = .bool false := hd.2.1 rfl
    exact rf_shut true rfl rfl h41 rfl
  refine ⟨?_, ?_⟩
  · intro a _w _hB _hF hd
    have h41 : a.tmps.getD 41 undef = .bool false := hd.2.1 rfl
    exact rf_shut true rfl rfl h41 rfl
  refine ⟨?_, ?_⟩
  · intro a _w _hB _hF hd
    have h41 : a.tmps.getD 41 undef = .bool false := hd.2.1 rfl
    exact rf_shut true rfl rfl h41 rfl
  refine ⟨?_, ?_⟩
  · intro a _w _hB _hF hd
    have h41 : a.tmps.getD 41 undef = .bool false := hd.2.1 rfl
    exact rf_shut true rfl rfl h41 rfl
  refine ⟨?_, ?_⟩
  · intro a _w _hB _hF hd
    have h41 : a.tmps.getD 41 undef = .bool false := hd.1 rfl
    exact rf_shut true rfl rfl h41 rfl
  refine ⟨?_, ?_⟩
  · intro a _w _hB _hF hd
    have h41 : a.tmps.getD 41 undef = .bool false := hd.2.1 rfl
    exact rf_shut true rfl rfl h41 rfl
  refine ⟨?_, ?_⟩
  · intro a _w _hB _hF hd
    have h41 : a.tmps.getD 41 undef = .bool false := hd.2.2.1 rfl
    exact rf_shut true rfl rfl h41 rfl
  refine ⟨?_, ?_⟩
  · intro a _w _hB _hF hd
    have h41 : a.tmps.getD 41 undef = .bool false := hd.1 rfl
    exact rf_pick (guard_none rfl) rfl _ _ _ rfl false h41 rfl
  refine ⟨?_, ?_⟩
  · intro a _w _hB _hF hd
    have h51 : a.tmps.getD 51 undef = .bool false := hd.1 rfl
    exact step_assign (guard_none rfl) rfl _ rfl h51
  trivial
theorem tw5f_any {Q : Exit → Act → World → Prop} {l : List Oper} (hl : opsOf 5 Try.f51 = l) (hend : ∀ w : World, Below w0.heap.size w0 w → Q .normal (putAll a0 [(32, .pointer (some ⟨b, 0, none⟩)), (33, .pointer (some ⟨b, 0, none⟩)), (34, .pointer (some ⟨b, 6, none⟩)), (35, .pointer (some ⟨b, 10, none⟩)), (36, .pointer (some ⟨b, 11, none⟩)), (37, .int .i64 av.f.t), (38, .pointer (some ⟨y, 0, none⟩)), (39, .int .i64 sa), (40, .bool false), (41, .bool false), (42, undef), (43, undef), (44, undef), (45, undef), (46, undef), (47, undef), (48, undef), (49, undef), (50, undef), (51, .bool false), (31, .bool false)]) w) :
    (Code.region 5 l.toArray true).wp Try.prog Q a0 w0 := by
  subst hl
  refine region_facts2 (tw5fF b y v av hk p q sa sb) tw5fD 102 S.size rfl (by kernel_rfl) (by kernel_rfl) (tw5fF_mono _ _ _ _ _ _ _ _ _) (tw5f_ok S) fun a w hB hF h => ?_
  have hv : valsAre a [(32, .pointer (some ⟨b, 0, none⟩)), (33, .pointer (some ⟨b, 0, none⟩)), (34, .pointer (some ⟨b, 6, none⟩)), (35, .pointer (some ⟨b, 10, none⟩)), (36, .pointer (some ⟨b, 11, none⟩)), (37, .int .i64 av.f.t), (38, .pointer (some ⟨y, 0, none⟩)), (39, .int .i64 sa), (40, .bool false), (41, .bool false), (42, undef), (43, undef), (44, undef), (45, undef), (46, undef), (47, undef), (48, undef), (49, undef), (50, undef), (51, .bool false), (31, .bool false)] := by
    refine ⟨?_, ?_, ?_, ?_, ?_, ?_, ?_, ?_, ?_, ?_, ?_, ?_, ?_, ?_, ?_, ?_, ?_, ?_, ?_, ?_, ?_, trivial⟩
    · exact h 0 (some 32) rfl
    · exact h 1 (some 33) rfl
    · exact h 2 (some 34) rfl
    · exact h 3 (some 35) rfl
    · exact h 4 (some 36) rfl
    · exact h 5 (some 37) rfl
    · exact h 6 (some 38) rfl
    · exact h 7 (some 39) rfl
    · exact h 8 (some 40) rfl
    · exact h 9 (some 41) rfl
    · exact h 10 (some 42) rfl
    · exact h 11 (some 43) rfl
    · exact h 12 (some 44) rfl
    · exact h 13 (some 45) rfl
    · exact h 14 (some 46) rfl
    · exact h 15 (some 47) rfl
    · exact h 16 (some 48) rfl
    · exact h 17 (some 49) rfl
    · exact h 18 (some 50) rfl
    · exact h 19 (some 51) rfl
    · exact h 20 (some 31) rfl
  rw [frame_is hF _ hv (by rfl) (by rfl)]
  exact hend w hB
end

def tw5tD : List (Option Tmp) := [some 32, some 33, some 34, some 35, some 36, some 37, some 38, some 39, some 40, some 41, some 42, some 43, some 44, some 45, some 46, some 47, some 48, some 49, some 50, some 51, some 31]
def tw5tF (b y : Nat) (_v : It) (av : Ac) (_hk : Nat) (_p _q : Option Addr) (sa sb : Int) (β : Bool) : List Fact := [isV (.pointer (some ⟨b, 0, none⟩)), isV (.pointer (some ⟨b, 0, none⟩)), isV (.pointer (some ⟨b, 6, none⟩)), isV (.pointer (some ⟨b, 10, none⟩)), isV (.pointer (some ⟨b, 11, none⟩)), isV (.int .i64 av.f.t), isV (.pointer (some ⟨y, 0, none⟩)), isV (.int .i64 sa), isV (.bool true), isV (.bool true), isV (.pointer (some ⟨b, 0, none⟩)), isV (.pointer (some ⟨b, 0, none⟩)), isV (.pointer (some ⟨b, 6, none⟩)), isV (.pointer (some ⟨b, 14, none⟩)), isV (.pointer (some ⟨b, 15, none⟩)), isV (.int .i64 av.l.t), isV (.pointer (some ⟨y, 1, none⟩)), isV (.int .i64 sb), isV (.bool β), isV (.bool β), isV (.bool β)]
theorem tw5tF_mono (b y : Nat) (v : It) (av : Ac) (hk : Nat) (p q : Option Addr) (sa sb : Int) (β : Bool) : ∀ φ ∈ tw5tF b y v av hk p q sa sb β, Mono φ := by
  unfold tw5tF
  refine monos_cons (mono_isV _) ?_
  refine monos_cons (mono_isV _) ?_
  refine monos_cons (mono_isV _) ?_
  refine monos_cons (mono_isV _) ?_
  refine monos_cons (mono_isV _) ?_
  refine monos_cons (mono_isV _) ?_
  refine monos_cons (mono_isV _) ?_
  refine monos_cons (mono_isV _) ?_
  refine monos_cons (mono_isV _) ?_
  refine monos_cons (mono_isV _) ?_
  refine monos_cons (mono_isV _) ?_
  refine monos_cons (mono_isV _) ?_
  refine monos_cons (mono_isV _) ?_
  refine monos_cons (mono_isV _) ?_
  refine monos_cons (mono_isV _) ?_
  refine monos_cons (mono_isV _) ?_
  refine monos_cons (mono_isV _) ?_
  refine monos_cons (mono_isV _) ?_
  refine monos_cons (mono_isV _) ?_
  refine monos_cons (mono_isV _) ?_
  refine monos_cons (mono_isV _) ?_
  exact monos_nil
structure tw5tS (b y : Nat) (v : It) (av : Ac) (hk : Nat) (p q : Option Addr) (sa sb : Int) (β : Bool) (a0 : Act) (w0 : World) : Prop where
  size : a0.tmps.size = 102
  v1 : a0.tmps.getD 1 undef = .pointer (some ⟨b, 0, none⟩)
  v6 : a0.tmps.getD 6 undef = .pointer (some ⟨y, 0, none⟩)
  pb : Has w0 b 107 (prtC p v q av hk)
  bx : Has w0 y 38 #[.int .i64 sa, .int .i64 sb]
  ht : decide (sa ≤ av.f.t) = true
  hu : decide (av.l.t < sb) = β
section
variable {b y : Nat} {v : It} {av : Ac} {hk : Nat} {p q : Option Addr} {sa sb : Int} {β : Bool} {a0 : Act} {w0 : World} (S : tw5tS b y v av hk p q sa sb β a0 w0)
include S
set_option maxRecDepth 100000 in
set_option maxHeartbeats 8000000 in
theorem tw5t_ok : AllOps (fun j o => ∀ (a : Act) (w : World), Below w0.heap.size w0 w → FrD tw5tD a0 a → needs tw5tD (tw5tF b y v av hk p q sa sb β) a w o.after.toList → StepD Try.prog tw5tD (factAt (tw5tF b y v av hk p q sa sb β) j) o a w) 0 (opsOf 5 Try.f51) := by
  simp only [opsOf, Try.f51, opsAt, Option.bind, Option.or, Option.getD, reduceCtorEq, if_true, if_false, Nat.reduceEqDiff]
  refine ⟨?_, ?_⟩
  · intro _a _w _hB hF _hd
    exact step_move (guard_none rfl) rfl _ rfl ((hF.other 1 rfl).trans S.v1)
  refine ⟨?_, ?_⟩
  · intro a _w _hB _hF hd
    have h32 : a.tmps.getD 32 undef = .pointer (some ⟨b, 0, none⟩) := hd.1 rfl
    exact rf_nilck (guard_none rfl) rfl _ rfl _ h32 rfl
  refine ⟨?_, ?_⟩
  · intro a _w _hB _hF hd
    have h33 : a.tmps.getD 33 undef = .pointer (some ⟨b, 0, none⟩) := hd.1 rfl
    exact rf_faddr (guard_none rfl) rfl _ _ _ rfl _ _ 6 _ h33 (by omega) (fun _ _ => by kernel_rfl) rfl
  refine ⟨?_, ?_⟩
  · intro a _w _hB _hF hd
    have h34 : a.tmps.getD 34 undef = .pointer (some ⟨b, 6, none⟩) := hd.1 rfl
    exact rf_faddr (guard_none rfl) rfl _ _ _ rfl _ _ 4 _ h34 (by omega) (fun _ _ => by kernel_rfl) rfl
  refine ⟨?_, ?_⟩
  · intro a _w _hB _hF hd
    have h35 : a.tmps.getD 35 undef = .pointer (some ⟨b, 10, none⟩) := hd.1 rfl
    exact rf_faddr (guard_none rfl) rfl _ _ _ rfl _ _ 1 _ h35 (by omega) (fun _ _ => by kernel_rfl) rfl
  refine ⟨?_, ?_⟩
  · intro a _w hB _hF hd
    have h36 : a.tmps.getD 36 undef = .pointer (some ⟨b, 11, none⟩) := hd.1 rfl
    exact rf_loadi (guard_none rfl) rfl _ rfl _ _ h36 _ ((Has.cell (S.pb.below hB S.pb.lt) 11).trans rfl) rfl
  refine ⟨?_, ?_⟩
  · intro _a _w _hB hF _hd
    exact rf_faddr (guard_none rfl) rfl _ _ _ rfl _ _ 0 _ ((hF.other 6 rfl).trans S.v6) (by omega) (fun _ _ => by kernel_rfl) rfl
  refine ⟨?_, ?_⟩
  · intro a _w hB _hF hd
    have h38 : a.tmps.getD 38 undef = .pointer (some ⟨y, 0, none⟩) := hd.1 rfl
    exact rf_loadi (guard_none rfl) rfl _ rfl _ _ h38 _ ((Has.cell (S.bx.below hB S.bx.lt) 0).trans rfl) rfl
  refine ⟨?_, ?_⟩
  · intro a _w _hB _hF hd
    have h37 : a.tmps.getD 37 undef = .int .i64 av.f.t := hd.1 rfl
    have h39 : a.tmps.getD 39 undef = .int .i64 sa := hd.2.1 rfl
    exact rf_geq (guard_none rfl) rfl _ _ rfl _ _ h37 h39 true S.ht rfl
  refine ⟨?_, ?_⟩
  · intro a _w _hB _hF hd
    have h40 : a.tmps.getD 40 undef = .bool true := hd.1 rfl
    exact step_move (guard_none rfl) rfl _ rfl h40
  refine ⟨?_, ?_⟩
  · intro a _w _hB hF hd
    have h41 : a.tmps.getD 41 undef = .bool true := hd.1 rfl
    exact step_move (rf_open true rfl rfl h41) rfl _ rfl ((hF.other 1 rfl).trans S.v1)
  refine ⟨?_, ?_⟩
  · intro a _w _hB _hF hd
    have h41 : a.tmps.getD 41 undef = .bool true := hd.2.1 rfl
    have h42 : a.tmps.getD 42 undef = .pointer (some ⟨b, 0, none⟩) := hd.1 rfl
    exact rf_nilck (rf_open true rfl rfl h41) rfl _ rfl _ h42 rfl
  refine ⟨?_, ?_⟩
  · intro a _w _hB _hF hd
    have h41 : a.tmps.getD 41 undef = .bool true := hd.2.1 rfl
    have h43 : a.tmps.getD 43 undef = .pointer (some ⟨b, 0, none⟩) := hd.1 rfl
    exact rf_faddr (rf_open true rfl rfl h41) rfl _ _ _ rfl _ _ 6 _ h43 (by omega) (fun _ _ => by kernel_rfl) rfl
  refine ⟨?_, ?_⟩
  · intro a _w _hB _hF hd
    have h41 : a.tmps.getD 41 undef = .bool true := hd.2.1 rfl
    have h44 : a.tmps.getD 44 undef = .pointer (some ⟨b, 6, none⟩) := hd.1 rfl
    exact rf_faddr (rf_open true rfl rfl h41) rfl _ _ _ rfl _ _ 8 _ h44 (by omega) (fun _ _ => by kernel_rfl) rfl
  refine ⟨?_, ?_⟩
  · intro a _w _hB _hF hd
    have h41 : a.tmps.getD 41 undef = .bool true := hd.2.1 rfl
    have h45 : a.tmps.getD 45 undef = .pointer (some ⟨b, 14, none⟩) := hd.1 rfl
    exact rf_faddr (rf_open true rfl rfl h41) rfl _ _ _ rfl _ _ 1 _ h45 (by omega) (fun _ _ => by kernel_rfl) rfl
  refine ⟨?_, ?_⟩
  · intro a _w hB _hF hd
    have h41 : a.tmps.getD 41 undef = .bool true := hd.2.1 rfl
    have h46 : a.tmps.getD 46 undef = .pointer (some ⟨b, 15, none⟩) := hd.1 rfl
    exact rf_loadi (rf_open true rfl rfl h41) rfl _ rfl _ _ h46 _ ((Has.cell (S.pb.below hB S.pb.lt) 15).trans rfl) rfl
  refine ⟨?_, ?_⟩
  · intro a _w _hB hF hd
    have h41 : a.tmps.getD 41 undef = .bool true := hd.1 rfl
    exact rf_faddr (rf_open true rfl rfl h41) rfl _ _ _ rfl _ _ 1 _ ((hF.other 6 rfl).trans S.v6) (by omega) (fun _ _ => by kernel_rfl) rfl
  refine ⟨?_, ?_⟩
  · intro a _w hB _hF hd
    have h41 : a.tmps.getD 41 undef = .bool true := hd.2.1 rfl
    have h48 : a.tmps.getD 48 undef = .pointer (some ⟨y, 1, none⟩) := hd.1 rfl
    exact rf_loadi (rf_open true rfl rfl h41) rfl _ rfl _ _ h48 _ ((Has.cell (S.bx.below hB S.bx.lt) 1).trans rfl) rfl
  refine ⟨?_, ?_⟩
  · intro a _w _hB _hF hd
    have h41 : a.tmps.getD 41 undef = .bool true := hd.2.2.1 rfl
    have h47 : a.tmps.getD 47 undef = .int .i64 av.l.t := hd.1 rfl
    have h49 : a.tmps.getD 49 undef = .int .i64 sb := hd.2.1 rfl
    exact rf_lss (rf_open true rfl rfl h41) rfl _ _ rfl _ _ h47 h49 β S.hu rfl
  refine ⟨?_, ?_⟩
  · intro a _w _hB _hF hd
    have h41 : a.tmps.getD 41 undef = .bool true := hd.1 rfl
    have h50 : a.tmps.getD 50 undef = .bool β := hd.2.1 rfl
    exact rf_pick (guard_none rfl) rfl _ _ _ rfl true h41 h50
  refine ⟨?_, ?_⟩
  · intro a _w _hB _hF hd
    have h51 : a.tmps.getD 51 undef = .bool β := hd.1 rfl
    exact step_assign (guard_none rfl) rfl _ rfl h51
  trivial
theorem tw5t_any {Q : Exit → Act → World → Prop} {l : List Oper} (hl : opsOf 5 Try.f51 = l) (hend : ∀ w : World, Below w0.heap.size w0 w → Q .normal (putAll a0 [(32, .pointer (some ⟨b, 0, none⟩)), (33, .pointer (some ⟨b, 0, none⟩)), (34, .pointer (some ⟨b, 6, none⟩)), (35, .pointer (some ⟨b, 10, none⟩)), (36, .pointer (some ⟨b, 11, none⟩)), (37, .int .i64 av.f.t), (38, .pointer (some ⟨y, 0, none⟩)), (39, .int .i64 sa), (40, .bool true), (41, .bool true), (42, .pointer (some ⟨b, 0, none⟩)), (43, .pointer (some ⟨b, 0, none⟩)), (44, .pointer (some ⟨b, 6, none⟩)), (45, .pointer (some ⟨b, 14, none⟩)), (46, .pointer (some ⟨b, 15, none⟩)), (47, .int .i64 av.l.t), (48, .pointer (some ⟨y, 1, none⟩)), (49, .int .i64 sb), (50, .bool β), (51, .bool β), (31, .bool β)]) w) :
    (Code.region 5 l.toArray true).wp Try.prog Q a0 w0 := by
  subst hl
  refine region_facts2 (tw5tF b y v av hk p q sa sb β) tw5tD 102 S.size rfl (by kernel_rfl) (by kernel_rfl) (tw5tF_mono _ _ _ _ _ _ _ _ _ _) (tw5t_ok S) fun a w hB hF h => ?_
  have hv : valsAre a [(32, .pointer (some ⟨b, 0, none⟩)), (33, .pointer (some ⟨b, 0, none⟩)), (34, .pointer (some ⟨b, 6, none⟩)), (35, .pointer (some ⟨b, 10, none⟩)), (36, .pointer (some ⟨b, 11, none⟩)), (37, .int .i64 av.f.t), (38, .pointer (some ⟨y, 0, none⟩)), (39, .int .i64 sa), (40, .bool true), (41, .bool true), (42, .pointer (some ⟨b, 0, none⟩)), (43, .pointer (some ⟨b, 0, none⟩)), (44, .pointer (some ⟨b, 6, none⟩)), (45, .pointer (some ⟨b, 14, none⟩)), (46, .pointer (some ⟨b, 15, none⟩)), (47, .int .i64 av.l.t), (48, .pointer (some ⟨y, 1, none⟩)), (49, .int .i64 sb), (50, .bool β), (51, .bool β), (31, .bool β)] := by
    refine ⟨?_, ?_, ?_, ?_, ?_, ?_, ?_, ?_, ?_, ?_, ?_, ?_, ?_, ?_, ?_, ?_, ?_, ?_, ?_, ?_, ?_, trivial⟩
    · exact h 0 (some 32) rfl
    · exact h 1 (some 33) rfl
    · exact h 2 (some 34) rfl
    · exact h 3 (some 35) rfl
    · exact h 4 (some 36) rfl
    · exact h 5 (some 37) rfl
    · exact h 6 (some 38) rfl
    · exact h 7 (some 39) rfl
    · exact h 8 (some 40) rfl
    · exact h 9 (some 41) rfl
    · exact h 10 (some 42) rfl
    · exact h 11 (some 43) rfl
    · exact h 12 (some 44) rfl
    · exact h 13 (some 45) rfl
    · exact h 14 (some 46) rfl
    · exact h 15 (some 47) rfl
    · exact h 16 (some 48) rfl
    · exact h 17 (some 49) rfl
    · exact h 18 (some 50) rfl
    · exact h 19 (some 51) rfl
    · exact h 20 (some 31) rfl
  rw [frame_is hF _ hv (by rfl) (by rfl)]
  exact hend w hB
end

def tw8fD : List (Option Tmp) := [some 67, some 68, some 69, some 70, some 71, some 72, some 73, some 74, some 75, some 76, some 77, some 78, some 79, some 80, some 81, some 82, some 83, some 84]
def tw8fF (b y : Nat) (v : It) (_av : Ac) (_hk : Nat) (_p _q : Option Addr) (sa _sb : Int) : List Fact := [isV (.pointer (some ⟨b, 0, none⟩)), isV (.pointer (some ⟨b, 0, none⟩)), isV (.pointer (some ⟨b, 1, none⟩)), isV (.pointer (some ⟨b, 2, none⟩)), isV (.int .i64 v.t), isV (.pointer (some ⟨y, 0, none⟩)), isV (.int .i64 sa), isV (.bool false), isV (.bool false), isV (undef), isV (undef), isV (undef), isV (undef), isV (undef), isV (undef), isV (undef), isV (undef), isV (.bool false)]
theorem tw8fF_mono (b y : Nat) (v : It) (av : Ac) (hk : Nat) (p q : Option Addr) (sa sb : Int) : ∀ φ ∈ tw8fF b y v av hk p q sa sb, Mono φ := by
  unfold tw8fF
  refine monos_cons (mono_isV _) ?_
  refine monos_cons (mono_isV _) ?_
  refine monos_cons (mono_isV _) ?_
  refine monos_cons (mono_isV _) ?_
  refine monos_cons (mono_isV _) ?_
  refine monos_cons (mono_isV _) ?_
  refine monos_cons (mono_isV _) ?_
  refine monos_cons (mono_isV _) ?_
  refine monos_cons (mono_isV _) ?_
  refine monos_cons (mono_isV _) ?_
  refine monos_cons (mono_isV _) ?_
  refine monos_cons (mono_isV _) ?_
  refine monos_cons (mono_isV _) ?_
  refine monos_cons (mono_isV _) ?_
  refine monos_cons (mono_isV _) ?_
  refine monos_cons (mono_isV _) ?_
  refine monos_cons (mono_isV _) ?_
  refine monos_cons (mono_isV _) ?_
  exact monos_nil
structure tw8fS (b y : Nat) (v : It) (av : Ac) (hk : Nat) (p q : Option Addr) (sa sb : Int) (a0 : Act) (w0 : World) : Prop where
  size : a0.tmps.size = 102
  v1 : a0.tmps.getD 1 undef = .pointer (some ⟨b, 0, none⟩)
  v6 : a0.tmps.getD 6 undef = .pointer (some ⟨y, 0, none⟩)
  pb : Has w0 b 107 (prtC p v q av hk)
  bx : Has w0 y 38 #[.int .i64 sa, .int .i64 sb]
  ht : decide (sa ≤ v.t) = false
section
variable {b y : Nat} {v : It} {av : Ac} {hk : Nat} {p q : Option Addr} {sa sb : Int} {a0 : Act} {w0 : World} (S : tw8fS b y v av hk p q sa sb a0 w0)
include S
set_option maxRecDepth 100000 in
set_option maxHeartbeats 8000000 in
theorem tw8f_ok : AllOps (fun j o => ∀ (a : Act) (w : World), Below w0.heap.size w0 w → FrD tw8fD a0 a → needs tw8fD (tw8fF b y v av hk p q sa sb) a w o.after.toList → StepD Try.prog tw8fD (factAt (tw8fF b y v av hk p q sa sb) j) o a w) 0 (opsOf 8 Try.f51) := by
  simp only [opsOf, Try.f51, opsAt, Option.bind, Option.or, Option.getD, reduceCtorEq, if_true, if_false, Nat.reduceEqDiff]
  refine ⟨?_, ?_⟩
  · intro _a _w _hB hF _hd
    exact step_move (guard_none rfl) rfl _ rfl ((hF.other 1 rfl).trans S.v1)
  refine ⟨?_, ?_⟩
  · intro a _w _hB _hF hd
    have h67 : a.tmps.getD 67 undef = .pointer (some ⟨b, 0, none⟩) := hd.1 rfl
    exact rf_nilck (guard_none rfl) rfl _ rfl _ h67 rfl
  refine ⟨?_, ?_⟩
  · intro a _w _hB _hF hd
    have h68 : a.tmps.getD 68 undef = .pointer (some ⟨b, 0, none⟩) := hd.1 rfl
    exact rf_faddr (guard_none rfl) rfl _ _ _ rfl _ _ 1 _ h68 (by omega) (fun _ _ => by kernel_rfl) rfl
  refine ⟨?_, ?_⟩
  · intro a _w _hB _hF hd
    have h69 : a.tmps.getD 69 undef = .pointer (some ⟨b, 1, none⟩) := hd.1 rfl
    exact rf_faddr (guard_none rfl) rfl _ _ _ rfl _ _ 1 _ h69 (by omega) (fun _ _ => by kernel_rfl) rfl
  refine ⟨?_, ?_⟩
  · intro a _w hB _hF hd
    have h70 : a.tmps.getD 70 undef = .pointer (some ⟨b, 2, none⟩) := hd.1 rfl
    exact rf_loadi (guard_none rfl) rfl _ rfl _ _ h70 _ ((Has.cell (S.pb.below hB S.pb.lt) 2).trans rfl) rfl
  refine ⟨?_, ?_⟩
  · intro _a _w _hB hF _hd
    exact rf_faddr (guard_none rfl) rfl _ _ _ rfl _ _ 0 _ ((hF.other 6 rfl).trans S.v6) (by omega) (fun _ _ => by kernel_rfl) rfl
  refine ⟨?_, ?_⟩
  · intro a _w hB _hF hd
    have h72 : a.tmps.getD 72 undef = .pointer (some ⟨y, 0, none⟩) := hd.1 rfl
    exact rf_loadi (guard_none rfl) rfl _ rfl _ _ h72 _ ((Has.cell (S.bx.below hB S.bx.lt) 0).trans rfl) rfl
  refine ⟨?_, ?_⟩
  · intro a _w _hB _hF hd
    have h71 : a.tmps.getD 71 undef = .int .i64 v.t := hd.1 rfl
    have h73 : a.tmps.getD 73 undef = .int .i64 sa := hd.2.1 rfl
    exact rf_geq (guard_none rfl) rfl _ _ rfl _ _ h71 h73 false S.ht rfl
  refine ⟨?_, ?_⟩
  · intro a _w _hB _hF hd
    have h74 : a.tmps.getD 74 undef = .bool false := hd.1 rfl
    exact step_move (guard_none rfl) rfl _ rfl h74
  refine ⟨?_, ?_⟩
  · intro a _w _hB _hF hd
    have h75 : a.tmps.getD 75 undef = .bool false := hd.1 rfl
    exact rf_shut true rfl rfl h75 rfl
  refine ⟨?_, ?_⟩
  · intro a _w _hB _hF hd
    have h75 : a.tmps.getD 75 undef = .bool false := hd.2.1 rfl
    exact rf_shut true rfl rfl h75 rfl
  refine ⟨?_, ?_⟩
  · intro a _w _hB _hF hd
    have h75 : a.tmps.getD 75 undef = .bool false := hd.2.1 rfl
    exact rf_shut true rfl rfl h75 rfl
  refine ⟨?_, ?_⟩
  · intro a _w _hB _hF hd
    have h75 : a.tmps.getD 75 undef = .bool false := hd.2.1 rfl
    exact rf_shut true rfl rfl h75 rfl
  refine ⟨?_, ?_⟩
  · intro a _w _hB _hF hd
    have h75 : a.tmps.getD 75 undef = .bool false := hd.2.1 rfl
    exact rf_shut true rfl rfl h75 rfl
  refine ⟨?_, ?_⟩
  · intro a _w _hB _hF hd
    have h75 : a.tmps.getD 75 undef = .bool false := hd.1 rfl
    exact rf_shut true rfl rfl h75 rfl
  refine ⟨?_, ?_⟩
  · intro a _w _hB _hF hd
    have h75 : a.tmps.getD 75 undef = .bool false := hd.2.1 rfl
    exact rf_shut true rfl rfl h75 rfl
  refine ⟨?_, ?_⟩
  · intro a _w _hB _hF hd
    have h75 : a.tmps.getD 75 undef = .bool false := hd.2.2.1 rfl
    exact rf_shut true rfl rfl h75 rfl
  refine ⟨?_, ?_⟩
  · intro a _w _hB _hF hd
    have h75 : a.tmps.getD 75 undef = .bool false := hd.1 rfl
    exact rf_pick (guard_none rfl) rfl _ _ _ rfl false h75 rfl
  trivial
theorem tw8f_any {Q : Exit → Act → World → Prop} {l : List Oper} (hl : opsOf 8 Try.f51 = l) (hend : ∀ w : World, Below w0.heap.size w0 w → Q .normal (putAll a0 [(67, .pointer (some ⟨b, 0, none⟩)), (68, .pointer (some ⟨b, 0, none⟩)), (69, .pointer (some ⟨b, 1, none⟩)), (70, .pointer (some ⟨b, 2, none⟩)), (71, .int .i64 v.t), (72, .pointer (some ⟨y, 0, none⟩)), (73, .int .i64 sa), (74, .bool false), (75, .bool false), (76, undef), (77, undef), (78, undef), (79, undef), (80, undef), (81, undef), (82, undef), (83, undef), (84, .bool false)]) w) :
    (Code.region 8 l.toArray true).wp Try.prog Q a0 w0 := by
  subst hl
  refine region_facts2 (tw8fF b y v av hk p q sa sb) tw8fD 102 S.size rfl (by kernel_rfl) (by kernel_rfl) (tw8fF_mono _ _ _ _ _ _ _ _ _) (tw8f_ok S) fun a w hB hF h => ?_
  have hv : valsAre a [(67, .pointer (some ⟨b, 0, none⟩)), (68, .pointer (some ⟨b, 0, none⟩)), (69, .pointer (some ⟨b, 1, none⟩)), (70, .pointer (some ⟨b, 2, none⟩)), (71, .int .i64 v.t), (72, .pointer (some ⟨y, 0, none⟩)), (73, .int .i64 sa), (74, .bool false), (75, .bool false), (76, undef), (77, undef), (78, undef), (79, undef), (80, undef), (81, undef), (82, undef), (83, undef), (84, .bool false)] := by
    refine ⟨?_, ?_, ?_, ?_, ?_, ?_, ?_, ?_, ?_, ?_, ?_, ?_, ?_, ?_, ?_, ?_, ?_, ?_, trivial⟩
    · exact h 0 (some 67) rfl
    · exact h 1 (some 68) rfl
    · exact h 2 (some 69) rfl
    · exact h 3 (some 70) rfl
    · exact h 4 (some 71) rfl
    · exact h 5 (some 72) rfl
    · exact h 6 (some 73) rfl
    · exact h 7 (some 74) rfl
    · exact h 8 (some 75) rfl
    · exact h 9 (some 76) rfl
    · exact h 10 (some 77) rfl
    · exact h 11 (some 78) rfl
    · exact h 12 (some 79) rfl
    · exact h 13 (some 80) rfl
    · exact h 14 (some 81) rfl
    · exact h 15 (some 82) rfl
    · exact h 16 (some 83) rfl
    · exact h 17 (some 84) rfl
  rw [frame_is hF _ hv (by rfl) (by rfl)]
  exact hend w hB
end

def tw8tD : List (Option Tmp) := [some 67, some 68, some 69, some 70, some 71, some 72, some 73, some 74, some 75, some 76, some 77, some 78, some 79, some 80, some 81, some 82, some 83, some 84]
def tw8tF (b y : Nat) (v : It) (_av : Ac) (_hk : Nat) (_p _q : Option Addr) (sa sb : Int) (β : Bool) : List Fact := [isV (.pointer (some ⟨b, 0, none⟩)), isV (.pointer (some ⟨b, 0, none⟩)), isV (.pointer (some ⟨b, 1, none⟩)), isV (.pointer (some ⟨b, 2, none⟩)), isV (.int .i64 v.t), isV (.pointer (some ⟨y, 0, none⟩)), isV (.int .i64 sa), isV (.bool true), isV (.bool true), isV (.pointer (some ⟨b, 0, none⟩)), isV (.pointer (some ⟨b, 0, none⟩)), isV (.pointer (some ⟨b, 1, none⟩)), isV (.pointer (some ⟨b, 2, none⟩)), isV (.int .i64 v.t), isV (.pointer (some ⟨y, 1, none⟩)), isV (.int .i64 sb), isV (.bool β), isV (.bool β)]
theorem tw8tF_mono (b y : Nat) (v : It) (av : Ac) (hk : Nat) (p q : Option Addr) (sa sb : Int) (β : Bool) : ∀ φ ∈ tw8tF b y v av hk p q sa sb β, Mono φ := by
  unfold tw8tF
  refine monos_cons (mono_isV _) ?_
  refine monos_cons (mono_isV _) ?_
  refine monos_cons (mono_isV _) ?_
  refine monos_cons (mono_isV _) ?_
  refine monos_cons (mono_isV _) ?_
  refine monos_cons (mono_isV _) ?_
  refine monos_cons (mono_isV _) ?_
  refine monos_cons (mono_isV _) ?_
  refine monos_cons (mono_isV _) ?_
  refine monos_cons (mono_isV _) ?_
  refine monos_cons (mono_isV _) ?_
  refine monos_cons (mono_isV _) ?_
  refine monos_cons (mono_isV _) ?_
  refine monos_cons (mono_isV _) ?_
  refine monos_cons (mono_isV _) ?_
  refine monos_cons (mono_isV _) ?_
  refine monos_cons (mono_isV _) ?_
  refine monos_cons (mono_isV _) ?_
  exact monos_nil
structure tw8tS (b y : Nat) (v : It) (av : Ac) (hk : Nat) (p q : Option Addr) (sa sb : Int) (β : Bool) (a0 : Act) (w0 : World) : Prop where
  size : a0.tmps.size = 102
  v1 : a0.tmps.getD 1 undef = .pointer (some ⟨b, 0, none⟩)
  v6 : a0.tmps.getD 6 undef = .pointer (some ⟨y, 0, none⟩)
  pb : Has w0 b 107 (prtC p v q av hk)
  bx : Has w0 y 38 #[.int .i64 sa, .int .i64 sb]
  ht : decide (sa ≤ v.t) = true
  hu : decide (v.t < sb) = β
section
variable {b y : Nat} {v : It} {av : Ac} {hk : Nat} {p q : Option Addr} {sa sb : Int} {β : Bool} {a0 : Act} {w0 : World} (S : tw8tS b y v av hk p q sa sb β a0 w0)
include S
set_option maxRecDepth 100000 in
set_option maxHeartbeats 8000000 in
theorem tw8t_ok : AllOps (fun j o => ∀ (a : Act) (w : World), Below w0.heap.size w0 w → FrD tw8tD a0 a → needs tw8tD (tw8tF b y v av hk p q sa sb β) a w o.after.toList → StepD Try.prog tw8tD (factAt (tw8tF b y v av hk p q sa sb β) j) o a w) 0 (opsOf 8 Try.f51) := by
  simp only [opsOf, Try.f51, opsAt, Option.bind, Option.or, Option.getD, reduceCtorEq, if_true, if_false, Nat.reduceEqDiff]
  refine ⟨?_, ?_⟩
  · intro _a _w _hB hF _hd
    exact step_move (guard_none rfl) rfl _ rfl ((hF.other 1 rfl).trans S.v1)
  refine ⟨?_, ?_⟩
  · intro a _w _hB _hF hd
    have h67 : a.tmps.getD 67 undef = .pointer (some ⟨b, 0, none⟩) := hd.1 rfl
    exact rf_nilck (guard_none rfl) rfl _ rfl _ h67 rfl
  refine ⟨?_, ?_⟩
  · intro a _w _hB _hF hd
    have h68 : a.tmps.getD 68 undef = .pointer (some ⟨b, 0, none⟩) := hd.1 rfl
    exact rf_faddr (guard_none rfl) rfl _ _ _ rfl _ _ 1 _ h68 (by omega) (fun _ _ => by kernel_rfl) rfl
  refine ⟨?_, ?_⟩
  · intro a _w _hB _hF hd
    have h69 : a.tmps.getD 69 undef = .pointer (some ⟨b, 1, none⟩) := hd.1 rfl
    exact rf_faddr (guard_none rfl) rfl _ _ _ rfl _ _ 1 _ h69 (by omega) (fun _ _ => by kernel_rfl) rfl
  refine ⟨?_, ?_⟩
  · intro a _w hB _hF hd
    have h70 : a.tmps.getD 70 undef = .pointer (some ⟨b, 2, none⟩) := hd.1 rfl
    exact rf_loadi (guard_none rfl) rfl _ rfl _ _ h70 _ ((Has.cell (S.pb.below hB S.pb.lt) 2).trans rfl) rfl
  refine ⟨?_, ?_⟩
  · intro _a _w _hB hF _hd
    exact rf_faddr (guard_none rfl) rfl _ _ _ rfl _ _ 0 _ ((hF.other 6 rfl).trans S.v6) (by omega) (fun _ _ => by kernel_rfl) rfl
  refine ⟨?_, ?_⟩
  · intro a _w hB _hF hd
    have h72 : a.tmps.getD 72 undef = .pointer (some ⟨y, 0, none⟩) := hd.1 rfl
    exact rf_loadi (guard_none rfl) rfl _ rfl _ _ h72 _ ((Has.cell (S.bx.below hB S.bx.lt) 0).trans rfl) rfl
  refine ⟨?_, ?_⟩
  · intro a _w _hB _hF hd
    have h71 : a.tmps.getD 71 undef = .int .i64 v.t := hd.1 rfl
    have h73 : a.tmps.getD 73 undef = .int .i64 sa := hd.2.1 rfl
    exact rf_geq (guard_none rfl) rfl _ _ rfl _ _ h71 h73 true S.ht rfl
  refine ⟨?_, ?_⟩
  · intro a _w _hB _hF hd
    have h74 : a.tmps.getD 74 undef = .bool true := hd.1 rfl
    exact step_move (guard_none rfl) rfl _ rfl h74
  refine ⟨?_, ?_⟩
  · intro a _w _hB hF hd
    have h75 : a.tmps.getD 75 undef = .bool true := hd.1 rfl
    exact step_move (rf_open true rfl rfl h75) rfl _ rfl ((hF.other 1 rfl).trans S.v1)
  refine ⟨?_, ?_⟩
  · intro a _w _hB _hF hd
    have h75 : a.tmps.getD 75 undef = .bool true := hd.2.1 rfl
    have h76 : a.tmps.getD 76 undef = .pointer (some ⟨b, 0, none⟩) := hd.1 rfl
    exact rf_nilck (rf_open true rfl rfl h75) rfl _ rfl _ h76 rfl
  refine ⟨?_, ?_⟩
  · intro a _w _hB _hF hd
    have h75 : a.tmps.getD 75 undef = .bool true := hd.2.1 rfl
    have h77 : a.tmps.getD 77 undef = .pointer (some ⟨b, 0, none⟩) := hd.1 rfl
    exact rf_faddr (rf_open true rfl rfl h75) rfl _ _ _ rfl _ _ 1 _ h77 (by omega) (fun _ _ => by kernel_rfl) rfl
  refine ⟨?_, ?_⟩
  · intro a _w _hB _hF hd
    have h75 : a.tmps.getD 75 undef = .bool true := hd.2.1 rfl
    have h78 : a.tmps.getD 78 undef = .pointer (some ⟨b, 1, none⟩) := hd.1 rfl
    exact rf_faddr (rf_open true rfl rfl h75) rfl _ _ _ rfl _ _ 1 _ h78 (by omega) (fun _ _ => by kernel_rfl) rfl
  refine ⟨?_, ?_⟩
  · intro a _w hB _hF hd
    have h75 : a.tmps.getD 75 undef = .bool true := hd.2.1 rfl
    have h79 : a.tmps.getD 79 undef = .pointer (some ⟨b, 2, none⟩) := hd.1 rfl
    exact rf_loadi (rf_open true rfl rfl h75) rfl _ rfl _ _ h79 _ ((Has.cell (S.pb.below hB S.pb.lt) 2).trans rfl) rfl
  refine ⟨?_, ?_⟩
  · intro a _w _hB hF hd
    have h75 : a.tmps.getD 75 undef = .bool true := hd.1 rfl
    exact rf_faddr (rf_open true rfl rfl h75) rfl _ _ _ rfl _ _ 1 _ ((hF.other 6 rfl).trans S.v6) (by omega) (fun _ _ => by kernel_rfl) rfl
  refine ⟨?_, ?_⟩
  · intro a _w hB _hF hd
    have h75 : a.tmps.getD 75 undef = .bool true := hd.2.1 rfl
    have h81 : a.tmps.getD 81 undef = .pointer (some ⟨y, 1, none⟩) := hd.1 rfl
    exact rf_loadi (rf_open true rfl rfl h75) rfl _ rfl _ _ h81 _ ((Has.cell (S.bx.below hB S.bx.lt) 1).trans rfl) rfl
  refine ⟨?_, ?_⟩
  · intro a _w _hB _hF hd
    have h75 : a.tmps.getD 75 undef = .bool true := hd.2.2.1 rfl
    have h80 : a.tmps.getD 80 undef = .int .i64 v.t := hd.1 rfl
    have h82 : a.tmps.getD 82 undef = .int .i64 sb := hd.2.1 rfl
    exact rf_lss (rf_open true rfl rfl h75) rfl _ _ rfl _ _ h80 h82 β S.hu rfl
  refine ⟨?_, ?_⟩
  · intro a _w _hB _hF hd
    have h75 : a.tmps.getD 75 undef = .bool true := hd.1 rfl
    have h83 : a.tmps.getD 83 undef = .bool β := hd.2.1 rfl
    exact rf_pick (guard_none rfl) rfl _ _ _ rfl true h75 h83
  trivial
theorem tw8t_any {Q : Exit → Act → World → Prop} {l : List Oper} (hl : opsOf 8 Try.f51 = l) (hend : ∀ w : World, Below w0.heap.size w0 w → Q .normal (putAll a0 [(67, .pointer (some ⟨b, 0, none⟩)), (68, .pointer (some ⟨b, 0, none⟩)), (69, .pointer (some ⟨b, 1, none⟩)), (70, .pointer (some ⟨b, 2, none⟩)), (71, .int .i64 v.t), (72, .pointer (some ⟨y, 0, none⟩)), (73, .int .i64 sa), (74, .bool true), (75, .bool true), (76, .pointer (some ⟨b, 0, none⟩)), (77, .pointer (some ⟨b, 0, none⟩)), (78, .pointer (some ⟨b, 1, none⟩)), (79, .pointer (some ⟨b, 2, none⟩)), (80, .int .i64 v.t), (81, .pointer (some ⟨y, 1, none⟩)), (82, .int .i64 sb), (83, .bool β), (84, .bool β)]) w) :
    (Code.region 8 l.toArray true).wp Try.prog Q a0 w0 := by
  subst hl
  refine region_facts2 (tw8tF b y v av hk p q sa sb β) tw8tD 102 S.size rfl (by kernel_rfl) (by kernel_rfl) (tw8tF_mono _ _ _ _ _ _ _ _ _ _) (tw8t_ok S) fun a w hB hF h => ?_
  have hv : valsAre a [(67, .pointer (some ⟨b, 0, none⟩)), (68, .pointer (some ⟨b, 0, none⟩)), (69, .pointer (some ⟨b, 1, none⟩)), (70, .pointer (some ⟨b, 2, none⟩)), (71, .int .i64 v.t), (72, .pointer (some ⟨y, 0, none⟩)), (73, .int .i64 sa), (74, .bool true), (75, .bool true), (76, .pointer (some ⟨b, 0, none⟩)), (77, .pointer (some ⟨b, 0, none⟩)), (78, .pointer (some ⟨b, 1, none⟩)), (79, .pointer (some ⟨b, 2, none⟩)), (80, .int .i64 v.t), (81, .pointer (some ⟨y, 1, none⟩)), (82, .int .i64 sb), (83, .bool β), (84, .bool β)] := by
    refine ⟨?_, ?_, ?_, ?_, ?_, ?_, ?_, ?_, ?_, ?_, ?_, ?_, ?_, ?_, ?_, ?_, ?_, ?_, trivial⟩
    · exact h 0 (some 67) rfl
    · exact h 1 (some 68) rfl
    · exact h 2 (some 69) rfl
    · exact h 3 (some 70) rfl
    · exact h 4 (some 71) rfl
    · exact h 5 (some 72) rfl
    · exact h 6 (some 73) rfl
    · exact h 7 (some 74) rfl
    · exact h 8 (some 75) rfl
    · exact h 9 (some 76) rfl
    · exact h 10 (some 77) rfl
    · exact h 11 (some 78) rfl
    · exact h 12 (some 79) rfl
    · exact h 13 (some 80) rfl
    · exact h 14 (some 81) rfl
    · exact h 15 (some 82) rfl
    · exact h 16 (some 83) rfl
    · exact h 17 (some 84) rfl
  rw [frame_is hF _ hv (by rfl) (by rfl)]
  exact hend w hB
end

def tw7D : List (Option Tmp) := [some 59, some 60, some 61, some 62, some 63, some 64, some 65, some 66, some 3]
def tw7F (g : Nat) (b _y : Nat) (_v : It) (_av : Ac) (_hk : Nat) (p _q : Option Addr) (sa sb : Int) (vo : Value) (base z : Nat) (ps : List (Ac × Nat)) (R : List Ac) : List Fact := [isV (.pointer (some ⟨g, 0, none⟩)), isV (.pointer (some ⟨b, 0, none⟩)), isV (.pointer (some ⟨b, 0, none⟩)), isV (.pointer (some ⟨b, 0, none⟩)), isV (.pointer p), isV (.agg #[.int .i64 sa, .int .i64 sb]), isV (vo), accsB base ps R vo z]
theorem tw7F_mono (g : Nat) (b y : Nat) (v : It) (av : Ac) (hk : Nat) (p q : Option Addr) (sa sb : Int) (vo : Value) (base z : Nat) (ps : List (Ac × Nat)) (R : List Ac) : ∀ φ ∈ tw7F g b y v av hk p q sa sb vo base z ps R, Mono φ := by
  unfold tw7F
  repeat (first | exact monos_nil | (refine monos_cons (mono_isV _) ?_) | (refine monos_cons (accsB_mono _ _ _ _ _) ?_))
structure tw7S (g : Nat) (b y : Nat) (v : It) (av : Ac) (hk : Nat) (p q : Option Addr) (sa sb : Int) (vo : Value) (base z : Nat) (ps : List (Ac × Nat)) (R : List Ac) (a0 : Act) (w0 : World) : Prop where
  size : a0.tmps.size = 102
  v0 : a0.tmps.getD 0 undef = .pointer (some ⟨g, 0, none⟩)
  v1 : a0.tmps.getD 1 undef = .pointer (some ⟨b, 0, none⟩)
  v3 : a0.tmps.getD 3 undef = vo
  v6 : a0.tmps.getD 6 undef = .pointer (some ⟨y, 0, none⟩)
  pb : Has w0 b 107 (prtC p v q av hk)
  fpb : vo.ownBlock ≠ some b
  bx : Has w0 y 38 #[.int .i64 sa, .int .i64 sb]
  fbx : vo.ownBlock ≠ some y
  c1 : ∀ w, ButO (slB vo) w0 w → Own w base vo ps → Calls Try.prog 51 #[.pointer (some ⟨g, 0, none⟩), .pointer p, .agg #[.int .i64 sa, .int .i64 sb], vo] w fun e w1 => ∃ v1, e = .returned v1 ∧ (∃ qs, Own w1 base v1 (ps ++ qs) ∧ qs.map (·.1) = R) ∧ ButO (slB vo) w w1 ∧ ∀ k, v1.ownBlock = some k → vo.ownBlock = some k ∨ z ≤ k
  jb : ∀ w w1 : World, (fun w => Own w base vo ps) w → Below w.heap.size w w1 → (fun w => Own w base vo ps) w1
  j0 : (fun w => Own w base vo ps) w0.drew
section
variable {g : Nat} {b y : Nat} {v : It} {av : Ac} {hk : Nat} {p q : Option Addr} {sa sb : Int} {vo : Value} {base z : Nat} {ps : List (Ac × Nat)} {R : List Ac} {a0 : Act} {w0 : World} (S : tw7S g b y v av hk p q sa sb vo base z ps R a0 w0)
include S
set_option maxRecDepth 100000 in
set_option maxHeartbeats 8000000 in
theorem tw7_ok : AllOps (fun j o => ∀ (a : Act) (w : World) (b1 b2 : Bool), (j = 7 → b1 = false ∧ b2 = false) → (j = 1000 → b1 = true ∧ b2 = false) → OI vo (fun w => Own w base vo ps) w0 b1 b2 w → FrD (tw7D.take 8) a0 a → needs tw7D (tw7F g b y v av hk p q sa sb vo base z ps R) a w o.after.toList → AskM Try.prog tw7D (factAt (tw7F g b y v av hk p q sa sb vo base z ps R) j) (ButO (slB vo)) (fun w w1 => w = w1) (OI vo (fun w => Own w base vo ps) w0) 7 1000 j o a w) 0 ((opsOf 7 Try.f51).take 8) := by
  simp only [opsOf, Try.f51, opsAt, Option.bind, Option.or, Option.getD, reduceCtorEq, if_true, if_false, Nat.reduceEqDiff, List.take_succ_cons, List.take_zero]
  refine ⟨?_, ?_⟩
  · intro _a _w _b1 _b2 _h1 _h2 _hI hF _hd
    refine askM_d (by decide) (by decide) ?_
    exact step_move (guard_none rfl) rfl _ rfl ((hF.other 0 rfl).trans S.v0)
  refine ⟨?_, ?_⟩
  · intro _a _w _b1 _b2 _h1 _h2 _hI hF _hd
    refine askM_d (by decide) (by decide) ?_
    exact step_move (guard_none rfl) rfl _ rfl ((hF.other 1 rfl).trans S.v1)
  refine ⟨?_, ?_⟩
  · intro a _w _b1 _b2 _h1 _h2 _hI _hF hd
    refine askM_d (by decide) (by decide) ?_
    have h60 : a.tmps.getD 60 undef = .pointer (some ⟨b, 0, none⟩) := hd.1 rfl
    exact rf_nilck (guard_none rfl) rfl _ rfl _ h60 rfl
  refine ⟨?_, ?_⟩
  · intro a _w _b1 _b2 _h1 _h2 _hI _hF hd
    refine askM_d (by decide) (by decide) ?_
    have h61 : a.tmps.getD 61 undef = .pointer (some ⟨b, 0, none⟩) := hd.1 rfl
    exact rf_faddr (guard_none rfl) rfl _ _ _ rfl _ _ 0 _ h61 (by omega) (fun _ _ => by kernel_rfl) rfl
  refine ⟨?_, ?_⟩
  · intro a _w _b1 _b2 _h1 _h2 hI _hF hd
    refine askM_d (by decide) (by decide) ?_
    have hB := hI.1
    have h62 : a.tmps.getD 62 undef = .pointer (some ⟨b, 0, none⟩) := hd.1 rfl
    exact rf_load1 (guard_none rfl) rfl _ _ rfl _ _ h62 (run_ldPart ((Has.cell (S.pb.butB hB S.fpb) 0).trans rfl)) rfl
  refine ⟨?_, ?_⟩
  · intro _a _w _b1 _b2 _h1 _h2 hI hF _hd
    refine askM_d (by decide) (by decide) ?_
    have hB := hI.1
    exact rf_loadS (guard_none rfl) rfl _ _ rfl _ _ ((hF.other 6 rfl).trans S.v6) _ (rf_range (S.bx.butB hB S.fbx)) Try.underlying38 rfl (by kernel_rfl) rfl
  refine ⟨?_, ?_⟩
  · intro _a _w _b1 _b2 _h1 _h2 _hI hF _hd
    refine askM_d (by decide) (by decide) ?_
    exact step_move (guard_none rfl) rfl _ rfl ((hF.other 3 rfl).trans S.v3)
  refine ⟨?_, ?_⟩
  · intro a w _b1 _b2 h1 _h2 hI _hF hd
    obtain ⟨rfl, rfl⟩ := h1 rfl
    refine askM_1 rfl ?_
    have h59 : a.tmps.getD 59 undef = .pointer (some ⟨g, 0, none⟩) := hd.1 rfl
    have h63 : a.tmps.getD 63 undef = .pointer p := hd.2.1 rfl
    have h64 : a.tmps.getD 64 undef = .agg #[.int .i64 sa, .int .i64 sb] := hd.2.2.1 rfl
    have h65 : a.tmps.getD 65 undef = vo := hd.2.2.2.1 rfl
    refine stepL_call (guard_none rfl) rfl _ _ (rf_call_run Try.func51 (by kernel_rfl) (by kernel_rfl) _ _ rfl) ?_
    simp only [List.map_toArray, List.map_cons, List.map_nil, Act.eval, h59, h63, h64, h65]
    exact (S.c1 w hI.1 (hI.2 rfl)).mono (by rintro e w1 ⟨v1, rfl, ho, hb, hs⟩; exact ⟨_, rfl, hb, ⟨hI.1.tr hb, fun h => by cases h⟩, v1, rfl, ho, hs⟩)
  trivial
set_option maxRecDepth 100000 in
theorem tw7_any {Q : Exit → Act → World → Prop} {l : List Oper} (hl : opsOf 7 Try.f51 = l) (hend : ∀ (v66 : Value), ∀ w : World, OI vo (fun w => Own w base vo ps) w0 true false w → ((∃ qs, Own w base v66 (ps ++ qs) ∧ qs.map (·.1) = R) ∧ ∀ k, v66.ownBlock = some k → vo.ownBlock = some k ∨ z ≤ k) → wpList Try.prog l.toArray Q (l.drop 8) (putAll a0 [(59, .pointer (some ⟨g, 0, none⟩)), (60, .pointer (some ⟨b, 0, none⟩)), (61, .pointer (some ⟨b, 0, none⟩)), (62, .pointer (some ⟨b, 0, none⟩)), (63, .pointer p), (64, .agg #[.int .i64 sa, .int .i64 sb]), (65, vo), (66, v66)]) w) :
    (Code.region 7 l.toArray true).wp Try.prog Q a0 w0 := by
  subst hl
  refine region_headM (ButO (slB vo)) (fun w w1 => w = w1) (OI vo (fun w => Own w base vo ps) w0) 7 1000 (tw7F g b y v av hk p q sa sb vo base z ps R) tw7D 8 102 S.size rfl (by kernel_rfl) (by kernel_rfl) (by kernel_rfl) (fun w => ButO.refl _ w) (fun _ => rfl) (by omega) (by omega) (fun e => by
      have h : ((opsOf 7 Try.f51)[1000]?) = none := by kernel_rfl
      rw [h] at e
      cases e) (fun b1 b2 w w1 h hb => ⟨h.1.thenB hb, fun e => S.jb w w1 (h.2 e) hb⟩) ⟨⟨rfl, rfl, rfl, Nat.le_refl _, fun _ _ _ => rfl⟩, fun _ => S.j0⟩ (tw7F_mono _ _ _ _ _ _ _ _ _ _ _ _ _ _ _) (late_mono (l1 := [.pointer (some ⟨g, 0, none⟩), .pointer (some ⟨b, 0, none⟩), .pointer (some ⟨b, 0, none⟩), .pointer (some ⟨b, 0, none⟩), .pointer p, .agg #[.int .i64 sa, .int .i64 sb], vo]) rfl _ (fun _ h => by cases h)) (fun _ _ v w w1 e h => e ▸ h) (tw7_ok S) fun a w hI hF h => ?_
  obtain ⟨v66, h66, p66⟩ : accsB base ps R vo z (a.tmps.getD 66 undef) w := h 7 (some 66) (by omega) rfl
  have hv : valsAre a [(59, .pointer (some ⟨g, 0, none⟩)), (60, .pointer (some ⟨b, 0, none⟩)), (61, .pointer (some ⟨b, 0, none⟩)), (62, .pointer (some ⟨b, 0, none⟩)), (63, .pointer p), (64, .agg #[.int .i64 sa, .int .i64 sb]), (65, vo), (66, v66)] := by
    refine ⟨?_, ?_, ?_, ?_, ?_, ?_, ?_, ?_, trivial⟩
    · exact h 0 (some 59) (by omega) rfl
    · exact h 1 (some 60) (by omega) rfl
    · exact h 2 (some 61) (by omega) rfl
    · exact h 3 (some 62) (by omega) rfl
    · exact h 4 (some 63) (by omega) rfl
    · exact h 5 (some 64) (by omega) rfl
    · exact h 6 (some 65) (by omega) rfl
    · exact h66
  rw [frame_is hF _ hv (by rfl) (by rfl)]
  exact hend v66 w hI p66
end

def tw0D : List (Option Tmp) := [some 94, some 95, some 96, some 97, some 98, some 99, some 100, some 101, some 8]
def tw0F (g : Nat) (b _y : Nat) (_v : It) (_av : Ac) (_hk : Nat) (_p q : Option Addr) (sa sb : Int) (vo : Value) (base z : Nat) (ps : List (Ac × Nat)) (R : List Ac) : List Fact := [isV (.pointer (some ⟨g, 0, none⟩)), isV (.pointer (some ⟨b, 0, none⟩)), isV (.pointer (some ⟨b, 0, none⟩)), isV (.pointer (some ⟨b, 5, none⟩)), isV (.pointer q), isV (.agg #[.int .i64 sa, .int .i64 sb]), isV (vo), accsB base ps R vo z]
theorem tw0F_mono (g : Nat) (b y : Nat) (v : It) (av : Ac) (hk : Nat) (p q : Option Addr) (sa sb : Int) (vo : Value) (base z : Nat) (ps : List (Ac × Nat)) (R : List Ac) : ∀ φ ∈ tw0F g b y v av hk p q sa sb vo base z ps R, Mono φ := by
  unfold tw0F
  repeat (first | exact monos_nil | (refine monos_cons (mono_isV _) ?_) | (refine monos_cons (accsB_mono _ _ _ _ _) ?_))
structure tw0S (g : Nat) (b y : Nat) (v : It) (av : Ac) (hk : Nat) (p q : Option Addr) (sa sb : Int) (vo : Value) (base z : Nat) (ps : List (Ac × Nat)) (R : List Ac) (a0 : Act) (w0 : World) : Prop where
  size : a0.tmps.size = 102
  v0 : a0.tmps.getD 0 undef = .pointer (some ⟨g, 0, none⟩)
  v1 : a0.tmps.getD 1 undef = .pointer (some ⟨b, 0, none⟩)
  v3 : a0.tmps.getD 3 undef = vo
  v6 : a0.tmps.getD 6 undef = .pointer (some ⟨y, 0, none⟩)
  pb : Has w0 b 107 (prtC p v q av hk)
  fpb : vo.ownBlock ≠ some b
  bx : Has w0 y 38 #[.int .i64 sa, .int .i64 sb]
  fbx : vo.ownBlock ≠ some y
  c1 : ∀ w, ButO (slB vo) w0 w → Own w base vo ps → Calls Try.prog 51 #[.pointer (some ⟨g, 0, none⟩), .pointer q, .agg #[.int .i64 sa, .int .i64 sb], vo] w fun e w1 => ∃ v1, e = .returned v1 ∧ (∃ qs, Own w1 base v1 (ps ++ qs) ∧ qs.map (·.1) = R) ∧ ButO (slB vo) w w1 ∧ ∀ k, v1.ownBlock = some k → vo.ownBlock = some k ∨ z ≤ k
  jb : ∀ w w1 : World, (fun w => Own w base vo ps) w → Below w.heap.size w w1 → (fun w => Own w base vo ps) w1
  j0 : (fun w => Own w base vo ps) w0.drew
section
variable {g : Nat} {b y : Nat} {v : It} {av : Ac} {hk : Nat} {p q : Option Addr} {sa sb : Int} {vo : Value} {base z : Nat} {ps : List (Ac × Nat)} {R : List Ac} {a0 : Act} {w0 : World} (S : tw0S g b y v av hk p q sa sb vo base z ps R a0 w0)
include S
set_option maxRecDepth 100000 in
set_option maxHeartbeats 8000000 in
theorem tw0_ok : AllOps (fun j o => ∀ (a : Act) (w : World) (b1 b2 : Bool), (j = 7 → b1 = false ∧ b2 = false) → (j = 1000 → b1 = true ∧ b2 = false) → OI vo (fun w => Own w base vo ps) w0 b1 b2 w → FrD (tw0D.take 8) a0 a → needs tw0D (tw0F g b y v av hk p q sa sb vo base z ps R) a w o.after.toList → AskM Try.prog tw0D (factAt (tw0F g b y v av hk p q sa sb vo base z ps R) j) (ButO (slB vo)) (fun w w1 => w = w1) (OI vo (fun w => Own w base vo ps) w0) 7 1000 j o a w) 0 ((opsOf 10 Try.f51).take 8) := by
  simp only [opsOf, Try.f51, opsAt, Option.bind, Option.or, Option.getD, reduceCtorEq, if_true, if_false, Nat.reduceEqDiff, List.take_succ_cons, List.take_zero]
  refine ⟨?_, ?_⟩
  · intro _a _w _b1 _b2 _h1 _h2 _hI hF _hd
    refine askM_d (by decide) (by decide) ?_
    exact step_move (guard_none rfl) rfl _ rfl ((hF.other 0 rfl).trans S.v0)
  refine ⟨?_, ?_⟩
  · intro _a _w _b1 _b2 _h1 _h2 _hI hF _hd
    refine askM_d (by decide) (by decide) ?_
    exact step_move (guard_none rfl) rfl _ rfl ((hF.other 1 rfl).trans S.v1)
  refine ⟨?_, ?_⟩
  · intro a _w _b1 _b2 _h1 _h2 _hI _hF hd
    refine askM_d (by decide) (by decide) ?_
    have h95 : a.tmps.getD 95 undef = .pointer (some ⟨b, 0, none⟩) := hd.1 rfl
    exact rf_nilck (guard_none rfl) rfl _ rfl _ h95 rfl
  refine ⟨?_, ?_⟩
  · intro a _w _b1 _b2 _h1 _h2 _hI _hF hd
    refine askM_d (by decide) (by decide) ?_
    have h96 : a.tmps.getD 96 undef = .pointer (some ⟨b, 0, none⟩) := hd.1 rfl
    exact rf_faddr (guard_none rfl) rfl _ _ _ rfl _ _ 5 _ h96 (by omega) (fun _ _ => by kernel_rfl) rfl
  refine ⟨?_, ?_⟩
  · intro a _w _b1 _b2 _h1 _h2 hI _hF hd
    refine askM_d (by decide) (by decide) ?_
    have hB := hI.1
    have h97 : a.tmps.getD 97 undef = .pointer (some ⟨b, 5, none⟩) := hd.1 rfl
    exact rf_load1 (guard_none rfl) rfl _ _ rfl _ _ h97 (run_ldPart ((Has.cell (S.pb.butB hB S.fpb) 5).trans rfl)) rfl
  refine ⟨?_, ?_⟩
  · intro _a _w _b1 _b2 _h1 _h2 hI hF _hd
    refine askM_d (by decide) (by decide) ?_
    have hB := hI.1
    exact rf_loadS (guard_none rfl) rfl _ _ rfl _ _ ((hF.other 6 rfl).trans S.v6) _ (rf_range (S.bx.butB hB S.fbx)) Try.underlying38 rfl (by kernel_rfl) rfl
  refine ⟨?_, ?_⟩
  · intro _a _w _b1 _b2 _h1 _h2 _hI hF _hd
    refine askM_d (by decide) (by decide) ?_
    exact step_move (guard_none rfl) rfl _ rfl ((hF.other 3 rfl).trans S.v3)
  refine ⟨?_, ?_⟩
  · intro a w _b1 _b2 h1 _h2 hI _hF hd
    obtain ⟨rfl, rfl⟩ := h1 rfl
    refine askM_1 rfl ?_
    have h94 : a.tmps.getD 94 undef = .pointer (some ⟨g, 0, none⟩) := hd.1 rfl
    have h98 : a.tmps.getD 98 undef = .pointer q := hd.2.1 rfl
    have h99 : a.tmps.getD 99 undef = .agg #[.int .i64 sa, .int .i64 sb] := hd.2.2.1 rfl
    have h100 : a.tmps.getD 100 undef = vo := hd.2.2.2.1 rfl
    refine stepL_call (guard_none rfl) rfl _ _ (rf_call_run Try.func51 (by kernel_rfl) (by kernel_rfl) _ _ rfl) ?_
    simp only [List.map_toArray, List.map_cons, List.map_nil, Act.eval, h94, h98, h99, h100]
    exact (S.c1 w hI.1 (hI.2 rfl)).mono (by rintro e w1 ⟨v1, rfl, ho, hb, hs⟩; exact ⟨_, rfl, hb, ⟨hI.1.tr hb, fun h => by cases h⟩, v1, rfl, ho, hs⟩)
  trivial
set_option maxRecDepth 100000 in
theorem tw0_any {Q : Exit → Act → World → Prop} {l : List Oper} (hl : opsOf 10 Try.f51 = l) (hend : ∀ (v101 : Value), ∀ w : World, OI vo (fun w => Own w base vo ps) w0 true false w → ((∃ qs, Own w base v101 (ps ++ qs) ∧ qs.map (·.1) = R) ∧ ∀ k, v101.ownBlock = some k → vo.ownBlock = some k ∨ z ≤ k) → wpList Try.prog l.toArray Q (l.drop 8) (putAll a0 [(94, .pointer (some ⟨g, 0, none⟩)), (95, .pointer (some ⟨b, 0, none⟩)), (96, .pointer (some ⟨b, 0, none⟩)), (97, .pointer (some ⟨b, 5, none⟩)), (98, .pointer q), (99, .agg #[.int .i64 sa, .int .i64 sb]), (100, vo), (101, v101)]) w) :
    (Code.region 10 l.toArray true).wp Try.prog Q a0 w0 := by
  subst hl
  refine region_headM (ButO (slB vo)) (fun w w1 => w = w1) (OI vo (fun w => Own w base vo ps) w0) 7 1000 (tw0F g b y v av hk p q sa sb vo base z ps R) tw0D 8 102 S.size rfl (by kernel_rfl) (by kernel_rfl) (by kernel_rfl) (fun w => ButO.refl _ w) (fun _ => rfl) (by omega) (by omega) (fun e => by
      have h : ((opsOf 10 Try.f51)[1000]?) = none := by kernel_rfl
      rw [h] at e
      cases e) (fun b1 b2 w w1 h hb => ⟨h.1.thenB hb, fun e => S.jb w w1 (h.2 e) hb⟩) ⟨⟨rfl, rfl, rfl, Nat.le_refl _, fun _ _ _ => rfl⟩, fun _ => S.j0⟩ (tw0F_mono _ _ _ _ _ _ _ _ _ _ _ _ _ _ _) (late_mono (l1 := [.pointer (some ⟨g, 0, none⟩), .pointer (some ⟨b, 0, none⟩), .pointer (some ⟨b, 0, none⟩), .pointer (some ⟨b, 5, none⟩), .pointer q, .agg #[.int .i64 sa, .int .i64 sb], vo]) rfl _ (fun _ h => by cases h)) (fun _ _ v w w1 e h => e ▸ h) (tw0_ok S) fun a w hI hF h => ?_
  obtain ⟨v101, h101, p101⟩ : accsB base ps R vo z (a.tmps.getD 101 undef) w := h 7 (some 101) (by omega) rfl
  have hv : valsAre a [(94, .pointer (some ⟨g, 0, none⟩)), (95, .pointer (some ⟨b, 0, none⟩)), (96, .pointer (some ⟨b, 0, none⟩)), (97, .pointer (some ⟨b, 5, none⟩)), (98, .pointer q), (99, .agg #[.int .i64 sa, .int .i64 sb]), (100, vo), (101, v101)] := by
    refine ⟨?_, ?_, ?_, ?_, ?_, ?_, ?_, ?_, trivial⟩
    · exact h 0 (some 94) (by omega) rfl
    · exact h 1 (some 95) (by omega) rfl
    · exact h 2 (some 96) (by omega) rfl
    · exact h 3 (some 97) (by omega) rfl
    · exact h 4 (some 98) (by omega) rfl
    · exact h 5 (some 99) (by omega) rfl
    · exact h 6 (some 100) (by omega) rfl
    · exact h101
  rw [frame_is hF _ hv (by rfl) (by rfl)]
  exact hend v101 w hI p101
end

end Go.Proofs.Ytdoflmphkalicaa

namespace Go.Proofs.Ytdoflmphkalicaa
open Go.RowKit

/-- The call hands out what it was handed, with these aggregates behind. -/
def WiO (base : Nat) (vo : Value) (ps : List (Ac × Nat)) (R : List Ac) (w : World) (e : Ending) (w' : World) : Prop :=
  ∃ v' qs, e = .returned v' ∧ Own w' base v' (ps ++ qs) ∧ qs.map (·.1) = R ∧ ButO (slB vo) w w' ∧ SameB vo v' w
/-- In the midst of it: the row v holds ps. -/
structure WiS (w : World) (base : Nat) (vo : Value) (sa sb : Int) (v : Value) (ps : List (Ac × Nat)) (wr : World) : Prop where
  keep : ButO (slB vo) w wr
  box : Has wr w.heap.size 38 #[.int .i64 sa, .int .i64 sb]
  own : Own wr base v ps
  same : SameB vo v w
  far : v.ownBlock ≠ some w.heap.size
section
variable {w wr w' : World} {base : Nat} {vo v v' : Value} {sa sb : Int} {ps ps' : List (Ac × Nat)}
theorem WiS.below (h : WiS w base vo sa sb v ps wr) (hb : Below wr.heap.size wr w') : WiS w base vo sa sb v ps w' := ⟨h.keep.thenB hb, h.box.below hb h.box.lt, h.own.below hb, h.same, h.far⟩
theorem WiS.turn (h : WiS w base vo sa sb v ps wr) (hb : ButO (slB v) wr w') (ho : Own w' base v' ps') (hs : ∀ k, v'.ownBlock = some k → v.ownBlock = some k ∨ wr.heap.size ≤ k) : WiS w base vo sa sb v' ps' w' :=
  ⟨h.same.butO h.keep hb, h.box.butB hb h.far, ho, h.same.trans hs h.keep.size, fun e => by
    rcases hs _ e with h1 | h1
    · exact h.far h1
    · have := h.box.lt; omega⟩
theorem WiS.bs (h : WiS w base vo sa sb v ps wr) : w.heap.size ≤ wr.heap.size := h.keep.size
end
section
variable {P : Nat → Prop} {g m d : Nat} {A root : Option Addr} {bs : List Int}
set_option maxRecDepth 100000 in
set_option maxHeartbeats 4000000 in
theorem twithin_any (base z : Nat) (hP : ∀ k, P k → k < z) (sa sb : Int) : ∀ (T : Tr) (w : World) (vo : Value) (ps : List (Ac × Nat)), TBd P w g bs A m d root → T.At bs P w → z ≤ w.heap.size → Own w base vo ps → base ≤ w.heap.size → (∀ k, P k → vo.ownBlock ≠ some k) → ps.length + T.row.length ≤ 8192 → ItsT bs T.row →
    Calls Try.prog 51 #[.pointer (some ⟨g, 0, none⟩), .pointer T.ptr, .agg #[.int .i64 sa, .int .i64 sb], vo] w (WiO base vo ps ((T.told bs sa sb).map (foldA bs)) w) := by
  intro T
  induction T with
  | nil =>
    intro w vo ps _ _ _ ho _ _ _ _
    have HO := Lib.hid ho
    have HB := Lib.hid ((Below.refl _ w).alloc (Nat.le_refl _) (.cells #[.int .i64 sa, .int .i64 sb] 38))
    clear ho
    show Calls _ _ #[_, .pointer none, _, vo] w (WiO base vo ps [] w)
    go_enter Try.func51, Try.ntmps51
    go_wp2_with fail
    go_ret
    exact ⟨vo, [], rfl, by simpa using HO.out.below HB.out, rfl, below_butO HB.out _, fun k hk => .inl hk⟩
  | node b H l v r ih1 ih2 =>
    intro w vo ps hT hA hz ho hb hv hn h
    have hl : ItsT bs l.row := h.sublist (by simp [Tr.row])
    have hr : ItsT bs r.row := h.sublist (by simp [Tr.row])
    have hit : itemB v = true := h.it v (by simp [Tr.row])
    have hto := Tr.told_node bs sa sb b H l v r
    have htl := Tr.told_len bs sa sb l
    have hnn : ps.length + (l.row.length + (r.row.length + 1)) ≤ 8192 := by simpa [Tr.row] using hn
    have HP2 : Hid (∀ v2, SameB vo v2 w → ∀ k, P k → v2.ownBlock ≠ some k) := fun v2 hs k hk e => by
      rcases hs k e with h3 | h3
      · exact hv k hk h3
      · have := hP k hk; omega
    have HC1 : Hid (∀ w1, ButO (slB vo) w w1 → Own w1 base vo ps → Calls Try.prog 51 #[.pointer (some ⟨g, 0, none⟩), .pointer l.ptr, .agg #[.int .i64 sa, .int .i64 sb], vo] w1 (WiO base vo ps ((l.told bs sa sb).map (foldA bs)) w1)) := fun w1 h1 h2 =>
      ih1 w1 vo ps (hT.butB h1 hv) (hA.butB h1 hv).2.2.2.2.1 (Nat.le_trans hz h1.size) h2 (Nat.le_trans hb h1.size) hv (by omega) hl
    have HC2 : Hid (∀ w1 v2 ps2, ButO (slB vo) w w1 → SameB vo v2 w → ps2.length + r.row.length ≤ 8192 → Own w1 base v2 ps2 → Calls Try.prog 51 #[.pointer (some ⟨g, 0, none⟩), .pointer r.ptr, .agg #[.int .i64 sa, .int .i64 sb], v2] w1 (WiO base v2 ps2 ((r.told bs sa sb).map (foldA bs)) w1)) := fun w1 v2 ps2 h1 hs hn2 h2 =>
      ih2 w1 v2 ps2 (hT.butB h1 hv) (hA.butB h1 hv).2.2.2.2.2 (Nat.le_trans hz h1.size) h2 (Nat.le_trans hb h1.size) (HP2.out v2 hs) hn2 hr
    have HAL : Hid (∀ w1, ButO (slB vo) w w1 → Calls Try.prog 79 #[.pointer (some ⟨g, 0, none⟩), .agg #[.int .i64 v.s, .int .i64 v.t, .int .i64 v.q, .int .i64 v.v]] w1 (AcO (oneAc v bs) w1)) := fun w1 h1 => talone_any (hT.butB h1 hv) v hit h.bd
    have HB3 := Lib.hid (fun w' (h1 : ButO (slB vo) w w') => (show Has w' b PT _ ∧ Has w' H 3 _ from ⟨(hA.butB h1 hv).2.2.1, (hA.butB h1 hv).2.2.2.1⟩))
    have HPB := Lib.hid (fun v2 hs => HP2.out v2 hs b hA.1)
    have S1 : Hid (WiS w base vo sa sb vo ps (w.alloc (.cells #[.int .i64 sa, .int .i64 sb] 38))) := ⟨below_butO ((Below.refl _ _).alloc (Nat.le_refl _) _) _, Has.made _ _ _, ho.below ((Below.refl _ _).alloc (Nat.le_refl _) _), fun k hk => .inl hk, fun e => by have := ho.ltT e; omega⟩
    have HLE := Lib.hid hb
    have HONE := Lib.hid (foldA_one (bs := bs) hit)
    have e0 : (Tr.node b H l v r).ptr = some ⟨b, 0, none⟩ := rfl
    rw [e0]
    clear e0 ih1 ih2 hT hA hz ho hb hv hn h hl hr hit HP2 hP
    generalize (Tr.node b H l v r).told bs sa sb = TD at hto ⊢
    have HN := Lib.hid hnn
    have HTL := Lib.hid htl
    clear hnn htl
    generalize hav : foldA bs (Tr.node b H l v r).row = av at hto HB3
    have HAV := Lib.hid hav
    clear hav
    by_cases c1 : av.l.t < sa
    · have hd1 : decide (av.l.t < sa) = true := decide_eq_true c1
      rw [if_pos (.inl c1)] at hto
      have HTO := Lib.hid hto
      clear hto
      go_enter Try.func51, Try.ntmps51
      go_upto_region 2 with fail
      refine tw2_any (b := b) (y := w.heap.size) (v := v) (av := av) (hk := H) (p := l.ptr) (q := r.ptr) (sa := sa) (sb := sb) (β := true) ⟨rfl, rfl, rfl, (HB3.out _ S1.out.keep).1, S1.out.box, hd1⟩ (by kernel_rfl) ?_
      intro w2 hb
      have S2 := Lib.hid (S1.out.below hb)
      clear hb S1
      simp only [putAll, Act.put, List.setIfInBounds_toArray, List.set_cons_succ, List.set_cons_zero]
      go_wp2_with fail
      go_ret
      exact ⟨vo, [], rfl, by simpa using S2.out.own, by rw [HTO.out]; rfl, S2.out.keep, S2.out.same⟩
    by_cases c2 : sb ≤ av.f.t
    · have hd1 : decide (av.l.t < sa) = false := decide_eq_false c1
      have hd2 : decide (sb ≤ av.f.t) = true := decide_eq_true c2
      rw [if_pos (.inr c2)] at hto
      have HTO := Lib.hid hto
      clear hto
      go_enter Try.func51, Try.ntmps51
      go_upto_region 2 with fail
      refine tw2_any (b := b) (y := w.heap.size) (v := v) (av := av) (hk := H) (p := l.ptr) (q := r.ptr) (sa := sa) (sb := sb) (β := false) ⟨rfl, rfl, rfl, (HB3.out _ S1.out.keep).1, S1.out.box, hd1⟩ (by kernel_rfl) ?_
      intro w2 hb
      have S2 := Lib.hid (S1.out.below hb)
      clear hb S1
      simp only [putAll, Act.put, List.setIfInBounds_toArray, List.set_cons_succ, List.set_cons_zero]
      go_upto_region 3 with fail
      refine tw3_any (b := b) (y := w.heap.size) (v := v) (av := av) (hk := H) (p := l.ptr) (q := r.ptr) (sa := sa) (sb := sb) (β := true) ⟨rfl, rfl, rfl, (HB3.out _ S2.out.keep).1, S2.out.box, hd2⟩ (by kernel_rfl) ?_
      intro w3 hb
      have S3 := Lib.hid (S2.out.below hb)
      clear hb S2
      simp only [putAll, Act.put, List.setIfInBounds_toArray, List.set_cons_succ, List.set_cons_zero]
      go_wp2_with fail
      go_ret
      exact ⟨vo, [], rfl, by simpa using S3.out.own, by rw [HTO.out]; rfl, S3.out.keep, S3.out.same⟩
    by_cases c3 : sa ≤ av.f.t
    · by_cases c4 : av.l.t < sb
      · have hd1 : decide (av.l.t < sa) = false := decide_eq_false c1
        have hd2 : decide (sb ≤ av.f.t) = false := decide_eq_false c2
        rw [if_neg (not_or.2 ⟨c1, c2⟩)] at hto
        have hd3 : decide (sa ≤ av.f.t) = true := decide_eq_true c3
        have hd4 : decide (av.l.t < sb) = true := decide_eq_true c4
        rw [if_pos ⟨c3, c4⟩] at hto
        have HTO := Lib.hid hto
        clear hto
        go_enter Try.func51, Try.ntmps51
        go_upto_region 2 with fail
        refine tw2_any (b := b) (y := w.heap.size) (v := v) (av := av) (hk := H) (p := l.ptr) (q := r.ptr) (sa := sa) (sb := sb) (β := false) ⟨rfl, rfl, rfl, (HB3.out _ S1.out.keep).1, S1.out.box, hd1⟩ (by kernel_rfl) ?_
        intro w2 hb
        have S2 := Lib.hid (S1.out.below hb)
        clear hb S1
        simp only [putAll, Act.put, List.setIfInBounds_toArray, List.set_cons_succ, List.set_cons_zero]
        go_upto_region 3 with fail
        refine tw3_any (b := b) (y := w.heap.size) (v := v) (av := av) (hk := H) (p := l.ptr) (q := r.ptr) (sa := sa) (sb := sb) (β := false) ⟨rfl, rfl, rfl, (HB3.out _ S2.out.keep).1, S2.out.box, hd2⟩ (by kernel_rfl) ?_
        intro w3 hb
        have S3 := Lib.hid (S2.out.below hb)
        clear hb S2
        simp only [putAll, Act.put, List.setIfInBounds_toArray, List.set_cons_succ, List.set_cons_zero]
        go_upto_region 5 with fail
        refine tw5t_any (b := b) (y := w.heap.size) (v := v) (av := av) (hk := H) (p := l.ptr) (q := r.ptr) (sa := sa) (sb := sb) (β := true) ⟨rfl, rfl, rfl, (HB3.out _ S3.out.keep).1, S3.out.box, hd3, hd4⟩ (by kernel_rfl) ?_
        intro w5 hb
        have S5 := Lib.hid (S3.out.below hb)
        clear hb S3
        simp only [putAll, Act.put, List.setIfInBounds_toArray, List.set_cons_succ, List.set_cons_zero]
        go_wp2_with (first | (refine load_accP rfl _ rfl b rfl (HB3.out _ S5.out.keep).1 ?_) | (refine lit1 rfl _ rfl rfl ?_; intro wl hbl hvl) | (refine app_accO rfl _ _ rfl (base := base) (v := vo) rfl (S5.out.own.below hbl) rfl hvl ((HB3.out _ S5.out.keep).2.below hbl (HB3.out _ S5.out.keep).2.lt) (by have := HN.out; omega) (by have := HLE.out; have := S5.out.bs; have := hbl.size; omega) ?_; intro v6 w6 ho hb hs; have S6 := Lib.hid ((S5.out.below hbl).turn hb ho hs); clear hbl hvl ho hb hs))
        go_ret
        exact ⟨v6, [(av, H)], rfl, S6.out.own, by rw [HTO.out]; simp [HAV.out], S6.out.keep, S6.out.same⟩
      · skip
        by_cases c5 : sa ≤ v.t
        · by_cases c6 : v.t < sb
          · have hd1 : decide (av.l.t < sa) = false := decide_eq_false c1
            have hd2 : decide (sb ≤ av.f.t) = false := decide_eq_false c2
            rw [if_neg (not_or.2 ⟨c1, c2⟩)] at hto
            have hd3 : decide (sa ≤ av.f.t) = true := decide_eq_true c3
            have hd4 : decide (av.l.t < sb) = false := decide_eq_false c4
            rw [if_neg (fun e => c4 e.2)] at hto
            have hd5 : decide (sa ≤ v.t) = true := decide_eq_true c5
            have hd6 : decide (v.t < sb) = true := decide_eq_true c6
            rw [if_pos ⟨c5, c6⟩] at hto
            have HTO := Lib.hid hto
            clear hto
            go_enter Try.func51, Try.ntmps51
            go_upto_region 2 with fail
            refine tw2_any (b := b) (y := w.heap.size) (v := v) (av := av) (hk := H) (p := l.ptr) (q := r.ptr) (sa := sa) (sb := sb) (β := false) ⟨rfl, rfl, rfl, (HB3.out _ S1.out.keep).1, S1.out.box, hd1⟩ (by kernel_rfl) ?_
            intro w2 hb
            have S2 := Lib.hid (S1.out.below hb)
            clear hb S1
            simp only [putAll, Act.put, List.setIfInBounds_toArray, List.set_cons_succ, List.set_cons_zero]
            go_upto_region 3 with fail
            refine tw3_any (b := b) (y := w.heap.size) (v := v) (av := av) (hk := H) (p := l.ptr) (q := r.ptr) (sa := sa) (sb := sb) (β := false) ⟨rfl, rfl, rfl, (HB3.out _ S2.out.keep).1, S2.out.box, hd2⟩ (by kernel_rfl) ?_
            intro w3 hb
            have S3 := Lib.hid (S2.out.below hb)
            clear hb S2
            simp only [putAll, Act.put, List.setIfInBounds_toArray, List.set_cons_succ, List.set_cons_zero]
            go_upto_region 5 with fail
            refine tw5t_any (b := b) (y := w.heap.size) (v := v) (av := av) (hk := H) (p := l.ptr) (q := r.ptr) (sa := sa) (sb := sb) (β := false) ⟨rfl, rfl, rfl, (HB3.out _ S3.out.keep).1, S3.out.box, hd3, hd4⟩ (by kernel_rfl) ?_
            intro w5 hb
            have S5 := Lib.hid (S3.out.below hb)
            clear hb S3
            simp only [putAll, Act.put, List.setIfInBounds_toArray, List.set_cons_succ, List.set_cons_zero]
            go_upto_region 7 with fail
            refine tw7_any (g := g) (b := b) (y := w.heap.size) (v := v) (av := av) (hk := H) (p := l.ptr) (q := r.ptr) (sa := sa) (sb := sb) (vo := vo) (base := base) (z := w5.heap.size) (ps := ps) (R := (l.told bs sa sb).map (foldA bs)) ⟨rfl, rfl, rfl, rfl, rfl, (HB3.out _ S5.out.keep).1, HPB.out _ S5.out.same, S5.out.box, S5.out.far, fun w1 h1 h2 => (HC1.out w1 (S5.out.keep.tr h1) h2).mono fun e w2 ⟨v1, qs, e1, e2, e3, e4, e5⟩ => ⟨v1, e1, ⟨qs, e2, e3⟩, e4, fun k hk => (e5 k hk).imp id (fun h => by have := h1.size; omega)⟩, fun _ _ h hb => h.below hb, ⟨S5.out.own.row, S5.out.own.hist⟩⟩ (by kernel_rfl) ?_
            intro v66 w7 hI hV
            obtain ⟨⟨qs, hq1, hq2⟩, hq3⟩ := hV
            have S7 := Lib.hid (S5.out.turn hI.1 hq1 hq3)
            have HQ := Lib.hid hq2
            have HQL := Lib.hid (show qs.length ≤ l.row.length from by have := congrArg List.length hq2; simp only [List.length_map] at this; have := HTL.out; omega)
            clear hI hq1 hq2 hq3 S5 HC1 HTL
            simp only [putAll, Act.put, List.setIfInBounds_toArray, List.set_cons_succ, List.set_cons_zero, List.drop_succ_cons, List.drop_zero]
            go_upto_region 8 with fail
            refine tw8t_any (b := b) (y := w.heap.size) (v := v) (av := av) (hk := H) (p := l.ptr) (q := r.ptr) (sa := sa) (sb := sb) (β := true) ⟨rfl, rfl, rfl, (HB3.out _ S7.out.keep).1, S7.out.box, hd5, hd6⟩ (by kernel_rfl) ?_
            intro w8 hb
            have S8 := Lib.hid (S7.out.below hb)
            clear hb S7
            simp only [putAll, Act.put, List.setIfInBounds_toArray, List.set_cons_succ, List.set_cons_zero]
            have hc1 : w8.cell? ⟨b, 1, none⟩ = some (.int .i64 v.s) := (HB3.out _ S8.out.keep).1.cell 1
            have hc2 : w8.cell? ⟨b, 2, none⟩ = some (.int .i64 v.t) := (HB3.out _ S8.out.keep).1.cell 2
            have hc3 : w8.cell? ⟨b, 3, none⟩ = some (.int .i64 v.q) := (HB3.out _ S8.out.keep).1.cell 3
            have hc4 : w8.cell? ⟨b, 4, none⟩ = some (.int .i64 v.v) := (HB3.out _ S8.out.keep).1.cell 4
            go_upto_region 10 with (first | (refine (HAL.out _ S8.out.keep).mono ?_; clear HAL; rintro e wa ⟨Ha, _, rfl, hha, hba⟩) | (refine lit1 rfl _ rfl rfl ?_; intro wl hbl hvl) | (refine app_accO rfl _ _ rfl (base := base) (v := v66) rfl ((S8.out.below hba).own.below hbl) rfl hvl (hha.below hbl hha.lt) (by have := HN.out; have := HQL.out; simp only [List.length_append]; omega) (by have := HLE.out; have := S8.out.bs; have := hba.size; have := hbl.size; omega) ?_; intro v9 w9 ho hb hs; have S9 := Lib.hid (((S8.out.below hba).below hbl).turn hb ho hs); clear hbl hvl hha hba ho hb hs))
            clear hc1 hc2 hc3 hc4
            refine tw0_any (g := g) (b := b) (y := w.heap.size) (v := v) (av := av) (hk := H) (p := l.ptr) (q := r.ptr) (sa := sa) (sb := sb) (vo := v9) (base := base) (z := w9.heap.size) (ps := (ps ++ qs ++ [(oneAc v bs, Ha)])) (R := (r.told bs sa sb).map (foldA bs)) ⟨rfl, rfl, rfl, rfl, rfl, (HB3.out _ S9.out.keep).1, HPB.out _ S9.out.same, S9.out.box, S9.out.far, fun w1 h1 h2 => (HC2.out w1 _ _ (S9.out.same.butO S9.out.keep h1) S9.out.same (by have := HN.out; have := HQL.out; simp only [List.length_append, List.length_cons, List.length_nil]; omega) h2).mono fun e w2 ⟨v1, qs, e1, e2, e3, e4, e5⟩ => ⟨v1, e1, ⟨qs, e2, e3⟩, e4, fun k hk => (e5 k hk).imp id (fun h => by have := h1.size; omega)⟩, fun _ _ h hb => h.below hb, ⟨S9.out.own.row, S9.out.own.hist⟩⟩ (by kernel_rfl) ?_
            intro v101 w10 hI hV
            obtain ⟨⟨qs2, hq1, hq2⟩, hq3⟩ := hV
            have S10 := Lib.hid (S9.out.turn hI.1 hq1 hq3)
            have HQ2 := Lib.hid hq2
            clear hI hq1 hq2 hq3 S9 HC2
            simp only [putAll, Act.put, List.setIfInBounds_toArray, List.set_cons_succ, List.set_cons_zero, List.drop_succ_cons, List.drop_zero]
            go_wp2_with fail
            go_ret
            exact ⟨v101, qs ++ ((oneAc v bs, Ha) :: qs2), rfl, by simpa using S10.out.own, by rw [HTO.out, List.map_append, List.map_cons, HQ.out, HQ2.out]; simp [HONE.out], S10.out.keep, S10.out.same⟩
          · have hd1 : decide (av.l.t < sa) = false := decide_eq_false c1
            have hd2 : decide (sb ≤ av.f.t) = false := decide_eq_false c2
            rw [if_neg (not_or.2 ⟨c1, c2⟩)] at hto
            have hd3 : decide (sa ≤ av.f.t) = true := decide_eq_true c3
            have hd4 : decide (av.l.t < sb) = false := decide_eq_false c4
            rw [if_neg (fun e => c4 e.2)] at hto
            have hd5 : decide (sa ≤ v.t) = true := decide_eq_true c5
            have hd6 : decide (v.t < sb) = false := decide_eq_false c6
            rw [if_neg (fun e => c6 e.2)] at hto
            have HTO := Lib.hid hto
            clear hto
            go_enter Try.func51, Try.ntmps51
            go_upto_region 2 with fail
            refine tw2_any (b := b) (y := w.heap.size) (v := v) (av := av) (hk := H) (p := l.ptr) (q := r.ptr) (sa := sa) (sb := sb) (β := false) ⟨rfl, rfl, rfl, (HB3.out _ S1.out.keep).1, S1.out.box, hd1⟩ (by kernel_rfl) ?_
            intro w2 hb
            have S2 := Lib.hid (S1.out.below hb)
            clear hb S1
            simp only [putAll, Act.put, List.setIfInBounds_toArray, List.set_cons_succ, List.set_cons_zero]
            go_upto_region 3 with fail
            refine tw3_any (b := b) (y := w.heap.size) (v := v) (av := av) (hk := H) (p := l.ptr) (q := r.ptr) (sa := sa) (sb := sb) (β := false) ⟨rfl, rfl, rfl, (HB3.out _ S2.out.keep).1, S2.out.box, hd2⟩ (by kernel_rfl) ?_
            intro w3 hb
            have S3 := Lib.hid (S2.out.below hb)
            clear hb S2
            simp only [putAll, Act.put, List.setIfInBounds_toArray, List.set_cons_succ, List.set_cons_zero]
            go_upto_region 5 with fail
            refine tw5t_any (b := b) (y := w.heap.size) (v := v) (av := av) (hk := H) (p := l.ptr) (q := r.ptr) (sa := sa) (sb := sb) (β := false) ⟨rfl, rfl, rfl, (HB3.out _ S3.out.keep).1, S3.out.box, hd3, hd4⟩ (by kernel_rfl) ?_
            intro w5 hb
            have S5 := Lib.hid (S3.out.below hb)
            clear hb S3
            simp only [putAll, Act.put, List.setIfInBounds_toArray, List.set_cons_succ, List.set_cons_zero]
            go_upto_region 7 with fail
            refine tw7_any (g := g) (b := b) (y := w.heap.size) (v := v) (av := av) (hk := H) (p := l.ptr) (q := r.ptr) (sa := sa) (sb := sb) (vo := vo) (base := base) (z := w5.heap.size) (ps := ps) (R := (l.told bs sa sb).map (foldA bs)) ⟨rfl, rfl, rfl, rfl, rfl, (HB3.out _ S5.out.keep).1, HPB.out _ S5.out.same, S5.out.box, S5.out.far, fun w1 h1 h2 => (HC1.out w1 (S5.out.keep.tr h1) h2).mono fun e w2 ⟨v1, qs, e1, e2, e3, e4, e5⟩ => ⟨v1, e1, ⟨qs, e2, e3⟩, e4, fun k hk => (e5 k hk).imp id (fun h => by have := h1.size; omega)⟩, fun _ _ h hb => h.below hb, ⟨S5.out.own.row, S5.out.own.hist⟩⟩ (by kernel_rfl) ?_
            intro v66 w7 hI hV
            obtain ⟨⟨qs, hq1, hq2⟩, hq3⟩ := hV
            have S7 := Lib.hid (S5.out.turn hI.1 hq1 hq3)
            have HQ := Lib.hid hq2
            have HQL := Lib.hid (show qs.length ≤ l.row.length from by have := congrArg List.length hq2; simp only [List.length_map] at this; have := HTL.out; omega)
            clear hI hq1 hq2 hq3 S5 HC1 HTL
            simp only [putAll, Act.put, List.setIfInBounds_toArray, List.set_cons_succ, List.set_cons_zero, List.drop_succ_cons, List.drop_zero]
            go_upto_region 8 with fail
            refine tw8t_any (b := b) (y := w.heap.size) (v := v) (av := av) (hk := H) (p := l.ptr) (q := r.ptr) (sa := sa) (sb := sb) (β := false) ⟨rfl, rfl, rfl, (HB3.out _ S7.out.keep).1, S7.out.box, hd5, hd6⟩ (by kernel_rfl) ?_
            intro w8 hb
            have S8 := Lib.hid (S7.out.below hb)
            clear hb S7
            simp only [putAll, Act.put, List.setIfInBounds_toArray, List.set_cons_succ, List.set_cons_zero]
            go_upto_region 10 with fail
            refine tw0_any (g := g) (b := b) (y := w.heap.size) (v := v) (av := av) (hk := H) (p := l.ptr) (q := r.ptr) (sa := sa) (sb := sb) (vo := v66) (base := base) (z := w8.heap.size) (ps := (ps ++ qs)) (R := (r.told bs sa sb).map (foldA bs)) ⟨rfl, rfl, rfl, rfl, rfl, (HB3.out _ S8.out.keep).1, HPB.out _ S8.out.same, S8.out.box, S8.out.far, fun w1 h1 h2 => (HC2.out w1 _ _ (S8.out.same.butO S8.out.keep h1) S8.out.same (by have := HN.out; have := HQL.out; simp only [List.length_append]; omega) h2).mono fun e w2 ⟨v1, qs, e1, e2, e3, e4, e5⟩ => ⟨v1, e1, ⟨qs, e2, e3⟩, e4, fun k hk => (e5 k hk).imp id (fun h => by have := h1.size; omega)⟩, fun _ _ h hb => h.below hb, ⟨S8.out.own.row, S8.out.own.hist⟩⟩ (by kernel_rfl) ?_
            intro v101 w10 hI hV
            obtain ⟨⟨qs2, hq1, hq2⟩, hq3⟩ := hV
            have S10 := Lib.hid (S8.out.turn hI.1 hq1 hq3)
            have HQ2 := Lib.hid hq2
            clear hI hq1 hq2 hq3 S8 HC2
            simp only [putAll, Act.put, List.setIfInBounds_toArray, List.set_cons_succ, List.set_cons_zero, List.drop_succ_cons, List.drop_zero]
            go_wp2_with fail
            go_ret
            exact ⟨v101, qs ++ qs2, rfl, by simpa using S10.out.own, by rw [HTO.out, List.map_append, HQ.out, HQ2.out]; simp, S10.out.keep, S10.out.same⟩
        · have hd1 : decide (av.l.t < sa) = false := decide_eq_false c1
          have hd2 : decide (sb ≤ av.f.t) = false := decide_eq_false c2
          rw [if_neg (not_or.2 ⟨c1, c2⟩)] at hto
          have hd3 : decide (sa ≤ av.f.t) = true := decide_eq_true c3
          have hd4 : decide (av.l.t < sb) = false := decide_eq_false c4
          rw [if_neg (fun e => c4 e.2)] at hto
          have hd5 : decide (sa ≤ v.t) = false := decide_eq_false c5
          rw [if_neg (fun e => c5 e.1)] at hto
          have HTO := Lib.hid hto
          clear hto
          go_enter Try.func51, Try.ntmps51
          go_upto_region 2 with fail
          refine tw2_any (b := b) (y := w.heap.size) (v := v) (av := av) (hk := H) (p := l.ptr) (q := r.ptr) (sa := sa) (sb := sb) (β := false) ⟨rfl, rfl, rfl, (HB3.out _ S1.out.keep).1, S1.out.box, hd1⟩ (by kernel_rfl) ?_
          intro w2 hb
          have S2 := Lib.hid (S1.out.below hb)
          clear hb S1
          simp only [putAll, Act.put, List.setIfInBounds_toArray, List.set_cons_succ, List.set_cons_zero]
          go_upto_region 3 with fail
          refine tw3_any (b := b) (y := w.heap.size) (v := v) (av := av) (hk := H) (p := l.ptr) (q := r.ptr) (sa := sa) (sb := sb) (β := false) ⟨rfl, rfl, rfl, (HB3.out _ S2.out.keep).1, S2.out.box, hd2⟩ (by kernel_rfl) ?_
          intro w3 hb
          have S3 := Lib.hid (S2.out.below hb)
          clear hb S2
          simp only [putAll, Act.put, List.setIfInBounds_toArray, List.set_cons_succ, List.set_cons_zero]
          go_upto_region 5 with fail
          refine tw5t_any (b := b) (y := w.heap.size) (v := v) (av := av) (hk := H) (p := l.ptr) (q := r.ptr) (sa := sa) (sb := sb) (β := false) ⟨rfl, rfl, rfl, (HB3.out _ S3.out.keep).1, S3.out.box, hd3, hd4⟩ (by kernel_rfl) ?_
          intro w5 hb
          have S5 := Lib.hid (S3.out.below hb)
          clear hb S3
          simp only [putAll, Act.put, List.setIfInBounds_toArray, List.set_cons_succ, List.set_cons_zero]
          go_upto_region 7 with fail
          refine tw7_any (g := g) (b := b) (y := w.heap.size) (v := v) (av := av) (hk := H) (p := l.ptr) (q := r.ptr) (sa := sa) (sb := sb) (vo := vo) (base := base) (z := w5.heap.size) (ps := ps) (R := (l.told bs sa sb).map (foldA bs)) ⟨rfl, rfl, rfl, rfl, rfl, (HB3.out _ S5.out.keep).1, HPB.out _ S5.out.same, S5.out.box, S5.out.far, fun w1 h1 h2 => (HC1.out w1 (S5.out.keep.tr h1) h2).mono fun e w2 ⟨v1, qs, e1, e2, e3, e4, e5⟩ => ⟨v1, e1, ⟨qs, e2, e3⟩, e4, fun k hk => (e5 k hk).imp id (fun h => by have := h1.size; omega)⟩, fun _ _ h hb => h.below hb, ⟨S5.out.own.row, S5.out.own.hist⟩⟩ (by kernel_rfl) ?_
          intro v66 w7 hI hV
          obtain ⟨⟨qs, hq1, hq2⟩, hq3⟩ := hV
          have S7 := Lib.hid (S5.out.turn hI.1 hq1 hq3)
          have HQ := Lib.hid hq2
          have HQL := Lib.hid (show qs.length ≤ l.row.length from by have := congrArg List.length hq2; simp only [List.length_map] at this; have := HTL.out; omega)
          clear hI hq1 hq2 hq3 S5 HC1 HTL
          simp only [putAll, Act.put, List.setIfInBounds_toArray, List.set_cons_succ, List.set_cons_zero, List.drop_succ_cons, List.drop_zero]
          go_upto_region 8 with fail
          refine tw8f_any (b := b) (y := w.heap.size) (v := v) (av := av) (hk := H) (p := l.ptr) (q := r.ptr) (sa := sa) (sb := sb) ⟨rfl, rfl, rfl, (HB3.out _ S7.out.keep).1, S7.out.box, hd5⟩ (by kernel_rfl) ?_
          intro w8 hb
          have S8 := Lib.hid (S7.out.below hb)
          clear hb S7
          simp only [putAll, Act.put, List.setIfInBounds_toArray, List.set_cons_succ, List.set_cons_zero]
          go_upto_region 10 with fail
          refine tw0_any (g := g) (b := b) (y := w.heap.size) (v := v) (av := av) (hk := H) (p := l.ptr) (q := r.ptr) (sa := sa) (sb := sb) (vo := v66) (base := base) (z := w8.heap.size) (ps := (ps ++ qs)) (R := (r.told bs sa sb).map (foldA bs)) ⟨rfl, rfl, rfl, rfl, rfl, (HB3.out _ S8.out.keep).1, HPB.out _ S8.out.same, S8.out.box, S8.out.far, fun w1 h1 h2 => (HC2.out w1 _ _ (S8.out.same.butO S8.out.keep h1) S8.out.same (by have := HN.out; have := HQL.out; simp only [List.length_append]; omega) h2).mono fun e w2 ⟨v1, qs, e1, e2, e3, e4, e5⟩ => ⟨v1, e1, ⟨qs, e2, e3⟩, e4, fun k hk => (e5 k hk).imp id (fun h => by have := h1.size; omega)⟩, fun _ _ h hb => h.below hb, ⟨S8.out.own.row, S8.out.own.hist⟩⟩ (by kernel_rfl) ?_
          intro v101 w10 hI hV
          obtain ⟨⟨qs2, hq1, hq2⟩, hq3⟩ := hV
          have S10 := Lib.hid (S8.out.turn hI.1 hq1 hq3)
          have HQ2 := Lib.hid hq2
          clear hI hq1 hq2 hq3 S8 HC2
          simp only [putAll, Act.put, List.setIfInBounds_toArray, List.set_cons_succ, List.set_cons_zero, List.drop_succ_cons, List.drop_zero]
          go_wp2_with fail
          go_ret
          exact ⟨v101, qs ++ qs2, rfl, by simpa using S10.out.own, by rw [HTO.out, List.map_append, HQ.out, HQ2.out]; simp, S10.out.keep, S10.out.same⟩
    · skip
      by_cases c5 : sa ≤ v.t
      · by_cases c6 : v.t < sb
        · have hd1 : decide (av.l.t < sa) = false := decide_eq_false c1
          have hd2 : decide (sb ≤ av.f.t) = false := decide_eq_false c2
          rw [if_neg (not_or.2 ⟨c1, c2⟩)] at hto
          have hd3 : decide (sa ≤ av.f.t) = false := decide_eq_false c3
          rw [if_neg (fun e => c3 e.1)] at hto
          have hd5 : decide (sa ≤ v.t) = true := decide_eq_true c5
          have hd6 : decide (v.t < sb) = true := decide_eq_true c6
          rw [if_pos ⟨c5, c6⟩] at hto
          have HTO := Lib.hid hto
          clear hto
          go_enter Try.func51, Try.ntmps51
          go_upto_region 2 with fail
          refine tw2_any (b := b) (y := w.heap.size) (v := v) (av := av) (hk := H) (p := l.ptr) (q := r.ptr) (sa := sa) (sb := sb) (β := false) ⟨rfl, rfl, rfl, (HB3.out _ S1.out.keep).1, S1.out.box, hd1⟩ (by kernel_rfl) ?_
          intro w2 hb
          have S2 := Lib.hid (S1.out.below hb)
          clear hb S1
          simp only [putAll, Act.put, List.setIfInBounds_toArray, List.set_cons_succ, List.set_cons_zero]
          go_upto_region 3 with fail
          refine tw3_any (b := b) (y := w.heap.size) (v := v) (av := av) (hk := H) (p := l.ptr) (q := r.ptr) (sa := sa) (sb := sb) (β := false) ⟨rfl, rfl, rfl, (HB3.out _ S2.out.keep).1, S2.out.box, hd2⟩ (by kernel_rfl) ?_
          intro w3 hb
          have S3 := Lib.hid (S2.out.below hb)
          clear hb S2
          simp only [putAll, Act.put, List.setIfInBounds_toArray, List.set_cons_succ, List.set_cons_zero]
          go_upto_region 5 with fail
          refine tw5f_any (b := b) (y := w.heap.size) (v := v) (av := av) (hk := H) (p := l.ptr) (q := r.ptr) (sa := sa) (sb := sb) ⟨rfl, rfl, rfl, (HB3.out _ S3.out.keep).1, S3.out.box, hd3⟩ (by kernel_rfl) ?_
          intro w5 hb
          have S5 := Lib.hid (S3.out.below hb)
          clear hb S3
          simp only [putAll, Act.put, List.setIfInBounds_toArray, List.set_cons_succ, List.set_cons_zero]
          go_upto_region 7 with fail
          refine tw7_any (g := g) (b := b) (y := w.heap.size) (v := v) (av := av) (hk := H) (p := l.ptr) (q := r.ptr) (sa := sa) (sb := sb) (vo := vo) (base := base) (z := w5.heap.size) (ps := ps) (R := (l.told bs sa sb).map (foldA bs)) ⟨rfl, rfl, rfl, rfl, rfl, (HB3.out _ S5.out.keep).1, HPB.out _ S5.out.same, S5.out.box, S5.out.far, fun w1 h1 h2 => (HC1.out w1 (S5.out.keep.tr h1) h2).mono fun e w2 ⟨v1, qs, e1, e2, e3, e4, e5⟩ => ⟨v1, e1, ⟨qs, e2, e3⟩, e4, fun k hk => (e5 k hk).imp id (fun h => by have := h1.size; omega)⟩, fun _ _ h hb => h.below hb, ⟨S5.out.own.row, S5.out.own.hist⟩⟩ (by kernel_rfl) ?_
          intro v66 w7 hI hV
          obtain ⟨⟨qs, hq1, hq2⟩, hq3⟩ := hV
          have S7 := Lib.hid (S5.out.turn hI.1 hq1 hq3)
          have HQ := Lib.hid hq2
          have HQL := Lib.hid (show qs.length ≤ l.row.length from by have := congrArg List.length hq2; simp only [List.length_map] at this; have := HTL.out; omega)
          clear hI hq1 hq2 hq3 S5 HC1 HTL
          simp only [putAll, Act.put, List.setIfInBounds_toArray, List.set_cons_succ, List.set_cons_zero, List.drop_succ_cons, List.drop_zero]
          go_upto_region 8 with fail
          refine tw8t_any (b := b) (y := w.heap.size) (v := v) (av := av) (hk := H) (p := l.ptr) (q := r.ptr) (sa := sa) (sb := sb) (β := true) ⟨rfl, rfl, rfl, (HB3.out _ S7.out.keep).1, S7.out.box, hd5, hd6⟩ (by kernel_rfl) ?_
          intro w8 hb
          have S8 := Lib.hid (S7.out.below hb)
          clear hb S7
          simp only [putAll, Act.put, List.setIfInBounds_toArray, List.set_cons_succ, List.set_cons_zero]
          have hc1 : w8.cell? ⟨b, 1, none⟩ = some (.int .i64 v.s) := (HB3.out _ S8.out.keep).1.cell 1
          have hc2 : w8.cell? ⟨b, 2, none⟩ = some (.int .i64 v.t) := (HB3.out _ S8.out.keep).1.cell 2
          have hc3 : w8.cell? ⟨b, 3, none⟩ = some (.int .i64 v.q) := (HB3.out _ S8.out.keep).1.cell 3
          have hc4 : w8.cell? ⟨b, 4, none⟩ = some (.int .i64 v.v) := (HB3.out _ S8.out.keep).1.cell 4
          go_upto_region 10 with (first | (refine (HAL.out _ S8.out.keep).mono ?_; clear HAL; rintro e wa ⟨Ha, _, rfl, hha, hba⟩) | (refine lit1 rfl _ rfl rfl ?_; intro wl hbl hvl) | (refine app_accO rfl _ _ rfl (base := base) (v := v66) rfl ((S8.out.below hba).own.below hbl) rfl hvl (hha.below hbl hha.lt) (by have := HN.out; have := HQL.out; simp only [List.length_append]; omega) (by have := HLE.out; have := S8.out.bs; have := hba.size; have := hbl.size; omega) ?_; intro v9 w9 ho hb hs; have S9 := Lib.hid (((S8.out.below hba).below hbl).turn hb ho hs); clear hbl hvl hha hba ho hb hs))
          clear hc1 hc2 hc3 hc4
          refine tw0_any (g := g) (b := b) (y := w.heap.size) (v := v) (av := av) (hk := H) (p := l.ptr) (q := r.ptr) (sa := sa) (sb := sb) (vo := v9) (base := base) (z := w9.heap.size) (ps := (ps ++ qs ++ [(oneAc v bs, Ha)])) (R := (r.told bs sa sb).map (foldA bs)) ⟨rfl, rfl, rfl, rfl, rfl, (HB3.out _ S9.out.keep).1, HPB.out _ S9.out.same, S9.out.box, S9.out.far, fun w1 h1 h2 => (HC2.out w1 _ _ (S9.out.same.butO S9.out.keep h1) S9.out.same (by have := HN.out; have := HQL.out; simp only [List.length_append, List.length_cons, List.length_nil]; omega) h2).mono fun e w2 ⟨v1, qs, e1, e2, e3, e4, e5⟩ => ⟨v1, e1, ⟨qs, e2, e3⟩, e4, fun k hk => (e5 k hk).imp id (fun h => by have := h1.size; omega)⟩, fun _ _ h hb => h.below hb, ⟨S9.out.own.row, S9.out.own.hist⟩⟩ (by kernel_rfl) ?_
          intro v101 w10 hI hV
          obtain ⟨⟨qs2, hq1, hq2⟩, hq3⟩ := hV
          have S10 := Lib.hid (S9.out.turn hI.1 hq1 hq3)
          have HQ2 := Lib.hid hq2
          clear hI hq1 hq2 hq3 S9 HC2
          simp only [putAll, Act.put, List.setIfInBounds_toArray, List.set_cons_succ, List.set_cons_zero, List.drop_succ_cons, List.drop_zero]
          go_wp2_with fail
          go_ret
          exact ⟨v101, qs ++ ((oneAc v bs, Ha) :: qs2), rfl, by simpa using S10.out.own, by rw [HTO.out, List.map_append, List.map_cons, HQ.out, HQ2.out]; simp [HONE.out], S10.out.keep, S10.out.same⟩
        · have hd1 : decide (av.l.t < sa) = false := decide_eq_false c1
          have hd2 : decide (sb ≤ av.f.t) = false := decide_eq_false c2
          rw [if_neg (not_or.2 ⟨c1, c2⟩)] at hto
          have hd3 : decide (sa ≤ av.f.t) = false := decide_eq_false c3
          rw [if_neg (fun e => c3 e.1)] at hto
          have hd5 : decide (sa ≤ v.t) = true := decide_eq_true c5
          have hd6 : decide (v.t < sb) = false := decide_eq_false c6
          rw [if_neg (fun e => c6 e.2)] at hto
          have HTO := Lib.hid hto
          clear hto
          go_enter Try.func51, Try.ntmps51
          go_upto_region 2 with fail
          refine tw2_any (b := b) (y := w.heap.size) (v := v) (av := av) (hk := H) (p := l.ptr) (q := r.ptr) (sa := sa) (sb := sb) (β := false) ⟨rfl, rfl, rfl, (HB3.out _ S1.out.keep).1, S1.out.box, hd1⟩ (by kernel_rfl) ?_
          intro w2 hb
          have S2 := Lib.hid (S1.out.below hb)
          clear hb S1
          simp only [putAll, Act.put, List.setIfInBounds_toArray, List.set_cons_succ, List.set_cons_zero]
          go_upto_region 3 with fail
          refine tw3_any (b := b) (y := w.heap.size) (v := v) (av := av) (hk := H) (p := l.ptr) (q := r.ptr) (sa := sa) (sb := sb) (β := false) ⟨rfl, rfl, rfl, (HB3.out _ S2.out.keep).1, S2.out.box, hd2⟩ (by kernel_rfl) ?_
          intro w3 hb
          have S3 := Lib.hid (S2.out.below hb)
          clear hb S2
          simp only [putAll, Act.put, List.setIfInBounds_toArray, List.set_cons_succ, List.set_cons_zero]
          go_upto_region 5 with fail
          refine tw5f_any (b := b) (y := w.heap.size) (v := v) (av := av) (hk := H) (p := l.ptr) (q := r.ptr) (sa := sa) (sb := sb) ⟨rfl, rfl, rfl, (HB3.out _ S3.out.keep).1, S3.out.box, hd3⟩ (by kernel_rfl) ?_
          intro w5 hb
          have S5 := Lib.hid (S3.out.below hb)
          clear hb S3
          simp only [putAll, Act.put, List.setIfInBounds_toArray, List.set_cons_succ, List.set_cons_zero]
          go_upto_region 7 with fail
          refine tw7_any (g := g) (b := b) (y := w.heap.size) (v := v) (av := av) (hk := H) (p := l.ptr) (q := r.ptr) (sa := sa) (sb := sb) (vo := vo) (base := base) (z := w5.heap.size) (ps := ps) (R := (l.told bs sa sb).map (foldA bs)) ⟨rfl, rfl, rfl, rfl, rfl, (HB3.out _ S5.out.keep).1, HPB.out _ S5.out.same, S5.out.box, S5.out.far, fun w1 h1 h2 => (HC1.out w1 (S5.out.keep.tr h1) h2).mono fun e w2 ⟨v1, qs, e1, e2, e3, e4, e5⟩ => ⟨v1, e1, ⟨qs, e2, e3⟩, e4, fun k hk => (e5 k hk).imp id (fun h => by have := h1.size; omega)⟩, fun _ _ h hb => h.below hb, ⟨S5.out.own.row, S5.out.own.hist⟩⟩ (by kernel_rfl) ?_
          intro v66 w7 hI hV
          obtain ⟨⟨qs, hq1, hq2⟩, hq3⟩ := hV
          have S7 := Lib.hid (S5.out.turn hI.1 hq1 hq3)
          have HQ := Lib.hid hq2
          have HQL := Lib.hid (show qs.length ≤ l.row.length from by have := congrArg List.length hq2; simp only [List.length_map] at this; have := HTL.out; omega)
          clear hI hq1 hq2 hq3 S5 HC1 HTL
          simp only [putAll, Act.put, List.setIfInBounds_toArray, List.set_cons_succ, List.set_cons_zero, List.drop_succ_cons, List.drop_zero]
          go_upto_region 8 with fail
          refine tw8t_any (b := b) (y := w.heap.size) (v := v) (av := av) (hk := H) (p := l.ptr) (q := r.ptr) (sa := sa) (sb := sb) (β := false) ⟨rfl, rfl, rfl, (HB3.out _ S7.out.keep).1, S7.out.box, hd5, hd6⟩ (by kernel_rfl) ?_
          intro w8 hb
          have S8 := Lib.hid (S7.out.below hb)
          clear hb S7
          simp only [putAll, Act.put, List.setIfInBounds_toArray, List.set_cons_succ, List.set_cons_zero]
          go_upto_region 10 with fail
          refine tw0_any (g := g) (b := b) (y := w.heap.size) (v := v) (av := av) (hk := H) (p := l.ptr) (q := r.ptr) (sa := sa) (sb := sb) (vo := v66) (base := base) (z := w8.heap.size) (ps := (ps ++ qs)) (R := (r.told bs sa sb).map (foldA bs)) ⟨rfl, rfl, rfl, rfl, rfl, (HB3.out _ S8.out.keep).1, HPB.out _ S8.out.same, S8.out.box, S8.out.far, fun w1 h1 h2 => (HC2.out w1 _ _ (S8.out.same.butO S8.out.keep h1) S8.out.same (by have := HN.out; have := HQL.out; simp only [List.length_append]; omega) h2).mono fun e w2 ⟨v1, qs, e1, e2, e3, e4, e5⟩ => ⟨v1, e1, ⟨qs, e2, e3⟩, e4, fun k hk => (e5 k hk).imp id (fun h => by have := h1.size; omega)⟩, fun _ _ h hb => h.below hb, ⟨S8.out.own.row, S8.out.own.hist⟩⟩ (by kernel_rfl) ?_
          intro v101 w10 hI hV
          obtain ⟨⟨qs2, hq1, hq2⟩, hq3⟩ := hV
          have S10 := Lib.hid (S8.out.turn hI.1 hq1 hq3)
          have HQ2 := Lib.hid hq2
          clear hI hq1 hq2 hq3 S8 HC2
          simp only [putAll, Act.put, List.setIfInBounds_toArray, List.set_cons_succ, List.set_cons_zero, List.drop_succ_cons, List.drop_zero]
          go_wp2_with fail
          go_ret
          exact ⟨v101, qs ++ qs2, rfl, by simpa using S10.out.own, by rw [HTO.out, List.map_append, HQ.out, HQ2.out]; simp, S10.out.keep, S10.out.same⟩
      · have hd1 : decide (av.l.t < sa) = false := decide_eq_false c1
        have hd2 : decide (sb ≤ av.f.t) = false := decide_eq_false c2
        rw [if_neg (not_or.2 ⟨c1, c2⟩)] at hto
        have hd3 : decide (sa ≤ av.f.t) = false := decide_eq_false c3
        rw [if_neg (fun e => c3 e.1)] at hto
        have hd5 : decide (sa ≤ v.t) = false := decide_eq_false c5
        rw [if_neg (fun e => c5 e.1)] at hto
        have HTO := Lib.hid hto
        clear hto
        go_enter Try.func51, Try.ntmps51
        go_upto_region 2 with fail
        refine tw2_any (b := b) (y := w.heap.size) (v := v) (av := av) (hk := H) (p := l.ptr) (q := r.ptr) (sa := sa) (sb := sb) (β := false) ⟨rfl, rfl, rfl, (HB3.out _ S1.out.keep).1, S1.out.box, hd1⟩ (by kernel_rfl) ?_
        intro w2 hb
        have S2 := Lib.hid (S1.out.below hb)
        clear hb S1
        simp only [putAll, Act.put, List.setIfInBounds_toArray, List.set_cons_succ, List.set_cons_zero]
        go_upto_region 3 with fail
        refine tw3_any (b := b) (y := w.heap.size) (v := v) (av := av) (hk := H) (p := l.ptr) (q := r.ptr) (sa := sa) (sb := sb) (β := false) ⟨rfl, rfl, rfl, (HB3.out _ S2.out.keep).1, S2.out.box, hd2⟩ (by kernel_rfl) ?_
        intro w3 hb
        have S3 := Lib.hid (S2.out.below hb)
        clear hb S2
        simp only [putAll, Act.put, List.setIfInBounds_toArray, List.set_cons_succ, List.set_cons_zero]
        go_upto_region 5 with fail
        refine tw5f_any (b := b) (y := w.heap.size) (v := v) (av := av) (hk := H) (p := l.ptr) (q := r.ptr) (sa := sa) (sb := sb) ⟨rfl, rfl, rfl, (HB3.out _ S3.out.keep).1, S3.out.box, hd3⟩ (by kernel_rfl) ?_
        intro w5 hb
        have S5 := Lib.hid (S3.out.below hb)
        clear hb S3
        simp only [putAll, Act.put, List.setIfInBounds_toArray, List.set_cons_succ, List.set_cons_zero]
        go_upto_region 7 with fail
        refine tw7_any (g := g) (b := b) (y := w.heap.size) (v := v) (av := av) (hk := H) (p := l.ptr) (q := r.ptr) (sa := sa) (sb := sb) (vo := vo) (base := base) (z := w5.heap.size) (ps := ps) (R := (l.told bs sa sb).map (foldA bs)) ⟨rfl, rfl, rfl, rfl, rfl, (HB3.out _ S5.out.keep).1, HPB.out _ S5.out.same, S5.out.box, S5.out.far, fun w1 h1 h2 => (HC1.out w1 (S5.out.keep.tr h1) h2).mono fun e w2 ⟨v1, qs, e1, e2, e3, e4, e5⟩ => ⟨v1, e1, ⟨qs, e2, e3⟩, e4, fun k hk => (e5 k hk).imp id (fun h => by have := h1.size; omega)⟩, fun _ _ h hb => h.below hb, ⟨S5.out.own.row, S5.out.own.hist⟩⟩ (by kernel_rfl) ?_
        intro v66 w7 hI hV
        obtain ⟨⟨qs, hq1, hq2⟩, hq3⟩ := hV
        have S7 := Lib.hid (S5.out.turn hI.1 hq1 hq3)
        have HQ := Lib.hid hq2
        have HQL := Lib.hid (show qs.length ≤ l.row.length from by have := congrArg List.length hq2; simp only [List.length_map] at this; have := HTL.out; omega)
        clear hI hq1 hq2 hq3 S5 HC1 HTL
        simp only [putAll, Act.put, List.setIfInBounds_toArray, List.set_cons_succ, List.set_cons_zero, List.drop_succ_cons, List.drop_zero]
        go_upto_region 8 with fail
        refine tw8f_any (b := b) (y := w.heap.size) (v := v) (av := av) (hk := H) (p := l.ptr) (q := r.ptr) (sa := sa) (sb := sb) ⟨rfl, rfl, rfl, (HB3.out _ S7.out.keep).1, S7.out.box, hd5⟩ (by kernel_rfl) ?_
        intro w8 hb
        have S8 := Lib.hid (S7.out.below hb)
        clear hb S7
        simp only [putAll, Act.put, List.setIfInBounds_toArray, List.set_cons_succ, List.set_cons_zero]
        go_upto_region 10 with fail
        refine tw0_any (g := g) (b := b) (y := w.heap.size) (v := v) (av := av) (hk := H) (p := l.ptr) (q := r.ptr) (sa := sa) (sb := sb) (vo := v66) (base := base) (z := w8.heap.size) (ps := (ps ++ qs)) (R := (r.told bs sa sb).map (foldA bs)) ⟨rfl, rfl, rfl, rfl, rfl, (HB3.out _ S8.out.keep).1, HPB.out _ S8.out.same, S8.out.box, S8.out.far, fun w1 h1 h2 => (HC2.out w1 _ _ (S8.out.same.butO S8.out.keep h1) S8.out.same (by have := HN.out; have := HQL.out; simp only [List.length_append]; omega) h2).mono fun e w2 ⟨v1, qs, e1, e2, e3, e4, e5⟩ => ⟨v1, e1, ⟨qs, e2, e3⟩, e4, fun k hk => (e5 k hk).imp id (fun h => by have := h1.size; omega)⟩, fun _ _ h hb => h.below hb, ⟨S8.out.own.row, S8.out.own.hist⟩⟩ (by kernel_rfl) ?_
        intro v101 w10 hI hV
        obtain ⟨⟨qs2, hq1, hq2⟩, hq3⟩ := hV
        have S10 := Lib.hid (S8.out.turn hI.1 hq1 hq3)
        have HQ2 := Lib.hid hq2
        clear hI hq1 hq2 hq3 S8 HC2
        simp only [putAll, Act.put, List.setIfInBounds_toArray, List.set_cons_succ, List.set_cons_zero, List.drop_succ_cons, List.drop_zero]
        go_wp2_with fail
        go_ret
        exact ⟨v101, qs ++ qs2, rfl, by simpa using S10.out.own, by rw [HTO.out, List.map_append, HQ.out, HQ2.out]; simp, S10.out.keep, S10.out.same⟩
end

end Go.Proofs.Ytdoflmphkalicaa
