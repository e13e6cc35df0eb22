/-
  The reference's SessionsMay: its drawn regions, in each way that the tests may fall: their facts, one by one (written by gen/sesr.py).
  Walk: the reference's SessionsMay (written by gen/sesrw.py).
  The reference's AddSessions: its drawn region that asks an item, in each way that the tests may fall (written by gen/sesri.py).
-/
import Derived.Test.YtgdeaddfkcokpaaG7h
import Derived.Test.YtgdeaddfkcokpaaG6f
import Derived.Test.YtgdeaddfkcokpaaRAcc
import Derived.Test.YtgdeaddfkcokpaaRef
import Derived.Test.YtgdeaddfkcokpaaG7e
namespace Go.Proofs.Ytgdeaddfkcokpaa
open Go.RowKit

def rs0D : List (Option Tmp) := [some 19, some 20, some 21, some 22, some 23, some 24, some 25, some 26, some 27, some 28, some 29, some 30, some 31, some 32, some 33, some 34, some 35, some 36, some 37, some 38, some 39, some 40, some 41, some 42, some 43, some 44, some 45, some 46, some 47, some 48, some 49, some 50, some 51, some 52, some 53, some 54, some 55, some 56, some 57, some 58, some 59, some 60]
def rs0F (s _z : Se) (A _Z B _C : Option Addr) (k c m d _zk _zc _e g _b _fo _n _r _q : Nat) (_bs : List Int) : List Fact := [isV (.pointer (some ⟨g, 2, none⟩)), isV (.agg (accC s.a A k c)), isV (.slice B m d), isV (.bool false), isV (.bool true), isV (.bool true), isV (undef), isV (undef), isV (undef), isV (undef), isV (.bool true), isV (.bool true), isV (undef), isV (undef), isV (undef), isV (undef), isV (undef), isV (undef), isV (undef), isV (.bool true), isV (.bool true), isV (undef), isV (undef), isV (undef), isV (undef), isV (undef), isV (undef), isV (undef), isV (.bool true), isV (.bool true), isV (undef), isV (undef), isV (undef), isV (undef), isV (undef), isV (undef), isV (undef), isV (undef), isV (undef), isV (undef), isV (undef), isV (.bool true)]
theorem rs0F_mono (s z : Se) (A Z B C : Option Addr) (k c m d zk zc e g b fo n r q : Nat) (bs : List Int) : ∀ φ ∈ rs0F s z A Z B C k c m d zk zc e g b fo n r q bs, Mono φ := by
  unfold rs0F
  repeat (first | exact monos_nil | (refine monos_cons (mono_isV _) ?_))
structure rs0S (s z : Se) (A Z B C : Option Addr) (k c m d zk zc e g b fo n r q : Nat) (bs : List Int) (a0 : Act) (w0 : World) : Prop where
  size : a0.tmps.size = 86
  v2 : a0.tmps.getD 2 undef = .slice B m d
  v8 : a0.tmps.getD 8 undef = .pointer (some ⟨g, 0, none⟩)
  box : Has w0 g 60 (sesC s A k c)
  at0 : SesAt w0 g 0 s A k c
  hi : Ints w0 A k s.a.h
  hk : k ≤ maxLen
  hb : Ints w0 B m bs
  hm : m ≤ maxLen
  e1 : accB s.a bs = false
section
variable {s z : Se} {A Z B C : Option Addr} {k c m d zk zc e g b fo n r q : Nat} {bs : List Int} {a0 : Act} {w0 : World} (S : rs0S s z A Z B C k c m d zk zc e g b fo n r q bs a0 w0)
include S
set_option maxRecDepth 100000 in
set_option maxHeartbeats 8000000 in
theorem rs0_ok : AllOps (fun j o => ∀ (a : Act) (w : World), Below w0.heap.size w0 w → FrD rs0D a0 a → needs rs0D (rs0F s z A Z B C k c m d zk zc e g b fo n r q bs) a w o.after.toList → StepD Try.prog rs0D (factAt (rs0F s z A Z B C k c m d zk zc e g b fo n r q bs) j) o a w) 0 (opsOf 5 Try.f31) := by
  simp only [opsOf, Try.f31, opsAt, Option.bind, Option.or, Option.getD, reduceCtorEq, if_true, if_false, Nat.reduceEqDiff]
  refine ⟨?_, ?_⟩
  · intro _a _w _hB hF _hd
    exact rf_faddr (guard_none rfl) rfl _ _ _ rfl _ _ 2 _ ((hF.other 8 rfl).trans S.v8) (by omega) (fun _ _ => by kernel_rfl) rfl
  refine ⟨?_, ?_⟩
  · intro a _w hB _hF hd
    have h19 : a.tmps.getD 19 undef = .pointer (some ⟨g, 2, none⟩) := hd.1 rfl
    exact rf_loadS (guard_none rfl) rfl _ _ rfl _ _ h19 _ (SesAt.acc (s := s) (b := g) (o := 0) (S.at0.below hB)).1 Try.underlying29 rfl Try.sizeAcc rfl
  refine ⟨?_, ?_⟩
  · intro _a _w _hB hF _hd
    exact step_move (guard_none rfl) rfl _ rfl ((hF.other 2 rfl).trans S.v2)
  refine ⟨?_, ?_⟩
  · intro a _w hB _hF hd
    have h20 : a.tmps.getD 20 undef = .agg (accC s.a A k c) := hd.1 rfl
    have h21 : a.tmps.getD 21 undef = .slice B m d := hd.2.1 rfl
    refine step_call (guard_none rfl) rfl _ _ (rf_call_run Try.func19 (by kernel_rfl) (by kernel_rfl) _ _ rfl) ?_
    simp only [List.map_toArray, List.map_cons, List.map_nil, Act.eval, h20, h21]
    exact (raccmay_any s.a A k c B m d bs _ (S.hi.below hB) (S.hb.below hB) S.hk S.hm).mono (by rintro x w1 ⟨rfl, hb⟩; exact ⟨_, rfl, hb, by rw [S.e1]; rfl⟩)
  refine ⟨?_, ?_⟩
  · intro a _w _hB _hF hd
    have h22 : a.tmps.getD 22 undef = .bool false := hd.1 rfl
    exact step_not (guard_none rfl) rfl _ _ rfl h22 rfl
  refine ⟨?_, ?_⟩
  · intro a _w _hB _hF hd
    have h23 : a.tmps.getD 23 undef = .bool true := hd.1 rfl
    exact step_move (guard_none rfl) rfl _ rfl h23
  refine ⟨?_, ?_⟩
  · intro a _w _hB _hF hd
    have h24 : a.tmps.getD 24 undef = .bool true := hd.1 rfl
    exact rf_shut false rfl rfl h24 rfl
  refine ⟨?_, ?_⟩
  · intro a _w _hB _hF hd
    have h24 : a.tmps.getD 24 undef = .bool true := hd.2.1 rfl
    exact rf_shut false rfl rfl h24 rfl
  refine ⟨?_, ?_⟩
  · intro a _w _hB _hF hd
    have h24 : a.tmps.getD 24 undef = .bool true := hd.2.1 rfl
    exact rf_shut false rfl rfl h24 rfl
  refine ⟨?_, ?_⟩
  · intro a _w _hB _hF hd
    have h24 : a.tmps.getD 24 undef = .bool true := hd.2.1 rfl
    exact rf_shut false rfl rfl h24 rfl
  refine ⟨?_, ?_⟩
  · intro a _w _hB _hF hd
    have h24 : a.tmps.getD 24 undef = .bool true := hd.1 rfl
    exact rf_pick (guard_none rfl) rfl _ _ _ rfl true h24 rfl
  refine ⟨?_, ?_⟩
  · intro a _w _hB _hF hd
    have h29 : a.tmps.getD 29 undef = .bool true := hd.1 rfl
    exact step_move (guard_none rfl) rfl _ rfl h29
  refine ⟨?_, ?_⟩
  · intro a _w _hB _hF hd
    have h30 : a.tmps.getD 30 undef = .bool true := hd.1 rfl
    exact rf_shut false rfl rfl h30 rfl
  refine ⟨?_, ?_⟩
  · intro a _w _hB _hF hd
    have h30 : a.tmps.getD 30 undef = .bool true := hd.2.1 rfl
    exact rf_shut false rfl rfl h30 rfl
  refine ⟨?_, ?_⟩
  · intro a _w _hB _hF hd
    have h30 : a.tmps.getD 30 undef = .bool true := hd.1 rfl
    exact rf_shut false rfl rfl h30 rfl
  refine ⟨?_, ?_⟩
  · intro a _w _hB _hF hd
    have h30 : a.tmps.getD 30 undef = .bool true := hd.2.1 rfl
    exact rf_shut false rfl rfl h30 rfl
  refine ⟨?_, ?_⟩
  · intro a _w _hB _hF hd
    have h30 : a.tmps.getD 30 undef = .bool true := hd.2.1 rfl
    exact rf_shut false rfl rfl h30 rfl
  refine ⟨?_, ?_⟩
  · intro a _w _hB _hF hd
    have h30 : a.tmps.getD 30 undef = .bool true := hd.2.1 rfl
    exact rf_shut false rfl rfl h30 rfl
  refine ⟨?_, ?_⟩
  · intro a _w _hB _hF hd
    have h30 : a.tmps.getD 30 undef = .bool true := hd.2.2.1 rfl
    exact rf_shut false rfl rfl h30 rfl
  refine ⟨?_, ?_⟩
  · intro a _w _hB _hF hd
    have h30 : a.tmps.getD 30 undef = .bool true := hd.1 rfl
    exact rf_pick (guard_none rfl) rfl _ _ _ rfl true h30 rfl
  refine ⟨?_, ?_⟩
  · intro a _w _hB _hF hd
    have h38 : a.tmps.getD 38 undef = .bool true := hd.1 rfl
    exact step_move (guard_none rfl) rfl _ rfl h38
  refine ⟨?_, ?_⟩
  · intro a _w _hB _hF hd
    have h39 : a.tmps.getD 39 undef = .bool true := hd.1 rfl
    exact rf_shut false rfl rfl h39 rfl
  refine ⟨?_, ?_⟩
  · intro a _w _hB _hF hd
    have h39 : a.tmps.getD 39 undef = .bool true := hd.2.1 rfl
    exact rf_shut false rfl rfl h39 rfl
  refine ⟨?_, ?_⟩
  · intro a _w _hB _hF hd
    have h39 : a.tmps.getD 39 undef = .bool true := hd.1 rfl
    exact rf_shut false rfl rfl h39 rfl
  refine ⟨?_, ?_⟩
  · intro a _w _hB _hF hd
    have h39 : a.tmps.getD 39 undef = .bool true := hd.2.1 rfl
    exact rf_shut false rfl rfl h39 rfl
  refine ⟨?_, ?_⟩
  · intro a _w _hB _hF hd
    have h39 : a.tmps.getD 39 undef = .bool true := hd.2.1 rfl
    exact rf_shut false rfl rfl h39 rfl
  refine ⟨?_, ?_⟩
  · intro a _w _hB _hF hd
    have h39 : a.tmps.getD 39 undef = .bool true := hd.2.1 rfl
    exact rf_shut false rfl rfl h39 rfl
  refine ⟨?_, ?_⟩
  · intro a _w _hB _hF hd
    have h39 : a.tmps.getD 39 undef = .bool true := hd.2.2.1 rfl
    exact rf_shut false rfl rfl h39 rfl
  refine ⟨?_, ?_⟩
  · intro a _w _hB _hF hd
    have h39 : a.tmps.getD 39 undef = .bool true := hd.1 rfl
    exact rf_pick (guard_none rfl) rfl _ _ _ rfl true h39 rfl
  refine ⟨?_, ?_⟩
  · intro a _w _hB _hF hd
    have h47 : a.tmps.getD 47 undef = .bool true := hd.1 rfl
    exact step_move (guard_none rfl) rfl _ rfl h47
  refine ⟨?_, ?_⟩
  · intro a _w _hB _hF hd
    have h48 : a.tmps.getD 48 undef = .bool true := hd.1 rfl
    exact rf_shut false rfl rfl h48 rfl
  refine ⟨?_, ?_⟩
  · intro a _w _hB _hF hd
    have h48 : a.tmps.getD 48 undef = .bool true := hd.2.1 rfl
    exact rf_shut false rfl rfl h48 rfl
  refine ⟨?_, ?_⟩
  · intro a _w _hB _hF hd
    have h48 : a.tmps.getD 48 undef = .bool true := hd.2.1 rfl
    exact rf_shut false rfl rfl h48 rfl
  refine ⟨?_, ?_⟩
  · intro a _w _hB _hF hd
    have h48 : a.tmps.getD 48 undef = .bool true := hd.2.1 rfl
    exact rf_shut false rfl rfl h48 rfl
  refine ⟨?_, ?_⟩
  · intro a _w _hB _hF hd
    have h48 : a.tmps.getD 48 undef = .bool true := hd.1 rfl
    exact rf_shut false rfl rfl h48 rfl
  refine ⟨?_, ?_⟩
  · intro a _w _hB _hF hd
    have h48 : a.tmps.getD 48 undef = .bool true := hd.2.1 rfl
    exact rf_shut false rfl rfl h48 rfl
  refine ⟨?_, ?_⟩
  · intro a _w _hB _hF hd
    have h48 : a.tmps.getD 48 undef = .bool true := hd.2.1 rfl
    exact rf_shut false rfl rfl h48 rfl
  refine ⟨?_, ?_⟩
  · intro a _w _hB _hF hd
    have h48 : a.tmps.getD 48 undef = .bool true := hd.2.1 rfl
    exact rf_shut false rfl rfl h48 rfl
  refine ⟨?_, ?_⟩
  · intro a _w _hB _hF hd
    have h48 : a.tmps.getD 48 undef = .bool true := hd.2.1 rfl
    exact rf_shut false rfl rfl h48 rfl
  refine ⟨?_, ?_⟩
  · intro a _w _hB _hF hd
    have h48 : a.tmps.getD 48 undef = .bool true := hd.2.1 rfl
    exact rf_shut false rfl rfl h48 rfl
  refine ⟨?_, ?_⟩
  · intro a _w _hB _hF hd
    have h48 : a.tmps.getD 48 undef = .bool true := hd.2.2.1 rfl
    exact rf_shut false rfl rfl h48 rfl
  refine ⟨?_, ?_⟩
  · intro a _w _hB _hF hd
    have h48 : a.tmps.getD 48 undef = .bool true := hd.1 rfl
    exact rf_pick (guard_none rfl) rfl _ _ _ rfl true h48 rfl
  trivial
theorem rs0_any {Q : Exit → Act → World → Prop} {l : List Oper} (hl : opsOf 5 Try.f31 = l) (hend : ∀ w : World, Below w0.heap.size w0 w → Q .normal (putAll a0 [(19, .pointer (some ⟨g, 2, none⟩)), (20, .agg (accC s.a A k c)), (21, .slice B m d), (22, .bool false), (23, .bool true), (24, .bool true), (25, undef), (26, undef), (27, undef), (28, undef), (29, .bool true), (30, .bool true), (31, undef), (32, undef), (33, undef), (34, undef), (35, undef), (36, undef), (37, undef), (38, .bool true), (39, .bool true), (40, undef), (41, undef), (42, undef), (43, undef), (44, undef), (45, undef), (46, undef), (47, .bool true), (48, .bool true), (49, undef), (50, undef), (51, undef), (52, undef), (53, undef), (54, undef), (55, undef), (56, undef), (57, undef), (58, undef), (59, undef), (60, .bool true)]) w) :
    (Code.region 5 l.toArray true).wp Try.prog Q a0 w0 := by
  subst hl
  refine region_facts2 (rs0F s z A Z B C k c m d zk zc e g b fo n r q bs) rs0D 86 S.size rfl (by kernel_rfl) (by kernel_rfl) (rs0F_mono _ _ _ _ _ _ _ _ _ _ _ _ _ _ _ _ _ _ _ _) (rs0_ok S) fun a w hB hF h => ?_
  have hv : valsAre a [(19, .pointer (some ⟨g, 2, none⟩)), (20, .agg (accC s.a A k c)), (21, .slice B m d), (22, .bool false), (23, .bool true), (24, .bool true), (25, undef), (26, undef), (27, undef), (28, undef), (29, .bool true), (30, .bool true), (31, undef), (32, undef), (33, undef), (34, undef), (35, undef), (36, undef), (37, undef), (38, .bool true), (39, .bool true), (40, undef), (41, undef), (42, undef), (43, undef), (44, undef), (45, undef), (46, undef), (47, .bool true), (48, .bool true), (49, undef), (50, undef), (51, undef), (52, undef), (53, undef), (54, undef), (55, undef), (56, undef), (57, undef), (58, undef), (59, undef), (60, .bool true)] := by
    refine ⟨?_, ?_, ?_, ?_, ?_, ?_, ?_, ?_, ?_, ?_, ?_, ?_, ?_, ?_, ?_, ?_, ?_, ?_, ?_, ?_, ?_, ?_, ?_, ?_, ?_, ?_, ?_, ?_, ?_, ?_, ?_, ?_, ?_, ?_, ?_, ?_, ?_, ?_, ?_, ?_, ?_, ?_, trivial⟩
    · exact h 0 (some 19) rfl
    · exact h 1 (some 20) rfl
    · exact h 2 (some 21) rfl
    · exact h 3 (some 22) rfl
    · exact h 4 (some 23) rfl
    · exact h 5 (some 24) rfl
    · exact h 6 (some 25) rfl
    · exact h 7 (some 26) rfl
    · exact h 8 (some 27) rfl
    · exact h 9 (some 28) rfl
    · exact h 10 (some 29) rfl
    · exact h 11 (some 30) rfl
    · exact h 12 (some 31) rfl
    · exact h 13 (some 32) rfl
    · exact h 14 (some 33) rfl
    · exact h 15 (some 34) rfl
    · exact h 16 (some 35) rfl
    · exact h 17 (some 36) rfl
    · exact h 18 (some 37) rfl
    · exact h 19 (some 38) rfl
    · exact h 20 (some 39) rfl
    · exact h 21 (some 40) rfl
    · exact h 22 (some 41) rfl
    · exact h 23 (some 42) rfl
    · exact h 24 (some 43) rfl
    · exact h 25 (some 44) rfl
    · exact h 26 (some 45) rfl
    · exact h 27 (some 46) rfl
    · exact h 28 (some 47) rfl
    · exact h 29 (some 48) rfl
    · exact h 30 (some 49) rfl
    · exact h 31 (some 50) rfl
    · exact h 32 (some 51) rfl
    · exact h 33 (some 52) rfl
    · exact h 34 (some 53) rfl
    · exact h 35 (some 54) rfl
    · exact h 36 (some 55) rfl
    · exact h 37 (some 56) rfl
    · exact h 38 (some 57) rfl
    · exact h 39 (some 58) rfl
    · exact h 40 (some 59) rfl
    · exact h 41 (some 60) rfl
  rw [frame_is hF _ hv (by rfl) (by rfl)]
  exact hend w hB
end

def rs1D : List (Option Tmp) := [some 19, some 20, some 21, some 22, some 23, some 24, some 25, some 26, some 27, some 28, some 29, some 30, some 31, some 32, some 33, some 34, some 35, some 36, some 37, some 38, some 39, some 40, some 41, some 42, some 43, some 44, some 45, some 46, some 47, some 48, some 49, some 50, some 51, some 52, some 53, some 54, some 55, some 56, some 57, some 58, some 59, some 60]
def rs1F (s _z : Se) (A _Z B _C : Option Addr) (k c m d _zk _zc _e g _b _fo _n _r _q : Nat) (_bs : List Int) : List Fact := [isV (.pointer (some ⟨g, 2, none⟩)), isV (.agg (accC s.a A k c)), isV (.slice B m d), isV (.bool true), isV (.bool false), isV (.bool false), isV (.pointer (some ⟨g, 2, none⟩)), isV (.pointer (some ⟨g, 2, none⟩)), isV (.int .i64 s.a.n), isV (.bool true), isV (.bool true), isV (.bool true), isV (undef), isV (undef), isV (undef), isV (undef), isV (undef), isV (undef), isV (undef), isV (.bool true), isV (.bool true), isV (undef), isV (undef), isV (undef), isV (undef), isV (undef), isV (undef), isV (undef), isV (.bool true), isV (.bool true), isV (undef), isV (undef), isV (undef), isV (undef), isV (undef), isV (undef), isV (undef), isV (undef), isV (undef), isV (undef), isV (undef), isV (.bool true)]
theorem rs1F_mono (s z : Se) (A Z B C : Option Addr) (k c m d zk zc e g b fo n r q : Nat) (bs : List Int) : ∀ φ ∈ rs1F s z A Z B C k c m d zk zc e g b fo n r q bs, Mono φ := by
  unfold rs1F
  repeat (first | exact monos_nil | (refine monos_cons (mono_isV _) ?_))
structure rs1S (s z : Se) (A Z B C : Option Addr) (k c m d zk zc e g b fo n r q : Nat) (bs : List Int) (a0 : Act) (w0 : World) : Prop where
  size : a0.tmps.size = 86
  v2 : a0.tmps.getD 2 undef = .slice B m d
  v8 : a0.tmps.getD 8 undef = .pointer (some ⟨g, 0, none⟩)
  box : Has w0 g 60 (sesC s A k c)
  at0 : SesAt w0 g 0 s A k c
  hi : Ints w0 A k s.a.h
  hk : k ≤ maxLen
  hb : Ints w0 B m bs
  hm : m ≤ maxLen
  e1 : accB s.a bs = true
  e2 : (s.a.n == 0) = true
section
variable {s z : Se} {A Z B C : Option Addr} {k c m d zk zc e g b fo n r q : Nat} {bs : List Int} {a0 : Act} {w0 : World} (S : rs1S s z A Z B C k c m d zk zc e g b fo n r q bs a0 w0)
include S
set_option maxRecDepth 100000 in
set_option maxHeartbeats 8000000 in
theorem rs1_ok : AllOps (fun j o => ∀ (a : Act) (w : World), Below w0.heap.size w0 w → FrD rs1D a0 a → needs rs1D (rs1F s z A Z B C k c m d zk zc e g b fo n r q bs) a w o.after.toList → StepD Try.prog rs1D (factAt (rs1F s z A Z B C k c m d zk zc e g b fo n r q bs) j) o a w) 0 (opsOf 5 Try.f31) := by
  simp only [opsOf, Try.f31, opsAt, Option.bind, Option.or, Option.getD, reduceCtorEq, if_true, if_false, Nat.reduceEqDiff]
  refine ⟨?_, ?_⟩
  · intro _a _w _hB hF _hd
    exact rf_faddr (guard_none rfl) rfl _ _ _ rfl _ _ 2 _ ((hF.other 8 rfl).trans S.v8) (by omega) (fun _ _ => by kernel_rfl) rfl
  refine ⟨?_, ?_⟩
  · intro a _w hB _hF hd
    have h19 : a.tmps.getD 19 undef = .pointer (some ⟨g, 2, none⟩) := hd.1 rfl
    exact rf_loadS (guard_none rfl) rfl _ _ rfl _ _ h19 _ (SesAt.acc (s := s) (b := g) (o := 0) (S.at0.below hB)).1 Try.underlying29 rfl Try.sizeAcc rfl
  refine ⟨?_, ?_⟩
  · intro _a _w _hB hF _hd
    exact step_move (guard_none rfl) rfl _ rfl ((hF.other 2 rfl).trans S.v2)
  refine ⟨?_, ?_⟩
  · intro a _w hB _hF hd
    have h20 : a.tmps.getD 20 undef = .agg (accC s.a A k c) := hd.1 rfl
    have h21 : a.tmps.getD 21 undef = .slice B m d := hd.2.1 rfl
    refine step_call (guard_none rfl) rfl _ _ (rf_call_run Try.func19 (by kernel_rfl) (by kernel_rfl) _ _ rfl) ?_
    simp only [List.map_toArray, List.map_cons, List.map_nil, Act.eval, h20, h21]
    exact (raccmay_any s.a A k c B m d bs _ (S.hi.below hB) (S.hb.below hB) S.hk S.hm).mono (by rintro x w1 ⟨rfl, hb⟩; exact ⟨_, rfl, hb, by rw [S.e1]; rfl⟩)
  refine ⟨?_, ?_⟩
  · intro a _w _hB _hF hd
    have h22 : a.tmps.getD 22 undef = .bool true := hd.1 rfl
    exact step_not (guard_none rfl) rfl _ _ rfl h22 rfl
  refine ⟨?_, ?_⟩
  · intro a _w _hB _hF hd
    have h23 : a.tmps.getD 23 undef = .bool false := hd.1 rfl
    exact step_move (guard_none rfl) rfl _ rfl h23
  refine ⟨?_, ?_⟩
  · intro a _w _hB hF hd
    have h24 : a.tmps.getD 24 undef = .bool false := hd.1 rfl
    exact rf_faddr (rf_open false rfl rfl h24) rfl _ _ _ rfl _ _ 2 _ ((hF.other 8 rfl).trans S.v8) (by omega) (fun _ _ => by kernel_rfl) rfl
  refine ⟨?_, ?_⟩
  · intro a _w _hB _hF hd
    have h24 : a.tmps.getD 24 undef = .bool false := hd.2.1 rfl
    have h25 : a.tmps.getD 25 undef = .pointer (some ⟨g, 2, none⟩) := hd.1 rfl
    exact rf_faddr (rf_open false rfl rfl h24) rfl _ _ _ rfl _ _ 0 _ h25 (by omega) (fun _ _ => by kernel_rfl) rfl
  refine ⟨?_, ?_⟩
  · intro a _w hB _hF hd
    have h24 : a.tmps.getD 24 undef = .bool false := hd.2.1 rfl
    have h26 : a.tmps.getD 26 undef = .pointer (some ⟨g, 2, none⟩) := hd.1 rfl
    exact rf_loadi (rf_open false rfl rfl h24) rfl _ rfl _ _ h26 _ ((Has.cell (has_below S.box hB) 2).trans (sesC_2 _ _ _ _)) rfl
  refine ⟨?_, ?_⟩
  · intro a _w _hB _hF hd
    have h24 : a.tmps.getD 24 undef = .bool false := hd.2.1 rfl
    have h27 : a.tmps.getD 27 undef = .int .i64 s.a.n := hd.1 rfl
    exact rf_eql (rf_open false rfl rfl h24) rfl _ _ rfl _ _ h27 rfl true S.e2 rfl
  refine ⟨?_, ?_⟩
  · intro a _w _hB _hF hd
    have h24 : a.tmps.getD 24 undef = .bool false := hd.1 rfl
    have h28 : a.tmps.getD 28 undef = .bool true := hd.2.1 rfl
    exact rf_pick (guard_none rfl) rfl _ _ _ rfl false h24 h28
  refine ⟨?_, ?_⟩
  · intro a _w _hB _hF hd
    have h29 : a.tmps.getD 29 undef = .bool true := hd.1 rfl
    exact step_move (guard_none rfl) rfl _ rfl h29
  refine ⟨?_, ?_⟩
  · intro a _w _hB _hF hd
    have h30 : a.tmps.getD 30 undef = .bool true := hd.1 rfl
    exact rf_shut false rfl rfl h30 rfl
  refine ⟨?_, ?_⟩
  · intro a _w _hB _hF hd
    have h30 : a.tmps.getD 30 undef = .bool true := hd.2.1 rfl
    exact rf_shut false rfl rfl h30 rfl
  refine ⟨?_, ?_⟩
  · intro a _w _hB _hF hd
    have h30 : a.tmps.getD 30 undef = .bool true := hd.1 rfl
    exact rf_shut false rfl rfl h30 rfl
  refine ⟨?_, ?_⟩
  · intro a _w _hB _hF hd
    have h30 : a.tmps.getD 30 undef = .bool true := hd.2.1 rfl
    exact rf_shut false rfl rfl h30 rfl
  refine ⟨?_, ?_⟩
  · intro a _w _hB _hF hd
    have h30 : a.tmps.getD 30 undef = .bool true := hd.2.1 rfl
    exact rf_shut false rfl rfl h30 rfl
  refine ⟨?_, ?_⟩
  · intro a _w _hB _hF hd
    have h30 : a.tmps.getD 30 undef = .bool true := hd.2.1 rfl
    exact rf_shut false rfl rfl h30 rfl
  refine ⟨?_, ?_⟩
  · intro a _w _hB _hF hd
    have h30 : a.tmps.getD 30 undef = .bool true := hd.2.2.1 rfl
    exact rf_shut false rfl rfl h30 rfl
  refine ⟨?_, ?_⟩
  · intro a _w _hB _hF hd
    have h30 : a.tmps.getD 30 undef = .bool true := hd.1 rfl
    exact rf_pick (guard_none rfl) rfl _ _ _ rfl true h30 rfl
  refine ⟨?_, ?_⟩
  · intro a _w _hB _hF hd
    have h38 : a.tmps.getD 38 undef = .bool true := hd.1 rfl
    exact step_move (guard_none rfl) rfl _ rfl h38
  refine ⟨?_, ?_⟩
  · intro a _w _hB _hF hd
    have h39 : a.tmps.getD 39 undef = .bool true := hd.1 rfl
    exact rf_shut false rfl rfl h39 rfl
  refine ⟨?_, ?_⟩
  · intro a _w _hB _hF hd
    have h39 : a.tmps.getD 39 undef = .bool true := hd.2.1 rfl
    exact rf_shut false rfl rfl h39 rfl
  refine ⟨?_, ?_⟩
  · intro a _w _hB _hF hd
    have h39 : a.tmps.getD 39 undef = .bool true := hd.1 rfl
    exact rf_shut false rfl rfl h39 rfl
  refine ⟨?_, ?_⟩
  · intro a _w _hB _hF hd
    have h39 : a.tmps.getD 39 undef = .bool true := hd.2.1 rfl
    exact rf_shut false rfl rfl h39 rfl
  refine ⟨?_, ?_⟩
  · intro a _w _hB _hF hd
    have h39 : a.tmps.getD 39 undef = .bool true := hd.2.1 rfl
    exact rf_shut false rfl rfl h39 rfl
  refine ⟨?_, ?_⟩
  · intro a _w _hB _hF hd
    have h39 : a.tmps.getD 39 undef = .bool true := hd.2.1 rfl
    exact rf_shut false rfl rfl h39 rfl
  refine ⟨?_, ?_⟩
  · intro a _w _hB _hF hd
    have h39 : a.tmps.getD 39 undef = .bool true := hd.2.2.1 rfl
    exact rf_shut false rfl rfl h39 rfl
  refine ⟨?_, ?_⟩
  · intro a _w _hB _hF hd
    have h39 : a.tmps.getD 39 undef = .bool true := hd.1 rfl
    exact rf_pick (guard_none rfl) rfl _ _ _ rfl true h39 rfl
  refine ⟨?_, ?_⟩
  · intro a _w _hB _hF hd
    have h47 : a.tmps.getD 47 undef = .bool true := hd.1 rfl
    exact step_move (guard_none rfl) rfl _ rfl h47
  refine ⟨?_, ?_⟩
  · intro a _w _hB _hF hd
    have h48 : a.tmps.getD 48 undef = .bool true := hd.1 rfl
    exact rf_shut false rfl rfl h48 rfl
  refine ⟨?_, ?_⟩
  · intro a _w _hB _hF hd
    have h48 : a.tmps.getD 48 undef = .bool true := hd.2.1 rfl
    exact rf_shut false rfl rfl h48 rfl
  refine ⟨?_, ?_⟩
  · intro a _w _hB _hF hd
    have h48 : a.tmps.getD 48 undef = .bool true := hd.2.1 rfl
    exact rf_shut false rfl rfl h48 rfl
  refine ⟨?_, ?_⟩
  · intro a _w _hB _hF hd
    have h48 : a.tmps.getD 48 undef = .bool true := hd.2.1 rfl
    exact rf_shut false rfl rfl h48 rfl
  refine ⟨?_, ?_⟩
  · intro a _w _hB _hF hd
    have h48 : a.tmps.getD 48 undef = .bool true := hd.1 rfl
    exact rf_shut false rfl rfl h48 rfl
  refine ⟨?_, ?_⟩
  · intro a _w _hB _hF hd
    have h48 : a.tmps.getD 48 undef = .bool true := hd.2.1 rfl
    exact rf_shut false rfl rfl h48 rfl
  refine ⟨?_, ?_⟩
  · intro a _w _hB _hF hd
    have h48 : a.tmps.getD 48 undef = .bool true := hd.2.1 rfl
    exact rf_shut false rfl rfl h48 rfl
  refine ⟨?_, ?_⟩
  · intro a _w _hB _hF hd
    have h48 : a.tmps.getD 48 undef = .bool true := hd.2.1 rfl
    exact rf_shut false rfl rfl h48 rfl
  refine ⟨?_, ?_⟩
  · intro a _w _hB _hF hd
    have h48 : a.tmps.getD 48 undef = .bool true := hd.2.1 rfl
    exact rf_shut false rfl rfl h48 rfl
  refine ⟨?_, ?_⟩
  · intro a _w _hB _hF hd
    have h48 : a.tmps.getD 48 undef = .bool true := hd.2.1 rfl
    exact rf_shut false rfl rfl h48 rfl
  refine ⟨?_, ?_⟩
  · intro a _w _hB _hF hd
    have h48 : a.tmps.getD 48 undef = .bool true := hd.2.2.1 rfl
    exact rf_shut false rfl rfl h48 rfl
  refine ⟨?_, ?_⟩
  · intro a _w _hB _hF hd
    have h48 : a.tmps.getD 48 undef = .bool true := hd.1 rfl
    exact rf_pick (guard_none rfl) rfl _ _ _ rfl true h48 rfl
  trivial
theorem rs1_any {Q : Exit → Act → World → Prop} {l : List Oper} (hl : opsOf 5 Try.f31 = l) (hend : ∀ w : World, Below w0.heap.size w0 w → Q .normal (putAll a0 [(19, .pointer (some ⟨g, 2, none⟩)), (20, .agg (accC s.a A k c)), (21, .slice B m d), (22, .bool true), (23, .bool false), (24, .bool false), (25, .pointer (some ⟨g, 2, none⟩)), (26, .pointer (some ⟨g, 2, none⟩)), (27, .int .i64 s.a.n), (28, .bool true), (29, .bool true), (30, .bool true), (31, undef), (32, undef), (33, undef), (34, undef), (35, undef), (36, undef), (37, undef), (38, .bool true), (39, .bool true), (40, undef), (41, undef), (42, undef), (43, undef), (44, undef), (45, undef), (46, undef), (47, .bool true), (48, .bool true), (49, undef), (50, undef), (51, undef), (52, undef), (53, undef), (54, undef), (55, undef), (56, undef), (57, undef), (58, undef), (59, undef), (60, .bool true)]) w) :
    (Code.region 5 l.toArray true).wp Try.prog Q a0 w0 := by
  subst hl
  refine region_facts2 (rs1F s z A Z B C k c m d zk zc e g b fo n r q bs) rs1D 86 S.size rfl (by kernel_rfl) (by kernel_rfl) (rs1F_mono _ _ _ _ _ _ _ _ _ _ _ _ _ _ _ _ _ _ _ _) (rs1_ok S) fun a w hB hF h => ?_
  have hv : valsAre a [(19, .pointer (some ⟨g, 2, none⟩)), (20, .agg (accC s.a A k c)), (21, .slice B m d), (22, .bool true), (23, .bool false), (24, .bool false), (25, .pointer (some ⟨g, 2, none⟩)), (26, .pointer (some ⟨g, 2, none⟩)), (27, .int .i64 s.a.n), (28, .bool true), (29, .bool true), (30, .bool true), (31, undef), (32, undef), (33, undef), (34, undef), (35, undef), (36, undef), (37, undef), (38, .bool true), (39, .bool true), (40, undef), (41, undef), (42, undef), (43, undef), (44, undef), (45, undef), (46, undef), (47, .bool true), (48, .bool true), (49, undef), (50, undef), (51, undef), (52, undef), (53, undef), (54, undef), (55, undef), (56, undef), (57, undef), (58, undef), (59, undef), (60, .bool true)] := by
    refine ⟨?_, ?_, ?_, ?_, ?_, ?_, ?_, ?_, ?_, ?_, ?_, ?_, ?_, ?_, ?_, ?_, ?_, ?_, ?_, ?_, ?_, ?_, ?_, ?_, ?_, ?_, ?_, ?_, ?_, ?_, ?_, ?_, ?_, ?_, ?_, ?_, ?_, ?_, ?_, ?_, ?_, ?_, trivial⟩
    · exact h 0 (some 19) rfl
    · exact h 1 (some 20) rfl
    · exact h 2 (some 21) rfl
    · exact h 3 (some 22) rfl
    · exact h 4 (some 23) rfl
    · exact h 5 (some 24) rfl
    · exact h 6 (some 25) rfl
    · exact h 7 (some 26) rfl
    · exact h 8 (some 27) rfl
    · exact h 9 (some 28) rfl
    · exact h 10 (some 29) rfl
    · exact h 11 (some 30) rfl
    · exact h 12 (some 31) rfl
    · exact h 13 (some 32) rfl
    · exact h 14 (some 33) rfl
    · exact h 15 (some 34) rfl
    · exact h 16 (some 35) rfl
    · exact h 17 (some 36) rfl
    · exact h 18 (some 37) rfl
    · exact h 19 (some 38) rfl
    · exact h 20 (some 39) rfl
    · exact h 21 (some 40) rfl
    · exact h 22 (some 41) rfl
    · exact h 23 (some 42) rfl
    · exact h 24 (some 43) rfl
    · exact h 25 (some 44) rfl
    · exact h 26 (some 45) rfl
    · exact h 27 (some 46) rfl
    · exact h 28 (some 47) rfl
    · exact h 29 (some 48) rfl
    · exact h 30 (some 49) rfl
    · exact h 31 (some 50) rfl
    · exact h 32 (some 51) rfl
    · exact h 33 (some 52) rfl
    · exact h 34 (some 53) rfl
    · exact h 35 (some 54) rfl
    · exact h 36 (some 55) rfl
    · exact h 37 (some 56) rfl
    · exact h 38 (some 57) rfl
    · exact h 39 (some 58) rfl
    · exact h 40 (some 59) rfl
    · exact h 41 (some 60) rfl
  rw [frame_is hF _ hv (by rfl) (by rfl)]
  exact hend w hB
end

def rs2D : List (Option Tmp) := [some 19, some 20, some 21, some 22, some 23, some 24, some 25, some 26, some 27, some 28, some 29, some 30, some 31, some 32, some 33, some 34, some 35, some 36, some 37, some 38, some 39, some 40, some 41, some 42, some 43, some 44, some 45, some 46, some 47, some 48, some 49, some 50, some 51, some 52, some 53, some 54, some 55, some 56, some 57, some 58, some 59, some 60]
def rs2F (s _z : Se) (A _Z B _C : Option Addr) (k c m d _zk _zc _e g _b _fo _n _r _q : Nat) (_bs : List Int) : List Fact := [isV (.pointer (some ⟨g, 2, none⟩)), isV (.agg (accC s.a A k c)), isV (.slice B m d), isV (.bool true), isV (.bool false), isV (.bool false), isV (.pointer (some ⟨g, 2, none⟩)), isV (.pointer (some ⟨g, 2, none⟩)), isV (.int .i64 s.a.n), isV (.bool false), isV (.bool false), isV (.bool false), isV (.pointer (some ⟨g, 0, none⟩)), isV (.int .i64 s.f), isV (.pointer (some ⟨g, 2, none⟩)), isV (.pointer (some ⟨g, 6, none⟩)), isV (.pointer (some ⟨g, 7, none⟩)), isV (.int .i64 s.a.f.t), isV (.bool true), isV (.bool true), isV (.bool true), isV (undef), isV (undef), isV (undef), isV (undef), isV (undef), isV (undef), isV (undef), isV (.bool true), isV (.bool true), isV (undef), isV (undef), isV (undef), isV (undef), isV (undef), isV (undef), isV (undef), isV (undef), isV (undef), isV (undef), isV (undef), isV (.bool true)]
theorem rs2F_mono (s z : Se) (A Z B C : Option Addr) (k c m d zk zc e g b fo n r q : Nat) (bs : List Int) : ∀ φ ∈ rs2F s z A Z B C k c m d zk zc e g b fo n r q bs, Mono φ := by
  unfold rs2F
  repeat (first | exact monos_nil | (refine monos_cons (mono_isV _) ?_))
structure rs2S (s z : Se) (A Z B C : Option Addr) (k c m d zk zc e g b fo n r q : Nat) (bs : List Int) (a0 : Act) (w0 : World) : Prop where
  size : a0.tmps.size = 86
  v2 : a0.tmps.getD 2 undef = .slice B m d
  v8 : a0.tmps.getD 8 undef = .pointer (some ⟨g, 0, none⟩)
  box : Has w0 g 60 (sesC s A k c)
  at0 : SesAt w0 g 0 s A k c
  hi : Ints w0 A k s.a.h
  hk : k ≤ maxLen
  hb : Ints w0 B m bs
  hm : m ≤ maxLen
  e1 : accB s.a bs = true
  e2 : (s.a.n == 0) = false
  e3 : (s.f != s.a.f.t) = true
section
variable {s z : Se} {A Z B C : Option Addr} {k c m d zk zc e g b fo n r q : Nat} {bs : List Int} {a0 : Act} {w0 : World} (S : rs2S s z A Z B C k c m d zk zc e g b fo n r q bs a0 w0)
include S
set_option maxRecDepth 100000 in
set_option maxHeartbeats 8000000 in
theorem rs2_ok : AllOps (fun j o => ∀ (a : Act) (w : World), Below w0.heap.size w0 w → FrD rs2D a0 a → needs rs2D (rs2F s z A Z B C k c m d zk zc e g b fo n r q bs) a w o.after.toList → StepD Try.prog rs2D (factAt (rs2F s z A Z B C k c m d zk zc e g b fo n r q bs) j) o a w) 0 (opsOf 5 Try.f31) := by
  simp only [opsOf, Try.f31, opsAt, Option.bind, Option.or, Option.getD, reduceCtorEq, if_true, if_false, Nat.reduceEqDiff]
  refine ⟨?_, ?_⟩
  · intro _a _w _hB hF _hd
    exact rf_faddr (guard_none rfl) rfl _ _ _ rfl _ _ 2 _ ((hF.other 8 rfl).trans S.v8) (by omega) (fun _ _ => by kernel_rfl) rfl
  refine ⟨?_, ?_⟩
  · intro a _w hB _hF hd
    have h19 : a.tmps.getD 19 undef = .pointer (some ⟨g, 2, none⟩) := hd.1 rfl
    exact rf_loadS (guard_none rfl) rfl _ _ rfl _ _ h19 _ (SesAt.acc (s := s) (b := g) (o := 0) (S.at0.below hB)).1 Try.underlying29 rfl Try.sizeAcc rfl
  refine ⟨?_, ?_⟩
  · intro _a _w _hB hF _hd
    exact step_move (guard_none rfl) rfl _ rfl ((hF.other 2 rfl).trans S.v2)
  refine ⟨?_, ?_⟩
  · intro a _w hB _hF hd
    have h20 : a.tmps.getD 20 undef = .agg (accC s.a A k c) := hd.1 rfl
    have h21 : a.tmps.getD 21 undef = .slice B m d := hd.2.1 rfl
    refine step_call (guard_none rfl) rfl _ _ (rf_call_run Try.func19 (by kernel_rfl) (by kernel_rfl) _ _ rfl) ?_
    simp only [List.map_toArray, List.map_cons, List.map_nil, Act.eval, h20, h21]
    exact (raccmay_any s.a A k c B m d bs _ (S.hi.below hB) (S.hb.below hB) S.hk S.hm).mono (by rintro x w1 ⟨rfl, hb⟩; exact ⟨_, rfl, hb, by rw [S.e1]; rfl⟩)
  refine ⟨?_, ?_⟩
  · intro a _w _hB _hF hd
    have h22 : a.tmps.getD 22 undef = .bool true := hd.1 rfl
    exact step_not (guard_none rfl) rfl _ _ rfl h22 rfl
  refine ⟨?_, ?_⟩
  · intro a _w _hB _hF hd
    have h23 : a.tmps.getD 23 undef = .bool false := hd.1 rfl
    exact step_move (guard_none rfl) rfl _ rfl h23
  refine ⟨?_, ?_⟩
  · intro a _w _hB hF hd
    have h24 : a.tmps.getD 24 undef = .bool false := hd.1 rfl
    exact rf_faddr (rf_open false rfl rfl h24) rfl _ _ _ rfl _ _ 2 _ ((hF.other 8 rfl).trans S.v8) (by omega) (fun _ _ => by kernel_rfl) rfl
  refine ⟨?_, ?_⟩
  · intro a _w _hB _hF hd
    have h24 : a.tmps.getD 24 undef = .bool false := hd.2.1 rfl
    have h25 : a.tmps.getD 25 undef = .pointer (some ⟨g, 2, none⟩) := hd.1 rfl
    exact rf_faddr (rf_open false rfl rfl h24) rfl _ _ _ rfl _ _ 0 _ h25 (by omega) (fun _ _ => by kernel_rfl) rfl
  refine ⟨?_, ?_⟩
  · intro a _w hB _hF hd
    have h24 : a.tmps.getD 24 undef = .bool false := hd.2.1 rfl
    have h26 : a.tmps.getD 26 undef = .pointer (some ⟨g, 2, none⟩) := hd.1 rfl
    exact rf_loadi (rf_open false rfl rfl h24) rfl _ rfl _ _ h26 _ ((Has.cell (has_below S.box hB) 2).trans (sesC_2 _ _ _ _)) rfl
  refine ⟨?_, ?_⟩
  · intro a _w _hB _hF hd
    have h24 : a.tmps.getD 24 undef = .bool false := hd.2.1 rfl
    have h27 : a.tmps.getD 27 undef = .int .i64 s.a.n := hd.1 rfl
    exact rf_eql (rf_open false rfl rfl h24) rfl _ _ rfl _ _ h27 rfl false S.e2 rfl
  refine ⟨?_, ?_⟩
  · intro a _w _hB _hF hd
    have h24 : a.tmps.getD 24 undef = .bool false := hd.1 rfl
    have h28 : a.tmps.getD 28 undef = .bool false := hd.2.1 rfl
    exact rf_pick (guard_none rfl) rfl _ _ _ rfl false h24 h28
  refine ⟨?_, ?_⟩
  · intro a _w _hB _hF hd
    have h29 : a.tmps.getD 29 undef = .bool false := hd.1 rfl
    exact step_move (guard_none rfl) rfl _ rfl h29
  refine ⟨?_, ?_⟩
  · intro a _w _hB hF hd
    have h30 : a.tmps.getD 30 undef = .bool false := hd.1 rfl
    exact rf_faddr (rf_open false rfl rfl h30) rfl _ _ _ rfl _ _ 0 _ ((hF.other 8 rfl).trans S.v8) (by omega) (fun _ _ => by kernel_rfl) rfl
  refine ⟨?_, ?_⟩
  · intro a _w hB _hF hd
    have h30 : a.tmps.getD 30 undef = .bool false := hd.2.1 rfl
    have h31 : a.tmps.getD 31 undef = .pointer (some ⟨g, 0, none⟩) := hd.1 rfl
    exact rf_loadi (rf_open false rfl rfl h30) rfl _ rfl _ _ h31 _ ((Has.cell (has_below S.box hB) 0).trans (sesC_0 _ _ _ _)) rfl
  refine ⟨?_, ?_⟩
  · intro a _w _hB hF hd
    have h30 : a.tmps.getD 30 undef = .bool false := hd.1 rfl
    exact rf_faddr (rf_open false rfl rfl h30) rfl _ _ _ rfl _ _ 2 _ ((hF.other 8 rfl).trans S.v8) (by omega) (fun _ _ => by kernel_rfl) rfl
  refine ⟨?_, ?_⟩
  · intro a _w _hB _hF hd
    have h30 : a.tmps.getD 30 undef = .bool false := hd.2.1 rfl
    have h33 : a.tmps.getD 33 undef = .pointer (some ⟨g, 2, none⟩) := hd.1 rfl
    exact rf_faddr (rf_open false rfl rfl h30) rfl _ _ _ rfl _ _ 4 _ h33 (by omega) (fun _ _ => by kernel_rfl) rfl
  refine ⟨?_, ?_⟩
  · intro a _w _hB _hF hd
    have h30 : a.tmps.getD 30 undef = .bool false := hd.2.1 rfl
    have h34 : a.tmps.getD 34 undef = .pointer (some ⟨g, 6, none⟩) := hd.1 rfl
    exact rf_faddr (rf_open false rfl rfl h30) rfl _ _ _ rfl _ _ 1 _ h34 (by omega) (fun _ _ => by kernel_rfl) rfl
  refine ⟨?_, ?_⟩
  · intro a _w hB _hF hd
    have h30 : a.tmps.getD 30 undef = .bool false := hd.2.1 rfl
    have h35 : a.tmps.getD 35 undef = .pointer (some ⟨g, 7, none⟩) := hd.1 rfl
    exact rf_loadi (rf_open false rfl rfl h30) rfl _ rfl _ _ h35 _ ((Has.cell (has_below S.box hB) 7).trans (sesC_7 _ _ _ _)) rfl
  refine ⟨?_, ?_⟩
  · intro a _w _hB _hF hd
    have h30 : a.tmps.getD 30 undef = .bool false := hd.2.2.1 rfl
    have h32 : a.tmps.getD 32 undef = .int .i64 s.f := hd.1 rfl
    have h36 : a.tmps.getD 36 undef = .int .i64 s.a.f.t := hd.2.1 rfl
    exact rf_neq (rf_open false rfl rfl h30) rfl _ _ rfl _ _ h32 h36 true S.e3 rfl
  refine ⟨?_, ?_⟩
  · intro a _w _hB _hF hd
    have h30 : a.tmps.getD 30 undef = .bool false := hd.1 rfl
    have h37 : a.tmps.getD 37 undef = .bool true := hd.2.1 rfl
    exact rf_pick (guard_none rfl) rfl _ _ _ rfl false h30 h37
  refine ⟨?_, ?_⟩
  · intro a _w _hB _hF hd
    have h38 : a.tmps.getD 38 undef = .bool true := hd.1 rfl
    exact step_move (guard_none rfl) rfl _ rfl h38
  refine ⟨?_, ?_⟩
  · intro a _w _hB _hF hd
    have h39 : a.tmps.getD 39 undef = .bool true := hd.1 rfl
    exact rf_shut false rfl rfl h39 rfl
  refine ⟨?_, ?_⟩
  · intro a _w _hB _hF hd
    have h39 : a.tmps.getD 39 undef = .bool true := hd.2.1 rfl
    exact rf_shut false rfl rfl h39 rfl
  refine ⟨?_, ?_⟩
  · intro a _w _hB _hF hd
    have h39 : a.tmps.getD 39 undef = .bool true := hd.1 rfl
    exact rf_shut false rfl rfl h39 rfl
  refine ⟨?_, ?_⟩
  · intro a _w _hB _hF hd
    have h39 : a.tmps.getD 39 undef = .bool true := hd.2.1 rfl
    exact rf_shut false rfl rfl h39 rfl
  refine ⟨?_, ?_⟩
  · intro a _w _hB _hF hd
    have h39 : a.tmps.getD 39 undef = .bool true := hd.2.1 rfl
    exact rf_shut false rfl rfl h39 rfl
  refine ⟨?_, ?_⟩
  · intro a _w _hB _hF hd
    have h39 : a.tmps.getD 39 undef = .bool true := hd.2.1 rfl
    exact rf_shut false rfl rfl h39 rfl
  refine ⟨?_, ?_⟩
  · intro a _w _hB _hF hd
    have h39 : a.tmps.getD 39 undef = .bool true := hd.2.2.1 rfl
    exact rf_shut false rfl rfl h39 rfl
  refine ⟨?_, ?_⟩
  · intro a _w _hB _hF hd
    have h39 : a.tmps.getD 39 undef = .bool true := hd.1 rfl
    exact rf_pick (guard_none rfl) rfl _ _ _ rfl true h39 rfl
  refine ⟨?_, ?_⟩
  · intro a _w _hB _hF hd
    have h47 : a.tmps.getD 47 undef = .bool true := hd.1 rfl
    exact step_move (guard_none rfl) rfl _ rfl h47
  refine ⟨?_, ?_⟩
  · intro a _w _hB _hF hd
    have h48 : a.tmps.getD 48 undef = .bool true := hd.1 rfl
    exact rf_shut false rfl rfl h48 rfl
  refine ⟨?_, ?_⟩
  · intro a _w _hB _hF hd
    have h48 : a.tmps.getD 48 undef = .bool true := hd.2.1 rfl
    exact rf_shut false rfl rfl h48 rfl
  refine ⟨?_, ?_⟩
  · intro a _w _hB _hF hd
    have h48 : a.tmps.getD 48 undef = .bool true := hd.2.1 rfl
    exact rf_shut false rfl rfl h48 rfl
  refine ⟨?_, ?_⟩
  · intro a _w _hB _hF hd
    have h48 : a.tmps.getD 48 undef = .bool true := hd.2.1 rfl
    exact rf_shut false rfl rfl h48 rfl
  refine ⟨?_, ?_⟩
  · intro a _w _hB _hF hd
    have h48 : a.tmps.getD 48 undef = .bool true := hd.1 rfl
    exact rf_shut false rfl rfl h48 rfl
  refine ⟨?_, ?_⟩
  · intro a _w _hB _hF hd
    have h48 : a.tmps.getD 48 undef = .bool true := hd.2.1 rfl
    exact rf_shut false rfl rfl h48 rfl
  refine ⟨?_, ?_⟩
  · intro a _w _hB _hF hd
    have h48 : a.tmps.getD 48 undef = .bool true := hd.2.1 rfl
    exact rf_shut false rfl rfl h48 rfl
  refine ⟨?_, ?_⟩
  · intro a _w _hB _hF hd
    have h48 : a.tmps.getD 48 undef = .bool true := hd.2.1 rfl
    exact rf_shut false rfl rfl h48 rfl
  refine ⟨?_, ?_⟩
  · intro a _w _hB _hF hd
    have h48 : a.tmps.getD 48 undef = .bool true := hd.2.1 rfl
    exact rf_shut false rfl rfl h48 rfl
  refine ⟨?_, ?_⟩
  · intro a _w _hB _hF hd
    have h48 : a.tmps.getD 48 undef = .bool true := hd.2.1 rfl
    exact rf_shut false rfl rfl h48 rfl
  refine ⟨?_, ?_⟩
  · intro a _w _hB _hF hd
    have h48 : a.tmps.getD 48 undef = .bool true := hd.2.2.1 rfl
    exact rf_shut false rfl rfl h48 rfl
  refine ⟨?_, ?_⟩
  · intro a _w _hB _hF hd
    have h48 : a.tmps.getD 48 undef = .bool true := hd.1 rfl
    exact rf_pick (guard_none rfl) rfl _ _ _ rfl true h48 rfl
  trivial
theorem rs2_any {Q : Exit → Act → World → Prop} {l : List Oper} (hl : opsOf 5 Try.f31 = l) (hend : ∀ w : World, Below w0.heap.size w0 w → Q .normal (putAll a0 [(19, .pointer (some ⟨g, 2, none⟩)), (20, .agg (accC s.a A k c)), (21, .slice B m d), (22, .bool true), (23, .bool false), (24, .bool false), (25, .pointer (some ⟨g, 2, none⟩)), (26, .pointer (some ⟨g, 2, none⟩)), (27, .int .i64 s.a.n), (28, .bool false), (29, .bool false), (30, .bool false), (31, .pointer (some ⟨g, 0, none⟩)), (32, .int .i64 s.f), (33, .pointer (some ⟨g, 2, none⟩)), (34, .pointer (some ⟨g, 6, none⟩)), (35, .pointer (some ⟨g, 7, none⟩)), (36, .int .i64 s.a.f.t), (37, .bool true), (38, .bool true), (39, .bool true), (40, undef), (41, undef), (42, undef), (43, undef), (44, undef), (45, undef), (46, undef), (47, .bool true), (48, .bool true), (49, undef), (50, undef), (51, undef), (52, undef), (53, undef), (54, undef), (55, undef), (56, undef), (57, undef), (58, undef), (59, undef), (60, .bool true)]) w) :
    (Code.region 5 l.toArray true).wp Try.prog Q a0 w0 := by
  subst hl
  refine region_facts2 (rs2F s z A Z B C k c m d zk zc e g b fo n r q bs) rs2D 86 S.size rfl (by kernel_rfl) (by kernel_rfl) (rs2F_mono _ _ _ _ _ _ _ _ _ _ _ _ _ _ _ _ _ _ _ _) (rs2_ok S) fun a w hB hF h => ?_
  have hv : valsAre a [(19, .pointer (some ⟨g, 2, none⟩)), (20, .agg (accC s.a A k c)), (21, .slice B m d), (22, .bool true), (23, .bool false), (24, .bool false), (25, .pointer (some ⟨g, 2, none⟩)), (26, .pointer (some ⟨g, 2, none⟩)), (27, .int .i64 s.a.n), (28, .bool false), (29, .bool false), (30, .bool false), (31, .pointer (some ⟨g, 0, none⟩)), (32, .int .i64 s.f), (33, .pointer (some ⟨g, 2, none⟩)), (34, .pointer (some ⟨g, 6, none⟩)), (35, .pointer (some ⟨g, 7, none⟩)), (36, .int .i64 s.a.f.t), (37, .bool true), (38, .bool true), (39, .bool true), (40, undef), (41, undef), (42, undef), (43, undef), (44, undef), (45, undef), (46, undef), (47, .bool true), (48, .bool true), (49, undef), (50, undef), (51, undef), (52, undef), (53, undef), (54, undef), (55, undef), (56, undef), (57, undef), (58, undef), (59, undef), (60, .bool true)] := by
    refine ⟨?_, ?_, ?_, ?_, ?_, ?_, ?_, ?_, ?_, ?_, ?_, ?_, ?_, ?_, ?_, ?_, ?_, ?_, ?_, ?_, ?_, ?_, ?_, ?_, ?_, ?_, ?_, ?_, ?_, ?_, ?_, ?_, ?_, ?_, ?_, ?_, ?_, ?_, ?_, ?_, ?_, ?_, trivial⟩
    · exact h 0 (some 19) rfl
    · exact h 1 (some 20) rfl
    · exact h 2 (some 21) rfl
    · exact h 3 (some 22) rfl
    · exact h 4 (some 23) rfl
    · exact h 5 (some 24) rfl
    · exact h 6 (some 25) rfl
    · exact h 7 (some 26) rfl
    · exact h 8 (some 27) rfl
    · exact h 9 (some 28) rfl
    · exact h 10 (some 29) rfl
    · exact h 11 (some 30) rfl
    · exact h 12 (some 31) rfl
    · exact h 13 (some 32) rfl
    · exact h 14 (some 33) rfl
    · exact h 15 (some 34) rfl
    · exact h 16 (some 35) rfl
    · exact h 17 (some 36) rfl
    · exact h 18 (some 37) rfl
    · exact h 19 (some 38) rfl
    · exact h 20 (some 39) rfl
    · exact h 21 (some 40) rfl
    · exact h 22 (some 41) rfl
    · exact h 23 (some 42) rfl
    · exact h 24 (some 43) rfl
    · exact h 25 (some 44) rfl
    · exact h 26 (some 45) rfl
    · exact h 27 (some 46) rfl
    · exact h 28 (some 47) rfl
    · exact h 29 (some 48) rfl
    · exact h 30 (some 49) rfl
    · exact h 31 (some 50) rfl
    · exact h 32 (some 51) rfl
    · exact h 33 (some 52) rfl
    · exact h 34 (some 53) rfl
    · exact h 35 (some 54) rfl
    · exact h 36 (some 55) rfl
    · exact h 37 (some 56) rfl
    · exact h 38 (some 57) rfl
    · exact h 39 (some 58) rfl
    · exact h 40 (some 59) rfl
    · exact h 41 (some 60) rfl
  rw [frame_is hF _ hv (by rfl) (by rfl)]
  exact hend w hB
end

def rs3D : List (Option Tmp) := [some 19, some 20, some 21, some 22, some 23, some 24, some 25, some 26, some 27, some 28, some 29, some 30, some 31, some 32, some 33, some 34, some 35, some 36, some 37, some 38, some 39, some 40, some 41, some 42, some 43, some 44, some 45, some 46, some 47, some 48, some 49, some 50, some 51, some 52, some 53, some 54, some 55, some 56, some 57, some 58, some 59, some 60]
def rs3F (s _z : Se) (A _Z B _C : Option Addr) (k c m d _zk _zc _e g _b _fo _n _r _q : Nat) (_bs : List Int) : List Fact := [isV (.pointer (some ⟨g, 2, none⟩)), isV (.agg (accC s.a A k c)), isV (.slice B m d), isV (.bool true), isV (.bool false), isV (.bool false), isV (.pointer (some ⟨g, 2, none⟩)), isV (.pointer (some ⟨g, 2, none⟩)), isV (.int .i64 s.a.n), isV (.bool false), isV (.bool false), isV (.bool false), isV (.pointer (some ⟨g, 0, none⟩)), isV (.int .i64 s.f), isV (.pointer (some ⟨g, 2, none⟩)), isV (.pointer (some ⟨g, 6, none⟩)), isV (.pointer (some ⟨g, 7, none⟩)), isV (.int .i64 s.a.f.t), isV (.bool false), isV (.bool false), isV (.bool false), isV (.pointer (some ⟨g, 1, none⟩)), isV (.int .i64 s.l), isV (.pointer (some ⟨g, 2, none⟩)), isV (.pointer (some ⟨g, 10, none⟩)), isV (.pointer (some ⟨g, 11, none⟩)), isV (.int .i64 s.a.l.t), isV (.bool true), isV (.bool true), isV (.bool true), isV (undef), isV (undef), isV (undef), isV (undef), isV (undef), isV (undef), isV (undef), isV (undef), isV (undef), isV (undef), isV (undef), isV (.bool true)]
theorem rs3F_mono (s z : Se) (A Z B C : Option Addr) (k c m d zk zc e g b fo n r q : Nat) (bs : List Int) : ∀ φ ∈ rs3F s z A Z B C k c m d zk zc e g b fo n r q bs, Mono φ := by
  unfold rs3F
  repeat (first | exact monos_nil | (refine monos_cons (mono_isV _) ?_))
structure rs3S (s z : Se) (A Z B C : Option Addr) (k c m d zk zc e g b fo n r q : Nat) (bs : List Int) (a0 : Act) (w0 : World) : Prop where
  size : a0.tmps.size = 86
  v2 : a0.tmps.getD 2 undef = .slice B m d
  v8 : a0.tmps.getD 8 undef = .pointer (some ⟨g, 0, none⟩)
  box : Has w0 g 60 (sesC s A k c)
  at0 : SesAt w0 g 0 s A k c
  hi : Ints w0 A k s.a.h
  hk : k ≤ maxLen
  hb : Ints w0 B m bs
  hm : m ≤ maxLen
  e1 : accB s.a bs = true
  e2 : (s.a.n == 0) = false
  e3 : (s.f != s.a.f.t) = false
  e4 : (s.l != s.a.l.t) = true
section
variable {s z : Se} {A Z B C : Option Addr} {k c m d zk zc e g b fo n r q : Nat} {bs : List Int} {a0 : Act} {w0 : World} (S : rs3S s z A Z B C k c m d zk zc e g b fo n r q bs a0 w0)
include S
set_option maxRecDepth 100000 in
set_option maxHeartbeats 8000000 in
theorem rs3_ok : AllOps (fun j o => ∀ (a : Act) (w : World), Below w0.heap.size w0 w → FrD rs3D a0 a → needs rs3D (rs3F s z A Z B C k c m d zk zc e g b fo n r q bs) a w o.after.toList → StepD Try.prog rs3D (factAt (rs3F s z A Z B C k c m d zk zc e g b fo n r q bs) j) o a w) 0 (opsOf 5 Try.f31) := by
  simp only [opsOf, Try.f31, opsAt, Option.bind, Option.or, Option.getD, reduceCtorEq, if_true, if_false, Nat.reduceEqDiff]
  refine ⟨?_, ?_⟩
  · intro _a _w _hB hF _hd
    exact rf_faddr (guard_none rfl) rfl _ _ _ rfl _ _ 2 _ ((hF.other 8 rfl).trans S.v8) (by omega) (fun _ _ => by kernel_rfl) rfl
  refine ⟨?_, ?_⟩
  · intro a _w hB _hF hd
    have h19 : a.tmps.getD 19 undef = .pointer (some ⟨g, 2, none⟩) := hd.1 rfl
    exact rf_loadS (guard_none rfl) rfl _ _ rfl _ _ h19 _ (SesAt.acc (s := s) (b := g) (o := 0) (S.at0.below hB)).1 Try.underlying29 rfl Try.sizeAcc rfl
  refine ⟨?_, ?_⟩
  · intro _a _w _hB hF _hd
    exact step_move (guard_none rfl) rfl _ rfl ((hF.other 2 rfl).trans S.v2)
  refine ⟨?_, ?_⟩
  · intro a _w hB _hF hd
    have h20 : a.tmps.getD 20 undef = .agg (accC s.a A k c) := hd.1 rfl
    have h21 : a.tmps.getD 21 undef = .slice B m d := hd.2.1 rfl
    refine step_call (guard_none rfl) rfl _ _ (rf_call_run Try.func19 (by kernel_rfl) (by kernel_rfl) _ _ rfl) ?_
    simp only [List.map_toArray, List.map_cons, List.map_nil, Act.eval, h20, h21]
    exact (raccmay_any s.a A k c B m d bs _ (S.hi.below hB) (S.hb.below hB) S.hk S.hm).mono (by rintro x w1 ⟨rfl, hb⟩; exact ⟨_, rfl, hb, by rw [S.e1]; rfl⟩)
  refine ⟨?_, ?_⟩
  · intro a _w _hB _hF hd
    have h22 : a.tmps.getD 22 undef = .bool true := hd.1 rfl
    exact step_not (guard_none rfl) rfl _ _ rfl h22 rfl
  refine ⟨?_, ?_⟩
  · intro a _w _hB _hF hd
    have h23 : a.tmps.getD 23 undef = .bool false := hd.1 rfl
    exact step_move (guard_none rfl) rfl _ rfl h23
  refine ⟨?_, ?_⟩
  · intro a _w _hB hF hd
    have h24 : a.tmps.getD 24 undef = .bool false := hd.1 rfl
    exact rf_faddr (rf_open false rfl rfl h24) rfl _ _ _ rfl _ _ 2 _ ((hF.other 8 rfl).trans S.v8) (by omega) (fun _ _ => by kernel_rfl) rfl
  refine ⟨?_, ?_⟩
  · intro a _w _hB _hF hd
    have h24 : a.tmps.getD 24 undef = .bool false := hd.2.1 rfl
    have h25 : a.tmps.getD 25 undef = .pointer (some ⟨g, 2, none⟩) := hd.1 rfl
    exact rf_faddr (rf_open false rfl rfl h24) rfl _ _ _ rfl _ _ 0 _ h25 (by omega) (fun _ _ => by kernel_rfl) rfl
  refine ⟨?_, ?_⟩
  · intro a _w hB _hF hd
    have h24 : a.tmps.getD 24 undef = .bool false := hd.2.1 rfl
    have h26 : a.tmps.getD 26 undef = .pointer (some ⟨g, 2, none⟩) := hd.1 rfl
    exact rf_loadi (rf_open false rfl rfl h24) rfl _ rfl _ _ h26 _ ((Has.cell (has_below S.box hB) 2).trans (sesC_2 _ _ _ _)) rfl
  refine ⟨?_, ?_⟩
  · intro a _w _hB _hF hd
    have h24 : a.tmps.getD 24 undef = .bool false := hd.2.1 rfl
    have h27 : a.tmps.getD 27 undef = .int .i64 s.a.n := hd.1 rfl
    exact rf_eql (rf_open false rfl rfl h24) rfl _ _ rfl _ _ h27 rfl false S.e2 rfl
  refine ⟨?_, ?_⟩
  · intro a _w _hB _hF hd
    have h24 : a.tmps.getD 24 undef = .bool false := hd.1 rfl
    have h28 : a.tmps.getD 28 undef = .bool false := hd.2.1 rfl
    exact rf_pick (guard_none rfl) rfl _ _ _ rfl false h24 h28
  refine ⟨?_, ?_⟩
  · intro a _w _hB _hF hd
    have h29 : a.tmps.getD 29 undef = .bool false := hd.1 rfl
    exact step_move (guard_none rfl) rfl _ rfl h29
  refine ⟨?_, ?_⟩
  · intro a _w _hB hF hd
    have h30 : a.tmps.getD 30 undef = .bool false := hd.1 rfl
    exact rf_faddr (rf_open false rfl rfl h30) rfl _ _ _ rfl _ _ 0 _ ((hF.other 8 rfl).trans S.v8) (by omega) (fun _ _ => by kernel_rfl) rfl
  refine ⟨?_, ?_⟩
  · intro a _w hB _hF hd
    have h30 : a.tmps.getD 30 undef = .bool false := hd.2.1 rfl
    have h31 : a.tmps.getD 31 undef = .pointer (some ⟨g, 0, none⟩) := hd.1 rfl
    exact rf_loadi (rf_open false rfl rfl h30) rfl _ rfl _ _ h31 _ ((Has.cell (has_below S.box hB) 0).trans (sesC_0 _ _ _ _)) rfl
  refine ⟨?_, ?_⟩
  · intro a _w _hB hF hd
    have h30 : a.tmps.getD 30 undef = .bool false := hd.1 rfl
    exact rf_faddr (rf_open false rfl rfl h30) rfl _ _ _ rfl _ _ 2 _ ((hF.other 8 rfl).trans S.v8) (by omega) (fun _ _ => by kernel_rfl) rfl
  refine ⟨?_, ?_⟩
  · intro a _w _hB _hF hd
    have h30 : a.tmps.getD 30 undef = .bool false := hd.2.1 rfl
    have h33 : a.tmps.getD 33 undef = .pointer (some ⟨g, 2, none⟩) := hd.1 rfl
    exact rf_faddr (rf_open false rfl rfl h30) rfl _ _ _ rfl _ _ 4 _ h33 (by omega) (fun _ _ => by kernel_rfl) rfl
  refine ⟨?_, ?_⟩
  · intro a _w _hB _hF hd
    have h30 : a.tmps.getD 30 undef = .bool false := hd.2.1 rfl
    have h34 : a.tmps.getD 34 undef = .pointer (some ⟨g, 6, none⟩) := hd.1 rfl
    exact rf_faddr (rf_open false rfl rfl h30) rfl _ _ _ rfl _ _ 1 _ h34 (by omega) (fun _ _ => by kernel_rfl) rfl
  refine ⟨?_, ?_⟩
  · intro a _w hB _hF hd
    have h30 : a.tmps.getD 30 undef = .bool false := hd.2.1 rfl
    have h35 : a.tmps.getD 35 undef = .pointer (some ⟨g, 7, none⟩) := hd.1 rfl
    exact rf_loadi (rf_open false rfl rfl h30) rfl _ rfl _ _ h35 _ ((Has.cell (has_below S.box hB) 7).trans (sesC_7 _ _ _ _)) rfl
  refine ⟨?_, ?_⟩
  · intro a _w _hB _hF hd
    have h30 : a.tmps.getD 30 undef = .bool false := hd.2.2.1 rfl
    have h32 : a.tmps.getD 32 undef = .int .i64 s.f := hd.1 rfl
    have h36 : a.tmps.getD 36 undef = .int .i64 s.a.f.t := hd.2.1 rfl
    exact rf_neq (rf_open false rfl rfl h30) rfl _ _ rfl _ _ h32 h36 false S.e3 rfl
  refine ⟨?_, ?_⟩
  · intro a _w _hB _hF hd
    have h30 : a.tmps.getD 30 undef = .bool false := hd.1 rfl
    have h37 : a.tmps.getD 37 undef = .bool false := hd.2.1 rfl
    exact rf_pick (guard_none rfl) rfl _ _ _ rfl false h30 h37
  refine ⟨?_, ?_⟩
  · intro a _w _hB _hF hd
    have h38 : a.tmps.getD 38 undef = .bool false := hd.1 rfl
    exact step_move (guard_none rfl) rfl _ rfl h38
  refine ⟨?_, ?_⟩
  · intro a _w _hB hF hd
    have h39 : a.tmps.getD 39 undef = .bool false := hd.1 rfl
    exact rf_faddr (rf_open false rfl rfl h39) rfl _ _ _ rfl _ _ 1 _ ((hF.other 8 rfl).trans S.v8) (by omega) (fun _ _ => by kernel_rfl) rfl
  refine ⟨?_, ?_⟩
  · intro a _w hB _hF hd
    have h39 : a.tmps.getD 39 undef = .bool false := hd.2.1 rfl
    have h40 : a.tmps.getD 40 undef = .pointer (some ⟨g, 1, none⟩) := hd.1 rfl
    exact rf_loadi (rf_open false rfl rfl h39) rfl _ rfl _ _ h40 _ ((Has.cell (has_below S.box hB) 1).trans (sesC_1 _ _ _ _)) rfl
  refine ⟨?_, ?_⟩
  · intro a _w _hB hF hd
    have h39 : a.tmps.getD 39 undef = .bool false := hd.1 rfl
    exact rf_faddr (rf_open false rfl rfl h39) rfl _ _ _ rfl _ _ 2 _ ((hF.other 8 rfl).trans S.v8) (by omega) (fun _ _ => by kernel_rfl) rfl
  refine ⟨?_, ?_⟩
  · intro a _w _hB _hF hd
    have h39 : a.tmps.getD 39 undef = .bool false := hd.2.1 rfl
    have h42 : a.tmps.getD 42 undef = .pointer (some ⟨g, 2, none⟩) := hd.1 rfl
    exact rf_faddr (rf_open false rfl rfl h39) rfl _ _ _ rfl _ _ 8 _ h42 (by omega) (fun _ _ => by kernel_rfl) rfl
  refine ⟨?_, ?_⟩
  · intro a _w _hB _hF hd
    have h39 : a.tmps.getD 39 undef = .bool false := hd.2.1 rfl
    have h43 : a.tmps.getD 43 undef = .pointer (some ⟨g, 10, none⟩) := hd.1 rfl
    exact rf_faddr (rf_open false rfl rfl h39) rfl _ _ _ rfl _ _ 1 _ h43 (by omega) (fun _ _ => by kernel_rfl) rfl
  refine ⟨?_, ?_⟩
  · intro a _w hB _hF hd
    have h39 : a.tmps.getD 39 undef = .bool false := hd.2.1 rfl
    have h44 : a.tmps.getD 44 undef = .pointer (some ⟨g, 11, none⟩) := hd.1 rfl
    exact rf_loadi (rf_open false rfl rfl h39) rfl _ rfl _ _ h44 _ ((Has.cell (has_below S.box hB) 11).trans (sesC_11 _ _ _ _)) rfl
  refine ⟨?_, ?_⟩
  · intro a _w _hB _hF hd
    have h39 : a.tmps.getD 39 undef = .bool false := hd.2.2.1 rfl
    have h41 : a.tmps.getD 41 undef = .int .i64 s.l := hd.1 rfl
    have h45 : a.tmps.getD 45 undef = .int .i64 s.a.l.t := hd.2.1 rfl
    exact rf_neq (rf_open false rfl rfl h39) rfl _ _ rfl _ _ h41 h45 true S.e4 rfl
  refine ⟨?_, ?_⟩
  · intro a _w _hB _hF hd
    have h39 : a.tmps.getD 39 undef = .bool false := hd.1 rfl
    have h46 : a.tmps.getD 46 undef = .bool true := hd.2.1 rfl
    exact rf_pick (guard_none rfl) rfl _ _ _ rfl false h39 h46
  refine ⟨?_, ?_⟩
  · intro a _w _hB _hF hd
    have h47 : a.tmps.getD 47 undef = .bool true := hd.1 rfl
    exact step_move (guard_none rfl) rfl _ rfl h47
  refine ⟨?_, ?_⟩
  · intro a _w _hB _hF hd
    have h48 : a.tmps.getD 48 undef = .bool true := hd.1 rfl
    exact rf_shut false rfl rfl h48 rfl
  refine ⟨?_, ?_⟩
  · intro a _w _hB _hF hd
    have h48 : a.tmps.getD 48 undef = .bool true := hd.2.1 rfl
    exact rf_shut false rfl rfl h48 rfl
  refine ⟨?_, ?_⟩
  · intro a _w _hB _hF hd
    have h48 : a.tmps.getD 48 undef = .bool true := hd.2.1 rfl
    exact rf_shut false rfl rfl h48 rfl
  refine ⟨?_, ?_⟩
  · intro a _w _hB _hF hd
    have h48 : a.tmps.getD 48 undef = .bool true := hd.2.1 rfl
    exact rf_shut false rfl rfl h48 rfl
  refine ⟨?_, ?_⟩
  · intro a _w _hB _hF hd
    have h48 : a.tmps.getD 48 undef = .bool true := hd.1 rfl
    exact rf_shut false rfl rfl h48 rfl
  refine ⟨?_, ?_⟩
  · intro a _w _hB _hF hd
    have h48 : a.tmps.getD 48 undef = .bool true := hd.2.1 rfl
    exact rf_shut false rfl rfl h48 rfl
  refine ⟨?_, ?_⟩
  · intro a _w _hB _hF hd
    have h48 : a.tmps.getD 48 undef = .bool true := hd.2.1 rfl
    exact rf_shut false rfl rfl h48 rfl
  refine ⟨?_, ?_⟩
  · intro a _w _hB _hF hd
    have h48 : a.tmps.getD 48 undef = .bool true := hd.2.1 rfl
    exact rf_shut false rfl rfl h48 rfl
  refine ⟨?_, ?_⟩
  · intro a _w _hB _hF hd
    have h48 : a.tmps.getD 48 undef = .bool true := hd.2.1 rfl
    exact rf_shut false rfl rfl h48 rfl
  refine ⟨?_, ?_⟩
  · intro a _w _hB _hF hd
    have h48 : a.tmps.getD 48 undef = .bool true := hd.2.1 rfl
    exact rf_shut false rfl rfl h48 rfl
  refine ⟨?_, ?_⟩
  · intro a _w _hB _hF hd
    have h48 : a.tmps.getD 48 undef = .bool true := hd.2.2.1 rfl
    exact rf_shut false rfl rfl h48 rfl
  refine ⟨?_, ?_⟩
  · intro a _w _hB _hF hd
    have h48 : a.tmps.getD 48 undef = .bool true := hd.1 rfl
    exact rf_pick (guard_none rfl) rfl _ _ _ rfl true h48 rfl
  trivial
theorem rs3_any {Q : Exit → Act → World → Prop} {l : List Oper} (hl : opsOf 5 Try.f31 = l) (hend : ∀ w : World, Below w0.heap.size w0 w → Q .normal (putAll a0 [(19, .pointer (some ⟨g, 2, none⟩)), (20, .agg (accC s.a A k c)), (21, .slice B m d), (22, .bool true), (23, .bool false), (24, .bool false), (25, .pointer (some ⟨g, 2, none⟩)), (26, .pointer (some ⟨g, 2, none⟩)), (27, .int .i64 s.a.n), (28, .bool false), (29, .bool false), (30, .bool false), (31, .pointer (some ⟨g, 0, none⟩)), (32, .int .i64 s.f), (33, .pointer (some ⟨g, 2, none⟩)), (34, .pointer (some ⟨g, 6, none⟩)), (35, .pointer (some ⟨g, 7, none⟩)), (36, .int .i64 s.a.f.t), (37, .bool false), (38, .bool false), (39, .bool false), (40, .pointer (some ⟨g, 1, none⟩)), (41, .int .i64 s.l), (42, .pointer (some ⟨g, 2, none⟩)), (43, .pointer (some ⟨g, 10, none⟩)), (44, .pointer (some ⟨g, 11, none⟩)), (45, .int .i64 s.a.l.t), (46, .bool true), (47, .bool true), (48, .bool true), (49, undef), (50, undef), (51, undef), (52, undef), (53, undef), (54, undef), (55, undef), (56, undef), (57, undef), (58, undef), (59, undef), (60, .bool true)]) w) :
    (Code.region 5 l.toArray true).wp Try.prog Q a0 w0 := by
  subst hl
  refine region_facts2 (rs3F s z A Z B C k c m d zk zc e g b fo n r q bs) rs3D 86 S.size rfl (by kernel_rfl) (by kernel_rfl) (rs3F_mono _ _ _ _ _ _ _ _ _ _ _ _ _ _ _ _ _ _ _ _) (rs3_ok S) fun a w hB hF h => ?_
  have hv : valsAre a [(19, .pointer (some ⟨g, 2, none⟩)), (20, .agg (accC s.a A k c)), (21, .slice B m d), (22, .bool true), (23, .bool false), (24, .bool false), (25, .pointer (some ⟨g, 2, none⟩)), (26, .pointer (some ⟨g, 2, none⟩)), (27, .int .i64 s.a.n), (28, .bool false), (29, .bool false), (30, .bool false), (31, .pointer (some ⟨g, 0, none⟩)), (32, .int .i64 s.f), (33, .pointer (some ⟨g, 2, none⟩)), (34, .pointer (some ⟨g, 6, none⟩)), (35, .pointer (some ⟨g, 7, none⟩)), (36, .int .i64 s.a.f.t), (37, .bool false), (38, .bool false), (39, .bool false), (40, .pointer (some ⟨g, 1, none⟩)), (41, .int .i64 s.l), (42, .pointer (some ⟨g, 2, none⟩)), (43, .pointer (some ⟨g, 10, none⟩)), (44, .pointer (some ⟨g, 11, none⟩)), (45, .int .i64 s.a.l.t), (46, .bool true), (47, .bool true), (48, .bool true), (49, undef), (50, undef), (51, undef), (52, undef), (53, undef), (54, undef), (55, undef), (56, undef), (57, undef), (58, undef), (59, undef), (60, .bool true)] := by
    refine ⟨?_, ?_, ?_, ?_, ?_, ?_, ?_, ?_, ?_, ?_, ?_, ?_, ?_, ?_, ?_, ?_, ?_, ?_, ?_, ?_, ?_, ?_, ?_, ?_, ?_, ?_, ?_, ?_, ?_, ?_, ?_, ?_, ?_, ?_, ?_, ?_, ?_, ?_, ?_, ?_, ?_, ?_, trivial⟩
    · exact h 0 (some 19) rfl
    · exact h 1 (some 20) rfl
    · exact h 2 (some 21) rfl
    · exact h 3 (some 22) rfl
    · exact h 4 (some 23) rfl
    · exact h 5 (some 24) rfl
    · exact h 6 (some 25) rfl
    · exact h 7 (some 26) rfl
    · exact h 8 (some 27) rfl
    · exact h 9 (some 28) rfl
    · exact h 10 (some 29) rfl
    · exact h 11 (some 30) rfl
    · exact h 12 (some 31) rfl
    · exact h 13 (some 32) rfl
    · exact h 14 (some 33) rfl
    · exact h 15 (some 34) rfl
    · exact h 16 (some 35) rfl
    · exact h 17 (some 36) rfl
    · exact h 18 (some 37) rfl
    · exact h 19 (some 38) rfl
    · exact h 20 (some 39) rfl
    · exact h 21 (some 40) rfl
    · exact h 22 (some 41) rfl
    · exact h 23 (some 42) rfl
    · exact h 24 (some 43) rfl
    · exact h 25 (some 44) rfl
    · exact h 26 (some 45) rfl
    · exact h 27 (some 46) rfl
    · exact h 28 (some 47) rfl
    · exact h 29 (some 48) rfl
    · exact h 30 (some 49) rfl
    · exact h 31 (some 50) rfl
    · exact h 32 (some 51) rfl
    · exact h 33 (some 52) rfl
    · exact h 34 (some 53) rfl
    · exact h 35 (some 54) rfl
    · exact h 36 (some 55) rfl
    · exact h 37 (some 56) rfl
    · exact h 38 (some 57) rfl
    · exact h 39 (some 58) rfl
    · exact h 40 (some 59) rfl
    · exact h 41 (some 60) rfl
  rw [frame_is hF _ hv (by rfl) (by rfl)]
  exact hend w hB
end

def rs4D : List (Option Tmp) := [some 19, some 20, some 21, some 22, some 23, some 24, some 25, some 26, some 27, some 28, some 29, some 30, some 31, some 32, some 33, some 34, some 35, some 36, some 37, some 38, some 39, some 40, some 41, some 42, some 43, some 44, some 45, some 46, some 47, some 48, some 49, some 50, some 51, some 52, some 53, some 54, some 55, some 56, some 57, some 58, some 59, some 60]
def rs4F (s z : Se) (A _Z B _C : Option Addr) (k c m d _zk _zc _e g b fo n r _q : Nat) (_bs : List Int) : List Fact := [isV (.pointer (some ⟨g, 2, none⟩)), isV (.agg (accC s.a A k c)), isV (.slice B m d), isV (.bool true), isV (.bool false), isV (.bool false), isV (.pointer (some ⟨g, 2, none⟩)), isV (.pointer (some ⟨g, 2, none⟩)), isV (.int .i64 s.a.n), isV (.bool false), isV (.bool false), isV (.bool false), isV (.pointer (some ⟨g, 0, none⟩)), isV (.int .i64 s.f), isV (.pointer (some ⟨g, 2, none⟩)), isV (.pointer (some ⟨g, 6, none⟩)), isV (.pointer (some ⟨g, 7, none⟩)), isV (.int .i64 s.a.f.t), isV (.bool false), isV (.bool false), isV (.bool false), isV (.pointer (some ⟨g, 1, none⟩)), isV (.int .i64 s.l), isV (.pointer (some ⟨g, 2, none⟩)), isV (.pointer (some ⟨g, 10, none⟩)), isV (.pointer (some ⟨g, 11, none⟩)), isV (.int .i64 s.a.l.t), isV (.bool false), isV (.bool false), isV (.bool false), isV (.pointer (some ⟨g, 2, none⟩)), isV (.pointer (some ⟨g, 6, none⟩)), isV (.pointer (some ⟨g, 6, none⟩)), isV (.int .i64 s.a.f.s), isV (.slice (some ⟨b, fo, none⟩) n r), isV (.pointer (some ⟨b, fo, none⟩)), isV (.pointer (some ⟨b, fo + 2, none⟩)), isV (.pointer (some ⟨b, fo + 2 + 4, none⟩)), isV (.pointer (some ⟨b, fo + 2 + 4, none⟩)), isV (.int .i64 z.a.f.s), isV (.bool true), isV (.bool true)]
theorem rs4F_mono (s z : Se) (A Z B C : Option Addr) (k c m d zk zc e g b fo n r q : Nat) (bs : List Int) : ∀ φ ∈ rs4F s z A Z B C k c m d zk zc e g b fo n r q bs, Mono φ := by
  unfold rs4F
  repeat (first | exact monos_nil | (refine monos_cons (mono_isV _) ?_))
structure rs4S (s z : Se) (A Z B C : Option Addr) (k c m d zk zc e g b fo n r q : Nat) (bs : List Int) (a0 : Act) (w0 : World) : Prop where
  size : a0.tmps.size = 86
  v0 : a0.tmps.getD 0 undef = .slice (some ⟨b, fo, none⟩) n r
  v2 : a0.tmps.getD 2 undef = .slice B m d
  v8 : a0.tmps.getD 8 undef = .pointer (some ⟨g, 0, none⟩)
  box : Has w0 g 60 (sesC s A k c)
  at0 : SesAt w0 g 0 s A k c
  hi : Ints w0 A k s.a.h
  hk : k ≤ maxLen
  hb : Ints w0 B m bs
  hm : m ≤ maxLen
  e1 : accB s.a bs = true
  e2 : (s.a.n == 0) = false
  e3 : (s.f != s.a.f.t) = false
  e4 : (s.l != s.a.l.t) = false
  hq : 0 < n
  zv : SesAt w0 b fo z Z zk zc
  e5 : (s.a.f.s != z.a.f.s) = true
section
variable {s z : Se} {A Z B C : Option Addr} {k c m d zk zc e g b fo n r q : Nat} {bs : List Int} {a0 : Act} {w0 : World} (S : rs4S s z A Z B C k c m d zk zc e g b fo n r q bs a0 w0)
include S
set_option maxRecDepth 100000 in
set_option maxHeartbeats 8000000 in
theorem rs4_ok : AllOps (fun j o => ∀ (a : Act) (w : World), Below w0.heap.size w0 w → FrD rs4D a0 a → needs rs4D (rs4F s z A Z B C k c m d zk zc e g b fo n r q bs) a w o.after.toList → StepD Try.prog rs4D (factAt (rs4F s z A Z B C k c m d zk zc e g b fo n r q bs) j) o a w) 0 (opsOf 5 Try.f31) := by
  simp only [opsOf, Try.f31, opsAt, Option.bind, Option.or, Option.getD, reduceCtorEq, if_true, if_false, Nat.reduceEqDiff]
  refine ⟨?_, ?_⟩
  · intro _a _w _hB hF _hd
    exact rf_faddr (guard_none rfl) rfl _ _ _ rfl _ _ 2 _ ((hF.other 8 rfl).trans S.v8) (by omega) (fun _ _ => by kernel_rfl) rfl
  refine ⟨?_, ?_⟩
  · intro a _w hB _hF hd
    have h19 : a.tmps.getD 19 undef = .pointer (some ⟨g, 2, none⟩) := hd.1 rfl
    exact rf_loadS (guard_none rfl) rfl _ _ rfl _ _ h19 _ (SesAt.acc (s := s) (b := g) (o := 0) (S.at0.below hB)).1 Try.underlying29 rfl Try.sizeAcc rfl
  refine ⟨?_, ?_⟩
  · intro _a _w _hB hF _hd
    exact step_move (guard_none rfl) rfl _ rfl ((hF.other 2 rfl).trans S.v2)
  refine ⟨?_, ?_⟩
  · intro a _w hB _hF hd
    have h20 : a.tmps.getD 20 undef = .agg (accC s.a A k c) := hd.1 rfl
    have h21 : a.tmps.getD 21 undef = .slice B m d := hd.2.1 rfl
    refine step_call (guard_none rfl) rfl _ _ (rf_call_run Try.func19 (by kernel_rfl) (by kernel_rfl) _ _ rfl) ?_
    simp only [List.map_toArray, List.map_cons, List.map_nil, Act.eval, h20, h21]
    exact (raccmay_any s.a A k c B m d bs _ (S.hi.below hB) (S.hb.below hB) S.hk S.hm).mono (by rintro x w1 ⟨rfl, hb⟩; exact ⟨_, rfl, hb, by rw [S.e1]; rfl⟩)
  refine ⟨?_, ?_⟩
  · intro a _w _hB _hF hd
    have h22 : a.tmps.getD 22 undef = .bool true := hd.1 rfl
    exact step_not (guard_none rfl) rfl _ _ rfl h22 rfl
  refine ⟨?_, ?_⟩
  · intro a _w _hB _hF hd
    have h23 : a.tmps.getD 23 undef = .bool false := hd.1 rfl
    exact step_move (guard_none rfl) rfl _ rfl h23
  refine ⟨?_, ?_⟩
  · intro a _w _hB hF hd
    have h24 : a.tmps.getD 24 undef = .bool false := hd.1 rfl
    exact rf_faddr (rf_open false rfl rfl h24) rfl _ _ _ rfl _ _ 2 _ ((hF.other 8 rfl).trans S.v8) (by omega) (fun _ _ => by kernel_rfl) rfl
  refine ⟨?_, ?_⟩
  · intro a _w _hB _hF hd
    have h24 : a.tmps.getD 24 undef = .bool false := hd.2.1 rfl
    have h25 : a.tmps.getD 25 undef = .pointer (some ⟨g, 2, none⟩) := hd.1 rfl
    exact rf_faddr (rf_open false rfl rfl h24) rfl _ _ _ rfl _ _ 0 _ h25 (by omega) (fun _ _ => by kernel_rfl) rfl
  refine ⟨?_, ?_⟩
  · intro a _w hB _hF hd
    have h24 : a.tmps.getD 24 undef = .bool false := hd.2.1 rfl
    have h26 : a.tmps.getD 26 undef = .pointer (some ⟨g, 2, none⟩) := hd.1 rfl
    exact rf_loadi (rf_open false rfl rfl h24) rfl _ rfl _ _ h26 _ ((Has.cell (has_below S.box hB) 2).trans (sesC_2 _ _ _ _)) rfl
  refine ⟨?_, ?_⟩
  · intro a _w _hB _hF hd
    have h24 : a.tmps.getD 24 undef = .bool false := hd.2.1 rfl
    have h27 : a.tmps.getD 27 undef = .int .i64 s.a.n := hd.1 rfl
    exact rf_eql (rf_open false rfl rfl h24) rfl _ _ rfl _ _ h27 rfl false S.e2 rfl
  refine ⟨?_, ?_⟩
  · intro a _w _hB _hF hd
    have h24 : a.tmps.getD 24 undef = .bool false := hd.1 rfl
    have h28 : a.tmps.getD 28 undef = .bool false := hd.2.1 rfl
    exact rf_pick (guard_none rfl) rfl _ _ _ rfl false h24 h28
  refine ⟨?_, ?_⟩
  · intro a _w _hB _hF hd
    have h29 : a.tmps.getD 29 undef = .bool false := hd.1 rfl
    exact step_move (guard_none rfl) rfl _ rfl h29
  refine ⟨?_, ?_⟩
  · intro a _w _hB hF hd
    have h30 : a.tmps.getD 30 undef = .bool false := hd.1 rfl
    exact rf_faddr (rf_open false rfl rfl h30) rfl _ _ _ rfl _ _ 0 _ ((hF.other 8 rfl).trans S.v8) (by omega) (fun _ _ => by kernel_rfl) rfl
  refine ⟨?_, ?_⟩
  · intro a _w hB _hF hd
    have h30 : a.tmps.getD 30 undef = .bool false := hd.2.1 rfl
    have h31 : a.tmps.getD 31 undef = .pointer (some ⟨g, 0, none⟩) := hd.1 rfl
    exact rf_loadi (rf_open false rfl rfl h30) rfl _ rfl _ _ h31 _ ((Has.cell (has_below S.box hB) 0).trans (sesC_0 _ _ _ _)) rfl
  refine ⟨?_, ?_⟩
  · intro a _w _hB hF hd
    have h30 : a.tmps.getD 30 undef = .bool false := hd.1 rfl
    exact rf_faddr (rf_open false rfl rfl h30) rfl _ _ _ rfl _ _ 2 _ ((hF.other 8 rfl).trans S.v8) (by omega) (fun _ _ => by kernel_rfl) rfl
  refine ⟨?_, ?_⟩
  · intro a _w _hB _hF hd
    have h30 : a.tmps.getD 30 undef = .bool false := hd.2.1 rfl
    have h33 : a.tmps.getD 33 undef = .pointer (some ⟨g, 2, none⟩) := hd.1 rfl
    exact rf_faddr (rf_open false rfl rfl h30) rfl _ _ _ rfl _ _ 4 _ h33 (by omega) (fun _ _ => by kernel_rfl) rfl
  refine ⟨?_, ?_⟩
  · intro a _w _hB _hF hd
    have h30 : a.tmps.getD 30 undef = .bool false := hd.2.1 rfl
    have h34 : a.tmps.getD 34 undef = .pointer (some ⟨g, 6, none⟩) := hd.1 rfl
    exact rf_faddr (rf_open false rfl rfl h30) rfl _ _ _ rfl _ _ 1 _ h34 (by omega) (fun _ _ => by kernel_rfl) rfl
  refine ⟨?_, ?_⟩
  · intro a _w hB _hF hd
    have h30 : a.tmps.getD 30 undef = .bool false := hd.2.1 rfl
    have h35 : a.tmps.getD 35 undef = .pointer (some ⟨g, 7, none⟩) := hd.1 rfl
    exact rf_loadi (rf_open false rfl rfl h30) rfl _ rfl _ _ h35 _ ((Has.cell (has_below S.box hB) 7).trans (sesC_7 _ _ _ _)) rfl
  refine ⟨?_, ?_⟩
  · intro a _w _hB _hF hd
    have h30 : a.tmps.getD 30 undef = .bool false := hd.2.2.1 rfl
    have h32 : a.tmps.getD 32 undef = .int .i64 s.f := hd.1 rfl
    have h36 : a.tmps.getD 36 undef = .int .i64 s.a.f.t := hd.2.1 rfl
    exact rf_neq (rf_open false rfl rfl h30) rfl _ _ rfl _ _ h32 h36 false S.e3 rfl
  refine ⟨?_, ?_⟩
  · intro a _w _hB _hF hd
    have h30 : a.tmps.getD 30 undef = .bool false := hd.1 rfl
    have h37 : a.tmps.getD 37 undef = .bool false := hd.2.1 rfl
    exact rf_pick (guard_none rfl) rfl _ _ _ rfl false h30 h37
  refine ⟨?_, ?_⟩
  · intro a _w _hB _hF hd
    have h38 : a.tmps.getD 38 undef = .bool false := hd.1 rfl
    exact step_move (guard_none rfl) rfl _ rfl h38
  refine ⟨?_, ?_⟩
  · intro a _w _hB hF hd
    have h39 : a.tmps.getD 39 undef = .bool false := hd.1 rfl
    exact rf_faddr (rf_open false rfl rfl h39) rfl _ _ _ rfl _ _ 1 _ ((hF.other 8 rfl).trans S.v8) (by omega) (fun _ _ => by kernel_rfl) rfl
  refine ⟨?_, ?_⟩
  · intro a _w hB _hF hd
    have h39 : a.tmps.getD 39 undef = .bool false := hd.2.1 rfl
    have h40 : a.tmps.getD 40 undef = .pointer (some ⟨g, 1, none⟩) := hd.1 rfl
    exact rf_loadi (rf_open false rfl rfl h39) rfl _ rfl _ _ h40 _ ((Has.cell (has_below S.box hB) 1).trans (sesC_1 _ _ _ _)) rfl
  refine ⟨?_, ?_⟩
  · intro a _w _hB hF hd
    have h39 : a.tmps.getD 39 undef = .bool false := hd.1 rfl
    exact rf_faddr (rf_open false rfl rfl h39) rfl _ _ _ rfl _ _ 2 _ ((hF.other 8 rfl).trans S.v8) (by omega) (fun _ _ => by kernel_rfl) rfl
  refine ⟨?_, ?_⟩
  · intro a _w _hB _hF hd
    have h39 : a.tmps.getD 39 undef = .bool false := hd.2.1 rfl
    have h42 : a.tmps.getD 42 undef = .pointer (some ⟨g, 2, none⟩) := hd.1 rfl
    exact rf_faddr (rf_open false rfl rfl h39) rfl _ _ _ rfl _ _ 8 _ h42 (by omega) (fun _ _ => by kernel_rfl) rfl
  refine ⟨?_, ?_⟩
  · intro a _w _hB _hF hd
    have h39 : a.tmps.getD 39 undef = .bool false := hd.2.1 rfl
    have h43 : a.tmps.getD 43 undef = .pointer (some ⟨g, 10, none⟩) := hd.1 rfl
    exact rf_faddr (rf_open false rfl rfl h39) rfl _ _ _ rfl _ _ 1 _ h43 (by omega) (fun _ _ => by kernel_rfl) rfl
  refine ⟨?_, ?_⟩
  · intro a _w hB _hF hd
    have h39 : a.tmps.getD 39 undef = .bool false := hd.2.1 rfl
    have h44 : a.tmps.getD 44 undef = .pointer (some ⟨g, 11, none⟩) := hd.1 rfl
    exact rf_loadi (rf_open false rfl rfl h39) rfl _ rfl _ _ h44 _ ((Has.cell (has_below S.box hB) 11).trans (sesC_11 _ _ _ _)) rfl
  refine ⟨?_, ?_⟩
  · intro a _w _hB _hF hd
    have h39 : a.tmps.getD 39 undef = .bool false := hd.2.2.1 rfl
    have h41 : a.tmps.getD 41 undef = .int .i64 s.l := hd.1 rfl
    have h45 : a.tmps.getD 45 undef = .int .i64 s.a.l.t := hd.2.1 rfl
    exact rf_neq (rf_open false rfl rfl h39) rfl _ _ rfl _ _ h41 h45 false S.e4 rfl
  refine ⟨?_, ?_⟩
  · intro a _w _hB _hF hd
    have h39 : a.tmps.getD 39 undef = .bool false := hd.1 rfl
    have h46 : a.tmps.getD 46 undef = .bool false := hd.2.1 rfl
    exact rf_pick (guard_none rfl) rfl _ _ _ rfl false h39 h46
  refine ⟨?_, ?_⟩
  · intro a _w _hB _hF hd
    have h47 : a.tmps.getD 47 undef = .bool false := hd.1 rfl
    exact step_move (guard_none rfl) rfl _ rfl h47
  refine ⟨?_, ?_⟩
  · intro a _w _hB hF hd
    have h48 : a.tmps.getD 48 undef = .bool false := hd.1 rfl
    exact rf_faddr (rf_open false rfl rfl h48) rfl _ _ _ rfl _ _ 2 _ ((hF.other 8 rfl).trans S.v8) (by omega) (fun _ _ => by kernel_rfl) rfl
  refine ⟨?_, ?_⟩
  · intro a _w _hB _hF hd
    have h48 : a.tmps.getD 48 undef = .bool false := hd.2.1 rfl
    have h49 : a.tmps.getD 49 undef = .pointer (some ⟨g, 2, none⟩) := hd.1 rfl
    exact rf_faddr (rf_open false rfl rfl h48) rfl _ _ _ rfl _ _ 4 _ h49 (by omega) (fun _ _ => by kernel_rfl) rfl
  refine ⟨?_, ?_⟩
  · intro a _w _hB _hF hd
    have h48 : a.tmps.getD 48 undef = .bool false := hd.2.1 rfl
    have h50 : a.tmps.getD 50 undef = .pointer (some ⟨g, 6, none⟩) := hd.1 rfl
    exact rf_faddr (rf_open false rfl rfl h48) rfl _ _ _ rfl _ _ 0 _ h50 (by omega) (fun _ _ => by kernel_rfl) rfl
  refine ⟨?_, ?_⟩
  · intro a _w hB _hF hd
    have h48 : a.tmps.getD 48 undef = .bool false := hd.2.1 rfl
    have h51 : a.tmps.getD 51 undef = .pointer (some ⟨g, 6, none⟩) := hd.1 rfl
    exact rf_loadi (rf_open false rfl rfl h48) rfl _ rfl _ _ h51 _ ((Has.cell (has_below S.box hB) 6).trans (sesC_6 _ _ _ _)) rfl
  refine ⟨?_, ?_⟩
  · intro a _w _hB hF hd
    have h48 : a.tmps.getD 48 undef = .bool false := hd.1 rfl
    exact step_move (rf_open false rfl rfl h48) rfl _ rfl ((hF.other 0 rfl).trans S.v0)
  refine ⟨?_, ?_⟩
  · intro a _w _hB _hF hd
    have h48 : a.tmps.getD 48 undef = .bool false := hd.2.1 rfl
    have h53 : a.tmps.getD 53 undef = .slice (some ⟨b, fo, none⟩) n r := hd.1 rfl
    exact rf_index (rf_open false rfl rfl h48) rfl _ _ _ rfl Try.underlying45 15 (fun _ => by kernel_rfl) _ _ _ _ 0 _ h53 rfl rfl (by have := S.hq; omega) (by rw [Nat.zero_mul, Nat.add_zero]; rfl)
  refine ⟨?_, ?_⟩
  · intro a _w _hB _hF hd
    have h48 : a.tmps.getD 48 undef = .bool false := hd.2.1 rfl
    have h54 : a.tmps.getD 54 undef = .pointer (some ⟨b, fo, none⟩) := hd.1 rfl
    exact rf_faddr (rf_open false rfl rfl h48) rfl _ _ _ rfl _ _ 2 _ h54 (by omega) (fun _ _ => by kernel_rfl) rfl
  refine ⟨?_, ?_⟩
  · intro a _w _hB _hF hd
    have h48 : a.tmps.getD 48 undef = .bool false := hd.2.1 rfl
    have h55 : a.tmps.getD 55 undef = .pointer (some ⟨b, fo + 2, none⟩) := hd.1 rfl
    exact rf_faddr (rf_open false rfl rfl h48) rfl _ _ _ rfl _ _ 4 _ h55 (by omega) (fun _ _ => by kernel_rfl) rfl
  refine ⟨?_, ?_⟩
  · intro a _w _hB _hF hd
    have h48 : a.tmps.getD 48 undef = .bool false := hd.2.1 rfl
    have h56 : a.tmps.getD 56 undef = .pointer (some ⟨b, fo + 2 + 4, none⟩) := hd.1 rfl
    exact rf_faddr (rf_open false rfl rfl h48) rfl _ _ _ rfl _ _ 0 _ h56 (by omega) (fun _ _ => by kernel_rfl) rfl
  refine ⟨?_, ?_⟩
  · intro a _w hB _hF hd
    have h48 : a.tmps.getD 48 undef = .bool false := hd.2.1 rfl
    have h57 : a.tmps.getD 57 undef = .pointer (some ⟨b, fo + 2 + 4, none⟩) := hd.1 rfl
    exact rf_loadi (rf_open false rfl rfl h48) rfl _ rfl _ _ h57 _ (rf_cell hB (S.zv.at_ 6 (sesC_6 _ _ _ _))) rfl
  refine ⟨?_, ?_⟩
  · intro a _w _hB _hF hd
    have h48 : a.tmps.getD 48 undef = .bool false := hd.2.2.1 rfl
    have h52 : a.tmps.getD 52 undef = .int .i64 s.a.f.s := hd.1 rfl
    have h58 : a.tmps.getD 58 undef = .int .i64 z.a.f.s := hd.2.1 rfl
    exact rf_neq (rf_open false rfl rfl h48) rfl _ _ rfl _ _ h52 h58 true S.e5 rfl
  refine ⟨?_, ?_⟩
  · intro a _w _hB _hF hd
    have h48 : a.tmps.getD 48 undef = .bool false := hd.1 rfl
    have h59 : a.tmps.getD 59 undef = .bool true := hd.2.1 rfl
    exact rf_pick (guard_none rfl) rfl _ _ _ rfl false h48 h59
  trivial
theorem rs4_any {Q : Exit → Act → World → Prop} {l : List Oper} (hl : opsOf 5 Try.f31 = l) (hend : ∀ w : World, Below w0.heap.size w0 w → Q .normal (putAll a0 [(19, .pointer (some ⟨g, 2, none⟩)), (20, .agg (accC s.a A k c)), (21, .slice B m d), (22, .bool true), (23, .bool false), (24, .bool false), (25, .pointer (some ⟨g, 2, none⟩)), (26, .pointer (some ⟨g, 2, none⟩)), (27, .int .i64 s.a.n), (28, .bool false), (29, .bool false), (30, .bool false), (31, .pointer (some ⟨g, 0, none⟩)), (32, .int .i64 s.f), (33, .pointer (some ⟨g, 2, none⟩)), (34, .pointer (some ⟨g, 6, none⟩)), (35, .pointer (some ⟨g, 7, none⟩)), (36, .int .i64 s.a.f.t), (37, .bool false), (38, .bool false), (39, .bool false), (40, .pointer (some ⟨g, 1, none⟩)), (41, .int .i64 s.l), (42, .pointer (some ⟨g, 2, none⟩)), (43, .pointer (some ⟨g, 10, none⟩)), (44, .pointer (some ⟨g, 11, none⟩)), (45, .int .i64 s.a.l.t), (46, .bool false), (47, .bool false), (48, .bool false), (49, .pointer (some ⟨g, 2, none⟩)), (50, .pointer (some ⟨g, 6, none⟩)), (51, .pointer (some ⟨g, 6, none⟩)), (52, .int .i64 s.a.f.s), (53, .slice (some ⟨b, fo, none⟩) n r), (54, .pointer (some ⟨b, fo, none⟩)), (55, .pointer (some ⟨b, fo + 2, none⟩)), (56, .pointer (some ⟨b, fo + 2 + 4, none⟩)), (57, .pointer (some ⟨b, fo + 2 + 4, none⟩)), (58, .int .i64 z.a.f.s), (59, .bool true), (60, .bool true)]) w) :
    (Code.region 5 l.toArray true).wp Try.prog Q a0 w0 := by
  subst hl
  refine region_facts2 (rs4F s z A Z B C k c m d zk zc e g b fo n r q bs) rs4D 86 S.size rfl (by kernel_rfl) (by kernel_rfl) (rs4F_mono _ _ _ _ _ _ _ _ _ _ _ _ _ _ _ _ _ _ _ _) (rs4_ok S) fun a w hB hF h => ?_
  have hv : valsAre a [(19, .pointer (some ⟨g, 2, none⟩)), (20, .agg (accC s.a A k c)), (21, .slice B m d), (22, .bool true), (23, .bool false), (24, .bool false), (25, .pointer (some ⟨g, 2, none⟩)), (26, .pointer (some ⟨g, 2, none⟩)), (27, .int .i64 s.a.n), (28, .bool false), (29, .bool false), (30, .bool false), (31, .pointer (some ⟨g, 0, none⟩)), (32, .int .i64 s.f), (33, .pointer (some ⟨g, 2, none⟩)), (34, .pointer (some ⟨g, 6, none⟩)), (35, .pointer (some ⟨g, 7, none⟩)), (36, .int .i64 s.a.f.t), (37, .bool false), (38, .bool false), (39, .bool false), (40, .pointer (some ⟨g, 1, none⟩)), (41, .int .i64 s.l), (42, .pointer (some ⟨g, 2, none⟩)), (43, .pointer (some ⟨g, 10, none⟩)), (44, .pointer (some ⟨g, 11, none⟩)), (45, .int .i64 s.a.l.t), (46, .bool false), (47, .bool false), (48, .bool false), (49, .pointer (some ⟨g, 2, none⟩)), (50, .pointer (some ⟨g, 6, none⟩)), (51, .pointer (some ⟨g, 6, none⟩)), (52, .int .i64 s.a.f.s), (53, .slice (some ⟨b, fo, none⟩) n r), (54, .pointer (some ⟨b, fo, none⟩)), (55, .pointer (some ⟨b, fo + 2, none⟩)), (56, .pointer (some ⟨b, fo + 2 + 4, none⟩)), (57, .pointer (some ⟨b, fo + 2 + 4, none⟩)), (58, .int .i64 z.a.f.s), (59, .bool true), (60, .bool true)] := by
    refine ⟨?_, ?_, ?_, ?_, ?_, ?_, ?_, ?_, ?_, ?_, ?_, ?_, ?_, ?_, ?_, ?_, ?_, ?_, ?_, ?_, ?_, ?_, ?_, ?_, ?_, ?_, ?_, ?_, ?_, ?_, ?_, ?_, ?_, ?_, ?_, ?_, ?_, ?_, ?_, ?_, ?_, ?_, trivial⟩
    · exact h 0 (some 19) rfl
    · exact h 1 (some 20) rfl
    · exact h 2 (some 21) rfl
    · exact h 3 (some 22) rfl
    · exact h 4 (some 23) rfl
    · exact h 5 (some 24) rfl
    · exact h 6 (some 25) rfl
    · exact h 7 (some 26) rfl
    · exact h 8 (some 27) rfl
    · exact h 9 (some 28) rfl
    · exact h 10 (some 29) rfl
    · exact h 11 (some 30) rfl
    · exact h 12 (some 31) rfl
    · exact h 13 (some 32) rfl
    · exact h 14 (some 33) rfl
    · exact h 15 (some 34) rfl
    · exact h 16 (some 35) rfl
    · exact h 17 (some 36) rfl
    · exact h 18 (some 37) rfl
    · exact h 19 (some 38) rfl
    · exact h 20 (some 39) rfl
    · exact h 21 (some 40) rfl
    · exact h 22 (some 41) rfl
    · exact h 23 (some 42) rfl
    · exact h 24 (some 43) rfl
    · exact h 25 (some 44) rfl
    · exact h 26 (some 45) rfl
    · exact h 27 (some 46) rfl
    · exact h 28 (some 47) rfl
    · exact h 29 (some 48) rfl
    · exact h 30 (some 49) rfl
    · exact h 31 (some 50) rfl
    · exact h 32 (some 51) rfl
    · exact h 33 (some 52) rfl
    · exact h 34 (some 53) rfl
    · exact h 35 (some 54) rfl
    · exact h 36 (some 55) rfl
    · exact h 37 (some 56) rfl
    · exact h 38 (some 57) rfl
    · exact h 39 (some 58) rfl
    · exact h 40 (some 59) rfl
    · exact h 41 (some 60) rfl
  rw [frame_is hF _ hv (by rfl) (by rfl)]
  exact hend w hB
end

def rs5D : List (Option Tmp) := [some 19, some 20, some 21, some 22, some 23, some 24, some 25, some 26, some 27, some 28, some 29, some 30, some 31, some 32, some 33, some 34, some 35, some 36, some 37, some 38, some 39, some 40, some 41, some 42, some 43, some 44, some 45, some 46, some 47, some 48, some 49, some 50, some 51, some 52, some 53, some 54, some 55, some 56, some 57, some 58, some 59, some 60]
def rs5F (s z : Se) (A _Z B _C : Option Addr) (k c m d _zk _zc _e g b fo n r _q : Nat) (_bs : List Int) : List Fact := [isV (.pointer (some ⟨g, 2, none⟩)), isV (.agg (accC s.a A k c)), isV (.slice B m d), isV (.bool true), isV (.bool false), isV (.bool false), isV (.pointer (some ⟨g, 2, none⟩)), isV (.pointer (some ⟨g, 2, none⟩)), isV (.int .i64 s.a.n), isV (.bool false), isV (.bool false), isV (.bool false), isV (.pointer (some ⟨g, 0, none⟩)), isV (.int .i64 s.f), isV (.pointer (some ⟨g, 2, none⟩)), isV (.pointer (some ⟨g, 6, none⟩)), isV (.pointer (some ⟨g, 7, none⟩)), isV (.int .i64 s.a.f.t), isV (.bool false), isV (.bool false), isV (.bool false), isV (.pointer (some ⟨g, 1, none⟩)), isV (.int .i64 s.l), isV (.pointer (some ⟨g, 2, none⟩)), isV (.pointer (some ⟨g, 10, none⟩)), isV (.pointer (some ⟨g, 11, none⟩)), isV (.int .i64 s.a.l.t), isV (.bool false), isV (.bool false), isV (.bool false), isV (.pointer (some ⟨g, 2, none⟩)), isV (.pointer (some ⟨g, 6, none⟩)), isV (.pointer (some ⟨g, 6, none⟩)), isV (.int .i64 s.a.f.s), isV (.slice (some ⟨b, fo, none⟩) n r), isV (.pointer (some ⟨b, fo, none⟩)), isV (.pointer (some ⟨b, fo + 2, none⟩)), isV (.pointer (some ⟨b, fo + 2 + 4, none⟩)), isV (.pointer (some ⟨b, fo + 2 + 4, none⟩)), isV (.int .i64 z.a.f.s), isV (.bool false), isV (.bool false)]
theorem rs5F_mono (s z : Se) (A Z B C : Option Addr) (k c m d zk zc e g b fo n r q : Nat) (bs : List Int) : ∀ φ ∈ rs5F s z A Z B C k c m d zk zc e g b fo n r q bs, Mono φ := by
  unfold rs5F
  repeat (first | exact monos_nil | (refine monos_cons (mono_isV _) ?_))
structure rs5S (s z : Se) (A Z B C : Option Addr) (k c m d zk zc e g b fo n r q : Nat) (bs : List Int) (a0 : Act) (w0 : World) : Prop where
  size : a0.tmps.size = 86
  v0 : a0.tmps.getD 0 undef = .slice (some ⟨b, fo, none⟩) n r
  v2 : a0.tmps.getD 2 undef = .slice B m d
  v8 : a0.tmps.getD 8 undef = .pointer (some ⟨g, 0, none⟩)
  box : Has w0 g 60 (sesC s A k c)
  at0 : SesAt w0 g 0 s A k c
  hi : Ints w0 A k s.a.h
  hk : k ≤ maxLen
  hb : Ints w0 B m bs
  hm : m ≤ maxLen
  e1 : accB s.a bs = true
  e2 : (s.a.n == 0) = false
  e3 : (s.f != s.a.f.t) = false
  e4 : (s.l != s.a.l.t) = false
  hq : 0 < n
  zv : SesAt w0 b fo z Z zk zc
  e5 : (s.a.f.s != z.a.f.s) = false
section
variable {s z : Se} {A Z B C : Option Addr} {k c m d zk zc e g b fo n r q : Nat} {bs : List Int} {a0 : Act} {w0 : World} (S : rs5S s z A Z B C k c m d zk zc e g b fo n r q bs a0 w0)
include S
set_option maxRecDepth 100000 in
set_option maxHeartbeats 8000000 in
theorem rs5_ok : AllOps (fun j o => ∀ (a : Act) (w : World), Below w0.heap.size w0 w → FrD rs5D a0 a → needs rs5D (rs5F s z A Z B C k c m d zk zc e g b fo n r q bs) a w o.after.toList → StepD Try.prog rs5D (factAt (rs5F s z A Z B C k c m d zk zc e g b fo n r q bs) j) o a w) 0 (opsOf 5 Try.f31) := by
  simp only [opsOf, Try.f31, opsAt, Option.bind, Option.or, Option.getD, reduceCtorEq, if_true, if_false, Nat.reduceEqDiff]
  refine ⟨?_, ?_⟩
  · intro _a _w _hB hF _hd
    exact rf_faddr (guard_none rfl) rfl _ _ _ rfl _ _ 2 _ ((hF.other 8 rfl).trans S.v8) (by omega) (fun _ _ => by kernel_rfl) rfl
  refine ⟨?_, ?_⟩
  · intro a _w hB _hF hd
    have h19 : a.tmps.getD 19 undef = .pointer (some ⟨g, 2, none⟩) := hd.1 rfl
    exact rf_loadS (guard_none rfl) rfl _ _ rfl _ _ h19 _ (SesAt.acc (s := s) (b := g) (o := 0) (S.at0.below hB)).1 Try.underlying29 rfl Try.sizeAcc rfl
  refine ⟨?_, ?_⟩
  · intro _a _w _hB hF _hd
    exact step_move (guard_none rfl) rfl _ rfl ((hF.other 2 rfl).trans S.v2)
  refine ⟨?_, ?_⟩
  · intro a _w hB _hF hd
    have h20 : a.tmps.getD 20 undef = .agg (accC s.a A k c) := hd.1 rfl
    have h21 : a.tmps.getD 21 undef = .slice B m d := hd.2.1 rfl
    refine step_call (guard_none rfl) rfl _ _ (rf_call_run Try.func19 (by kernel_rfl) (by kernel_rfl) _ _ rfl) ?_
    simp only [List.map_toArray, List.map_cons, List.map_nil, Act.eval, h20, h21]
    exact (raccmay_any s.a A k c B m d bs _ (S.hi.below hB) (S.hb.below hB) S.hk S.hm).mono (by rintro x w1 ⟨rfl, hb⟩; exact ⟨_, rfl, hb, by rw [S.e1]; rfl⟩)
  refine ⟨?_, ?_⟩
  · intro a _w _hB _hF hd
    have h22 : a.tmps.getD 22 undef = .bool true := hd.1 rfl
    exact step_not (guard_none rfl) rfl _ _ rfl h22 rfl
  refine ⟨?_, ?_⟩
  · intro a _w _hB _hF hd
    have h23 : a.tmps.getD 23 undef = .bool false := hd.1 rfl
    exact step_move (guard_none rfl) rfl _ rfl h23
  refine ⟨?_, ?_⟩
  · intro a _w _hB hF hd
    have h24 : a.tmps.getD 24 undef = .bool false := hd.1 rfl
    exact rf_faddr (rf_open false rfl rfl h24) rfl _ _ _ rfl _ _ 2 _ ((hF.other 8 rfl).trans S.v8) (by omega) (fun _ _ => by kernel_rfl) rfl
  refine ⟨?_, ?_⟩
  · intro a _w _hB _hF hd
    have h24 : a.tmps.getD 24 undef = .bool false := hd.2.1 rfl
    have h25 : a.tmps.getD 25 undef = .pointer (some ⟨g, 2, none⟩) := hd.1 rfl
    exact rf_faddr (rf_open false rfl rfl h24) rfl _ _ _ rfl _ _ 0 _ h25 (by omega) (fun _ _ => by kernel_rfl) rfl
  refine ⟨?_, ?_⟩
  · intro a _w hB _hF hd
    have h24 : a.tmps.getD 24 undef = .bool false := hd.2.1 rfl
    have h26 : a.tmps.getD 26 undef = .pointer (some ⟨g, 2, none⟩) := hd.1 rfl
    exact rf_loadi (rf_open false rfl rfl h24) rfl _ rfl _ _ h26 _ ((Has.cell (has_below S.box hB) 2).trans (sesC_2 _ _ _ _)) rfl
  refine ⟨?_, ?_⟩
  · intro a _w _hB _hF hd
    have h24 : a.tmps.getD 24 undef = .bool false := hd.2.1 rfl
    have h27 : a.tmps.getD 27 undef = .int .i64 s.a.n := hd.1 rfl
    exact rf_eql (rf_open false rfl rfl h24) rfl _ _ rfl _ _ h27 rfl false S.e2 rfl
  refine ⟨?_, ?_⟩
  · intro a _w _hB _hF hd
    have h24 : a.tmps.getD 24 undef = .bool false := hd.1 rfl
    have h28 : a.tmps.getD 28 undef = .bool false := hd.2.1 rfl
    exact rf_pick (guard_none rfl) rfl _ _ _ rfl false h24 h28
  refine ⟨?_, ?_⟩
  · intro a _w _hB _hF hd
    have h29 : a.tmps.getD 29 undef = .bool false := hd.1 rfl
    exact step_move (guard_none rfl) rfl _ rfl h29
  refine ⟨?_, ?_⟩
  · intro a _w _hB hF hd
    have h30 : a.tmps.getD 30 undef = .bool false := hd.1 rfl
    exact rf_faddr (rf_open false rfl rfl h30) rfl _ _ _ rfl _ _ 0 _ ((hF.other 8 rfl).trans S.v8) (by omega) (fun _ _ => by kernel_rfl) rfl
  refine ⟨?_, ?_⟩
  · intro a _w hB _hF hd
    have h30 : a.tmps.getD 30 undef = .bool false := hd.2.1 rfl
    have h31 : a.tmps.getD 31 undef = .pointer (some ⟨g, 0, none⟩) := hd.1 rfl
    exact rf_loadi (rf_open false rfl rfl h30) rfl _ rfl _ _ h31 _ ((Has.cell (has_below S.box hB) 0).trans (sesC_0 _ _ _ _)) rfl
  refine ⟨?_, ?_⟩
  · intro a _w _hB hF hd
    have h30 : a.tmps.getD 30 undef = .bool false := hd.1 rfl
    exact rf_faddr (rf_open false rfl rfl h30) rfl _ _ _ rfl _ _ 2 _ ((hF.other 8 rfl).trans S.v8) (by omega) (fun _ _ => by kernel_rfl) rfl
  refine ⟨?_, ?_⟩
  · intro a _w _hB _hF hd
    have h30 : a.tmps.getD 30 undef = .bool false := hd.2.1 rfl
    have h33 : a.tmps.getD 33 undef = .pointer (some ⟨g, 2, none⟩) := hd.1 rfl
    exact rf_faddr (rf_open false rfl rfl h30) rfl _ _ _ rfl _ _ 4 _ h33 (by omega) (fun _ _ => by kernel_rfl) rfl
  refine ⟨?_, ?_⟩
  · intro a _w _hB _hF hd
    have h30 : a.tmps.getD 30 undef = .bool false := hd.2.1 rfl
    have h34 : a.tmps.getD 34 undef = .pointer (some ⟨g, 6, none⟩) := hd.1 rfl
    exact rf_faddr (rf_open false rfl rfl h30) rfl _ _ _ rfl _ _ 1 _ h34 (by omega) (fun _ _ => by kernel_rfl) rfl
  refine ⟨?_, ?_⟩
  · intro a _w hB _hF hd
    have h30 : a.tmps.getD 30 undef = .bool false := hd.2.1 rfl
    have h35 : a.tmps.getD 35 undef = .pointer (some ⟨g, 7, none⟩) := hd.1 rfl
    exact rf_loadi (rf_open false rfl rfl h30) rfl _ rfl _ _ h35 _ ((Has.cell (has_below S.box hB) 7).trans (sesC_7 _ _ _ _)) rfl
  refine ⟨?_, ?_⟩
  · intro a _w _hB _hF hd
    have h30 : a.tmps.getD 30 undef = .bool false := hd.2.2.1 rfl
    have h32 : a.tmps.getD 32 undef = .int .i64 s.f := hd.1 rfl
    have h36 : a.tmps.getD 36 undef = .int .i64 s.a.f.t := hd.2.1 rfl
    exact rf_neq (rf_open false rfl rfl h30) rfl _ _ rfl _ _ h32 h36 false S.e3 rfl
  refine ⟨?_, ?_⟩
  · intro a _w _hB _hF hd
    have h30 : a.tmps.getD 30 undef = .bool false := hd.1 rfl
    have h37 : a.tmps.getD 37 undef = .bool false := hd.2.1 rfl
    exact rf_pick (guard_none rfl) rfl _ _ _ rfl false h30 h37
  refine ⟨?_, ?_⟩
  · intro a _w _hB _hF hd
    have h38 : a.tmps.getD 38 undef = .bool false := hd.1 rfl
    exact step_move (guard_none rfl) rfl _ rfl h38
  refine ⟨?_, ?_⟩
  · intro a _w _hB hF hd
    have h39 : a.tmps.getD 39 undef = .bool false := hd.1 rfl
    exact rf_faddr (rf_open false rfl rfl h39) rfl _ _ _ rfl _ _ 1 _ ((hF.other 8 rfl).trans S.v8) (by omega) (fun _ _ => by kernel_rfl) rfl
  refine ⟨?_, ?_⟩
  · intro a _w hB _hF hd
    have h39 : a.tmps.getD 39 undef = .bool false := hd.2.1 rfl
    have h40 : a.tmps.getD 40 undef = .pointer (some ⟨g, 1, none⟩) := hd.1 rfl
    exact rf_loadi (rf_open false rfl rfl h39) rfl _ rfl _ _ h40 _ ((Has.cell (has_below S.box hB) 1).trans (sesC_1 _ _ _ _)) rfl
  refine ⟨?_, ?_⟩
  · intro a _w _hB hF hd
    have h39 : a.tmps.getD 39 undef = .bool false := hd.1 rfl
    exact rf_faddr (rf_open false rfl rfl h39) rfl _ _ _ rfl _ _ 2 _ ((hF.other 8 rfl).trans S.v8) (by omega) (fun _ _ => by kernel_rfl) rfl
  refine ⟨?_, ?_⟩
  · intro a _w _hB _hF hd
    have h39 : a.tmps.getD 39 undef = .bool false := hd.2.1 rfl
    have h42 : a.tmps.getD 42 undef = .pointer (some ⟨g, 2, none⟩) := hd.1 rfl
    exact rf_faddr (rf_open false rfl rfl h39) rfl _ _ _ rfl _ _ 8 _ h42 (by omega) (fun _ _ => by kernel_rfl) rfl
  refine ⟨?_, ?_⟩
  · intro a _w _hB _hF hd
    have h39 : a.tmps.getD 39 undef = .bool false := hd.2.1 rfl
    have h43 : a.tmps.getD 43 undef = .pointer (some ⟨g, 10, none⟩) := hd.1 rfl
    exact rf_faddr (rf_open false rfl rfl h39) rfl _ _ _ rfl _ _ 1 _ h43 (by omega) (fun _ _ => by kernel_rfl) rfl
  refine ⟨?_, ?_⟩
  · intro a _w hB _hF hd
    have h39 : a.tmps.getD 39 undef = .bool false := hd.2.1 rfl
    have h44 : a.tmps.getD 44 undef = .pointer (some ⟨g, 11, none⟩) := hd.1 rfl
    exact rf_loadi (rf_open false rfl rfl h39) rfl _ rfl _ _ h44 _ ((Has.cell (has_below S.box hB) 11).trans (sesC_11 _ _ _ _)) rfl
  refine ⟨?_, ?_⟩
  · intro a _w _hB _hF hd
    have h39 : a.tmps.getD 39 undef = .bool false := hd.2.2.1 rfl
    have h41 : a.tmps.getD 41 undef = .int .i64 s.l := hd.1 rfl
    have h45 : a.tmps.getD 45 undef = .int .i64 s.a.l.t := hd.2.1 rfl
    exact rf_neq (rf_open false rfl rfl h39) rfl _ _ rfl _ _ h41 h45 false S.e4 rfl
  refine ⟨?_, ?_⟩
  · intro a _w _hB _hF hd
    have h39 : a.tmps.getD 39 undef = .bool false := hd.1 rfl
    have h46 : a.tmps.getD 46 undef = .bool false := hd.2.1 rfl
    exact rf_pick (guard_none rfl) rfl _ _ _ rfl false h39 h46
  refine ⟨?_, ?_⟩
  · intro a _w _hB _hF hd
    have h47 : a.tmps.getD 47 undef = .bool false := hd.1 rfl
    exact step_move (guard_none rfl) rfl _ rfl h47
  refine ⟨?_, ?_⟩
  · intro a _w _hB hF hd
    have h48 : a.tmps.getD 48 undef = .bool false := hd.1 rfl
    exact rf_faddr (rf_open false rfl rfl h48) rfl _ _ _ rfl _ _ 2 _ ((hF.other 8 rfl).trans S.v8) (by omega) (fun _ _ => by kernel_rfl) rfl
  refine ⟨?_, ?_⟩
  · intro a _w _hB _hF hd
    have h48 : a.tmps.getD 48 undef = .bool false := hd.2.1 rfl
    have h49 : a.tmps.getD 49 undef = .pointer (some ⟨g, 2, none⟩) := hd.1 rfl
    exact rf_faddr (rf_open false rfl rfl h48) rfl _ _ _ rfl _ _ 4 _ h49 (by omega) (fun _ _ => by kernel_rfl) rfl
  refine ⟨?_, ?_⟩
  · intro a _w _hB _hF hd
    have h48 : a.tmps.getD 48 undef = .bool false := hd.2.1 rfl
    have h50 : a.tmps.getD 50 undef = .pointer (some ⟨g, 6, none⟩) := hd.1 rfl
    exact rf_faddr (rf_open false rfl rfl h48) rfl _ _ _ rfl _ _ 0 _ h50 (by omega) (fun _ _ => by kernel_rfl) rfl
  refine ⟨?_, ?_⟩
  · intro a _w hB _hF hd
    have h48 : a.tmps.getD 48 undef = .bool false := hd.2.1 rfl
    have h51 : a.tmps.getD 51 undef = .pointer (some ⟨g, 6, none⟩) := hd.1 rfl
    exact rf_loadi (rf_open false rfl rfl h48) rfl _ rfl _ _ h51 _ ((Has.cell (has_below S.box hB) 6).trans (sesC_6 _ _ _ _)) rfl
  refine ⟨?_, ?_⟩
  · intro a _w _hB hF hd
    have h48 : a.tmps.getD 48 undef = .bool false := hd.1 rfl
    exact step_move (rf_open false rfl rfl h48) rfl _ rfl ((hF.other 0 rfl).trans S.v0)
  refine ⟨?_, ?_⟩
  · intro a _w _hB _hF hd
    have h48 : a.tmps.getD 48 undef = .bool false := hd.2.1 rfl
    have h53 : a.tmps.getD 53 undef = .slice (some ⟨b, fo, none⟩) n r := hd.1 rfl
    exact rf_index (rf_open false rfl rfl h48) rfl _ _ _ rfl Try.underlying45 15 (fun _ => by kernel_rfl) _ _ _ _ 0 _ h53 rfl rfl (by have := S.hq; omega) (by rw [Nat.zero_mul, Nat.add_zero]; rfl)
  refine ⟨?_, ?_⟩
  · intro a _w _hB _hF hd
    have h48 : a.tmps.getD 48 undef = .bool false := hd.2.1 rfl
    have h54 : a.tmps.getD 54 undef = .pointer (some ⟨b, fo, none⟩) := hd.1 rfl
    exact rf_faddr (rf_open false rfl rfl h48) rfl _ _ _ rfl _ _ 2 _ h54 (by omega) (fun _ _ => by kernel_rfl) rfl
  refine ⟨?_, ?_⟩
  · intro a _w _hB _hF hd
    have h48 : a.tmps.getD 48 undef = .bool false := hd.2.1 rfl
    have h55 : a.tmps.getD 55 undef = .pointer (some ⟨b, fo + 2, none⟩) := hd.1 rfl
    exact rf_faddr (rf_open false rfl rfl h48) rfl _ _ _ rfl _ _ 4 _ h55 (by omega) (fun _ _ => by kernel_rfl) rfl
  refine ⟨?_, ?_⟩
  · intro a _w _hB _hF hd
    have h48 : a.tmps.getD 48 undef = .bool false := hd.2.1 rfl
    have h56 : a.tmps.getD 56 undef = .pointer (some ⟨b, fo + 2 + 4, none⟩) := hd.1 rfl
    exact rf_faddr (rf_open false rfl rfl h48) rfl _ _ _ rfl _ _ 0 _ h56 (by omega) (fun _ _ => by kernel_rfl) rfl
  refine ⟨?_, ?_⟩
  · intro a _w hB _hF hd
    have h48 : a.tmps.getD 48 undef = .bool false := hd.2.1 rfl
    have h57 : a.tmps.getD 57 undef = .pointer (some ⟨b, fo + 2 + 4, none⟩) := hd.1 rfl
    exact rf_loadi (rf_open false rfl rfl h48) rfl _ rfl _ _ h57 _ (rf_cell hB (S.zv.at_ 6 (sesC_6 _ _ _ _))) rfl
  refine ⟨?_, ?_⟩
  · intro a _w _hB _hF hd
    have h48 : a.tmps.getD 48 undef = .bool false := hd.2.2.1 rfl
    have h52 : a.tmps.getD 52 undef = .int .i64 s.a.f.s := hd.1 rfl
    have h58 : a.tmps.getD 58 undef = .int .i64 z.a.f.s := hd.2.1 rfl
    exact rf_neq (rf_open false rfl rfl h48) rfl _ _ rfl _ _ h52 h58 false S.e5 rfl
  refine ⟨?_, ?_⟩
  · intro a _w _hB _hF hd
    have h48 : a.tmps.getD 48 undef = .bool false := hd.1 rfl
    have h59 : a.tmps.getD 59 undef = .bool false := hd.2.1 rfl
    exact rf_pick (guard_none rfl) rfl _ _ _ rfl false h48 h59
  trivial
theorem rs5_any {Q : Exit → Act → World → Prop} {l : List Oper} (hl : opsOf 5 Try.f31 = l) (hend : ∀ w : World, Below w0.heap.size w0 w → Q .normal (putAll a0 [(19, .pointer (some ⟨g, 2, none⟩)), (20, .agg (accC s.a A k c)), (21, .slice B m d), (22, .bool true), (23, .bool false), (24, .bool false), (25, .pointer (some ⟨g, 2, none⟩)), (26, .pointer (some ⟨g, 2, none⟩)), (27, .int .i64 s.a.n), (28, .bool false), (29, .bool false), (30, .bool false), (31, .pointer (some ⟨g, 0, none⟩)), (32, .int .i64 s.f), (33, .pointer (some ⟨g, 2, none⟩)), (34, .pointer (some ⟨g, 6, none⟩)), (35, .pointer (some ⟨g, 7, none⟩)), (36, .int .i64 s.a.f.t), (37, .bool false), (38, .bool false), (39, .bool false), (40, .pointer (some ⟨g, 1, none⟩)), (41, .int .i64 s.l), (42, .pointer (some ⟨g, 2, none⟩)), (43, .pointer (some ⟨g, 10, none⟩)), (44, .pointer (some ⟨g, 11, none⟩)), (45, .int .i64 s.a.l.t), (46, .bool false), (47, .bool false), (48, .bool false), (49, .pointer (some ⟨g, 2, none⟩)), (50, .pointer (some ⟨g, 6, none⟩)), (51, .pointer (some ⟨g, 6, none⟩)), (52, .int .i64 s.a.f.s), (53, .slice (some ⟨b, fo, none⟩) n r), (54, .pointer (some ⟨b, fo, none⟩)), (55, .pointer (some ⟨b, fo + 2, none⟩)), (56, .pointer (some ⟨b, fo + 2 + 4, none⟩)), (57, .pointer (some ⟨b, fo + 2 + 4, none⟩)), (58, .int .i64 z.a.f.s), (59, .bool false), (60, .bool false)]) w) :
    (Code.region 5 l.toArray true).wp Try.prog Q a0 w0 := by
  subst hl
  refine region_facts2 (rs5F s z A Z B C k c m d zk zc e g b fo n r q bs) rs5D 86 S.size rfl (by kernel_rfl) (by kernel_rfl) (rs5F_mono _ _ _ _ _ _ _ _ _ _ _ _ _ _ _ _ _ _ _ _) (rs5_ok S) fun a w hB hF h => ?_
  have hv : valsAre a [(19, .pointer (some ⟨g, 2, none⟩)), (20, .agg (accC s.a A k c)), (21, .slice B m d), (22, .bool true), (23, .bool false), (24, .bool false), (25, .pointer (some ⟨g, 2, none⟩)), (26, .pointer (some ⟨g, 2, none⟩)), (27, .int .i64 s.a.n), (28, .bool false), (29, .bool false), (30, .bool false), (31, .pointer (some ⟨g, 0, none⟩)), (32, .int .i64 s.f), (33, .pointer (some ⟨g, 2, none⟩)), (34, .pointer (some ⟨g, 6, none⟩)), (35, .pointer (some ⟨g, 7, none⟩)), (36, .int .i64 s.a.f.t), (37, .bool false), (38, .bool false), (39, .bool false), (40, .pointer (some ⟨g, 1, none⟩)), (41, .int .i64 s.l), (42, .pointer (some ⟨g, 2, none⟩)), (43, .pointer (some ⟨g, 10, none⟩)), (44, .pointer (some ⟨g, 11, none⟩)), (45, .int .i64 s.a.l.t), (46, .bool false), (47, .bool false), (48, .bool false), (49, .pointer (some ⟨g, 2, none⟩)), (50, .pointer (some ⟨g, 6, none⟩)), (51, .pointer (some ⟨g, 6, none⟩)), (52, .int .i64 s.a.f.s), (53, .slice (some ⟨b, fo, none⟩) n r), (54, .pointer (some ⟨b, fo, none⟩)), (55, .pointer (some ⟨b, fo + 2, none⟩)), (56, .pointer (some ⟨b, fo + 2 + 4, none⟩)), (57, .pointer (some ⟨b, fo + 2 + 4, none⟩)), (58, .int .i64 z.a.f.s), (59, .bool false), (60, .bool false)] := by
    refine ⟨?_, ?_, ?_, ?_, ?_, ?_, ?_, ?_, ?_, ?_, ?_, ?_, ?_, ?_, ?_, ?_, ?_, ?_, ?_, ?_, ?_, ?_, ?_, ?_, ?_, ?_, ?_, ?_, ?_, ?_, ?_, ?_, ?_, ?_, ?_, ?_, ?_, ?_, ?_, ?_, ?_, ?_, trivial⟩
    · exact h 0 (some 19) rfl
    · exact h 1 (some 20) rfl
    · exact h 2 (some 21) rfl
    · exact h 3 (some 22) rfl
    · exact h 4 (some 23) rfl
    · exact h 5 (some 24) rfl
    · exact h 6 (some 25) rfl
    · exact h 7 (some 26) rfl
    · exact h 8 (some 27) rfl
    · exact h 9 (some 28) rfl
    · exact h 10 (some 29) rfl
    · exact h 11 (some 30) rfl
    · exact h 12 (some 31) rfl
    · exact h 13 (some 32) rfl
    · exact h 14 (some 33) rfl
    · exact h 15 (some 34) rfl
    · exact h 16 (some 35) rfl
    · exact h 17 (some 36) rfl
    · exact h 18 (some 37) rfl
    · exact h 19 (some 38) rfl
    · exact h 20 (some 39) rfl
    · exact h 21 (some 40) rfl
    · exact h 22 (some 41) rfl
    · exact h 23 (some 42) rfl
    · exact h 24 (some 43) rfl
    · exact h 25 (some 44) rfl
    · exact h 26 (some 45) rfl
    · exact h 27 (some 46) rfl
    · exact h 28 (some 47) rfl
    · exact h 29 (some 48) rfl
    · exact h 30 (some 49) rfl
    · exact h 31 (some 50) rfl
    · exact h 32 (some 51) rfl
    · exact h 33 (some 52) rfl
    · exact h 34 (some 53) rfl
    · exact h 35 (some 54) rfl
    · exact h 36 (some 55) rfl
    · exact h 37 (some 56) rfl
    · exact h 38 (some 57) rfl
    · exact h 39 (some 58) rfl
    · exact h 40 (some 59) rfl
    · exact h 41 (some 60) rfl
  rw [frame_is hF _ hv (by rfl) (by rfl)]
  exact hend w hB
end

def rt0D : List (Option Tmp) := [some 61, some 62, some 63, some 64, some 65, some 66, some 67, some 68, some 69, some 70, some 71, some 72, some 73, some 74, some 75]
def rt0F (_s _p : Se) (_A _C _P : Option Addr) (_k _c _pk _pc _g _b _fo _n _r q : Nat) (_gap : Int) : List Fact := [isV (.int .i64 q), isV (.bool false), isV (.bool false), isV (undef), isV (undef), isV (undef), isV (undef), isV (undef), isV (undef), isV (undef), isV (undef), isV (undef), isV (undef), isV (undef), isV (.bool false)]
theorem rt0F_mono (s p : Se) (A C P : Option Addr) (k c pk pc g b fo n r q : Nat) (gap : Int) : ∀ φ ∈ rt0F s p A C P k c pk pc g b fo n r q gap, Mono φ := by
  unfold rt0F
  repeat (first | exact monos_nil | (refine monos_cons (mono_isV _) ?_))
structure rt0S (s p : Se) (A C P : Option Addr) (k c pk pc g b fo n r q : Nat) (gap : Int) (a0 : Act) (w0 : World) : Prop where
  size : a0.tmps.size = 86
  v7 : a0.tmps.getD 7 undef = .int .i64 q
  box : Has w0 g 60 (sesC s A k c)
  hq : q = 0
section
variable {s p : Se} {A C P : Option Addr} {k c pk pc g b fo n r q : Nat} {gap : Int} {a0 : Act} {w0 : World} (S : rt0S s p A C P k c pk pc g b fo n r q gap a0 w0)
include S
set_option maxRecDepth 100000 in
set_option maxHeartbeats 8000000 in
theorem rt0_ok : AllOps (fun j o => ∀ (a : Act) (w : World), Below w0.heap.size w0 w → FrD rt0D a0 a → needs rt0D (rt0F s p A C P k c pk pc g b fo n r q gap) a w o.after.toList → StepD Try.prog rt0D (factAt (rt0F s p A C P k c pk pc g b fo n r q gap) j) o a w) 0 (opsOf 7 Try.f31) := by
  simp only [opsOf, Try.f31, opsAt, Option.bind, Option.or, Option.getD, reduceCtorEq, if_true, if_false, Nat.reduceEqDiff]
  refine ⟨?_, ?_⟩
  · intro _a _w _hB hF _hd
    exact step_move (guard_none rfl) rfl _ rfl ((hF.other 7 rfl).trans S.v7)
  refine ⟨?_, ?_⟩
  · intro a _w _hB _hF hd
    have h61 : a.tmps.getD 61 undef = .int .i64 q := hd.1 rfl
    exact rf_gtr (guard_none rfl) rfl _ _ rfl _ _ h61 rfl false (decide_eq_false (by have := S.hq; omega)) rfl
  refine ⟨?_, ?_⟩
  · intro a _w _hB _hF hd
    have h62 : a.tmps.getD 62 undef = .bool false := hd.1 rfl
    exact step_move (guard_none rfl) rfl _ rfl h62
  refine ⟨?_, ?_⟩
  · intro a _w _hB _hF hd
    have h63 : a.tmps.getD 63 undef = .bool false := hd.1 rfl
    exact rf_shut true rfl rfl h63 rfl
  refine ⟨?_, ?_⟩
  · intro a _w _hB _hF hd
    have h63 : a.tmps.getD 63 undef = .bool false := hd.2.1 rfl
    exact rf_shut true rfl rfl h63 rfl
  refine ⟨?_, ?_⟩
  · intro a _w _hB _hF hd
    have h63 : a.tmps.getD 63 undef = .bool false := hd.1 rfl
    exact rf_shut true rfl rfl h63 rfl
  refine ⟨?_, ?_⟩
  · intro a _w _hB _hF hd
    have h63 : a.tmps.getD 63 undef = .bool false := hd.1 rfl
    exact rf_shut true rfl rfl h63 rfl
  refine ⟨?_, ?_⟩
  · intro a _w _hB _hF hd
    have h63 : a.tmps.getD 63 undef = .bool false := hd.2.1 rfl
    exact rf_shut true rfl rfl h63 rfl
  refine ⟨?_, ?_⟩
  · intro a _w _hB _hF hd
    have h63 : a.tmps.getD 63 undef = .bool false := hd.2.2.1 rfl
    exact rf_shut true rfl rfl h63 rfl
  refine ⟨?_, ?_⟩
  · intro a _w _hB _hF hd
    have h63 : a.tmps.getD 63 undef = .bool false := hd.2.1 rfl
    exact rf_shut true rfl rfl h63 rfl
  refine ⟨?_, ?_⟩
  · intro a _w _hB _hF hd
    have h63 : a.tmps.getD 63 undef = .bool false := hd.2.1 rfl
    exact rf_shut true rfl rfl h63 rfl
  refine ⟨?_, ?_⟩
  · intro a _w _hB _hF hd
    have h63 : a.tmps.getD 63 undef = .bool false := hd.2.2.1 rfl
    exact rf_shut true rfl rfl h63 rfl
  refine ⟨?_, ?_⟩
  · intro a _w _hB _hF hd
    have h63 : a.tmps.getD 63 undef = .bool false := hd.1 rfl
    exact rf_shut true rfl rfl h63 rfl
  refine ⟨?_, ?_⟩
  · intro a _w _hB _hF hd
    have h63 : a.tmps.getD 63 undef = .bool false := hd.2.2.1 rfl
    exact rf_shut true rfl rfl h63 rfl
  refine ⟨?_, ?_⟩
  · intro a _w _hB _hF hd
    have h63 : a.tmps.getD 63 undef = .bool false := hd.1 rfl
    exact rf_pick (guard_none rfl) rfl _ _ _ rfl false h63 rfl
  trivial
theorem rt0_any {Q : Exit → Act → World → Prop} {l : List Oper} (hl : opsOf 7 Try.f31 = l) (hend : ∀ w : World, Below w0.heap.size w0 w → Q .normal (putAll a0 [(61, .int .i64 q), (62, .bool false), (63, .bool false), (64, undef), (65, undef), (66, undef), (67, undef), (68, undef), (69, undef), (70, undef), (71, undef), (72, undef), (73, undef), (74, undef), (75, .bool false)]) w) :
    (Code.region 7 l.toArray true).wp Try.prog Q a0 w0 := by
  subst hl
  refine region_facts2 (rt0F s p A C P k c pk pc g b fo n r q gap) rt0D 86 S.size rfl (by kernel_rfl) (by kernel_rfl) (rt0F_mono _ _ _ _ _ _ _ _ _ _ _ _ _ _ _ _) (rt0_ok S) fun a w hB hF h => ?_
  have hv : valsAre a [(61, .int .i64 q), (62, .bool false), (63, .bool false), (64, undef), (65, undef), (66, undef), (67, undef), (68, undef), (69, undef), (70, undef), (71, undef), (72, undef), (73, undef), (74, undef), (75, .bool false)] := by
    refine ⟨?_, ?_, ?_, ?_, ?_, ?_, ?_, ?_, ?_, ?_, ?_, ?_, ?_, ?_, ?_, trivial⟩
    · exact h 0 (some 61) rfl
    · exact h 1 (some 62) rfl
    · exact h 2 (some 63) rfl
    · exact h 3 (some 64) rfl
    · exact h 4 (some 65) rfl
    · exact h 5 (some 66) rfl
    · exact h 6 (some 67) rfl
    · exact h 7 (some 68) rfl
    · exact h 8 (some 69) rfl
    · exact h 9 (some 70) rfl
    · exact h 10 (some 71) rfl
    · exact h 11 (some 72) rfl
    · exact h 12 (some 73) rfl
    · exact h 13 (some 74) rfl
    · exact h 14 (some 75) rfl
  rw [frame_is hF _ hv (by rfl) (by rfl)]
  exact hend w hB
end

def rt1D : List (Option Tmp) := [some 61, some 62, some 63, some 64, some 65, some 66, some 67, some 68, some 69, some 70, some 71, some 72, some 73, some 74, some 75]
def rt1F (s p : Se) (_A _C _P : Option Addr) (_k _c _pk _pc g b fo n r q : Nat) (gap : Int) : List Fact := [isV (.int .i64 q), isV (.bool true), isV (.bool true), isV (.pointer (some ⟨g, 0, none⟩)), isV (.int .i64 s.f), isV (.slice (some ⟨b, fo, none⟩) n r), isV (.int .i64 q), isV (.int .i64 (q - 1)), isV (.pointer (some ⟨b, fo + (q - 1) * 15, none⟩)), isV (.pointer (some ⟨b, fo + (q - 1) * 15 + 1, none⟩)), isV (.int .i64 p.l), isV (.int .i64 (s.f - p.l)), isV (.int .i64 gap), isV (.bool true), isV (.bool true)]
theorem rt1F_mono (s p : Se) (A C P : Option Addr) (k c pk pc g b fo n r q : Nat) (gap : Int) : ∀ φ ∈ rt1F s p A C P k c pk pc g b fo n r q gap, Mono φ := by
  unfold rt1F
  repeat (first | exact monos_nil | (refine monos_cons (mono_isV _) ?_))
structure rt1S (s p : Se) (A C P : Option Addr) (k c pk pc g b fo n r q : Nat) (gap : Int) (a0 : Act) (w0 : World) : Prop where
  size : a0.tmps.size = 86
  v0 : a0.tmps.getD 0 undef = .slice (some ⟨b, fo, none⟩) n r
  v1 : a0.tmps.getD 1 undef = .int .i64 gap
  v7 : a0.tmps.getD 7 undef = .int .i64 q
  v8 : a0.tmps.getD 8 undef = .pointer (some ⟨g, 0, none⟩)
  box : Has w0 g 60 (sesC s A k c)
  hq : 0 < q ∧ q < n ∧ n ≤ 1000000000
  pv : SesAt w0 b (fo + (q - 1) * 15) p P pk pc
  hs : -1099511627776 ≤ s.f ∧ s.f ≤ 1099511627776
  hp : -1099511627776 ≤ p.l ∧ p.l ≤ 1099511627776
  e2 : decide (s.f - p.l < gap) = true
section
variable {s p : Se} {A C P : Option Addr} {k c pk pc g b fo n r q : Nat} {gap : Int} {a0 : Act} {w0 : World} (S : rt1S s p A C P k c pk pc g b fo n r q gap a0 w0)
include S
set_option maxRecDepth 100000 in
set_option maxHeartbeats 8000000 in
theorem rt1_ok : AllOps (fun j o => ∀ (a : Act) (w : World), Below w0.heap.size w0 w → FrD rt1D a0 a → needs rt1D (rt1F s p A C P k c pk pc g b fo n r q gap) a w o.after.toList → StepD Try.prog rt1D (factAt (rt1F s p A C P k c pk pc g b fo n r q gap) j) o a w) 0 (opsOf 7 Try.f31) := by
  simp only [opsOf, Try.f31, opsAt, Option.bind, Option.or, Option.getD, reduceCtorEq, if_true, if_false, Nat.reduceEqDiff]
  refine ⟨?_, ?_⟩
  · intro _a _w _hB hF _hd
    exact step_move (guard_none rfl) rfl _ rfl ((hF.other 7 rfl).trans S.v7)
  refine ⟨?_, ?_⟩
  · intro a _w _hB _hF hd
    have h61 : a.tmps.getD 61 undef = .int .i64 q := hd.1 rfl
    exact rf_gtr (guard_none rfl) rfl _ _ rfl _ _ h61 rfl true (decide_eq_true (by have := S.hq; omega)) rfl
  refine ⟨?_, ?_⟩
  · intro a _w _hB _hF hd
    have h62 : a.tmps.getD 62 undef = .bool true := hd.1 rfl
    exact step_move (guard_none rfl) rfl _ rfl h62
  refine ⟨?_, ?_⟩
  · intro a _w _hB hF hd
    have h63 : a.tmps.getD 63 undef = .bool true := hd.1 rfl
    exact rf_faddr (rf_open true rfl rfl h63) rfl _ _ _ rfl _ _ 0 _ ((hF.other 8 rfl).trans S.v8) (by omega) (fun _ _ => by kernel_rfl) rfl
  refine ⟨?_, ?_⟩
  · intro a _w hB _hF hd
    have h63 : a.tmps.getD 63 undef = .bool true := hd.2.1 rfl
    have h64 : a.tmps.getD 64 undef = .pointer (some ⟨g, 0, none⟩) := hd.1 rfl
    exact rf_loadi (rf_open true rfl rfl h63) rfl _ rfl _ _ h64 _ ((Has.cell (has_below S.box hB) 0).trans (sesC_0 _ _ _ _)) rfl
  refine ⟨?_, ?_⟩
  · intro a _w _hB hF hd
    have h63 : a.tmps.getD 63 undef = .bool true := hd.1 rfl
    exact step_move (rf_open true rfl rfl h63) rfl _ rfl ((hF.other 0 rfl).trans S.v0)
  refine ⟨?_, ?_⟩
  · intro a _w _hB hF hd
    have h63 : a.tmps.getD 63 undef = .bool true := hd.1 rfl
    exact step_move (rf_open true rfl rfl h63) rfl _ rfl ((hF.other 7 rfl).trans S.v7)
  refine ⟨?_, ?_⟩
  · intro a _w _hB _hF hd
    have h63 : a.tmps.getD 63 undef = .bool true := hd.2.1 rfl
    have h67 : a.tmps.getD 67 undef = .int .i64 q := hd.1 rfl
    exact rf_sub (rf_open true rfl rfl h63) rfl _ _ rfl _ _ h67 rfl (by have := S.hq; omega) (by have := S.hq; omega) rfl
  refine ⟨?_, ?_⟩
  · intro a _w _hB _hF hd
    have h63 : a.tmps.getD 63 undef = .bool true := hd.2.2.1 rfl
    have h66 : a.tmps.getD 66 undef = .slice (some ⟨b, fo, none⟩) n r := hd.1 rfl
    have h68 : a.tmps.getD 68 undef = .int .i64 (q - 1) := hd.2.1 rfl
    exact rf_index (rf_open true rfl rfl h63) rfl _ _ _ rfl Try.underlying45 15 (fun _ => by kernel_rfl) _ _ _ _ (q - 1) _ h66 h68 (by have := S.hq; omega) (by have := S.hq; omega) rfl
  refine ⟨?_, ?_⟩
  · intro a _w _hB _hF hd
    have h63 : a.tmps.getD 63 undef = .bool true := hd.2.1 rfl
    have h69 : a.tmps.getD 69 undef = .pointer (some ⟨b, fo + (q - 1) * 15, none⟩) := hd.1 rfl
    exact rf_faddr (rf_open true rfl rfl h63) rfl _ _ _ rfl _ _ 1 _ h69 (by omega) (fun _ _ => by kernel_rfl) rfl
  refine ⟨?_, ?_⟩
  · intro a _w hB _hF hd
    have h63 : a.tmps.getD 63 undef = .bool true := hd.2.1 rfl
    have h70 : a.tmps.getD 70 undef = .pointer (some ⟨b, fo + (q - 1) * 15 + 1, none⟩) := hd.1 rfl
    exact rf_loadi (rf_open true rfl rfl h63) rfl _ rfl _ _ h70 _ (rf_cell hB (S.pv.at_ 1 (sesC_1 _ _ _ _))) rfl
  refine ⟨?_, ?_⟩
  · intro a _w _hB _hF hd
    have h63 : a.tmps.getD 63 undef = .bool true := hd.2.2.1 rfl
    have h65 : a.tmps.getD 65 undef = .int .i64 s.f := hd.1 rfl
    have h71 : a.tmps.getD 71 undef = .int .i64 p.l := hd.2.1 rfl
    exact rf_sub (rf_open true rfl rfl h63) rfl _ _ rfl _ _ h65 h71 (by have := S.hs; have := S.hp; omega) (by have := S.hs; have := S.hp; omega) rfl
  refine ⟨?_, ?_⟩
  · intro a _w _hB hF hd
    have h63 : a.tmps.getD 63 undef = .bool true := hd.1 rfl
    exact step_move (rf_open true rfl rfl h63) rfl _ rfl ((hF.other 1 rfl).trans S.v1)
  refine ⟨?_, ?_⟩
  · intro a _w _hB _hF hd
    have h63 : a.tmps.getD 63 undef = .bool true := hd.2.2.1 rfl
    have h72 : a.tmps.getD 72 undef = .int .i64 (s.f - p.l) := hd.1 rfl
    have h73 : a.tmps.getD 73 undef = .int .i64 gap := hd.2.1 rfl
    exact rf_lss (rf_open true rfl rfl h63) rfl _ _ rfl _ _ h72 h73 true S.e2 rfl
  refine ⟨?_, ?_⟩
  · intro a _w _hB _hF hd
    have h63 : a.tmps.getD 63 undef = .bool true := hd.1 rfl
    have h74 : a.tmps.getD 74 undef = .bool true := hd.2.1 rfl
    exact rf_pick (guard_none rfl) rfl _ _ _ rfl true h63 h74
  trivial
theorem rt1_any {Q : Exit → Act → World → Prop} {l : List Oper} (hl : opsOf 7 Try.f31 = l) (hend : ∀ w : World, Below w0.heap.size w0 w → Q .normal (putAll a0 [(61, .int .i64 q), (62, .bool true), (63, .bool true), (64, .pointer (some ⟨g, 0, none⟩)), (65, .int .i64 s.f), (66, .slice (some ⟨b, fo, none⟩) n r), (67, .int .i64 q), (68, .int .i64 (q - 1)), (69, .pointer (some ⟨b, fo + (q - 1) * 15, none⟩)), (70, .pointer (some ⟨b, fo + (q - 1) * 15 + 1, none⟩)), (71, .int .i64 p.l), (72, .int .i64 (s.f - p.l)), (73, .int .i64 gap), (74, .bool true), (75, .bool true)]) w) :
    (Code.region 7 l.toArray true).wp Try.prog Q a0 w0 := by
  subst hl
  refine region_facts2 (rt1F s p A C P k c pk pc g b fo n r q gap) rt1D 86 S.size rfl (by kernel_rfl) (by kernel_rfl) (rt1F_mono _ _ _ _ _ _ _ _ _ _ _ _ _ _ _ _) (rt1_ok S) fun a w hB hF h => ?_
  have hv : valsAre a [(61, .int .i64 q), (62, .bool true), (63, .bool true), (64, .pointer (some ⟨g, 0, none⟩)), (65, .int .i64 s.f), (66, .slice (some ⟨b, fo, none⟩) n r), (67, .int .i64 q), (68, .int .i64 (q - 1)), (69, .pointer (some ⟨b, fo + (q - 1) * 15, none⟩)), (70, .pointer (some ⟨b, fo + (q - 1) * 15 + 1, none⟩)), (71, .int .i64 p.l), (72, .int .i64 (s.f - p.l)), (73, .int .i64 gap), (74, .bool true), (75, .bool true)] := by
    refine ⟨?_, ?_, ?_, ?_, ?_, ?_, ?_, ?_, ?_, ?_, ?_, ?_, ?_, ?_, ?_, trivial⟩
    · exact h 0 (some 61) rfl
    · exact h 1 (some 62) rfl
    · exact h 2 (some 63) rfl
    · exact h 3 (some 64) rfl
    · exact h 4 (some 65) rfl
    · exact h 5 (some 66) rfl
    · exact h 6 (some 67) rfl
    · exact h 7 (some 68) rfl
    · exact h 8 (some 69) rfl
    · exact h 9 (some 70) rfl
    · exact h 10 (some 71) rfl
    · exact h 11 (some 72) rfl
    · exact h 12 (some 73) rfl
    · exact h 13 (some 74) rfl
    · exact h 14 (some 75) rfl
  rw [frame_is hF _ hv (by rfl) (by rfl)]
  exact hend w hB
end

def rt2D : List (Option Tmp) := [some 61, some 62, some 63, some 64, some 65, some 66, some 67, some 68, some 69, some 70, some 71, some 72, some 73, some 74, some 75]
def rt2F (s p : Se) (_A _C _P : Option Addr) (_k _c _pk _pc g b fo n r q : Nat) (gap : Int) : List Fact := [isV (.int .i64 q), isV (.bool true), isV (.bool true), isV (.pointer (some ⟨g, 0, none⟩)), isV (.int .i64 s.f), isV (.slice (some ⟨b, fo, none⟩) n r), isV (.int .i64 q), isV (.int .i64 (q - 1)), isV (.pointer (some ⟨b, fo + (q - 1) * 15, none⟩)), isV (.pointer (some ⟨b, fo + (q - 1) * 15 + 1, none⟩)), isV (.int .i64 p.l), isV (.int .i64 (s.f - p.l)), isV (.int .i64 gap), isV (.bool false), isV (.bool false)]
theorem rt2F_mono (s p : Se) (A C P : Option Addr) (k c pk pc g b fo n r q : Nat) (gap : Int) : ∀ φ ∈ rt2F s p A C P k c pk pc g b fo n r q gap, Mono φ := by
  unfold rt2F
  repeat (first | exact monos_nil | (refine monos_cons (mono_isV _) ?_))
structure rt2S (s p : Se) (A C P : Option Addr) (k c pk pc g b fo n r q : Nat) (gap : Int) (a0 : Act) (w0 : World) : Prop where
  size : a0.tmps.size = 86
  v0 : a0.tmps.getD 0 undef = .slice (some ⟨b, fo, none⟩) n r
  v1 : a0.tmps.getD 1 undef = .int .i64 gap
  v7 : a0.tmps.getD 7 undef = .int .i64 q
  v8 : a0.tmps.getD 8 undef = .pointer (some ⟨g, 0, none⟩)
  box : Has w0 g 60 (sesC s A k c)
  hq : 0 < q ∧ q < n ∧ n ≤ 1000000000
  pv : SesAt w0 b (fo + (q - 1) * 15) p P pk pc
  hs : -1099511627776 ≤ s.f ∧ s.f ≤ 1099511627776
  hp : -1099511627776 ≤ p.l ∧ p.l ≤ 1099511627776
  e2 : decide (s.f - p.l < gap) = false
section
variable {s p : Se} {A C P : Option Addr} {k c pk pc g b fo n r q : Nat} {gap : Int} {a0 : Act} {w0 : World} (S : rt2S s p A C P k c pk pc g b fo n r q gap a0 w0)
include S
set_option maxRecDepth 100000 in
set_option maxHeartbeats 8000000 in
theorem rt2_ok : AllOps (fun j o => ∀ (a : Act) (w : World), Below w0.heap.size w0 w → FrD rt2D a0 a → needs rt2D (rt2F s p A C P k c pk pc g b fo n r q gap) a w o.after.toList → StepD Try.prog rt2D (factAt (rt2F s p A C P k c pk pc g b fo n r q gap) j) o a w) 0 (opsOf 7 Try.f31) := by
  simp only [opsOf, Try.f31, opsAt, Option.bind, Option.or, Option.getD, reduceCtorEq, if_true, if_false, Nat.reduceEqDiff]
  refine ⟨?_, ?_⟩
  · intro _a _w _hB hF _hd
    exact step_move (guard_none rfl) rfl _ rfl ((hF.other 7 rfl).trans S.v7)
  refine ⟨?_, ?_⟩
  · intro a _w _hB _hF hd
    have h61 : a.tmps.getD 61 undef = .int .i64 q := hd.1 rfl
    exact rf_gtr (guard_none rfl) rfl _ _ rfl _ _ h61 rfl true (decide_eq_true (by have := S.hq; omega)) rfl
  refine ⟨?_, ?_⟩
  · intro a _w _hB _hF hd
    have h62 : a.tmps.getD 62 undef = .bool true := hd.1 rfl
    exact step_move (guard_none rfl) rfl _ rfl h62
  refine ⟨?_, ?_⟩
  · intro a _w _hB hF hd
    have h63 : a.tmps.getD 63 undef = .bool true := hd.1 rfl
    exact rf_faddr (rf_open true rfl rfl h63) rfl _ _ _ rfl _ _ 0 _ ((hF.other 8 rfl).trans S.v8) (by omega) (fun _ _ => by kernel_rfl) rfl
  refine ⟨?_, ?_⟩
  · intro a _w hB _hF hd
    have h63 : a.tmps.getD 63 undef = .bool true := hd.2.1 rfl
    have h64 : a.tmps.getD 64 undef = .pointer (some ⟨g, 0, none⟩) := hd.1 rfl
    exact rf_loadi (rf_open true rfl rfl h63) rfl _ rfl _ _ h64 _ ((Has.cell (has_below S.box hB) 0).trans (sesC_0 _ _ _ _)) rfl
  refine ⟨?_, ?_⟩
  · intro a _w _hB hF hd
    have h63 : a.tmps.getD 63 undef = .bool true := hd.1 rfl
    exact step_move (rf_open true rfl rfl h63) rfl _ rfl ((hF.other 0 rfl).trans S.v0)
  refine ⟨?_, ?_⟩
  · intro a _w _hB hF hd
    have h63 : a.tmps.getD 63 undef = .bool true := hd.1 rfl
    exact step_move (rf_open true rfl rfl h63) rfl _ rfl ((hF.other 7 rfl).trans S.v7)
  refine ⟨?_, ?_⟩
  · intro a _w _hB _hF hd
    have h63 : a.tmps.getD 63 undef = .bool true := hd.2.1 rfl
    have h67 : a.tmps.getD 67 undef = .int .i64 q := hd.1 rfl
    exact rf_sub (rf_open true rfl rfl h63) rfl _ _ rfl _ _ h67 rfl (by have := S.hq; omega) (by have := S.hq; omega) rfl
  refine ⟨?_, ?_⟩
  · intro a _w _hB _hF hd
    have h63 : a.tmps.getD 63 undef = .bool true := hd.2.2.1 rfl
    have h66 : a.tmps.getD 66 undef = .slice (some ⟨b, fo, none⟩) n r := hd.1 rfl
    have h68 : a.tmps.getD 68 undef = .int .i64 (q - 1) := hd.2.1 rfl
    exact rf_index (rf_open true rfl rfl h63) rfl _ _ _ rfl Try.underlying45 15 (fun _ => by kernel_rfl) _ _ _ _ (q - 1) _ h66 h68 (by have := S.hq; omega) (by have := S.hq; omega) rfl
  refine ⟨?_, ?_⟩
  · intro a _w _hB _hF hd
    have h63 : a.tmps.getD 63 undef = .bool true := hd.2.1 rfl
    have h69 : a.tmps.getD 69 undef = .pointer (some ⟨b, fo + (q - 1) * 15, none⟩) := hd.1 rfl
    exact rf_faddr (rf_open true rfl rfl h63) rfl _ _ _ rfl _ _ 1 _ h69 (by omega) (fun _ _ => by kernel_rfl) rfl
  refine ⟨?_, ?_⟩
  · intro a _w hB _hF hd
    have h63 : a.tmps.getD 63 undef = .bool true := hd.2.1 rfl
    have h70 : a.tmps.getD 70 undef = .pointer (some ⟨b, fo + (q - 1) * 15 + 1, none⟩) := hd.1 rfl
    exact rf_loadi (rf_open true rfl rfl h63) rfl _ rfl _ _ h70 _ (rf_cell hB (S.pv.at_ 1 (sesC_1 _ _ _ _))) rfl
  refine ⟨?_, ?_⟩
  · intro a _w _hB _hF hd
    have h63 : a.tmps.getD 63 undef = .bool true := hd.2.2.1 rfl
    have h65 : a.tmps.getD 65 undef = .int .i64 s.f := hd.1 rfl
    have h71 : a.tmps.getD 71 undef = .int .i64 p.l := hd.2.1 rfl
    exact rf_sub (rf_open true rfl rfl h63) rfl _ _ rfl _ _ h65 h71 (by have := S.hs; have := S.hp; omega) (by have := S.hs; have := S.hp; omega) rfl
  refine ⟨?_, ?_⟩
  · intro a _w _hB hF hd
    have h63 : a.tmps.getD 63 undef = .bool true := hd.1 rfl
    exact step_move (rf_open true rfl rfl h63) rfl _ rfl ((hF.other 1 rfl).trans S.v1)
  refine ⟨?_, ?_⟩
  · intro a _w _hB _hF hd
    have h63 : a.tmps.getD 63 undef = .bool true := hd.2.2.1 rfl
    have h72 : a.tmps.getD 72 undef = .int .i64 (s.f - p.l) := hd.1 rfl
    have h73 : a.tmps.getD 73 undef = .int .i64 gap := hd.2.1 rfl
    exact rf_lss (rf_open true rfl rfl h63) rfl _ _ rfl _ _ h72 h73 false S.e2 rfl
  refine ⟨?_, ?_⟩
  · intro a _w _hB _hF hd
    have h63 : a.tmps.getD 63 undef = .bool true := hd.1 rfl
    have h74 : a.tmps.getD 74 undef = .bool false := hd.2.1 rfl
    exact rf_pick (guard_none rfl) rfl _ _ _ rfl true h63 h74
  trivial
theorem rt2_any {Q : Exit → Act → World → Prop} {l : List Oper} (hl : opsOf 7 Try.f31 = l) (hend : ∀ w : World, Below w0.heap.size w0 w → Q .normal (putAll a0 [(61, .int .i64 q), (62, .bool true), (63, .bool true), (64, .pointer (some ⟨g, 0, none⟩)), (65, .int .i64 s.f), (66, .slice (some ⟨b, fo, none⟩) n r), (67, .int .i64 q), (68, .int .i64 (q - 1)), (69, .pointer (some ⟨b, fo + (q - 1) * 15, none⟩)), (70, .pointer (some ⟨b, fo + (q - 1) * 15 + 1, none⟩)), (71, .int .i64 p.l), (72, .int .i64 (s.f - p.l)), (73, .int .i64 gap), (74, .bool false), (75, .bool false)]) w) :
    (Code.region 7 l.toArray true).wp Try.prog Q a0 w0 := by
  subst hl
  refine region_facts2 (rt2F s p A C P k c pk pc g b fo n r q gap) rt2D 86 S.size rfl (by kernel_rfl) (by kernel_rfl) (rt2F_mono _ _ _ _ _ _ _ _ _ _ _ _ _ _ _ _) (rt2_ok S) fun a w hB hF h => ?_
  have hv : valsAre a [(61, .int .i64 q), (62, .bool true), (63, .bool true), (64, .pointer (some ⟨g, 0, none⟩)), (65, .int .i64 s.f), (66, .slice (some ⟨b, fo, none⟩) n r), (67, .int .i64 q), (68, .int .i64 (q - 1)), (69, .pointer (some ⟨b, fo + (q - 1) * 15, none⟩)), (70, .pointer (some ⟨b, fo + (q - 1) * 15 + 1, none⟩)), (71, .int .i64 p.l), (72, .int .i64 (s.f - p.l)), (73, .int .i64 gap), (74, .bool false), (75, .bool false)] := by
    refine ⟨?_, ?_, ?_, ?_, ?_, ?_, ?_, ?_, ?_, ?_, ?_, ?_, ?_, ?_, ?_, trivial⟩
    · exact h 0 (some 61) rfl
    · exact h 1 (some 62) rfl
    · exact h 2 (some 63) rfl
    · exact h 3 (some 64) rfl
    · exact h 4 (some 65) rfl
    · exact h 5 (some 66) rfl
    · exact h 6 (some 67) rfl
    · exact h 7 (some 68) rfl
    · exact h 8 (some 69) rfl
    · exact h 9 (some 70) rfl
    · exact h 10 (some 71) rfl
    · exact h 11 (some 72) rfl
    · exact h 12 (some 73) rfl
    · exact h 13 (some 74) rfl
    · exact h 14 (some 75) rfl
  rw [frame_is hF _ hv (by rfl) (by rfl)]
  exact hend w hB
end

end Go.Proofs.Ytgdeaddfkcokpaa

namespace Go.Proofs.Ytgdeaddfkcokpaa
open Go.RowKit

/-- A session that fits where it stands. -/
def GoodAt (g : Int) (bs : List Int) (ss : List Se) (i : Nat) : Prop :=
  accB (nthE ss i).a bs = true ∧ (nthE ss i).a.n ≠ 0 ∧ (nthE ss i).f = (nthE ss i).a.f.t ∧ (nthE ss i).l = (nthE ss i).a.l.t ∧ (nthE ss i).a.f.s = (nthE ss 0).a.f.s ∧ (0 < i → g ≤ (nthE ss i).f - (nthE ss (i - 1)).l)
theorem good_of {g : Int} {bs : List Int} {ss : List Se} (h : sesB g bs ss = true) {i : Nat} (hi : i < ss.length) : GoodAt g bs ss i := by
  unfold sesB at h
  simp only [Bool.and_eq_true] at h
  obtain ⟨a1, a2, a3, a4, a5, a6⟩ := of_decide_eq_true h.1 i hi
  exact ⟨by simp [accB, h.2.2, a1], a2, a3, a4, a5, a6⟩
theorem not_good {g : Int} {bs : List Int} {ss : List Se} {i : Nat} (hi : i < ss.length) (h : ¬ GoodAt g bs ss i) : sesB g bs ss = false := by
  cases hs : sesB g bs ss with
  | false => rfl
  | true => exact absurd (good_of hs hi) h
theorem all_good {g : Int} {bs : List Int} {ss : List Se} (h : ∀ i, i < ss.length → GoodAt g bs ss i) : sesB g bs ss = (wi g 1 1073741824 && boundsB bs) := by
  unfold sesB
  rw [decide_eq_true (fun i hi => by
    obtain ⟨a1, a2, a3, a4, a5, a6⟩ := h i hi
    simp only [accB, Bool.and_eq_true] at a1
    exact ⟨a1.2, a2, a3, a4, a5, a6⟩), Bool.true_and]
theorem good_ends {bs : List Int} {ss : List Se} {i : Nat} (h1 : accB (nthE ss i).a bs = true) (h2 : (nthE ss i).a.n ≠ 0) (h3 : (nthE ss i).f = (nthE ss i).a.f.t) (h4 : (nthE ss i).l = (nthE ss i).a.l.t) : (-1099511627776 ≤ (nthE ss i).f ∧ (nthE ss i).f ≤ 1099511627776) ∧ (-1099511627776 ≤ (nthE ss i).l ∧ (nthE ss i).l ≤ 1099511627776) := by
  simp only [accB, Bool.and_eq_true] at h1
  have hE := of_decide_eq_true (fit_ends h1.2 h2).1
  have a := itemB_iff.1 hE.1
  have b := itemB_iff.1 hE.2.1
  rw [h3, h4]
  omega

set_option maxRecDepth 100000 in
set_option maxHeartbeats 4000000 in
theorem rsesmay_any (A : Option Addr) (n c : Nat) (ss : List Se) (g : Int) (B : Option Addr) (m d : Nat) (bs : List Int) (w : World) (hr : Sess w A n ss) (hn : n ≤ 1000000000) (hbs : Ints w B m bs) (hm : m ≤ maxLen) :
    Calls Try.prog 31 #[.slice A n c, .int .i64 g, .slice B m d] w fun e w' => e = .returned (.bool (sesB g bs ss)) ∧ Below w.heap.size w w' := by
  have HL := Lib.hid hr.1
  have HR := Lib.hid hr; clear hr
  have HB := Lib.hid hbs; clear hbs
  obtain ⟨V, hV⟩ : ∃ V, sesB g bs ss = V := ⟨_, rfl⟩
  rw [hV]
  have HV := Lib.hid hV; clear hV
  go_enter Try.func31, Try.ntmps31
  go_wp2_with fail
  go_loopw [7] (fun i wr => ∃ j : Nat, j ≤ n ∧ i = .int .i64 j ∧ Hid (∀ i, i < j → GoodAt g bs ss i) ∧ Hid (Below w.heap.size w wr)) (fun i _ => n - (intOf i).toNat)
  case atStart => exact ⟨0, Nat.zero_le _, rfl, fun i hi => by omega, Below.refl _ _⟩
  case round =>
    obtain ⟨j, hj, rfl, HS, HW⟩ := hrel
    by_cases hlt : j < n
    · obtain ⟨b, fo, rfl, hi⟩ := (HR.out.below HW.out).2 (by omega)
      obtain ⟨Aj, k, cj, hx⟩ := hi j hlt
      have HX := Lib.hid hx; clear hx
      have HAT := Lib.hid hi; clear hi
      have HSZ : Hid (w.heap.size ≤ wr.heap.size) := HW.out.size
      go_upto_region 5 with (first | (refine load_ses rfl _ rfl b (fo + j * 15) rfl HX.out ?_) | (refine store_newS rfl _ _ rfl rfl rfl rfl ?_; intro w1 hb1 hs1; have HX1 := Lib.hid hs1; have HB1 := Lib.hid hb1; clear hs1 hb1))
      have HW1 : Hid (Below w.heap.size w w1) := HW.out.trans (HB1.out.mono HSZ.out)
      have hI1 : Ints w1 Aj k (nthE ss j).a.h := HX.out.2.1.below HB1.out
      have hbs1 : Ints w1 B m bs := HB.out.below HW1.out
      have hk9 : k ≤ maxLen := Nat.le_trans HX.out.2.2.1 HX.out.2.2.2
      have hat0 : SesAt w1 wr.heap.size 0 (nthE ss j) Aj k cj := has_ses HX1.out hI1 HX.out.2.2
      have hjl : j < ss.length := by rw [HL.out]; exact hlt
      obtain ⟨Z, zk, zc, hz⟩ := HAT.out 0 (by omega)
      have hz1 : SesAt w1 b fo (nthE ss 0) Z zk zc := by have h := hz.below HB1.out; rwa [Nat.zero_mul, Nat.add_zero] at h
      cases h1 : accB (nthE ss j).a bs
      · skip
        refine rs0_any (s := nthE ss j) (z := nthE ss 0) (A := Aj) (Z := Z) (B := B) (C := some ⟨b, fo, none⟩) (k := k) (c := cj) (m := m) (d := d) (zk := zk) (zc := zc) (e := 0) (g := wr.heap.size) (b := b) (fo := fo) (n := n) (r := c) (q := j) (bs := bs) ⟨rfl, rfl, rfl, HX1.out, hat0, hI1, hk9, hbs1, hm, h1⟩ (by kernel_rfl) ?_
        intro w2 b2
        simp only [putAll, Act.put, List.setIfInBounds_toArray, List.set_cons_succ, List.set_cons_zero]
        go_wp2_with fail
        go_ret
        refine ⟨?_, HW1.out.trans (b2.mono HW1.out.size)⟩
        rw [← HV.out, not_good hjl (fun hg => by rw [hg.1] at h1; cases h1)]
        rfl
      · by_cases h2 : (nthE ss j).a.n = 0
        · skip
          refine rs1_any (s := nthE ss j) (z := nthE ss 0) (A := Aj) (Z := Z) (B := B) (C := some ⟨b, fo, none⟩) (k := k) (c := cj) (m := m) (d := d) (zk := zk) (zc := zc) (e := 0) (g := wr.heap.size) (b := b) (fo := fo) (n := n) (r := c) (q := j) (bs := bs) ⟨rfl, rfl, rfl, HX1.out, hat0, hI1, hk9, hbs1, hm, h1, by simp [h2]⟩ (by kernel_rfl) ?_
          intro w2 b2
          simp only [putAll, Act.put, List.setIfInBounds_toArray, List.set_cons_succ, List.set_cons_zero]
          go_wp2_with fail
          go_ret
          refine ⟨?_, HW1.out.trans (b2.mono HW1.out.size)⟩
          rw [← HV.out, not_good hjl (fun hg => hg.2.1 h2)]
          rfl
        · by_cases h3 : (nthE ss j).f = (nthE ss j).a.f.t
          · by_cases h4 : (nthE ss j).l = (nthE ss j).a.l.t
            · by_cases h5 : (nthE ss j).a.f.s = (nthE ss 0).a.f.s
              · have hends := good_ends h1 h2 h3 h4
                refine rs5_any (s := nthE ss j) (z := nthE ss 0) (A := Aj) (Z := Z) (B := B) (C := some ⟨b, fo, none⟩) (k := k) (c := cj) (m := m) (d := d) (zk := zk) (zc := zc) (e := 0) (g := wr.heap.size) (b := b) (fo := fo) (n := n) (r := c) (q := j) (bs := bs) ⟨rfl, rfl, rfl, rfl, HX1.out, hat0, hI1, hk9, hbs1, hm, h1, by simp [h2], by simp [h3], by simp [h4], by omega, hz1, by simp [h5]⟩ (by kernel_rfl) ?_
                intro w2 b2
                have HW2 : Hid (Below w.heap.size w w2) := HW1.out.trans (b2.mono HW1.out.size)
                have hbx2 : Has w2 wr.heap.size 60 (sesC (nthE ss j) Aj k cj) := has_below HX1.out b2
                simp only [putAll, Act.put, List.setIfInBounds_toArray, List.set_cons_succ, List.set_cons_zero]
                go_upto_region 7 with fail
                by_cases h0 : j = 0
                · refine rt0_any (s := nthE ss j) (p := zeroSe) (A := Aj) (C := some ⟨b, fo, none⟩) (P := none) (k := k) (c := cj) (pk := 0) (pc := 0) (g := wr.heap.size) (b := 0) (fo := 0) (n := n) (r := c) (q := j) (gap := g) ⟨rfl, rfl, hbx2, h0⟩ (by kernel_rfl) ?_
                  intro w3 b3
                  have HS2 : Hid (∀ i, i < j + 1 → GoodAt g bs ss i) := fun i hi => by
                    obtain rfl : i = j := by omega
                    exact ⟨h1, h2, h3, h4, h5, fun h => by omega⟩
                  have HW3 : Hid (Below w.heap.size w w3) := HW2.out.trans (b3.mono HW2.out.size)
                  clear hI1 hbs1 b2 b3 HS HW1 HW2 HX1 HB1 HX HAT hat0 hz hz1 hbx2 h1 h2 h3 h4 h5 hends
                  simp only [putAll, Act.put, List.setIfInBounds_toArray, List.set_cons_succ, List.set_cons_zero]
                  go_wp2_with fail
                  go_roundw
                  case rel => exact ⟨j + 1, by omega, by go_num, HS2, HW3⟩
                  case measure => simp [intOf]; omega
                · obtain ⟨Pp, pk, pc, hp⟩ := HAT.out (j - 1) (by omega)
                  have hpv : SesAt w2 b (fo + (j - 1) * 15) (nthE ss (j - 1)) Pp pk pc := (hp.below HB1.out).below b2
                  have hpe := HS.out (j - 1) (by omega)
                  have hpb := (good_ends hpe.1 hpe.2.1 hpe.2.2.1 hpe.2.2.2.1).2
                  by_cases h6 : (nthE ss j).f - (nthE ss (j - 1)).l < g
                  · refine rt1_any (s := nthE ss j) (p := nthE ss (j - 1)) (A := Aj) (C := none) (P := Pp) (k := k) (c := cj) (pk := pk) (pc := pc) (g := wr.heap.size) (b := b) (fo := fo) (n := n) (r := c) (q := j) (gap := g) ⟨rfl, rfl, rfl, rfl, rfl, hbx2, ⟨by omega, hlt, hn⟩, hpv, hends.1, hpb, decide_eq_true h6⟩ (by kernel_rfl) ?_
                    intro w3 b3
                    simp only [putAll, Act.put, List.setIfInBounds_toArray, List.set_cons_succ, List.set_cons_zero]
                    go_wp2_with fail
                    go_ret
                    refine ⟨?_, HW2.out.trans (b3.mono HW2.out.size)⟩
                    rw [← HV.out, not_good hjl (fun hg => by have := hg.2.2.2.2.2 (by omega); omega)]
                    rfl
                  · refine rt2_any (s := nthE ss j) (p := nthE ss (j - 1)) (A := Aj) (C := none) (P := Pp) (k := k) (c := cj) (pk := pk) (pc := pc) (g := wr.heap.size) (b := b) (fo := fo) (n := n) (r := c) (q := j) (gap := g) ⟨rfl, rfl, rfl, rfl, rfl, hbx2, ⟨by omega, hlt, hn⟩, hpv, hends.1, hpb, decide_eq_false h6⟩ (by kernel_rfl) ?_
                    intro w3 b3
                    have HS2 : Hid (∀ i, i < j + 1 → GoodAt g bs ss i) := fun i hi => by
                      by_cases e : i = j
                      · subst e
                        exact ⟨h1, h2, h3, h4, h5, fun _ => by omega⟩
                      · exact HS.out i (by omega)
                    have HW3 : Hid (Below w.heap.size w w3) := HW2.out.trans (b3.mono HW2.out.size)
                    clear hI1 hbs1 b2 b3 HS HW1 HW2 HX1 HB1 HX HAT hat0 hz hz1 hbx2 h1 h2 h3 h4 h5 h6 hends hpv hp hpe hpb
                    simp only [putAll, Act.put, List.setIfInBounds_toArray, List.set_cons_succ, List.set_cons_zero]
                    go_wp2_with fail
                    go_roundw
                    case rel => exact ⟨j + 1, by omega, by go_num, HS2, HW3⟩
                    case measure => simp [intOf]; omega
              · skip
                refine rs4_any (s := nthE ss j) (z := nthE ss 0) (A := Aj) (Z := Z) (B := B) (C := some ⟨b, fo, none⟩) (k := k) (c := cj) (m := m) (d := d) (zk := zk) (zc := zc) (e := 0) (g := wr.heap.size) (b := b) (fo := fo) (n := n) (r := c) (q := j) (bs := bs) ⟨rfl, rfl, rfl, rfl, HX1.out, hat0, hI1, hk9, hbs1, hm, h1, by simp [h2], by simp [h3], by simp [h4], by omega, hz1, by simp [h5]⟩ (by kernel_rfl) ?_
                intro w2 b2
                simp only [putAll, Act.put, List.setIfInBounds_toArray, List.set_cons_succ, List.set_cons_zero]
                go_wp2_with fail
                go_ret
                refine ⟨?_, HW1.out.trans (b2.mono HW1.out.size)⟩
                rw [← HV.out, not_good hjl (fun hg => h5 hg.2.2.2.2.1)]
                rfl
            · skip
              refine rs3_any (s := nthE ss j) (z := nthE ss 0) (A := Aj) (Z := Z) (B := B) (C := some ⟨b, fo, none⟩) (k := k) (c := cj) (m := m) (d := d) (zk := zk) (zc := zc) (e := 0) (g := wr.heap.size) (b := b) (fo := fo) (n := n) (r := c) (q := j) (bs := bs) ⟨rfl, rfl, rfl, HX1.out, hat0, hI1, hk9, hbs1, hm, h1, by simp [h2], by simp [h3], by simp [h4]⟩ (by kernel_rfl) ?_
              intro w2 b2
              simp only [putAll, Act.put, List.setIfInBounds_toArray, List.set_cons_succ, List.set_cons_zero]
              go_wp2_with fail
              go_ret
              refine ⟨?_, HW1.out.trans (b2.mono HW1.out.size)⟩
              rw [← HV.out, not_good hjl (fun hg => h4 hg.2.2.2.1)]
              rfl
          · skip
            refine rs2_any (s := nthE ss j) (z := nthE ss 0) (A := Aj) (Z := Z) (B := B) (C := some ⟨b, fo, none⟩) (k := k) (c := cj) (m := m) (d := d) (zk := zk) (zc := zc) (e := 0) (g := wr.heap.size) (b := b) (fo := fo) (n := n) (r := c) (q := j) (bs := bs) ⟨rfl, rfl, rfl, HX1.out, hat0, hI1, hk9, hbs1, hm, h1, by simp [h2], by simp [h3]⟩ (by kernel_rfl) ?_
            intro w2 b2
            simp only [putAll, Act.put, List.setIfInBounds_toArray, List.set_cons_succ, List.set_cons_zero]
            go_wp2_with fail
            go_ret
            refine ⟨?_, HW1.out.trans (b2.mono HW1.out.size)⟩
            rw [← HV.out, not_good hjl (fun hg => h3 hg.2.2.1)]
            rfl
    · have hjn : j = n := by omega
      subst hjn
      have HE : Hid (V = (wi g 1 1073741824 && boundsB bs)) := by rw [Hid, ← HV.out]; exact all_good fun i hi => HS.out i (by rw [HL.out] at hi; exact hi)
      by_cases h1 : 1 ≤ g
      · by_cases h2 : g ≤ 1073741824
        · have hw : wi g 1 1073741824 = true := wi_mk ⟨h1, h2⟩
          go_wp2_with (go_at_call 41; refine (rbounds_any B m d bs _ (HB.out.below HW.out) hm).mono ?_; rintro e w2 ⟨rfl, kk, rfl⟩)
          go_ret
          exact ⟨by rw [HE.out, hw, Bool.true_and]; rfl, below_drewN HW.out kk⟩
        · go_wp2_with fail
          go_ret
          exact ⟨by rw [HE.out, wi_false (by omega)]; rfl, HW.out⟩
      · go_wp2_with fail
        go_ret
        exact ⟨by rw [HE.out, wi_false (by omega)]; rfl, HW.out⟩

end Go.Proofs.Ytgdeaddfkcokpaa

namespace Go.Proofs.Ytgdeaddfkcokpaa
open Go.RowKit

def ri0D : List (Option Tmp) := [some 28, some 29, some 30, some 31, some 32, some 33, some 34, some 35, some 36, some 37, some 38, some 39, some 40, some 41, some 42, some 43, some 44, some 45, some 46, some 47, some 48, some 49, some 50, some 51, some 52, some 53, some 54, some 55, some 56, some 57, some 58, some 59, some 60, some 61, some 62, some 63, some 64]
def ri0F (x : It) (_C : Option Addr) (_z0 _y0 : Int) (b fo n r q _sb _so _ns _rs : Nat) : List Fact := [isV (.slice (some ⟨b, fo, none⟩) n r), isV (.int .i64 q), isV (.pointer (some ⟨b, fo + q * 4, none⟩)), isV (.agg #[.int .i64 x.s, .int .i64 x.t, .int .i64 x.q, .int .i64 x.v]), isV (.bool false), isV (.bool true), isV (.bool true), isV (undef), isV (undef), isV (undef), isV (undef), isV (undef), isV (undef), isV (undef), isV (undef), isV (undef), isV (undef), isV (.bool true), isV (.bool true), isV (undef), isV (undef), isV (undef), isV (undef), isV (undef), isV (undef), isV (undef), isV (undef), isV (undef), isV (undef), isV (undef), isV (undef), isV (undef), isV (undef), isV (undef), isV (undef), isV (undef), isV (.bool true)]
theorem ri0F_mono (x : It) (C : Option Addr) (z0 y0 : Int) (b fo n r q sb so ns rs : Nat) : ∀ φ ∈ ri0F x C z0 y0 b fo n r q sb so ns rs, Mono φ := by
  unfold ri0F
  repeat (first | exact monos_nil | (refine monos_cons (mono_isV _) ?_))
structure ri0S (x : It) (C : Option Addr) (z0 y0 : Int) (b fo n r q sb so ns rs : Nat) (a0 : Act) (w0 : World) : Prop where
  size : a0.tmps.size = 105
  v3 : a0.tmps.getD 3 undef = .slice (some ⟨b, fo, none⟩) n r
  v10 : a0.tmps.getD 10 undef = .int .i64 q
  xq : w0.rangeAt b (fo + q * 4) (itemL x)
  xs : w0.cell? ⟨b, fo + q * 4, none⟩ = some (.int .i64 x.s)
  x0 : w0.cell? ⟨b, fo, none⟩ = some (.int .i64 z0)
  hq : q < n
  e1 : itemB x = false
section
variable {x : It} {C : Option Addr} {z0 y0 : Int} {b fo n r q sb so ns rs : Nat} {a0 : Act} {w0 : World} (S : ri0S x C z0 y0 b fo n r q sb so ns rs a0 w0)
include S
set_option maxRecDepth 100000 in
set_option maxHeartbeats 8000000 in
theorem ri0_ok : AllOps (fun j o => ∀ (a : Act) (w : World), Below w0.heap.size w0 w → FrD ri0D a0 a → needs ri0D (ri0F x C z0 y0 b fo n r q sb so ns rs) a w o.after.toList → StepD Try.prog ri0D (factAt (ri0F x C z0 y0 b fo n r q sb so ns rs) j) o a w) 0 (opsOf 6 Try.f27) := by
  simp only [opsOf, Try.f27, opsAt, Option.bind, Option.or, Option.getD, reduceCtorEq, if_true, if_false, Nat.reduceEqDiff]
  refine ⟨?_, ?_⟩
  · intro _a _w _hB hF _hd
    exact step_move (guard_none rfl) rfl _ rfl ((hF.other 3 rfl).trans S.v3)
  refine ⟨?_, ?_⟩
  · intro _a _w _hB hF _hd
    exact step_move (guard_none rfl) rfl _ rfl ((hF.other 10 rfl).trans S.v10)
  refine ⟨?_, ?_⟩
  · intro a _w _hB _hF hd
    have h28 : a.tmps.getD 28 undef = .slice (some ⟨b, fo, none⟩) n r := hd.1 rfl
    have h29 : a.tmps.getD 29 undef = .int .i64 q := hd.2.1 rfl
    exact rf_index (guard_none rfl) rfl _ _ _ rfl Try.underlying46 4 (fun _ => by kernel_rfl) _ _ _ _ q _ h28 h29 rfl S.hq rfl
  refine ⟨?_, ?_⟩
  · intro a _w hB _hF hd
    have h30 : a.tmps.getD 30 undef = .pointer (some ⟨b, fo + q * 4, none⟩) := hd.1 rfl
    exact rf_loadS (guard_none rfl) rfl _ _ rfl _ _ h30 _ (rangeAt_keep S.xq (by simp [itemL]) fun _ hp => hB.cell hp) Try.underlying23 rfl Try.sizeItem rfl
  refine ⟨?_, ?_⟩
  · intro a _w _hB _hF hd
    have h31 : a.tmps.getD 31 undef = .agg #[.int .i64 x.s, .int .i64 x.t, .int .i64 x.q, .int .i64 x.v] := hd.1 rfl
    refine step_call (guard_none rfl) rfl _ _ (rf_call_run Try.func40 (by kernel_rfl) (by kernel_rfl) _ _ rfl) ?_
    simp only [List.map_toArray, List.map_cons, List.map_nil, Act.eval, h31]
    exact (ritem_any x _).mono (by rintro e w1 ⟨rfl, hb⟩; exact ⟨_, rfl, hb, by rw [S.e1]; rfl⟩)
  refine ⟨?_, ?_⟩
  · intro a _w _hB _hF hd
    have h32 : a.tmps.getD 32 undef = .bool false := hd.1 rfl
    exact step_not (guard_none rfl) rfl _ _ rfl h32 rfl
  refine ⟨?_, ?_⟩
  · intro a _w _hB _hF hd
    have h33 : a.tmps.getD 33 undef = .bool true := hd.1 rfl
    exact step_move (guard_none rfl) rfl _ rfl h33
  refine ⟨?_, ?_⟩
  · intro a _w _hB _hF hd
    have h34 : a.tmps.getD 34 undef = .bool true := hd.1 rfl
    exact rf_shut false rfl rfl h34 rfl
  refine ⟨?_, ?_⟩
  · intro a _w _hB _hF hd
    have h34 : a.tmps.getD 34 undef = .bool true := hd.1 rfl
    exact rf_shut false rfl rfl h34 rfl
  refine ⟨?_, ?_⟩
  · intro a _w _hB _hF hd
    have h34 : a.tmps.getD 34 undef = .bool true := hd.2.2.1 rfl
    exact rf_shut false rfl rfl h34 rfl
  refine ⟨?_, ?_⟩
  · intro a _w _hB _hF hd
    have h34 : a.tmps.getD 34 undef = .bool true := hd.2.1 rfl
    exact rf_shut false rfl rfl h34 rfl
  refine ⟨?_, ?_⟩
  · intro a _w _hB _hF hd
    have h34 : a.tmps.getD 34 undef = .bool true := hd.2.1 rfl
    exact rf_shut false rfl rfl h34 rfl
  refine ⟨?_, ?_⟩
  · intro a _w _hB _hF hd
    have h34 : a.tmps.getD 34 undef = .bool true := hd.1 rfl
    exact rf_shut false rfl rfl h34 rfl
  refine ⟨?_, ?_⟩
  · intro a _w _hB _hF hd
    have h34 : a.tmps.getD 34 undef = .bool true := hd.2.1 rfl
    exact rf_shut false rfl rfl h34 rfl
  refine ⟨?_, ?_⟩
  · intro a _w _hB _hF hd
    have h34 : a.tmps.getD 34 undef = .bool true := hd.2.1 rfl
    exact rf_shut false rfl rfl h34 rfl
  refine ⟨?_, ?_⟩
  · intro a _w _hB _hF hd
    have h34 : a.tmps.getD 34 undef = .bool true := hd.2.1 rfl
    exact rf_shut false rfl rfl h34 rfl
  refine ⟨?_, ?_⟩
  · intro a _w _hB _hF hd
    have h34 : a.tmps.getD 34 undef = .bool true := hd.2.2.1 rfl
    exact rf_shut false rfl rfl h34 rfl
  refine ⟨?_, ?_⟩
  · intro a _w _hB _hF hd
    have h34 : a.tmps.getD 34 undef = .bool true := hd.1 rfl
    exact rf_pick (guard_none rfl) rfl _ _ _ rfl true h34 rfl
  refine ⟨?_, ?_⟩
  · intro a _w _hB _hF hd
    have h45 : a.tmps.getD 45 undef = .bool true := hd.1 rfl
    exact step_move (guard_none rfl) rfl _ rfl h45
  refine ⟨?_, ?_⟩
  · intro a _w _hB _hF hd
    have h46 : a.tmps.getD 46 undef = .bool true := hd.1 rfl
    exact rf_shut false rfl rfl h46 rfl
  refine ⟨?_, ?_⟩
  · intro a _w _hB _hF hd
    have h46 : a.tmps.getD 46 undef = .bool true := hd.2.1 rfl
    exact rf_shut false rfl rfl h46 rfl
  refine ⟨?_, ?_⟩
  · intro a _w _hB _hF hd
    have h46 : a.tmps.getD 46 undef = .bool true := hd.2.1 rfl
    exact rf_shut false rfl rfl h46 rfl
  refine ⟨?_, ?_⟩
  · intro a _w _hB _hF hd
    have h46 : a.tmps.getD 46 undef = .bool true := hd.2.1 rfl
    exact rf_shut false rfl rfl h46 rfl
  refine ⟨?_, ?_⟩
  · intro a _w _hB _hF hd
    have h50 : a.tmps.getD 50 undef = undef := hd.1 rfl
    exact rf_shutu true rfl rfl h50 rfl
  refine ⟨?_, ?_⟩
  · intro a _w _hB _hF hd
    have h50 : a.tmps.getD 50 undef = undef := hd.1 rfl
    exact rf_shutu true rfl rfl h50 rfl
  refine ⟨?_, ?_⟩
  · intro a _w _hB _hF hd
    have h50 : a.tmps.getD 50 undef = undef := hd.2.2.1 rfl
    exact rf_shutu true rfl rfl h50 rfl
  refine ⟨?_, ?_⟩
  · intro a _w _hB _hF hd
    have h50 : a.tmps.getD 50 undef = undef := hd.2.1 rfl
    exact rf_shutu true rfl rfl h50 rfl
  refine ⟨?_, ?_⟩
  · intro a _w _hB _hF hd
    have h50 : a.tmps.getD 50 undef = undef := hd.2.1 rfl
    exact rf_shutu true rfl rfl h50 rfl
  refine ⟨?_, ?_⟩
  · intro a _w _hB _hF hd
    have h50 : a.tmps.getD 50 undef = undef := hd.1 rfl
    exact rf_shutu true rfl rfl h50 rfl
  refine ⟨?_, ?_⟩
  · intro a _w _hB _hF hd
    have h50 : a.tmps.getD 50 undef = undef := hd.2.1 rfl
    exact rf_shutu true rfl rfl h50 rfl
  refine ⟨?_, ?_⟩
  · intro a _w _hB _hF hd
    have h50 : a.tmps.getD 50 undef = undef := hd.2.1 rfl
    exact rf_shutu true rfl rfl h50 rfl
  refine ⟨?_, ?_⟩
  · intro a _w _hB _hF hd
    have h50 : a.tmps.getD 50 undef = undef := hd.2.1 rfl
    exact rf_shutu true rfl rfl h50 rfl
  refine ⟨?_, ?_⟩
  · intro a _w _hB _hF hd
    have h50 : a.tmps.getD 50 undef = undef := hd.2.1 rfl
    exact rf_shutu true rfl rfl h50 rfl
  refine ⟨?_, ?_⟩
  · intro a _w _hB _hF hd
    have h50 : a.tmps.getD 50 undef = undef := hd.2.1 rfl
    exact rf_shutu true rfl rfl h50 rfl
  refine ⟨?_, ?_⟩
  · intro a _w _hB _hF hd
    have h50 : a.tmps.getD 50 undef = undef := hd.2.2.1 rfl
    exact rf_shutu true rfl rfl h50 rfl
  refine ⟨?_, ?_⟩
  · intro a _w _hB _hF hd
    have h46 : a.tmps.getD 46 undef = .bool true := hd.2.2.1 rfl
    exact rf_shut false rfl rfl h46 rfl
  refine ⟨?_, ?_⟩
  · intro a _w _hB _hF hd
    have h46 : a.tmps.getD 46 undef = .bool true := hd.1 rfl
    exact rf_pick (guard_none rfl) rfl _ _ _ rfl true h46 rfl
  trivial
theorem ri0_any {Q : Exit → Act → World → Prop} {l : List Oper} (hl : opsOf 6 Try.f27 = l) (hend : ∀ w : World, Below w0.heap.size w0 w → Q .normal (putAll a0 [(28, .slice (some ⟨b, fo, none⟩) n r), (29, .int .i64 q), (30, .pointer (some ⟨b, fo + q * 4, none⟩)), (31, .agg #[.int .i64 x.s, .int .i64 x.t, .int .i64 x.q, .int .i64 x.v]), (32, .bool false), (33, .bool true), (34, .bool true), (35, undef), (36, undef), (37, undef), (38, undef), (39, undef), (40, undef), (41, undef), (42, undef), (43, undef), (44, undef), (45, .bool true), (46, .bool true), (47, undef), (48, undef), (49, undef), (50, undef), (51, undef), (52, undef), (53, undef), (54, undef), (55, undef), (56, undef), (57, undef), (58, undef), (59, undef), (60, undef), (61, undef), (62, undef), (63, undef), (64, .bool true)]) w) :
    (Code.region 6 l.toArray true).wp Try.prog Q a0 w0 := by
  subst hl
  refine region_facts2 (ri0F x C z0 y0 b fo n r q sb so ns rs) ri0D 105 S.size rfl (by kernel_rfl) (by kernel_rfl) (ri0F_mono _ _ _ _ _ _ _ _ _ _ _ _ _) (ri0_ok S) fun a w hB hF h => ?_
  have hv : valsAre a [(28, .slice (some ⟨b, fo, none⟩) n r), (29, .int .i64 q), (30, .pointer (some ⟨b, fo + q * 4, none⟩)), (31, .agg #[.int .i64 x.s, .int .i64 x.t, .int .i64 x.q, .int .i64 x.v]), (32, .bool false), (33, .bool true), (34, .bool true), (35, undef), (36, undef), (37, undef), (38, undef), (39, undef), (40, undef), (41, undef), (42, undef), (43, undef), (44, undef), (45, .bool true), (46, .bool true), (47, undef), (48, undef), (49, undef), (50, undef), (51, undef), (52, undef), (53, undef), (54, undef), (55, undef), (56, undef), (57, undef), (58, undef), (59, undef), (60, undef), (61, undef), (62, undef), (63, undef), (64, .bool true)] := by
    refine ⟨?_, ?_, ?_, ?_, ?_, ?_, ?_, ?_, ?_, ?_, ?_, ?_, ?_, ?_, ?_, ?_, ?_, ?_, ?_, ?_, ?_, ?_, ?_, ?_, ?_, ?_, ?_, ?_, ?_, ?_, ?_, ?_, ?_, ?_, ?_, ?_, ?_, trivial⟩
    · exact h 0 (some 28) rfl
    · exact h 1 (some 29) rfl
    · exact h 2 (some 30) rfl
    · exact h 3 (some 31) rfl
    · exact h 4 (some 32) rfl
    · exact h 5 (some 33) rfl
    · exact h 6 (some 34) rfl
    · exact h 7 (some 35) rfl
    · exact h 8 (some 36) rfl
    · exact h 9 (some 37) rfl
    · exact h 10 (some 38) rfl
    · exact h 11 (some 39) rfl
    · exact h 12 (some 40) rfl
    · exact h 13 (some 41) rfl
    · exact h 14 (some 42) rfl
    · exact h 15 (some 43) rfl
    · exact h 16 (some 44) rfl
    · exact h 17 (some 45) rfl
    · exact h 18 (some 46) rfl
    · exact h 19 (some 47) rfl
    · exact h 20 (some 48) rfl
    · exact h 21 (some 49) rfl
    · exact h 22 (some 50) rfl
    · exact h 23 (some 51) rfl
    · exact h 24 (some 52) rfl
    · exact h 25 (some 53) rfl
    · exact h 26 (some 54) rfl
    · exact h 27 (some 55) rfl
    · exact h 28 (some 56) rfl
    · exact h 29 (some 57) rfl
    · exact h 30 (some 58) rfl
    · exact h 31 (some 59) rfl
    · exact h 32 (some 60) rfl
    · exact h 33 (some 61) rfl
    · exact h 34 (some 62) rfl
    · exact h 35 (some 63) rfl
    · exact h 36 (some 64) rfl
  rw [frame_is hF _ hv (by rfl) (by rfl)]
  exact hend w hB
end

def ri1D : List (Option Tmp) := [some 28, some 29, some 30, some 31, some 32, some 33, some 34, some 35, some 36, some 37, some 38, some 39, some 40, some 41, some 42, some 43, some 44, some 45, some 46, some 47, some 48, some 49, some 50, some 51, some 52, some 53, some 54, some 55, some 56, some 57, some 58, some 59, some 60, some 61, some 62, some 63, some 64]
def ri1F (x : It) (_C : Option Addr) (z0 _y0 : Int) (b fo n r q _sb _so _ns _rs : Nat) : List Fact := [isV (.slice (some ⟨b, fo, none⟩) n r), isV (.int .i64 q), isV (.pointer (some ⟨b, fo + q * 4, none⟩)), isV (.agg #[.int .i64 x.s, .int .i64 x.t, .int .i64 x.q, .int .i64 x.v]), isV (.bool true), isV (.bool false), isV (.bool false), isV (.slice (some ⟨b, fo, none⟩) n r), isV (.int .i64 q), isV (.pointer (some ⟨b, fo + q * 4, none⟩)), isV (.pointer (some ⟨b, fo + q * 4, none⟩)), isV (.int .i64 x.s), isV (.slice (some ⟨b, fo, none⟩) n r), isV (.pointer (some ⟨b, fo, none⟩)), isV (.pointer (some ⟨b, fo, none⟩)), isV (.int .i64 z0), isV (.bool true), isV (.bool true), isV (.bool true), isV (undef), isV (undef), isV (undef), isV (undef), isV (undef), isV (undef), isV (undef), isV (undef), isV (undef), isV (undef), isV (undef), isV (undef), isV (undef), isV (undef), isV (undef), isV (undef), isV (undef), isV (.bool true)]
theorem ri1F_mono (x : It) (C : Option Addr) (z0 y0 : Int) (b fo n r q sb so ns rs : Nat) : ∀ φ ∈ ri1F x C z0 y0 b fo n r q sb so ns rs, Mono φ := by
  unfold ri1F
  repeat (first | exact monos_nil | (refine monos_cons (mono_isV _) ?_))
structure ri1S (x : It) (C : Option Addr) (z0 y0 : Int) (b fo n r q sb so ns rs : Nat) (a0 : Act) (w0 : World) : Prop where
  size : a0.tmps.size = 105
  v3 : a0.tmps.getD 3 undef = .slice (some ⟨b, fo, none⟩) n r
  v10 : a0.tmps.getD 10 undef = .int .i64 q
  xq : w0.rangeAt b (fo + q * 4) (itemL x)
  xs : w0.cell? ⟨b, fo + q * 4, none⟩ = some (.int .i64 x.s)
  x0 : w0.cell? ⟨b, fo, none⟩ = some (.int .i64 z0)
  hq : q < n
  e1 : itemB x = true
  e2 : (x.s != z0) = true
section
variable {x : It} {C : Option Addr} {z0 y0 : Int} {b fo n r q sb so ns rs : Nat} {a0 : Act} {w0 : World} (S : ri1S x C z0 y0 b fo n r q sb so ns rs a0 w0)
include S
set_option maxRecDepth 100000 in
set_option maxHeartbeats 8000000 in
theorem ri1_ok : AllOps (fun j o => ∀ (a : Act) (w : World), Below w0.heap.size w0 w → FrD ri1D a0 a → needs ri1D (ri1F x C z0 y0 b fo n r q sb so ns rs) a w o.after.toList → StepD Try.prog ri1D (factAt (ri1F x C z0 y0 b fo n r q sb so ns rs) j) o a w) 0 (opsOf 6 Try.f27) := by
  simp only [opsOf, Try.f27, opsAt, Option.bind, Option.or, Option.getD, reduceCtorEq, if_true, if_false, Nat.reduceEqDiff]
  refine ⟨?_, ?_⟩
  · intro _a _w _hB hF _hd
    exact step_move (guard_none rfl) rfl _ rfl ((hF.other 3 rfl).trans S.v3)
  refine ⟨?_, ?_⟩
  · intro _a _w _hB hF _hd
    exact step_move (guard_none rfl) rfl _ rfl ((hF.other 10 rfl).trans S.v10)
  refine ⟨?_, ?_⟩
  · intro a _w _hB _hF hd
    have h28 : a.tmps.getD 28 undef = .slice (some ⟨b, fo, none⟩) n r := hd.1 rfl
    have h29 : a.tmps.getD 29 undef = .int .i64 q := hd.2.1 rfl
    exact rf_index (guard_none rfl) rfl _ _ _ rfl Try.underlying46 4 (fun _ => by kernel_rfl) _ _ _ _ q _ h28 h29 rfl S.hq rfl
  refine ⟨?_, ?_⟩
  · intro a _w hB _hF hd
    have h30 : a.tmps.getD 30 undef = .pointer (some ⟨b, fo + q * 4, none⟩) := hd.1 rfl
    exact rf_loadS (guard_none rfl) rfl _ _ rfl _ _ h30 _ (rangeAt_keep S.xq (by simp [itemL]) fun _ hp => hB.cell hp) Try.underlying23 rfl Try.sizeItem rfl
  refine ⟨?_, ?_⟩
  · intro a _w _hB _hF hd
    have h31 : a.tmps.getD 31 undef = .agg #[.int .i64 x.s, .int .i64 x.t, .int .i64 x.q, .int .i64 x.v] := hd.1 rfl
    refine step_call (guard_none rfl) rfl _ _ (rf_call_run Try.func40 (by kernel_rfl) (by kernel_rfl) _ _ rfl) ?_
    simp only [List.map_toArray, List.map_cons, List.map_nil, Act.eval, h31]
    exact (ritem_any x _).mono (by rintro e w1 ⟨rfl, hb⟩; exact ⟨_, rfl, hb, by rw [S.e1]; rfl⟩)
  refine ⟨?_, ?_⟩
  · intro a _w _hB _hF hd
    have h32 : a.tmps.getD 32 undef = .bool true := hd.1 rfl
    exact step_not (guard_none rfl) rfl _ _ rfl h32 rfl
  refine ⟨?_, ?_⟩
  · intro a _w _hB _hF hd
    have h33 : a.tmps.getD 33 undef = .bool false := hd.1 rfl
    exact step_move (guard_none rfl) rfl _ rfl h33
  refine ⟨?_, ?_⟩
  · intro a _w _hB hF hd
    have h34 : a.tmps.getD 34 undef = .bool false := hd.1 rfl
    exact step_move (rf_open false rfl rfl h34) rfl _ rfl ((hF.other 3 rfl).trans S.v3)
  refine ⟨?_, ?_⟩
  · intro a _w _hB hF hd
    have h34 : a.tmps.getD 34 undef = .bool false := hd.1 rfl
    exact step_move (rf_open false rfl rfl h34) rfl _ rfl ((hF.other 10 rfl).trans S.v10)
  refine ⟨?_, ?_⟩
  · intro a _w _hB _hF hd
    have h34 : a.tmps.getD 34 undef = .bool false := hd.2.2.1 rfl
    have h35 : a.tmps.getD 35 undef = .slice (some ⟨b, fo, none⟩) n r := hd.1 rfl
    have h36 : a.tmps.getD 36 undef = .int .i64 q := hd.2.1 rfl
    exact rf_index (rf_open false rfl rfl h34) rfl _ _ _ rfl Try.underlying46 4 (fun _ => by kernel_rfl) _ _ _ _ q _ h35 h36 rfl S.hq rfl
  refine ⟨?_, ?_⟩
  · intro a _w _hB _hF hd
    have h34 : a.tmps.getD 34 undef = .bool false := hd.2.1 rfl
    have h37 : a.tmps.getD 37 undef = .pointer (some ⟨b, fo + q * 4, none⟩) := hd.1 rfl
    exact rf_faddr (rf_open false rfl rfl h34) rfl _ _ _ rfl _ _ 0 _ h37 (by omega) (fun _ _ => by kernel_rfl) rfl
  refine ⟨?_, ?_⟩
  · intro a _w hB _hF hd
    have h34 : a.tmps.getD 34 undef = .bool false := hd.2.1 rfl
    have h38 : a.tmps.getD 38 undef = .pointer (some ⟨b, fo + q * 4, none⟩) := hd.1 rfl
    exact rf_loadi (rf_open false rfl rfl h34) rfl _ rfl _ _ h38 _ (rf_cell hB S.xs) rfl
  refine ⟨?_, ?_⟩
  · intro a _w _hB hF hd
    have h34 : a.tmps.getD 34 undef = .bool false := hd.1 rfl
    exact step_move (rf_open false rfl rfl h34) rfl _ rfl ((hF.other 3 rfl).trans S.v3)
  refine ⟨?_, ?_⟩
  · intro a _w _hB _hF hd
    have h34 : a.tmps.getD 34 undef = .bool false := hd.2.1 rfl
    have h40 : a.tmps.getD 40 undef = .slice (some ⟨b, fo, none⟩) n r := hd.1 rfl
    exact rf_index (rf_open false rfl rfl h34) rfl _ _ _ rfl Try.underlying46 4 (fun _ => by kernel_rfl) _ _ _ _ 0 _ h40 rfl rfl (by have := S.hq; omega) (by rw [Nat.zero_mul, Nat.add_zero]; rfl)
  refine ⟨?_, ?_⟩
  · intro a _w _hB _hF hd
    have h34 : a.tmps.getD 34 undef = .bool false := hd.2.1 rfl
    have h41 : a.tmps.getD 41 undef = .pointer (some ⟨b, fo, none⟩) := hd.1 rfl
    exact rf_faddr (rf_open false rfl rfl h34) rfl _ _ _ rfl _ _ 0 _ h41 (by omega) (fun _ _ => by kernel_rfl) rfl
  refine ⟨?_, ?_⟩
  · intro a _w hB _hF hd
    have h34 : a.tmps.getD 34 undef = .bool false := hd.2.1 rfl
    have h42 : a.tmps.getD 42 undef = .pointer (some ⟨b, fo, none⟩) := hd.1 rfl
    exact rf_loadi (rf_open false rfl rfl h34) rfl _ rfl _ _ h42 _ (rf_cell hB S.x0) rfl
  refine ⟨?_, ?_⟩
  · intro a _w _hB _hF hd
    have h34 : a.tmps.getD 34 undef = .bool false := hd.2.2.1 rfl
    have h39 : a.tmps.getD 39 undef = .int .i64 x.s := hd.1 rfl
    have h43 : a.tmps.getD 43 undef = .int .i64 z0 := hd.2.1 rfl
    exact rf_neq (rf_open false rfl rfl h34) rfl _ _ rfl _ _ h39 h43 true S.e2 rfl
  refine ⟨?_, ?_⟩
  · intro a _w _hB _hF hd
    have h34 : a.tmps.getD 34 undef = .bool false := hd.1 rfl
    have h44 : a.tmps.getD 44 undef = .bool true := hd.2.1 rfl
    exact rf_pick (guard_none rfl) rfl _ _ _ rfl false h34 h44
  refine ⟨?_, ?_⟩
  · intro a _w _hB _hF hd
    have h45 : a.tmps.getD 45 undef = .bool true := hd.1 rfl
    exact step_move (guard_none rfl) rfl _ rfl h45
  refine ⟨?_, ?_⟩
  · intro a _w _hB _hF hd
    have h46 : a.tmps.getD 46 undef = .bool true := hd.1 rfl
    exact rf_shut false rfl rfl h46 rfl
  refine ⟨?_, ?_⟩
  · intro a _w _hB _hF hd
    have h46 : a.tmps.getD 46 undef = .bool true := hd.2.1 rfl
    exact rf_shut false rfl rfl h46 rfl
  refine ⟨?_, ?_⟩
  · intro a _w _hB _hF hd
    have h46 : a.tmps.getD 46 undef = .bool true := hd.2.1 rfl
    exact rf_shut false rfl rfl h46 rfl
  refine ⟨?_, ?_⟩
  · intro a _w _hB _hF hd
    have h46 : a.tmps.getD 46 undef = .bool true := hd.2.1 rfl
    exact rf_shut false rfl rfl h46 rfl
  refine ⟨?_, ?_⟩
  · intro a _w _hB _hF hd
    have h50 : a.tmps.getD 50 undef = undef := hd.1 rfl
    exact rf_shutu true rfl rfl h50 rfl
  refine ⟨?_, ?_⟩
  · intro a _w _hB _hF hd
    have h50 : a.tmps.getD 50 undef = undef := hd.1 rfl
    exact rf_shutu true rfl rfl h50 rfl
  refine ⟨?_, ?_⟩
  · intro a _w _hB _hF hd
    have h50 : a.tmps.getD 50 undef = undef := hd.2.2.1 rfl
    exact rf_shutu true rfl rfl h50 rfl
  refine ⟨?_, ?_⟩
  · intro a _w _hB _hF hd
    have h50 : a.tmps.getD 50 undef = undef := hd.2.1 rfl
    exact rf_shutu true rfl rfl h50 rfl
  refine ⟨?_, ?_⟩
  · intro a _w _hB _hF hd
    have h50 : a.tmps.getD 50 undef = undef := hd.2.1 rfl
    exact rf_shutu true rfl rfl h50 rfl
  refine ⟨?_, ?_⟩
  · intro a _w _hB _hF hd
    have h50 : a.tmps.getD 50 undef = undef := hd.1 rfl
    exact rf_shutu true rfl rfl h50 rfl
  refine ⟨?_, ?_⟩
  · intro a _w _hB _hF hd
    have h50 : a.tmps.getD 50 undef = undef := hd.2.1 rfl
    exact rf_shutu true rfl rfl h50 rfl
  refine ⟨?_, ?_⟩
  · intro a _w _hB _hF hd
    have h50 : a.tmps.getD 50 undef = undef := hd.2.1 rfl
    exact rf_shutu true rfl rfl h50 rfl
  refine ⟨?_, ?_⟩
  · intro a _w _hB _hF hd
    have h50 : a.tmps.getD 50 undef = undef := hd.2.1 rfl
    exact rf_shutu true rfl rfl h50 rfl
  refine ⟨?_, ?_⟩
  · intro a _w _hB _hF hd
    have h50 : a.tmps.getD 50 undef = undef := hd.2.1 rfl
    exact rf_shutu true rfl rfl h50 rfl
  refine ⟨?_, ?_⟩
  · intro a _w _hB _hF hd
    have h50 : a.tmps.getD 50 undef = undef := hd.2.1 rfl
    exact rf_shutu true rfl rfl h50 rfl
  refine ⟨?_, ?_⟩
  · intro a _w _hB _hF hd
    have h50 : a.tmps.getD 50 undef = undef := hd.2.2.1 rfl
    exact rf_shutu true rfl rfl h50 rfl
  refine ⟨?_, ?_⟩
  · intro a _w _hB _hF hd
    have h46 : a.tmps.getD 46 undef = .bool true := hd.2.2.1 rfl
    exact rf_shut false rfl rfl h46 rfl
  refine ⟨?_, ?_⟩
  · intro a _w _hB _hF hd
    have h46 : a.tmps.getD 46 undef = .bool true := hd.1 rfl
    exact rf_pick (guard_none rfl) rfl _ _ _ rfl true h46 rfl
  trivial
theorem ri1_any {Q : Exit → Act → World → Prop} {l : List Oper} (hl : opsOf 6 Try.f27 = l) (hend : ∀ w : World, Below w0.heap.size w0 w → Q .normal (putAll a0 [(28, .slice (some ⟨b, fo, none⟩) n r), (29, .int .i64 q), (30, .pointer (some ⟨b, fo + q * 4, none⟩)), (31, .agg #[.int .i64 x.s, .int .i64 x.t, .int .i64 x.q, .int .i64 x.v]), (32, .bool true), (33, .bool false), (34, .bool false), (35, .slice (some ⟨b, fo, none⟩) n r), (36, .int .i64 q), (37, .pointer (some ⟨b, fo + q * 4, none⟩)), (38, .pointer (some ⟨b, fo + q * 4, none⟩)), (39, .int .i64 x.s), (40, .slice (some ⟨b, fo, none⟩) n r), (41, .pointer (some ⟨b, fo, none⟩)), (42, .pointer (some ⟨b, fo, none⟩)), (43, .int .i64 z0), (44, .bool true), (45, .bool true), (46, .bool true), (47, undef), (48, undef), (49, undef), (50, undef), (51, undef), (52, undef), (53, undef), (54, undef), (55, undef), (56, undef), (57, undef), (58, undef), (59, undef), (60, undef), (61, undef), (62, undef), (63, undef), (64, .bool true)]) w) :
    (Code.region 6 l.toArray true).wp Try.prog Q a0 w0 := by
  subst hl
  refine region_facts2 (ri1F x C z0 y0 b fo n r q sb so ns rs) ri1D 105 S.size rfl (by kernel_rfl) (by kernel_rfl) (ri1F_mono _ _ _ _ _ _ _ _ _ _ _ _ _) (ri1_ok S) fun a w hB hF h => ?_
  have hv : valsAre a [(28, .slice (some ⟨b, fo, none⟩) n r), (29, .int .i64 q), (30, .pointer (some ⟨b, fo + q * 4, none⟩)), (31, .agg #[.int .i64 x.s, .int .i64 x.t, .int .i64 x.q, .int .i64 x.v]), (32, .bool true), (33, .bool false), (34, .bool false), (35, .slice (some ⟨b, fo, none⟩) n r), (36, .int .i64 q), (37, .pointer (some ⟨b, fo + q * 4, none⟩)), (38, .pointer (some ⟨b, fo + q * 4, none⟩)), (39, .int .i64 x.s), (40, .slice (some ⟨b, fo, none⟩) n r), (41, .pointer (some ⟨b, fo, none⟩)), (42, .pointer (some ⟨b, fo, none⟩)), (43, .int .i64 z0), (44, .bool true), (45, .bool true), (46, .bool true), (47, undef), (48, undef), (49, undef), (50, undef), (51, undef), (52, undef), (53, undef), (54, undef), (55, undef), (56, undef), (57, undef), (58, undef), (59, undef), (60, undef), (61, undef), (62, undef), (63, undef), (64, .bool true)] := by
    refine ⟨?_, ?_, ?_, ?_, ?_, ?_, ?_, ?_, ?_, ?_, ?_, ?_, ?_, ?_, ?_, ?_, ?_, ?_, ?_, ?_, ?_, ?_, ?_, ?_, ?_, ?_, ?_, ?_, ?_, ?_, ?_, ?_, ?_, ?_, ?_, ?_, ?_, trivial⟩
    · exact h 0 (some 28) rfl
    · exact h 1 (some 29) rfl
    · exact h 2 (some 30) rfl
    · exact h 3 (some 31) rfl
    · exact h 4 (some 32) rfl
    · exact h 5 (some 33) rfl
    · exact h 6 (some 34) rfl
    · exact h 7 (some 35) rfl
    · exact h 8 (some 36) rfl
    · exact h 9 (some 37) rfl
    · exact h 10 (some 38) rfl
    · exact h 11 (some 39) rfl
    · exact h 12 (some 40) rfl
    · exact h 13 (some 41) rfl
    · exact h 14 (some 42) rfl
    · exact h 15 (some 43) rfl
    · exact h 16 (some 44) rfl
    · exact h 17 (some 45) rfl
    · exact h 18 (some 46) rfl
    · exact h 19 (some 47) rfl
    · exact h 20 (some 48) rfl
    · exact h 21 (some 49) rfl
    · exact h 22 (some 50) rfl
    · exact h 23 (some 51) rfl
    · exact h 24 (some 52) rfl
    · exact h 25 (some 53) rfl
    · exact h 26 (some 54) rfl
    · exact h 27 (some 55) rfl
    · exact h 28 (some 56) rfl
    · exact h 29 (some 57) rfl
    · exact h 30 (some 58) rfl
    · exact h 31 (some 59) rfl
    · exact h 32 (some 60) rfl
    · exact h 33 (some 61) rfl
    · exact h 34 (some 62) rfl
    · exact h 35 (some 63) rfl
    · exact h 36 (some 64) rfl
  rw [frame_is hF _ hv (by rfl) (by rfl)]
  exact hend w hB
end

def ri2D : List (Option Tmp) := [some 28, some 29, some 30, some 31, some 32, some 33, some 34, some 35, some 36, some 37, some 38, some 39, some 40, some 41, some 42, some 43, some 44, some 45, some 46, some 47, some 48, some 49, some 50, some 51, some 52, some 53, some 54, some 55, some 56, some 57, some 58, some 59, some 60, some 61, some 62, some 63, some 64]
def ri2F (x : It) (C : Option Addr) (z0 _y0 : Int) (b fo n r q _sb _so ns rs : Nat) : List Fact := [isV (.slice (some ⟨b, fo, none⟩) n r), isV (.int .i64 q), isV (.pointer (some ⟨b, fo + q * 4, none⟩)), isV (.agg #[.int .i64 x.s, .int .i64 x.t, .int .i64 x.q, .int .i64 x.v]), isV (.bool true), isV (.bool false), isV (.bool false), isV (.slice (some ⟨b, fo, none⟩) n r), isV (.int .i64 q), isV (.pointer (some ⟨b, fo + q * 4, none⟩)), isV (.pointer (some ⟨b, fo + q * 4, none⟩)), isV (.int .i64 x.s), isV (.slice (some ⟨b, fo, none⟩) n r), isV (.pointer (some ⟨b, fo, none⟩)), isV (.pointer (some ⟨b, fo, none⟩)), isV (.int .i64 z0), isV (.bool false), isV (.bool false), isV (.bool false), isV (.slice C ns rs), isV (.int .i64 ns), isV (.bool false), isV (.bool false), isV (undef), isV (undef), isV (undef), isV (undef), isV (undef), isV (undef), isV (undef), isV (undef), isV (undef), isV (undef), isV (undef), isV (undef), isV (.bool false), isV (.bool false)]
theorem ri2F_mono (x : It) (C : Option Addr) (z0 y0 : Int) (b fo n r q sb so ns rs : Nat) : ∀ φ ∈ ri2F x C z0 y0 b fo n r q sb so ns rs, Mono φ := by
  unfold ri2F
  repeat (first | exact monos_nil | (refine monos_cons (mono_isV _) ?_))
structure ri2S (x : It) (C : Option Addr) (z0 y0 : Int) (b fo n r q sb so ns rs : Nat) (a0 : Act) (w0 : World) : Prop where
  size : a0.tmps.size = 105
  v0 : a0.tmps.getD 0 undef = .slice C ns rs
  v3 : a0.tmps.getD 3 undef = .slice (some ⟨b, fo, none⟩) n r
  v10 : a0.tmps.getD 10 undef = .int .i64 q
  xq : w0.rangeAt b (fo + q * 4) (itemL x)
  xs : w0.cell? ⟨b, fo + q * 4, none⟩ = some (.int .i64 x.s)
  x0 : w0.cell? ⟨b, fo, none⟩ = some (.int .i64 z0)
  hq : q < n
  e1 : itemB x = true
  e2 : (x.s != z0) = false
  h0 : ns = 0
section
variable {x : It} {C : Option Addr} {z0 y0 : Int} {b fo n r q sb so ns rs : Nat} {a0 : Act} {w0 : World} (S : ri2S x C z0 y0 b fo n r q sb so ns rs a0 w0)
include S
set_option maxRecDepth 100000 in
set_option maxHeartbeats 8000000 in
theorem ri2_ok : AllOps (fun j o => ∀ (a : Act) (w : World), Below w0.heap.size w0 w → FrD ri2D a0 a → needs ri2D (ri2F x C z0 y0 b fo n r q sb so ns rs) a w o.after.toList → StepD Try.prog ri2D (factAt (ri2F x C z0 y0 b fo n r q sb so ns rs) j) o a w) 0 (opsOf 6 Try.f27) := by
  simp only [opsOf, Try.f27, opsAt, Option.bind, Option.or, Option.getD, reduceCtorEq, if_true, if_false, Nat.reduceEqDiff]
  refine ⟨?_, ?_⟩
  · intro _a _w _hB hF _hd
    exact step_move (guard_none rfl) rfl _ rfl ((hF.other 3 rfl).trans S.v3)
  refine ⟨?_, ?_⟩
  · intro _a _w _hB hF _hd
    exact step_move (guard_none rfl) rfl _ rfl ((hF.other 10 rfl).trans S.v10)
  refine ⟨?_, ?_⟩
  · intro a _w _hB _hF hd
    have h28 : a.tmps.getD 28 undef = .slice (some ⟨b, fo, none⟩) n r := hd.1 rfl
    have h29 : a.tmps.getD 29 undef = .int .i64 q := hd.2.1 rfl
    exact rf_index (guard_none rfl) rfl _ _ _ rfl Try.underlying46 4 (fun _ => by kernel_rfl) _ _ _ _ q _ h28 h29 rfl S.hq rfl
  refine ⟨?_, ?_⟩
  · intro a _w hB _hF hd
    have h30 : a.tmps.getD 30 undef = .pointer (some ⟨b, fo + q * 4, none⟩) := hd.1 rfl
    exact rf_loadS (guard_none rfl) rfl _ _ rfl _ _ h30 _ (rangeAt_keep S.xq (by simp [itemL]) fun _ hp => hB.cell hp) Try.underlying23 rfl Try.sizeItem rfl
  refine ⟨?_, ?_⟩
  · intro a _w _hB _hF hd
    have h31 : a.tmps.getD 31 undef = .agg #[.int .i64 x.s, .int .i64 x.t, .int .i64 x.q, .int .i64 x.v] := hd.1 rfl
    refine step_call (guard_none rfl) rfl _ _ (rf_call_run Try.func40 (by kernel_rfl) (by kernel_rfl) _ _ rfl) ?_
    simp only [List.map_toArray, List.map_cons, List.map_nil, Act.eval, h31]
    exact (ritem_any x _).mono (by rintro e w1 ⟨rfl, hb⟩; exact ⟨_, rfl, hb, by rw [S.e1]; rfl⟩)
  refine ⟨?_, ?_⟩
  · intro a _w _hB _hF hd
    have h32 : a.tmps.getD 32 undef = .bool true := hd.1 rfl
    exact step_not (guard_none rfl) rfl _ _ rfl h32 rfl
  refine ⟨?_, ?_⟩
  · intro a _w _hB _hF hd
    have h33 : a.tmps.getD 33 undef = .bool false := hd.1 rfl
    exact step_move (guard_none rfl) rfl _ rfl h33
  refine ⟨?_, ?_⟩
  · intro a _w _hB hF hd
    have h34 : a.tmps.getD 34 undef = .bool false := hd.1 rfl
    exact step_move (rf_open false rfl rfl h34) rfl _ rfl ((hF.other 3 rfl).trans S.v3)
  refine ⟨?_, ?_⟩
  · intro a _w _hB hF hd
    have h34 : a.tmps.getD 34 undef = .bool false := hd.1 rfl
    exact step_move (rf_open false rfl rfl h34) rfl _ rfl ((hF.other 10 rfl).trans S.v10)
  refine ⟨?_, ?_⟩
  · intro a _w _hB _hF hd
    have h34 : a.tmps.getD 34 undef = .bool false := hd.2.2.1 rfl
    have h35 : a.tmps.getD 35 undef = .slice (some ⟨b, fo, none⟩) n r := hd.1 rfl
    have h36 : a.tmps.getD 36 undef = .int .i64 q := hd.2.1 rfl
    exact rf_index (rf_open false rfl rfl h34) rfl _ _ _ rfl Try.underlying46 4 (fun _ => by kernel_rfl) _ _ _ _ q _ h35 h36 rfl S.hq rfl
  refine ⟨?_, ?_⟩
  · intro a _w _hB _hF hd
    have h34 : a.tmps.getD 34 undef = .bool false := hd.2.1 rfl
    have h37 : a.tmps.getD 37 undef = .pointer (some ⟨b, fo + q * 4, none⟩) := hd.1 rfl
    exact rf_faddr (rf_open false rfl rfl h34) rfl _ _ _ rfl _ _ 0 _ h37 (by omega) (fun _ _ => by kernel_rfl) rfl
  refine ⟨?_, ?_⟩
  · intro a _w hB _hF hd
    have h34 : a.tmps.getD 34 undef = .bool false := hd.2.1 rfl
    have h38 : a.tmps.getD 38 undef = .pointer (some ⟨b, fo + q * 4, none⟩) := hd.1 rfl
    exact rf_loadi (rf_open false rfl rfl h34) rfl _ rfl _ _ h38 _ (rf_cell hB S.xs) rfl
  refine ⟨?_, ?_⟩
  · intro a _w _hB hF hd
    have h34 : a.tmps.getD 34 undef = .bool false := hd.1 rfl
    exact step_move (rf_open false rfl rfl h34) rfl _ rfl ((hF.other 3 rfl).trans S.v3)
  refine ⟨?_, ?_⟩
  · intro a _w _hB _hF hd
    have h34 : a.tmps.getD 34 undef = .bool false := hd.2.1 rfl
    have h40 : a.tmps.getD 40 undef = .slice (some ⟨b, fo, none⟩) n r := hd.1 rfl
    exact rf_index (rf_open false rfl rfl h34) rfl _ _ _ rfl Try.underlying46 4 (fun _ => by kernel_rfl) _ _ _ _ 0 _ h40 rfl rfl (by have := S.hq; omega) (by rw [Nat.zero_mul, Nat.add_zero]; rfl)
  refine ⟨?_, ?_⟩
  · intro a _w _hB _hF hd
    have h34 : a.tmps.getD 34 undef = .bool false := hd.2.1 rfl
    have h41 : a.tmps.getD 41 undef = .pointer (some ⟨b, fo, none⟩) := hd.1 rfl
    exact rf_faddr (rf_open false rfl rfl h34) rfl _ _ _ rfl _ _ 0 _ h41 (by omega) (fun _ _ => by kernel_rfl) rfl
  refine ⟨?_, ?_⟩
  · intro a _w hB _hF hd
    have h34 : a.tmps.getD 34 undef = .bool false := hd.2.1 rfl
    have h42 : a.tmps.getD 42 undef = .pointer (some ⟨b, fo, none⟩) := hd.1 rfl
    exact rf_loadi (rf_open false rfl rfl h34) rfl _ rfl _ _ h42 _ (rf_cell hB S.x0) rfl
  refine ⟨?_, ?_⟩
  · intro a _w _hB _hF hd
    have h34 : a.tmps.getD 34 undef = .bool false := hd.2.2.1 rfl
    have h39 : a.tmps.getD 39 undef = .int .i64 x.s := hd.1 rfl
    have h43 : a.tmps.getD 43 undef = .int .i64 z0 := hd.2.1 rfl
    exact rf_neq (rf_open false rfl rfl h34) rfl _ _ rfl _ _ h39 h43 false S.e2 rfl
  refine ⟨?_, ?_⟩
  · intro a _w _hB _hF hd
    have h34 : a.tmps.getD 34 undef = .bool false := hd.1 rfl
    have h44 : a.tmps.getD 44 undef = .bool false := hd.2.1 rfl
    exact rf_pick (guard_none rfl) rfl _ _ _ rfl false h34 h44
  refine ⟨?_, ?_⟩
  · intro a _w _hB _hF hd
    have h45 : a.tmps.getD 45 undef = .bool false := hd.1 rfl
    exact step_move (guard_none rfl) rfl _ rfl h45
  refine ⟨?_, ?_⟩
  · intro a _w _hB hF hd
    have h46 : a.tmps.getD 46 undef = .bool false := hd.1 rfl
    exact step_move (rf_open false rfl rfl h46) rfl _ rfl ((hF.other 0 rfl).trans S.v0)
  refine ⟨?_, ?_⟩
  · intro a _w _hB _hF hd
    have h46 : a.tmps.getD 46 undef = .bool false := hd.2.1 rfl
    have h47 : a.tmps.getD 47 undef = .slice C ns rs := hd.1 rfl
    exact rf_len (rf_open false rfl rfl h46) rfl _ _ rfl Try.underlying45 _ _ _ h47 rfl
  refine ⟨?_, ?_⟩
  · intro a _w _hB _hF hd
    have h46 : a.tmps.getD 46 undef = .bool false := hd.2.1 rfl
    have h48 : a.tmps.getD 48 undef = .int .i64 ns := hd.1 rfl
    exact rf_gtr (rf_open false rfl rfl h46) rfl _ _ rfl _ _ h48 rfl false (decide_eq_false (by have := S.h0; omega)) rfl
  refine ⟨?_, ?_⟩
  · intro a _w _hB _hF hd
    have h46 : a.tmps.getD 46 undef = .bool false := hd.2.1 rfl
    have h49 : a.tmps.getD 49 undef = .bool false := hd.1 rfl
    exact step_move (rf_open false rfl rfl h46) rfl _ rfl h49
  refine ⟨?_, ?_⟩
  · intro a _w _hB _hF hd
    have h50 : a.tmps.getD 50 undef = .bool false := hd.1 rfl
    exact rf_shut true rfl rfl h50 rfl
  refine ⟨?_, ?_⟩
  · intro a _w _hB _hF hd
    have h50 : a.tmps.getD 50 undef = .bool false := hd.1 rfl
    exact rf_shut true rfl rfl h50 rfl
  refine ⟨?_, ?_⟩
  · intro a _w _hB _hF hd
    have h50 : a.tmps.getD 50 undef = .bool false := hd.2.2.1 rfl
    exact rf_shut true rfl rfl h50 rfl
  refine ⟨?_, ?_⟩
  · intro a _w _hB _hF hd
    have h50 : a.tmps.getD 50 undef = .bool false := hd.2.1 rfl
    exact rf_shut true rfl rfl h50 rfl
  refine ⟨?_, ?_⟩
  · intro a _w _hB _hF hd
    have h50 : a.tmps.getD 50 undef = .bool false := hd.2.1 rfl
    exact rf_shut true rfl rfl h50 rfl
  refine ⟨?_, ?_⟩
  · intro a _w _hB _hF hd
    have h50 : a.tmps.getD 50 undef = .bool false := hd.1 rfl
    exact rf_shut true rfl rfl h50 rfl
  refine ⟨?_, ?_⟩
  · intro a _w _hB _hF hd
    have h50 : a.tmps.getD 50 undef = .bool false := hd.2.1 rfl
    exact rf_shut true rfl rfl h50 rfl
  refine ⟨?_, ?_⟩
  · intro a _w _hB _hF hd
    have h50 : a.tmps.getD 50 undef = .bool false := hd.2.1 rfl
    exact rf_shut true rfl rfl h50 rfl
  refine ⟨?_, ?_⟩
  · intro a _w _hB _hF hd
    have h50 : a.tmps.getD 50 undef = .bool false := hd.2.1 rfl
    exact rf_shut true rfl rfl h50 rfl
  refine ⟨?_, ?_⟩
  · intro a _w _hB _hF hd
    have h50 : a.tmps.getD 50 undef = .bool false := hd.2.1 rfl
    exact rf_shut true rfl rfl h50 rfl
  refine ⟨?_, ?_⟩
  · intro a _w _hB _hF hd
    have h50 : a.tmps.getD 50 undef = .bool false := hd.2.1 rfl
    exact rf_shut true rfl rfl h50 rfl
  refine ⟨?_, ?_⟩
  · intro a _w _hB _hF hd
    have h50 : a.tmps.getD 50 undef = .bool false := hd.2.2.1 rfl
    exact rf_shut true rfl rfl h50 rfl
  refine ⟨?_, ?_⟩
  · intro a _w _hB _hF hd
    have h46 : a.tmps.getD 46 undef = .bool false := hd.2.2.1 rfl
    have h50 : a.tmps.getD 50 undef = .bool false := hd.1 rfl
    exact rf_pick (rf_open false rfl rfl h46) rfl _ _ _ rfl false h50 rfl
  refine ⟨?_, ?_⟩
  · intro a _w _hB _hF hd
    have h46 : a.tmps.getD 46 undef = .bool false := hd.1 rfl
    have h63 : a.tmps.getD 63 undef = .bool false := hd.2.1 rfl
    exact rf_pick (guard_none rfl) rfl _ _ _ rfl false h46 h63
  trivial
theorem ri2_any {Q : Exit → Act → World → Prop} {l : List Oper} (hl : opsOf 6 Try.f27 = l) (hend : ∀ w : World, Below w0.heap.size w0 w → Q .normal (putAll a0 [(28, .slice (some ⟨b, fo, none⟩) n r), (29, .int .i64 q), (30, .pointer (some ⟨b, fo + q * 4, none⟩)), (31, .agg #[.int .i64 x.s, .int .i64 x.t, .int .i64 x.q, .int .i64 x.v]), (32, .bool true), (33, .bool false), (34, .bool false), (35, .slice (some ⟨b, fo, none⟩) n r), (36, .int .i64 q), (37, .pointer (some ⟨b, fo + q * 4, none⟩)), (38, .pointer (some ⟨b, fo + q * 4, none⟩)), (39, .int .i64 x.s), (40, .slice (some ⟨b, fo, none⟩) n r), (41, .pointer (some ⟨b, fo, none⟩)), (42, .pointer (some ⟨b, fo, none⟩)), (43, .int .i64 z0), (44, .bool false), (45, .bool false), (46, .bool false), (47, .slice C ns rs), (48, .int .i64 ns), (49, .bool false), (50, .bool false), (51, undef), (52, undef), (53, undef), (54, undef), (55, undef), (56, undef), (57, undef), (58, undef), (59, undef), (60, undef), (61, undef), (62, undef), (63, .bool false), (64, .bool false)]) w) :
    (Code.region 6 l.toArray true).wp Try.prog Q a0 w0 := by
  subst hl
  refine region_facts2 (ri2F x C z0 y0 b fo n r q sb so ns rs) ri2D 105 S.size rfl (by kernel_rfl) (by kernel_rfl) (ri2F_mono _ _ _ _ _ _ _ _ _ _ _ _ _) (ri2_ok S) fun a w hB hF h => ?_
  have hv : valsAre a [(28, .slice (some ⟨b, fo, none⟩) n r), (29, .int .i64 q), (30, .pointer (some ⟨b, fo + q * 4, none⟩)), (31, .agg #[.int .i64 x.s, .int .i64 x.t, .int .i64 x.q, .int .i64 x.v]), (32, .bool true), (33, .bool false), (34, .bool false), (35, .slice (some ⟨b, fo, none⟩) n r), (36, .int .i64 q), (37, .pointer (some ⟨b, fo + q * 4, none⟩)), (38, .pointer (some ⟨b, fo + q * 4, none⟩)), (39, .int .i64 x.s), (40, .slice (some ⟨b, fo, none⟩) n r), (41, .pointer (some ⟨b, fo, none⟩)), (42, .pointer (some ⟨b, fo, none⟩)), (43, .int .i64 z0), (44, .bool false), (45, .bool false), (46, .bool false), (47, .slice C ns rs), (48, .int .i64 ns), (49, .bool false), (50, .bool false), (51, undef), (52, undef), (53, undef), (54, undef), (55, undef), (56, undef), (57, undef), (58, undef), (59, undef), (60, undef), (61, undef), (62, undef), (63, .bool false), (64, .bool false)] := by
    refine ⟨?_, ?_, ?_, ?_, ?_, ?_, ?_, ?_, ?_, ?_, ?_, ?_, ?_, ?_, ?_, ?_, ?_, ?_, ?_, ?_, ?_, ?_, ?_, ?_, ?_, ?_, ?_, ?_, ?_, ?_, ?_, ?_, ?_, ?_, ?_, ?_, ?_, trivial⟩
    · exact h 0 (some 28) rfl
    · exact h 1 (some 29) rfl
    · exact h 2 (some 30) rfl
    · exact h 3 (some 31) rfl
    · exact h 4 (some 32) rfl
    · exact h 5 (some 33) rfl
    · exact h 6 (some 34) rfl
    · exact h 7 (some 35) rfl
    · exact h 8 (some 36) rfl
    · exact h 9 (some 37) rfl
    · exact h 10 (some 38) rfl
    · exact h 11 (some 39) rfl
    · exact h 12 (some 40) rfl
    · exact h 13 (some 41) rfl
    · exact h 14 (some 42) rfl
    · exact h 15 (some 43) rfl
    · exact h 16 (some 44) rfl
    · exact h 17 (some 45) rfl
    · exact h 18 (some 46) rfl
    · exact h 19 (some 47) rfl
    · exact h 20 (some 48) rfl
    · exact h 21 (some 49) rfl
    · exact h 22 (some 50) rfl
    · exact h 23 (some 51) rfl
    · exact h 24 (some 52) rfl
    · exact h 25 (some 53) rfl
    · exact h 26 (some 54) rfl
    · exact h 27 (some 55) rfl
    · exact h 28 (some 56) rfl
    · exact h 29 (some 57) rfl
    · exact h 30 (some 58) rfl
    · exact h 31 (some 59) rfl
    · exact h 32 (some 60) rfl
    · exact h 33 (some 61) rfl
    · exact h 34 (some 62) rfl
    · exact h 35 (some 63) rfl
    · exact h 36 (some 64) rfl
  rw [frame_is hF _ hv (by rfl) (by rfl)]
  exact hend w hB
end

def ri3D : List (Option Tmp) := [some 28, some 29, some 30, some 31, some 32, some 33, some 34, some 35, some 36, some 37, some 38, some 39, some 40, some 41, some 42, some 43, some 44, some 45, some 46, some 47, some 48, some 49, some 50, some 51, some 52, some 53, some 54, some 55, some 56, some 57, some 58, some 59, some 60, some 61, some 62, some 63, some 64]
def ri3F (x : It) (_C : Option Addr) (z0 y0 : Int) (b fo n r q sb so ns rs : Nat) : List Fact := [isV (.slice (some ⟨b, fo, none⟩) n r), isV (.int .i64 q), isV (.pointer (some ⟨b, fo + q * 4, none⟩)), isV (.agg #[.int .i64 x.s, .int .i64 x.t, .int .i64 x.q, .int .i64 x.v]), isV (.bool true), isV (.bool false), isV (.bool false), isV (.slice (some ⟨b, fo, none⟩) n r), isV (.int .i64 q), isV (.pointer (some ⟨b, fo + q * 4, none⟩)), isV (.pointer (some ⟨b, fo + q * 4, none⟩)), isV (.int .i64 x.s), isV (.slice (some ⟨b, fo, none⟩) n r), isV (.pointer (some ⟨b, fo, none⟩)), isV (.pointer (some ⟨b, fo, none⟩)), isV (.int .i64 z0), isV (.bool false), isV (.bool false), isV (.bool false), isV (.slice (some ⟨sb, so, none⟩) ns rs), isV (.int .i64 ns), isV (.bool true), isV (.bool true), isV (.slice (some ⟨b, fo, none⟩) n r), isV (.int .i64 q), isV (.pointer (some ⟨b, fo + q * 4, none⟩)), isV (.pointer (some ⟨b, fo + q * 4, none⟩)), isV (.int .i64 x.s), isV (.slice (some ⟨sb, so, none⟩) ns rs), isV (.pointer (some ⟨sb, so, none⟩)), isV (.pointer (some ⟨sb, so + 2, none⟩)), isV (.pointer (some ⟨sb, so + 2 + 4, none⟩)), isV (.pointer (some ⟨sb, so + 2 + 4, none⟩)), isV (.int .i64 y0), isV (.bool true), isV (.bool true), isV (.bool true)]
theorem ri3F_mono (x : It) (C : Option Addr) (z0 y0 : Int) (b fo n r q sb so ns rs : Nat) : ∀ φ ∈ ri3F x C z0 y0 b fo n r q sb so ns rs, Mono φ := by
  unfold ri3F
  repeat (first | exact monos_nil | (refine monos_cons (mono_isV _) ?_))
structure ri3S (x : It) (C : Option Addr) (z0 y0 : Int) (b fo n r q sb so ns rs : Nat) (a0 : Act) (w0 : World) : Prop where
  size : a0.tmps.size = 105
  v0 : a0.tmps.getD 0 undef = .slice (some ⟨sb, so, none⟩) ns rs
  v3 : a0.tmps.getD 3 undef = .slice (some ⟨b, fo, none⟩) n r
  v10 : a0.tmps.getD 10 undef = .int .i64 q
  xq : w0.rangeAt b (fo + q * 4) (itemL x)
  xs : w0.cell? ⟨b, fo + q * 4, none⟩ = some (.int .i64 x.s)
  x0 : w0.cell? ⟨b, fo, none⟩ = some (.int .i64 z0)
  hq : q < n
  e1 : itemB x = true
  e2 : (x.s != z0) = false
  hns : 0 < ns
  s0 : w0.cell? ⟨sb, so + 2 + 4, none⟩ = some (.int .i64 y0)
  e3 : (x.s != y0) = true
section
variable {x : It} {C : Option Addr} {z0 y0 : Int} {b fo n r q sb so ns rs : Nat} {a0 : Act} {w0 : World} (S : ri3S x C z0 y0 b fo n r q sb so ns rs a0 w0)
include S
set_option maxRecDepth 100000 in
set_option maxHeartbeats 8000000 in
theorem ri3_ok : AllOps (fun j o => ∀ (a : Act) (w : World), Below w0.heap.size w0 w → FrD ri3D a0 a → needs ri3D (ri3F x C z0 y0 b fo n r q sb so ns rs) a w o.after.toList → StepD Try.prog ri3D (factAt (ri3F x C z0 y0 b fo n r q sb so ns rs) j) o a w) 0 (opsOf 6 Try.f27) := by
  simp only [opsOf, Try.f27, opsAt, Option.bind, Option.or, Option.getD, reduceCtorEq, if_true, if_false, Nat.reduceEqDiff]
  refine ⟨?_, ?_⟩
  · intro _a _w _hB hF _hd
    exact step_move (guard_none rfl) rfl _ rfl ((hF.other 3 rfl).trans S.v3)
  refine ⟨?_, ?_⟩
  · intro _a _w _hB hF _hd
    exact step_move (guard_none rfl) rfl _ rfl ((hF.other 10 rfl).trans S.v10)
  refine ⟨?_, ?_⟩
  · intro a _w _hB _hF hd
    have h28 : a.tmps.getD 28 undef = .slice (some ⟨b, fo, none⟩) n r := hd.1 rfl
    have h29 : a.tmps.getD 29 undef = .int .i64 q := hd.2.1 rfl
    exact rf_index (guard_none rfl) rfl _ _ _ rfl Try.underlying46 4 (fun _ => by kernel_rfl) _ _ _ _ q _ h28 h29 rfl S.hq rfl
  refine ⟨?_, ?_⟩
  · intro a _w hB _hF hd
    have h30 : a.tmps.getD 30 undef = .pointer (some ⟨b, fo + q * 4, none⟩) := hd.1 rfl
    exact rf_loadS (guard_none rfl) rfl _ _ rfl _ _ h30 _ (rangeAt_keep S.xq (by simp [itemL]) fun _ hp => hB.cell hp) Try.underlying23 rfl Try.sizeItem rfl
  refine ⟨?_, ?_⟩
  · intro a _w _hB _hF hd
    have h31 : a.tmps.getD 31 undef = .agg #[.int .i64 x.s, .int .i64 x.t, .int .i64 x.q, .int .i64 x.v] := hd.1 rfl
    refine step_call (guard_none rfl) rfl _ _ (rf_call_run Try.func40 (by kernel_rfl) (by kernel_rfl) _ _ rfl) ?_
    simp only [List.map_toArray, List.map_cons, List.map_nil, Act.eval, h31]
    exact (ritem_any x _).mono (by rintro e w1 ⟨rfl, hb⟩; exact ⟨_, rfl, hb, by rw [S.e1]; rfl⟩)
  refine ⟨?_, ?_⟩
  · intro a _w _hB _hF hd
    have h32 : a.tmps.getD 32 undef = .bool true := hd.1 rfl
    exact step_not (guard_none rfl) rfl _ _ rfl h32 rfl
  refine ⟨?_, ?_⟩
  · intro a _w _hB _hF hd
    have h33 : a.tmps.getD 33 undef = .bool false := hd.1 rfl
    exact step_move (guard_none rfl) rfl _ rfl h33
  refine ⟨?_, ?_⟩
  · intro a _w _hB hF hd
    have h34 : a.tmps.getD 34 undef = .bool false := hd.1 rfl
    exact step_move (rf_open false rfl rfl h34) rfl _ rfl ((hF.other 3 rfl).trans S.v3)
  refine ⟨?_, ?_⟩
  · intro a _w _hB hF hd
    have h34 : a.tmps.getD 34 undef = .bool false := hd.1 rfl
    exact step_move (rf_open false rfl rfl h34) rfl _ rfl ((hF.other 10 rfl).trans S.v10)
  refine ⟨?_, ?_⟩
  · intro a _w _hB _hF hd
    have h34 : a.tmps.getD 34 undef = .bool false := hd.2.2.1 rfl
    have h35 : a.tmps.getD 35 undef = .slice (some ⟨b, fo, none⟩) n r := hd.1 rfl
    have h36 : a.tmps.getD 36 undef = .int .i64 q := hd.2.1 rfl
    exact rf_index (rf_open false rfl rfl h34) rfl _ _ _ rfl Try.underlying46 4 (fun _ => by kernel_rfl) _ _ _ _ q _ h35 h36 rfl S.hq rfl
  refine ⟨?_, ?_⟩
  · intro a _w _hB _hF hd
    have h34 : a.tmps.getD 34 undef = .bool false := hd.2.1 rfl
    have h37 : a.tmps.getD 37 undef = .pointer (some ⟨b, fo + q * 4, none⟩) := hd.1 rfl
    exact rf_faddr (rf_open false rfl rfl h34) rfl _ _ _ rfl _ _ 0 _ h37 (by omega) (fun _ _ => by kernel_rfl) rfl
  refine ⟨?_, ?_⟩
  · intro a _w hB _hF hd
    have h34 : a.tmps.getD 34 undef = .bool false := hd.2.1 rfl
    have h38 : a.tmps.getD 38 undef = .pointer (some ⟨b, fo + q * 4, none⟩) := hd.1 rfl
    exact rf_loadi (rf_open false rfl rfl h34) rfl _ rfl _ _ h38 _ (rf_cell hB S.xs) rfl
  refine ⟨?_, ?_⟩
  · intro a _w _hB hF hd
    have h34 : a.tmps.getD 34 undef = .bool false := hd.1 rfl
    exact step_move (rf_open false rfl rfl h34) rfl _ rfl ((hF.other 3 rfl).trans S.v3)
  refine ⟨?_, ?_⟩
  · intro a _w _hB _hF hd
    have h34 : a.tmps.getD 34 undef = .bool false := hd.2.1 rfl
    have h40 : a.tmps.getD 40 undef = .slice (some ⟨b, fo, none⟩) n r := hd.1 rfl
    exact rf_index (rf_open false rfl rfl h34) rfl _ _ _ rfl Try.underlying46 4 (fun _ => by kernel_rfl) _ _ _ _ 0 _ h40 rfl rfl (by have := S.hq; omega) (by rw [Nat.zero_mul, Nat.add_zero]; rfl)
  refine ⟨?_, ?_⟩
  · intro a _w _hB _hF hd
    have h34 : a.tmps.getD 34 undef = .bool false := hd.2.1 rfl
    have h41 : a.tmps.getD 41 undef = .pointer (some ⟨b, fo, none⟩) := hd.1 rfl
    exact rf_faddr (rf_open false rfl rfl h34) rfl _ _ _ rfl _ _ 0 _ h41 (by omega) (fun _ _ => by kernel_rfl) rfl
  refine ⟨?_, ?_⟩
  · intro a _w hB _hF hd
    have h34 : a.tmps.getD 34 undef = .bool false := hd.2.1 rfl
    have h42 : a.tmps.getD 42 undef = .pointer (some ⟨b, fo, none⟩) := hd.1 rfl
    exact rf_loadi (rf_open false rfl rfl h34) rfl _ rfl _ _ h42 _ (rf_cell hB S.x0) rfl
  refine ⟨?_, ?_⟩
  · intro a _w _hB _hF hd
    have h34 : a.tmps.getD 34 undef = .bool false := hd.2.2.1 rfl
    have h39 : a.tmps.getD 39 undef = .int .i64 x.s := hd.1 rfl
    have h43 : a.tmps.getD 43 undef = .int .i64 z0 := hd.2.1 rfl
    exact rf_neq (rf_open false rfl rfl h34) rfl _ _ rfl _ _ h39 h43 false S.e2 rfl
  refine ⟨?_, ?_⟩
  · intro a _w _hB _hF hd
    have h34 : a.tmps.getD 34 undef = .bool false := hd.1 rfl
    have h44 : a.tmps.getD 44 undef = .bool false := hd.2.1 rfl
    exact rf_pick (guard_none rfl) rfl _ _ _ rfl false h34 h44
  refine ⟨?_, ?_⟩
  · intro a _w _hB _hF hd
    have h45 : a.tmps.getD 45 undef = .bool false := hd.1 rfl
    exact step_move (guard_none rfl) rfl _ rfl h45
  refine ⟨?_, ?_⟩
  · intro a _w _hB hF hd
    have h46 : a.tmps.getD 46 undef = .bool false := hd.1 rfl
    exact step_move (rf_open false rfl rfl h46) rfl _ rfl ((hF.other 0 rfl).trans S.v0)
  refine ⟨?_, ?_⟩
  · intro a _w _hB _hF hd
    have h46 : a.tmps.getD 46 undef = .bool false := hd.2.1 rfl
    have h47 : a.tmps.getD 47 undef = .slice (some ⟨sb, so, none⟩) ns rs := hd.1 rfl
    exact rf_len (rf_open false rfl rfl h46) rfl _ _ rfl Try.underlying45 _ _ _ h47 rfl
  refine ⟨?_, ?_⟩
  · intro a _w _hB _hF hd
    have h46 : a.tmps.getD 46 undef = .bool false := hd.2.1 rfl
    have h48 : a.tmps.getD 48 undef = .int .i64 ns := hd.1 rfl
    exact rf_gtr (rf_open false rfl rfl h46) rfl _ _ rfl _ _ h48 rfl true (decide_eq_true (by have := S.hns; omega)) rfl
  refine ⟨?_, ?_⟩
  · intro a _w _hB _hF hd
    have h46 : a.tmps.getD 46 undef = .bool false := hd.2.1 rfl
    have h49 : a.tmps.getD 49 undef = .bool true := hd.1 rfl
    exact step_move (rf_open false rfl rfl h46) rfl _ rfl h49
  refine ⟨?_, ?_⟩
  · intro a _w _hB hF hd
    have h50 : a.tmps.getD 50 undef = .bool true := hd.1 rfl
    exact step_move (rf_open true rfl rfl h50) rfl _ rfl ((hF.other 3 rfl).trans S.v3)
  refine ⟨?_, ?_⟩
  · intro a _w _hB hF hd
    have h50 : a.tmps.getD 50 undef = .bool true := hd.1 rfl
    exact step_move (rf_open true rfl rfl h50) rfl _ rfl ((hF.other 10 rfl).trans S.v10)
  refine ⟨?_, ?_⟩
  · intro a _w _hB _hF hd
    have h50 : a.tmps.getD 50 undef = .bool true := hd.2.2.1 rfl
    have h51 : a.tmps.getD 51 undef = .slice (some ⟨b, fo, none⟩) n r := hd.1 rfl
    have h52 : a.tmps.getD 52 undef = .int .i64 q := hd.2.1 rfl
    exact rf_index (rf_open true rfl rfl h50) rfl _ _ _ rfl Try.underlying46 4 (fun _ => by kernel_rfl) _ _ _ _ q _ h51 h52 rfl S.hq rfl
  refine ⟨?_, ?_⟩
  · intro a _w _hB _hF hd
    have h50 : a.tmps.getD 50 undef = .bool true := hd.2.1 rfl
    have h53 : a.tmps.getD 53 undef = .pointer (some ⟨b, fo + q * 4, none⟩) := hd.1 rfl
    exact rf_faddr (rf_open true rfl rfl h50) rfl _ _ _ rfl _ _ 0 _ h53 (by omega) (fun _ _ => by kernel_rfl) rfl
  refine ⟨?_, ?_⟩
  · intro a _w hB _hF hd
    have h50 : a.tmps.getD 50 undef = .bool true := hd.2.1 rfl
    have h54 : a.tmps.getD 54 undef = .pointer (some ⟨b, fo + q * 4, none⟩) := hd.1 rfl
    exact rf_loadi (rf_open true rfl rfl h50) rfl _ rfl _ _ h54 _ (rf_cell hB S.xs) rfl
  refine ⟨?_, ?_⟩
  · intro a _w _hB hF hd
    have h50 : a.tmps.getD 50 undef = .bool true := hd.1 rfl
    exact step_move (rf_open true rfl rfl h50) rfl _ rfl ((hF.other 0 rfl).trans S.v0)
  refine ⟨?_, ?_⟩
  · intro a _w _hB _hF hd
    have h50 : a.tmps.getD 50 undef = .bool true := hd.2.1 rfl
    have h56 : a.tmps.getD 56 undef = .slice (some ⟨sb, so, none⟩) ns rs := hd.1 rfl
    exact rf_index (rf_open true rfl rfl h50) rfl _ _ _ rfl Try.underlying45 15 (fun _ => by kernel_rfl) _ _ _ _ 0 _ h56 rfl rfl S.hns (by rw [Nat.zero_mul, Nat.add_zero]; rfl)
  refine ⟨?_, ?_⟩
  · intro a _w _hB _hF hd
    have h50 : a.tmps.getD 50 undef = .bool true := hd.2.1 rfl
    have h57 : a.tmps.getD 57 undef = .pointer (some ⟨sb, so, none⟩) := hd.1 rfl
    exact rf_faddr (rf_open true rfl rfl h50) rfl _ _ _ rfl _ _ 2 _ h57 (by omega) (fun _ _ => by kernel_rfl) rfl
  refine ⟨?_, ?_⟩
  · intro a _w _hB _hF hd
    have h50 : a.tmps.getD 50 undef = .bool true := hd.2.1 rfl
    have h58 : a.tmps.getD 58 undef = .pointer (some ⟨sb, so + 2, none⟩) := hd.1 rfl
    exact rf_faddr (rf_open true rfl rfl h50) rfl _ _ _ rfl _ _ 4 _ h58 (by omega) (fun _ _ => by kernel_rfl) rfl
  refine ⟨?_, ?_⟩
  · intro a _w _hB _hF hd
    have h50 : a.tmps.getD 50 undef = .bool true := hd.2.1 rfl
    have h59 : a.tmps.getD 59 undef = .pointer (some ⟨sb, so + 2 + 4, none⟩) := hd.1 rfl
    exact rf_faddr (rf_open true rfl rfl h50) rfl _ _ _ rfl _ _ 0 _ h59 (by omega) (fun _ _ => by kernel_rfl) rfl
  refine ⟨?_, ?_⟩
  · intro a _w hB _hF hd
    have h50 : a.tmps.getD 50 undef = .bool true := hd.2.1 rfl
    have h60 : a.tmps.getD 60 undef = .pointer (some ⟨sb, so + 2 + 4, none⟩) := hd.1 rfl
    exact rf_loadi (rf_open true rfl rfl h50) rfl _ rfl _ _ h60 _ (rf_cell hB S.s0) rfl
  refine ⟨?_, ?_⟩
  · intro a _w _hB _hF hd
    have h50 : a.tmps.getD 50 undef = .bool true := hd.2.2.1 rfl
    have h55 : a.tmps.getD 55 undef = .int .i64 x.s := hd.1 rfl
    have h61 : a.tmps.getD 61 undef = .int .i64 y0 := hd.2.1 rfl
    exact rf_neq (rf_open true rfl rfl h50) rfl _ _ rfl _ _ h55 h61 true S.e3 rfl
  refine ⟨?_, ?_⟩
  · intro a _w _hB _hF hd
    have h46 : a.tmps.getD 46 undef = .bool false := hd.2.2.1 rfl
    have h50 : a.tmps.getD 50 undef = .bool true := hd.1 rfl
    have h62 : a.tmps.getD 62 undef = .bool true := hd.2.1 rfl
    exact rf_pick (rf_open false rfl rfl h46) rfl _ _ _ rfl true h50 h62
  refine ⟨?_, ?_⟩
  · intro a _w _hB _hF hd
    have h46 : a.tmps.getD 46 undef = .bool false := hd.1 rfl
    have h63 : a.tmps.getD 63 undef = .bool true := hd.2.1 rfl
    exact rf_pick (guard_none rfl) rfl _ _ _ rfl false h46 h63
  trivial
theorem ri3_any {Q : Exit → Act → World → Prop} {l : List Oper} (hl : opsOf 6 Try.f27 = l) (hend : ∀ w : World, Below w0.heap.size w0 w → Q .normal (putAll a0 [(28, .slice (some ⟨b, fo, none⟩) n r), (29, .int .i64 q), (30, .pointer (some ⟨b, fo + q * 4, none⟩)), (31, .agg #[.int .i64 x.s, .int .i64 x.t, .int .i64 x.q, .int .i64 x.v]), (32, .bool true), (33, .bool false), (34, .bool false), (35, .slice (some ⟨b, fo, none⟩) n r), (36, .int .i64 q), (37, .pointer (some ⟨b, fo + q * 4, none⟩)), (38, .pointer (some ⟨b, fo + q * 4, none⟩)), (39, .int .i64 x.s), (40, .slice (some ⟨b, fo, none⟩) n r), (41, .pointer (some ⟨b, fo, none⟩)), (42, .pointer (some ⟨b, fo, none⟩)), (43, .int .i64 z0), (44, .bool false), (45, .bool false), (46, .bool false), (47, .slice (some ⟨sb, so, none⟩) ns rs), (48, .int .i64 ns), (49, .bool true), (50, .bool true), (51, .slice (some ⟨b, fo, none⟩) n r), (52, .int .i64 q), (53, .pointer (some ⟨b, fo + q * 4, none⟩)), (54, .pointer (some ⟨b, fo + q * 4, none⟩)), (55, .int .i64 x.s), (56, .slice (some ⟨sb, so, none⟩) ns rs), (57, .pointer (some ⟨sb, so, none⟩)), (58, .pointer (some ⟨sb, so + 2, none⟩)), (59, .pointer (some ⟨sb, so + 2 + 4, none⟩)), (60, .pointer (some ⟨sb, so + 2 + 4, none⟩)), (61, .int .i64 y0), (62, .bool true), (63, .bool true), (64, .bool true)]) w) :
    (Code.region 6 l.toArray true).wp Try.prog Q a0 w0 := by
  subst hl
  refine region_facts2 (ri3F x C z0 y0 b fo n r q sb so ns rs) ri3D 105 S.size rfl (by kernel_rfl) (by kernel_rfl) (ri3F_mono _ _ _ _ _ _ _ _ _ _ _ _ _) (ri3_ok S) fun a w hB hF h => ?_
  have hv : valsAre a [(28, .slice (some ⟨b, fo, none⟩) n r), (29, .int .i64 q), (30, .pointer (some ⟨b, fo + q * 4, none⟩)), (31, .agg #[.int .i64 x.s, .int .i64 x.t, .int .i64 x.q, .int .i64 x.v]), (32, .bool true), (33, .bool false), (34, .bool false), (35, .slice (some ⟨b, fo, none⟩) n r), (36, .int .i64 q), (37, .pointer (some ⟨b, fo + q * 4, none⟩)), (38, .pointer (some ⟨b, fo + q * 4, none⟩)), (39, .int .i64 x.s), (40, .slice (some ⟨b, fo, none⟩) n r), (41, .pointer (some ⟨b, fo, none⟩)), (42, .pointer (some ⟨b, fo, none⟩)), (43, .int .i64 z0), (44, .bool false), (45, .bool false), (46, .bool false), (47, .slice (some ⟨sb, so, none⟩) ns rs), (48, .int .i64 ns), (49, .bool true), (50, .bool true), (51, .slice (some ⟨b, fo, none⟩) n r), (52, .int .i64 q), (53, .pointer (some ⟨b, fo + q * 4, none⟩)), (54, .pointer (some ⟨b, fo + q * 4, none⟩)), (55, .int .i64 x.s), (56, .slice (some ⟨sb, so, none⟩) ns rs), (57, .pointer (some ⟨sb, so, none⟩)), (58, .pointer (some ⟨sb, so + 2, none⟩)), (59, .pointer (some ⟨sb, so + 2 + 4, none⟩)), (60, .pointer (some ⟨sb, so + 2 + 4, none⟩)), (61, .int .i64 y0), (62, .bool true), (63, .bool true), (64, .bool true)] := by
    refine ⟨?_, ?_, ?_, ?_, ?_, ?_, ?_, ?_, ?_, ?_, ?_, ?_, ?_, ?_, ?_, ?_, ?_, ?_, ?_, ?_, ?_, ?_, ?_, ?_, ?_, ?_, ?_, ?_, ?_, ?_, ?_, ?_, ?_, ?_, ?_, ?_, ?_, trivial⟩
    · exact h 0 (some 28) rfl
    · exact h 1 (some 29) rfl
    · exact h 2 (some 30) rfl
    · exact h 3 (some 31) rfl
    · exact h 4 (some 32) rfl
    · exact h 5 (some 33) rfl
    · exact h 6 (some 34) rfl
    · exact h 7 (some 35) rfl
    · exact h 8 (some 36) rfl
    · exact h 9 (some 37) rfl
    · exact h 10 (some 38) rfl
    · exact h 11 (some 39) rfl
    · exact h 12 (some 40) rfl
    · exact h 13 (some 41) rfl
    · exact h 14 (some 42) rfl
    · exact h 15 (some 43) rfl
    · exact h 16 (some 44) rfl
    · exact h 17 (some 45) rfl
    · exact h 18 (some 46) rfl
    · exact h 19 (some 47) rfl
    · exact h 20 (some 48) rfl
    · exact h 21 (some 49) rfl
    · exact h 22 (some 50) rfl
    · exact h 23 (some 51) rfl
    · exact h 24 (some 52) rfl
    · exact h 25 (some 53) rfl
    · exact h 26 (some 54) rfl
    · exact h 27 (some 55) rfl
    · exact h 28 (some 56) rfl
    · exact h 29 (some 57) rfl
    · exact h 30 (some 58) rfl
    · exact h 31 (some 59) rfl
    · exact h 32 (some 60) rfl
    · exact h 33 (some 61) rfl
    · exact h 34 (some 62) rfl
    · exact h 35 (some 63) rfl
    · exact h 36 (some 64) rfl
  rw [frame_is hF _ hv (by rfl) (by rfl)]
  exact hend w hB
end

def ri4D : List (Option Tmp) := [some 28, some 29, some 30, some 31, some 32, some 33, some 34, some 35, some 36, some 37, some 38, some 39, some 40, some 41, some 42, some 43, some 44, some 45, some 46, some 47, some 48, some 49, some 50, some 51, some 52, some 53, some 54, some 55, some 56, some 57, some 58, some 59, some 60, some 61, some 62, some 63, some 64]
def ri4F (x : It) (_C : Option Addr) (z0 y0 : Int) (b fo n r q sb so ns rs : Nat) : List Fact := [isV (.slice (some ⟨b, fo, none⟩) n r), isV (.int .i64 q), isV (.pointer (some ⟨b, fo + q * 4, none⟩)), isV (.agg #[.int .i64 x.s, .int .i64 x.t, .int .i64 x.q, .int .i64 x.v]), isV (.bool true), isV (.bool false), isV (.bool false), isV (.slice (some ⟨b, fo, none⟩) n r), isV (.int .i64 q), isV (.pointer (some ⟨b, fo + q * 4, none⟩)), isV (.pointer (some ⟨b, fo + q * 4, none⟩)), isV (.int .i64 x.s), isV (.slice (some ⟨b, fo, none⟩) n r), isV (.pointer (some ⟨b, fo, none⟩)), isV (.pointer (some ⟨b, fo, none⟩)), isV (.int .i64 z0), isV (.bool false), isV (.bool false), isV (.bool false), isV (.slice (some ⟨sb, so, none⟩) ns rs), isV (.int .i64 ns), isV (.bool true), isV (.bool true), isV (.slice (some ⟨b, fo, none⟩) n r), isV (.int .i64 q), isV (.pointer (some ⟨b, fo + q * 4, none⟩)), isV (.pointer (some ⟨b, fo + q * 4, none⟩)), isV (.int .i64 x.s), isV (.slice (some ⟨sb, so, none⟩) ns rs), isV (.pointer (some ⟨sb, so, none⟩)), isV (.pointer (some ⟨sb, so + 2, none⟩)), isV (.pointer (some ⟨sb, so + 2 + 4, none⟩)), isV (.pointer (some ⟨sb, so + 2 + 4, none⟩)), isV (.int .i64 y0), isV (.bool false), isV (.bool false), isV (.bool false)]
theorem ri4F_mono (x : It) (C : Option Addr) (z0 y0 : Int) (b fo n r q sb so ns rs : Nat) : ∀ φ ∈ ri4F x C z0 y0 b fo n r q sb so ns rs, Mono φ := by
  unfold ri4F
  repeat (first | exact monos_nil | (refine monos_cons (mono_isV _) ?_))
structure ri4S (x : It) (C : Option Addr) (z0 y0 : Int) (b fo n r q sb so ns rs : Nat) (a0 : Act) (w0 : World) : Prop where
  size : a0.tmps.size = 105
  v0 : a0.tmps.getD 0 undef = .slice (some ⟨sb, so, none⟩) ns rs
  v3 : a0.tmps.getD 3 undef = .slice (some ⟨b, fo, none⟩) n r
  v10 : a0.tmps.getD 10 undef = .int .i64 q
  xq : w0.rangeAt b (fo + q * 4) (itemL x)
  xs : w0.cell? ⟨b, fo + q * 4, none⟩ = some (.int .i64 x.s)
  x0 : w0.cell? ⟨b, fo, none⟩ = some (.int .i64 z0)
  hq : q < n
  e1 : itemB x = true
  e2 : (x.s != z0) = false
  hns : 0 < ns
  s0 : w0.cell? ⟨sb, so + 2 + 4, none⟩ = some (.int .i64 y0)
  e3 : (x.s != y0) = false
section
variable {x : It} {C : Option Addr} {z0 y0 : Int} {b fo n r q sb so ns rs : Nat} {a0 : Act} {w0 : World} (S : ri4S x C z0 y0 b fo n r q sb so ns rs a0 w0)
include S
set_option maxRecDepth 100000 in
set_option maxHeartbeats 8000000 in
theorem ri4_ok : AllOps (fun j o => ∀ (a : Act) (w : World), Below w0.heap.size w0 w → FrD ri4D a0 a → needs ri4D (ri4F x C z0 y0 b fo n r q sb so ns rs) a w o.after.toList → StepD Try.prog ri4D (factAt (ri4F x C z0 y0 b fo n r q sb so ns rs) j) o a w) 0 (opsOf 6 Try.f27) := by
  simp only [opsOf, Try.f27, opsAt, Option.bind, Option.or, Option.getD, reduceCtorEq, if_true, if_false, Nat.reduceEqDiff]
  refine ⟨?_, ?_⟩
  · intro _a _w _hB hF _hd
    exact step_move (guard_none rfl) rfl _ rfl ((hF.other 3 rfl).trans S.v3)
  refine ⟨?_, ?_⟩
  · intro _a _w _hB hF _hd
    exact step_move (guard_none rfl) rfl _ rfl ((hF.other 10 rfl).trans S.v10)
  refine ⟨?_, ?_⟩
  · intro a _w _hB _hF hd
    have h28 : a.tmps.getD 28 undef = .slice (some ⟨b, fo, none⟩) n r := hd.1 rfl
    have h29 : a.tmps.getD 29 undef = .int .i64 q := hd.2.1 rfl
    exact rf_index (guard_none rfl) rfl _ _ _ rfl Try.underlying46 4 (fun _ => by kernel_rfl) _ _ _ _ q _ h28 h29 rfl S.hq rfl
  refine ⟨?_, ?_⟩
  · intro a _w hB _hF hd
    have h30 : a.tmps.getD 30 undef = .pointer (some ⟨b, fo + q * 4, none⟩) := hd.1 rfl
    exact rf_loadS (guard_none rfl) rfl _ _ rfl _ _ h30 _ (rangeAt_keep S.xq (by simp [itemL]) fun _ hp => hB.cell hp) Try.underlying23 rfl Try.sizeItem rfl
  refine ⟨?_, ?_⟩
  · intro a _w _hB _hF hd
    have h31 : a.tmps.getD 31 undef = .agg #[.int .i64 x.s, .int .i64 x.t, .int .i64 x.q, .int .i64 x.v] := hd.1 rfl
    refine step_call (guard_none rfl) rfl _ _ (rf_call_run Try.func40 (by kernel_rfl) (by kernel_rfl) _ _ rfl) ?_
    simp only [List.map_toArray, List.map_cons, List.map_nil, Act.eval, h31]
    exact (ritem_any x _).mono (by rintro e w1 ⟨rfl, hb⟩; exact ⟨_, rfl, hb, by rw [S.e1]; rfl⟩)
  refine ⟨?_, ?_⟩
  · intro a _w _hB _hF hd
    have h32 : a.tmps.getD 32 undef = .bool true := hd.1 rfl
    exact step_not (guard_none rfl) rfl _ _ rfl h32 rfl
  refine ⟨?_, ?_⟩
  · intro a _w _hB _hF hd
    have h33 : a.tmps.getD 33 undef = .bool false := hd.1 rfl
    exact step_move (guard_none rfl) rfl _ rfl h33
  refine ⟨?_, ?_⟩
  · intro a _w _hB hF hd
    have h34 : a.tmps.getD 34 undef = .bool false := hd.1 rfl
    exact step_move (rf_open false rfl rfl h34) rfl _ rfl ((hF.other 3 rfl).trans S.v3)
  refine ⟨?_, ?_⟩
  · intro a _w _hB hF hd
    have h34 : a.tmps.getD 34 undef = .bool false := hd.1 rfl
    exact step_move (rf_open false rfl rfl h34) rfl _ rfl ((hF.other 10 rfl).trans S.v10)
  refine ⟨?_, ?_⟩
  · intro a _w _hB _hF hd
    have h34 : a.tmps.getD 34 undef = .bool false := hd.2.2.1 rfl
    have h35 : a.tmps.getD 35 undef = .slice (some ⟨b, fo, none⟩) n r := hd.1 rfl
    have h36 : a.tmps.getD 36 undef = .int .i64 q := hd.2.1 rfl
    exact rf_index (rf_open false rfl rfl h34) rfl _ _ _ rfl Try.underlying46 4 (fun _ => by kernel_rfl) _ _ _ _ q _ h35 h36 rfl S.hq rfl
  refine ⟨?_, ?_⟩
  · intro a _w _hB _hF hd
    have h34 : a.tmps.getD 34 undef = .bool false := hd.2.1 rfl
    have h37 : a.tmps.getD 37 undef = .pointer (some ⟨b, fo + q * 4, none⟩) := hd.1 rfl
    exact rf_faddr (rf_open false rfl rfl h34) rfl _ _ _ rfl _ _ 0 _ h37 (by omega) (fun _ _ => by kernel_rfl) rfl
  refine ⟨?_, ?_⟩
  · intro a _w hB _hF hd
    have h34 : a.tmps.getD 34 undef = .bool false := hd.2.1 rfl
    have h38 : a.tmps.getD 38 undef = .pointer (some ⟨b, fo + q * 4, none⟩) := hd.1 rfl
    exact rf_loadi (rf_open false rfl rfl h34) rfl _ rfl _ _ h38 _ (rf_cell hB S.xs) rfl
  refine ⟨?_, ?_⟩
  · intro a _w _hB hF hd
    have h34 : a.tmps.getD 34 undef = .bool false := hd.1 rfl
    exact step_move (rf_open false rfl rfl h34) rfl _ rfl ((hF.other 3 rfl).trans S.v3)
  refine ⟨?_, ?_⟩
  · intro a _w _hB _hF hd
    have h34 : a.tmps.getD 34 undef = .bool false := hd.2.1 rfl
    have h40 : a.tmps.getD 40 undef = .slice (some ⟨b, fo, none⟩) n r := hd.1 rfl
    exact rf_index (rf_open false rfl rfl h34) rfl _ _ _ rfl Try.underlying46 4 (fun _ => by kernel_rfl) _ _ _ _ 0 _ h40 rfl rfl (by have := S.hq; omega) (by rw [Nat.zero_mul, Nat.add_zero]; rfl)
  refine ⟨?_, ?_⟩
  · intro a _w _hB _hF hd
    have h34 : a.tmps.getD 34 undef = .bool false := hd.2.1 rfl
    have h41 : a.tmps.getD 41 undef = .pointer (some ⟨b, fo, none⟩) := hd.1 rfl
    exact rf_faddr (rf_open false rfl rfl h34) rfl _ _ _ rfl _ _ 0 _ h41 (by omega) (fun _ _ => by kernel_rfl) rfl
  refine ⟨?_, ?_⟩
  · intro a _w hB _hF hd
    have h34 : a.tmps.getD 34 undef = .bool false := hd.2.1 rfl
    have h42 : a.tmps.getD 42 undef = .pointer (some ⟨b, fo, none⟩) := hd.1 rfl
    exact rf_loadi (rf_open false rfl rfl h34) rfl _ rfl _ _ h42 _ (rf_cell hB S.x0) rfl
  refine ⟨?_, ?_⟩
  · intro a _w _hB _hF hd
    have h34 : a.tmps.getD 34 undef = .bool false := hd.2.2.1 rfl
    have h39 : a.tmps.getD 39 undef = .int .i64 x.s := hd.1 rfl
    have h43 : a.tmps.getD 43 undef = .int .i64 z0 := hd.2.1 rfl
    exact rf_neq (rf_open false rfl rfl h34) rfl _ _ rfl _ _ h39 h43 false S.e2 rfl
  refine ⟨?_, ?_⟩
  · intro a _w _hB _hF hd
    have h34 : a.tmps.getD 34 undef = .bool false := hd.1 rfl
    have h44 : a.tmps.getD 44 undef = .bool false := hd.2.1 rfl
    exact rf_pick (guard_none rfl) rfl _ _ _ rfl false h34 h44
  refine ⟨?_, ?_⟩
  · intro a _w _hB _hF hd
    have h45 : a.tmps.getD 45 undef = .bool false := hd.1 rfl
    exact step_move (guard_none rfl) rfl _ rfl h45
  refine ⟨?_, ?_⟩
  · intro a _w _hB hF hd
    have h46 : a.tmps.getD 46 undef = .bool false := hd.1 rfl
    exact step_move (rf_open false rfl rfl h46) rfl _ rfl ((hF.other 0 rfl).trans S.v0)
  refine ⟨?_, ?_⟩
  · intro a _w _hB _hF hd
    have h46 : a.tmps.getD 46 undef = .bool false := hd.2.1 rfl
    have h47 : a.tmps.getD 47 undef = .slice (some ⟨sb, so, none⟩) ns rs := hd.1 rfl
    exact rf_len (rf_open false rfl rfl h46) rfl _ _ rfl Try.underlying45 _ _ _ h47 rfl
  refine ⟨?_, ?_⟩
  · intro a _w _hB _hF hd
    have h46 : a.tmps.getD 46 undef = .bool false := hd.2.1 rfl
    have h48 : a.tmps.getD 48 undef = .int .i64 ns := hd.1 rfl
    exact rf_gtr (rf_open false rfl rfl h46) rfl _ _ rfl _ _ h48 rfl true (decide_eq_true (by have := S.hns; omega)) rfl
  refine ⟨?_, ?_⟩
  · intro a _w _hB _hF hd
    have h46 : a.tmps.getD 46 undef = .bool false := hd.2.1 rfl
    have h49 : a.tmps.getD 49 undef = .bool true := hd.1 rfl
    exact step_move (rf_open false rfl rfl h46) rfl _ rfl h49
  refine ⟨?_, ?_⟩
  · intro a _w _hB hF hd
    have h50 : a.tmps.getD 50 undef = .bool true := hd.1 rfl
    exact step_move (rf_open true rfl rfl h50) rfl _ rfl ((hF.other 3 rfl).trans S.v3)
  refine ⟨?_, ?_⟩
  · intro a _w _hB hF hd
    have h50 : a.tmps.getD 50 undef = .bool true := hd.1 rfl
    exact step_move (rf_open true rfl rfl h50) rfl _ rfl ((hF.other 10 rfl).trans S.v10)
  refine ⟨?_, ?_⟩
  · intro a _w _hB _hF hd
    have h50 : a.tmps.getD 50 undef = .bool true := hd.2.2.1 rfl
    have h51 : a.tmps.getD 51 undef = .slice (some ⟨b, fo, none⟩) n r := hd.1 rfl
    have h52 : a.tmps.getD 52 undef = .int .i64 q := hd.2.1 rfl
    exact rf_index (rf_open true rfl rfl h50) rfl _ _ _ rfl Try.underlying46 4 (fun _ => by kernel_rfl) _ _ _ _ q _ h51 h52 rfl S.hq rfl
  refine ⟨?_, ?_⟩
  · intro a _w _hB _hF hd
    have h50 : a.tmps.getD 50 undef = .bool true := hd.2.1 rfl
    have h53 : a.tmps.getD 53 undef = .pointer (some ⟨b, fo + q * 4, none⟩) := hd.1 rfl
    exact rf_faddr (rf_open true rfl rfl h50) rfl _ _ _ rfl _ _ 0 _ h53 (by omega) (fun _ _ => by kernel_rfl) rfl
  refine ⟨?_, ?_⟩
  · intro a _w hB _hF hd
    have h50 : a.tmps.getD 50 undef = .bool true := hd.2.1 rfl
    have h54 : a.tmps.getD 54 undef = .pointer (some ⟨b, fo + q * 4, none⟩) := hd.1 rfl
    exact rf_loadi (rf_open true rfl rfl h50) rfl _ rfl _ _ h54 _ (rf_cell hB S.xs) rfl
  refine ⟨?_, ?_⟩
  · intro a _w _hB hF hd
    have h50 : a.tmps.getD 50 undef = .bool true := hd.1 rfl
    exact step_move (rf_open true rfl rfl h50) rfl _ rfl ((hF.other 0 rfl).trans S.v0)
  refine ⟨?_, ?_⟩
  · intro a _w _hB _hF hd
    have h50 : a.tmps.getD 50 undef = .bool true := hd.2.1 rfl
    have h56 : a.tmps.getD 56 undef = .slice (some ⟨sb, so, none⟩) ns rs := hd.1 rfl
    exact rf_index (rf_open true rfl rfl h50) rfl _ _ _ rfl Try.underlying45 15 (fun _ => by kernel_rfl) _ _ _ _ 0 _ h56 rfl rfl S.hns (by rw [Nat.zero_mul, Nat.add_zero]; rfl)
  refine ⟨?_, ?_⟩
  · intro a _w _hB _hF hd
    have h50 : a.tmps.getD 50 undef = .bool true := hd.2.1 rfl
    have h57 : a.tmps.getD 57 undef = .pointer (some ⟨sb, so, none⟩) := hd.1 rfl
    exact rf_faddr (rf_open true rfl rfl h50) rfl _ _ _ rfl _ _ 2 _ h57 (by omega) (fun _ _ => by kernel_rfl) rfl
  refine ⟨?_, ?_⟩
  · intro a _w _hB _hF hd
    have h50 : a.tmps.getD 50 undef = .bool true := hd.2.1 rfl
    have h58 : a.tmps.getD 58 undef = .pointer (some ⟨sb, so + 2, none⟩) := hd.1 rfl
    exact rf_faddr (rf_open true rfl rfl h50) rfl _ _ _ rfl _ _ 4 _ h58 (by omega) (fun _ _ => by kernel_rfl) rfl
  refine ⟨?_, ?_⟩
  · intro a _w _hB _hF hd
    have h50 : a.tmps.getD 50 undef = .bool true := hd.2.1 rfl
    have h59 : a.tmps.getD 59 undef = .pointer (some ⟨sb, so + 2 + 4, none⟩) := hd.1 rfl
    exact rf_faddr (rf_open true rfl rfl h50) rfl _ _ _ rfl _ _ 0 _ h59 (by omega) (fun _ _ => by kernel_rfl) rfl
  refine ⟨?_, ?_⟩
  · intro a _w hB _hF hd
    have h50 : a.tmps.getD 50 undef = .bool true := hd.2.1 rfl
    have h60 : a.tmps.getD 60 undef = .pointer (some ⟨sb, so + 2 + 4, none⟩) := hd.1 rfl
    exact rf_loadi (rf_open true rfl rfl h50) rfl _ rfl _ _ h60 _ (rf_cell hB S.s0) rfl
  refine ⟨?_, ?_⟩
  · intro a _w _hB _hF hd
    have h50 : a.tmps.getD 50 undef = .bool true := hd.2.2.1 rfl
    have h55 : a.tmps.getD 55 undef = .int .i64 x.s := hd.1 rfl
    have h61 : a.tmps.getD 61 undef = .int .i64 y0 := hd.2.1 rfl
    exact rf_neq (rf_open true rfl rfl h50) rfl _ _ rfl _ _ h55 h61 false S.e3 rfl
  refine ⟨?_, ?_⟩
  · intro a _w _hB _hF hd
    have h46 : a.tmps.getD 46 undef = .bool false := hd.2.2.1 rfl
    have h50 : a.tmps.getD 50 undef = .bool true := hd.1 rfl
    have h62 : a.tmps.getD 62 undef = .bool false := hd.2.1 rfl
    exact rf_pick (rf_open false rfl rfl h46) rfl _ _ _ rfl true h50 h62
  refine ⟨?_, ?_⟩
  · intro a _w _hB _hF hd
    have h46 : a.tmps.getD 46 undef = .bool false := hd.1 rfl
    have h63 : a.tmps.getD 63 undef = .bool false := hd.2.1 rfl
    exact rf_pick (guard_none rfl) rfl _ _ _ rfl false h46 h63
  trivial
theorem ri4_any {Q : Exit → Act → World → Prop} {l : List Oper} (hl : opsOf 6 Try.f27 = l) (hend : ∀ w : World, Below w0.heap.size w0 w → Q .normal (putAll a0 [(28, .slice (some ⟨b, fo, none⟩) n r), (29, .int .i64 q), (30, .pointer (some ⟨b, fo + q * 4, none⟩)), (31, .agg #[.int .i64 x.s, .int .i64 x.t, .int .i64 x.q, .int .i64 x.v]), (32, .bool true), (33, .bool false), (34, .bool false), (35, .slice (some ⟨b, fo, none⟩) n r), (36, .int .i64 q), (37, .pointer (some ⟨b, fo + q * 4, none⟩)), (38, .pointer (some ⟨b, fo + q * 4, none⟩)), (39, .int .i64 x.s), (40, .slice (some ⟨b, fo, none⟩) n r), (41, .pointer (some ⟨b, fo, none⟩)), (42, .pointer (some ⟨b, fo, none⟩)), (43, .int .i64 z0), (44, .bool false), (45, .bool false), (46, .bool false), (47, .slice (some ⟨sb, so, none⟩) ns rs), (48, .int .i64 ns), (49, .bool true), (50, .bool true), (51, .slice (some ⟨b, fo, none⟩) n r), (52, .int .i64 q), (53, .pointer (some ⟨b, fo + q * 4, none⟩)), (54, .pointer (some ⟨b, fo + q * 4, none⟩)), (55, .int .i64 x.s), (56, .slice (some ⟨sb, so, none⟩) ns rs), (57, .pointer (some ⟨sb, so, none⟩)), (58, .pointer (some ⟨sb, so + 2, none⟩)), (59, .pointer (some ⟨sb, so + 2 + 4, none⟩)), (60, .pointer (some ⟨sb, so + 2 + 4, none⟩)), (61, .int .i64 y0), (62, .bool false), (63, .bool false), (64, .bool false)]) w) :
    (Code.region 6 l.toArray true).wp Try.prog Q a0 w0 := by
  subst hl
  refine region_facts2 (ri4F x C z0 y0 b fo n r q sb so ns rs) ri4D 105 S.size rfl (by kernel_rfl) (by kernel_rfl) (ri4F_mono _ _ _ _ _ _ _ _ _ _ _ _ _) (ri4_ok S) fun a w hB hF h => ?_
  have hv : valsAre a [(28, .slice (some ⟨b, fo, none⟩) n r), (29, .int .i64 q), (30, .pointer (some ⟨b, fo + q * 4, none⟩)), (31, .agg #[.int .i64 x.s, .int .i64 x.t, .int .i64 x.q, .int .i64 x.v]), (32, .bool true), (33, .bool false), (34, .bool false), (35, .slice (some ⟨b, fo, none⟩) n r), (36, .int .i64 q), (37, .pointer (some ⟨b, fo + q * 4, none⟩)), (38, .pointer (some ⟨b, fo + q * 4, none⟩)), (39, .int .i64 x.s), (40, .slice (some ⟨b, fo, none⟩) n r), (41, .pointer (some ⟨b, fo, none⟩)), (42, .pointer (some ⟨b, fo, none⟩)), (43, .int .i64 z0), (44, .bool false), (45, .bool false), (46, .bool false), (47, .slice (some ⟨sb, so, none⟩) ns rs), (48, .int .i64 ns), (49, .bool true), (50, .bool true), (51, .slice (some ⟨b, fo, none⟩) n r), (52, .int .i64 q), (53, .pointer (some ⟨b, fo + q * 4, none⟩)), (54, .pointer (some ⟨b, fo + q * 4, none⟩)), (55, .int .i64 x.s), (56, .slice (some ⟨sb, so, none⟩) ns rs), (57, .pointer (some ⟨sb, so, none⟩)), (58, .pointer (some ⟨sb, so + 2, none⟩)), (59, .pointer (some ⟨sb, so + 2 + 4, none⟩)), (60, .pointer (some ⟨sb, so + 2 + 4, none⟩)), (61, .int .i64 y0), (62, .bool false), (63, .bool false), (64, .bool false)] := by
    refine ⟨?_, ?_, ?_, ?_, ?_, ?_, ?_, ?_, ?_, ?_, ?_, ?_, ?_, ?_, ?_, ?_, ?_, ?_, ?_, ?_, ?_, ?_, ?_, ?_, ?_, ?_, ?_, ?_, ?_, ?_, ?_, ?_, ?_, ?_, ?_, ?_, ?_, trivial⟩
    · exact h 0 (some 28) rfl
    · exact h 1 (some 29) rfl
    · exact h 2 (some 30) rfl
    · exact h 3 (some 31) rfl
    · exact h 4 (some 32) rfl
    · exact h 5 (some 33) rfl
    · exact h 6 (some 34) rfl
    · exact h 7 (some 35) rfl
    · exact h 8 (some 36) rfl
    · exact h 9 (some 37) rfl
    · exact h 10 (some 38) rfl
    · exact h 11 (some 39) rfl
    · exact h 12 (some 40) rfl
    · exact h 13 (some 41) rfl
    · exact h 14 (some 42) rfl
    · exact h 15 (some 43) rfl
    · exact h 16 (some 44) rfl
    · exact h 17 (some 45) rfl
    · exact h 18 (some 46) rfl
    · exact h 19 (some 47) rfl
    · exact h 20 (some 48) rfl
    · exact h 21 (some 49) rfl
    · exact h 22 (some 50) rfl
    · exact h 23 (some 51) rfl
    · exact h 24 (some 52) rfl
    · exact h 25 (some 53) rfl
    · exact h 26 (some 54) rfl
    · exact h 27 (some 55) rfl
    · exact h 28 (some 56) rfl
    · exact h 29 (some 57) rfl
    · exact h 30 (some 58) rfl
    · exact h 31 (some 59) rfl
    · exact h 32 (some 60) rfl
    · exact h 33 (some 61) rfl
    · exact h 34 (some 62) rfl
    · exact h 35 (some 63) rfl
    · exact h 36 (some 64) rfl
  rw [frame_is hF _ hv (by rfl) (by rfl)]
  exact hend w hB
end

end Go.Proofs.Ytgdeaddfkcokpaa
