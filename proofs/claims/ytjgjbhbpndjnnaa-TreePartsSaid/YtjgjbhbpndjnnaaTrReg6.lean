/-
  The drawn regions of Range and Insert (written by gen/trreg.py).
-/
import Derived.Test.YtjgjbhbpndjnnaaG25
import Derived.Test.YtjgjbhbpndjnnaaG15
import Derived.Test.YtjgjbhbpndjnnaaG10
import Derived.Test.YtjgjbhbpndjnnaaHeadM
namespace Go.Proofs.Ytjgjbhbpndjnnaa
open Go.RowKit

def trgD : List (Option Tmp) := [some 8, some 9, some 10, some 11, some 12, some 13, some 14, some 15, some 16, none]
def trgF (g _y _m _d z : Nat) (_A root : Option Addr) (sa sb : Int) (V : Ac) (xs : List Ac) : List Fact := [isV (.pointer (some ⟨g, 0, none⟩)), isV (.pointer (some ⟨g, 0, none⟩)), isV (.pointer (some ⟨g, 0, none⟩)), isV (.pointer (some ⟨g, 0, none⟩)), isV (.pointer (some ⟨g, 1, none⟩)), isV (.pointer root), isV (.agg #[.int .i64 sa, .int .i64 sb]), rowX xs, tAcc z V]
theorem trgF_mono (g y m d z : Nat) (A root : Option Addr) (sa sb : Int) (V : Ac) (xs : List Ac) : ∀ φ ∈ trgF g y m d z A root sa sb V xs, Mono φ := by
  unfold trgF
  refine monos_cons (mono_isV _) ?_
  refine monos_cons (mono_isV _) ?_
  refine monos_cons (mono_isV _) ?_
  refine monos_cons (mono_isV _) ?_
  refine monos_cons (mono_isV _) ?_
  refine monos_cons (mono_isV _) ?_
  refine monos_cons (mono_isV _) ?_
  refine monos_cons (rowX_mono _) ?_
  refine monos_cons (tAcc_mono _ _) ?_
  exact monos_nil
structure trgS (g y m d z : Nat) (A root : Option Addr) (sa sb : Int) (V : Ac) (xs : List Ac) (a0 : Act) (w0 : World) : Prop where
  size : a0.tmps.size = 17
  v0 : a0.tmps.getD 0 undef = .pointer (some ⟨g, 0, none⟩)
  v3 : a0.tmps.getD 3 undef = .pointer (some ⟨y, 0, none⟩)
  st : Has w0 g 88 #[.slice A m d, .pointer root]
  bx : Has w0 y 54 #[.int .i64 sa, .int .i64 sb]
  ez : z ≤ w0.heap.size
  cw : ∀ w, Below w0.heap.size w0 w → Calls Try.prog 65 #[.pointer (some ⟨g, 0, none⟩), .pointer root, .agg #[.int .i64 sa, .int .i64 sb], .slice none 0 0] w fun e w1 => ∃ A n c, e = .returned (.slice A n c) ∧ Accs w1 A n xs ∧ Below w.heap.size w w1
  cj : ∀ w C n c, Below w0.heap.size w0 w → Accs w C n xs → Calls Try.prog 64 #[.pointer (some ⟨g, 0, none⟩), .slice C n c] w fun e w1 => ∃ H, w.heap.size ≤ H ∧ e = .returned (accV V (some ⟨H, 0, none⟩) V.h.length V.h.length) ∧ Has w1 H 3 (ints V.h) ∧ Below w.heap.size w w1
section
variable {g y m d z : Nat} {A root : Option Addr} {sa sb : Int} {V : Ac} {xs : List Ac} {a0 : Act} {w0 : World} (S : trgS g y m d z A root sa sb V xs a0 w0)
include S
set_option maxRecDepth 100000 in
set_option maxHeartbeats 8000000 in
theorem trg_ok : AllOps (fun j o => ∀ (a : Act) (w : World), Below w0.heap.size w0 w → FrD (trgD.take 9) a0 a → needs trgD (trgF g y m d z A root sa sb V xs) a w o.after.toList → StepD Try.prog trgD (factAt (trgF g y m d z A root sa sb V xs) j) o a w) 0 ((opsOf 3 Try.f31).take 9) := by
  simp only [opsOf, Try.f31, opsAt, Option.bind, Option.or, Option.getD, reduceCtorEq, if_true, if_false, Nat.reduceEqDiff, List.take_succ_cons, List.take_zero]
  refine ⟨?_, ?_⟩
  · intro _a _w _hB hF _hd
    exact step_move (guard_none rfl) rfl _ rfl ((hF.other 0 rfl).trans S.v0)
  refine ⟨?_, ?_⟩
  · intro _a _w _hB hF _hd
    exact step_move (guard_none rfl) rfl _ rfl ((hF.other 0 rfl).trans S.v0)
  refine ⟨?_, ?_⟩
  · intro _a _w _hB hF _hd
    exact step_move (guard_none rfl) rfl _ rfl ((hF.other 0 rfl).trans S.v0)
  refine ⟨?_, ?_⟩
  · intro a _w _hB _hF hd
    have h10 : a.tmps.getD 10 undef = .pointer (some ⟨g, 0, none⟩) := hd.1 rfl
    exact rf_nilck (guard_none rfl) rfl _ rfl _ h10 rfl
  refine ⟨?_, ?_⟩
  · intro a _w _hB _hF hd
    have h11 : a.tmps.getD 11 undef = .pointer (some ⟨g, 0, none⟩) := hd.1 rfl
    exact rf_faddr (guard_none rfl) rfl _ _ _ rfl _ _ 1 _ h11 (by omega) (fun _ _ => by kernel_rfl) rfl
  refine ⟨?_, ?_⟩
  · intro a _w hB _hF hd
    have h12 : a.tmps.getD 12 undef = .pointer (some ⟨g, 1, none⟩) := hd.1 rfl
    exact rf_load1 (guard_none rfl) rfl _ _ rfl _ _ h12 (run_ldPart ((Has.cell (S.st.below hB S.st.lt) 1).trans rfl)) rfl
  refine ⟨?_, ?_⟩
  · intro _a _w hB hF _hd
    exact rf_loadS (guard_none rfl) rfl _ _ rfl _ _ ((hF.other 3 rfl).trans S.v3) _ (rf_range (S.bx.below hB S.bx.lt)) Try.underlying54 rfl (by kernel_rfl) rfl
  refine ⟨?_, ?_⟩
  · intro a w hB _hF hd
    have h9 : a.tmps.getD 9 undef = .pointer (some ⟨g, 0, none⟩) := hd.1 rfl
    have h13 : a.tmps.getD 13 undef = .pointer root := hd.2.1 rfl
    have h14 : a.tmps.getD 14 undef = .agg #[.int .i64 sa, .int .i64 sb] := hd.2.2.1 rfl
    refine step_call (guard_none rfl) rfl _ _ (rf_call_run Try.func65 (by kernel_rfl) (by kernel_rfl) _ _ rfl) ?_
    simp only [List.map_toArray, List.map_cons, List.map_nil, Act.eval, h9, h13, h14]
    exact (S.cw w hB).mono (by rintro e w1 ⟨A, n, c, rfl, h, hb⟩; exact ⟨_, rfl, hb, A, n, c, rfl, h⟩)
  refine ⟨?_, ?_⟩
  · intro a w hB _hF hd
    have h8 : a.tmps.getD 8 undef = .pointer (some ⟨g, 0, none⟩) := hd.1 rfl
    obtain ⟨A15, n15, c15, h15, p15⟩ : rowX xs (a.tmps.getD 15 undef) w := hd.2.1 rfl
    refine step_call (guard_none rfl) rfl _ _ (rf_call_run Try.func64 (by kernel_rfl) (by kernel_rfl) _ _ rfl) ?_
    simp only [List.map_toArray, List.map_cons, List.map_nil, Act.eval, h8, h15]
    exact (S.cj w _ _ _ hB p15).mono (by rintro e w1 ⟨H, hlo, rfl, hh, hb⟩; exact ⟨_, rfl, hb, H, rfl, hh, Nat.le_trans (Nat.le_trans S.ez hB.size) hlo⟩)
  trivial
theorem trg_any {Q : Exit → Act → World → Prop} {l : List Oper} (hl : opsOf 3 Try.f31 = l) (hend : ∀ (A15 : Option Addr) (n15 : Nat) (c15 : Nat), ∀ (H16 : Nat), ∀ w : World, Below w0.heap.size w0 w → Accs w A15 n15 xs → (Has w H16 3 (ints V.h) ∧ z ≤ H16) → wpList Try.prog l.toArray Q (l.drop 9) (putAll a0 [(8, .pointer (some ⟨g, 0, none⟩)), (9, .pointer (some ⟨g, 0, none⟩)), (10, .pointer (some ⟨g, 0, none⟩)), (11, .pointer (some ⟨g, 0, none⟩)), (12, .pointer (some ⟨g, 1, none⟩)), (13, .pointer root), (14, .agg #[.int .i64 sa, .int .i64 sb]), (15, .slice A15 n15 c15), (16, .agg (accC V (some ⟨H16, 0, none⟩) V.h.length V.h.length))]) w) :
    (Code.region 3 l.toArray true).wp Try.prog Q a0 w0 := by
  subst hl
  refine region_head2 (trgF g y m d z A root sa sb V xs) trgD 9 17 S.size rfl (by kernel_rfl) (by kernel_rfl) (by kernel_rfl) (trgF_mono _ _ _ _ _ _ _ _ _ _ _) (trg_ok S) fun a w hB hF h => ?_
  obtain ⟨A15, n15, c15, h15, p15⟩ : rowX xs (a.tmps.getD 15 undef) w := h 7 (some 15) (by omega) rfl
  obtain ⟨H16, h16, p16⟩ : tAcc z V (a.tmps.getD 16 undef) w := h 8 (some 16) (by omega) rfl
  have hv : valsAre a [(8, .pointer (some ⟨g, 0, none⟩)), (9, .pointer (some ⟨g, 0, none⟩)), (10, .pointer (some ⟨g, 0, none⟩)), (11, .pointer (some ⟨g, 0, none⟩)), (12, .pointer (some ⟨g, 1, none⟩)), (13, .pointer root), (14, .agg #[.int .i64 sa, .int .i64 sb]), (15, .slice A15 n15 c15), (16, .agg (accC V (some ⟨H16, 0, none⟩) V.h.length V.h.length))] := by
    refine ⟨?_, ?_, ?_, ?_, ?_, ?_, ?_, ?_, ?_, trivial⟩
    · exact h 0 (some 8) (by omega) rfl
    · exact h 1 (some 9) (by omega) rfl
    · exact h 2 (some 10) (by omega) rfl
    · exact h 3 (some 11) (by omega) rfl
    · exact h 4 (some 12) (by omega) rfl
    · exact h 5 (some 13) (by omega) rfl
    · exact h 6 (some 14) (by omega) rfl
    · exact h15
    · exact h16
  rw [frame_is hF _ hv (by rfl) (by rfl)]
  exact hend A15 n15 c15 H16 w hB p15 p16
end

def tirD : List (Option Tmp) := [some 22, some 23, some 24, some 25, some 26, some 27, some 28, some 29, some 30, some 31, none]
def tirF (g _y _m _d : Nat) (_A root : Option Addr) (x : It) (bs : List Int) (P : Nat → Prop) (R1 : List It) : List Fact := [isV (.pointer (some ⟨g, 0, none⟩)), isV (.pointer (some ⟨g, 0, none⟩)), isV (.pointer (some ⟨g, 0, none⟩)), isV (.pointer (some ⟨g, 0, none⟩)), isV (.pointer (some ⟨g, 1, none⟩)), isV (.pointer root), isV (.agg #[.int .i64 x.s, .int .i64 x.t, .int .i64 x.q, .int .i64 x.v]), trV bs P R1, isV (.pointer (some ⟨g, 0, none⟩)), isV (.pointer (some ⟨g, 1, none⟩))]
theorem tirF_mono (g y m d : Nat) (A root : Option Addr) (x : It) (bs : List Int) (P : Nat → Prop) (R1 : List It) : ∀ φ ∈ tirF g y m d A root x bs P R1, Mono φ := by
  unfold tirF
  refine monos_cons (mono_isV _) ?_
  refine monos_cons (mono_isV _) ?_
  refine monos_cons (mono_isV _) ?_
  refine monos_cons (mono_isV _) ?_
  refine monos_cons (mono_isV _) ?_
  refine monos_cons (mono_isV _) ?_
  refine monos_cons (mono_isV _) ?_
  refine monos_cons (trV_mono _ _ _) ?_
  refine monos_cons (mono_isV _) ?_
  refine monos_cons (mono_isV _) ?_
  exact monos_nil
structure tirS (g y m d : Nat) (A root : Option Addr) (x : It) (bs : List Int) (P : Nat → Prop) (R1 : List It) (a0 : Act) (w0 : World) : Prop where
  size : a0.tmps.size = 33
  v0 : a0.tmps.getD 0 undef = .pointer (some ⟨g, 0, none⟩)
  v6 : a0.tmps.getD 6 undef = .pointer (some ⟨y, 0, none⟩)
  st : Has w0 g 88 #[.slice A m d, .pointer root]
  bx : Has w0 y 23 #[.int .i64 x.s, .int .i64 x.t, .int .i64 x.q, .int .i64 x.v]
  c1 : ∀ w, Below w0.heap.size w0 w → Calls Try.prog 61 #[.pointer (some ⟨g, 0, none⟩), .pointer root, .agg #[.int .i64 x.s, .int .i64 x.t, .int .i64 x.q, .int .i64 x.v]] w (TrO bs P R1 w)
section
variable {g y m d : Nat} {A root : Option Addr} {x : It} {bs : List Int} {P : Nat → Prop} {R1 : List It} {a0 : Act} {w0 : World} (S : tirS g y m d A root x bs P R1 a0 w0)
include S
set_option maxRecDepth 100000 in
set_option maxHeartbeats 8000000 in
theorem tir_ok : AllOps (fun j o => ∀ (a : Act) (w : World), Below w0.heap.size w0 w → FrD (tirD.take 10) a0 a → needs tirD (tirF g y m d A root x bs P R1) a w o.after.toList → StepD Try.prog tirD (factAt (tirF g y m d A root x bs P R1) j) o a w) 0 ((opsOf 10 Try.f27).take 10) := by
  simp only [opsOf, Try.f27, opsAt, Option.bind, Option.or, Option.getD, reduceCtorEq, if_true, if_false, Nat.reduceEqDiff, List.take_succ_cons, List.take_zero]
  refine ⟨?_, ?_⟩
  · intro _a _w _hB hF _hd
    exact step_move (guard_none rfl) rfl _ rfl ((hF.other 0 rfl).trans S.v0)
  refine ⟨?_, ?_⟩
  · intro _a _w _hB hF _hd
    exact step_move (guard_none rfl) rfl _ rfl ((hF.other 0 rfl).trans S.v0)
  refine ⟨?_, ?_⟩
  · intro _a _w _hB hF _hd
    exact step_move (guard_none rfl) rfl _ rfl ((hF.other 0 rfl).trans S.v0)
  refine ⟨?_, ?_⟩
  · intro a _w _hB _hF hd
    have h24 : a.tmps.getD 24 undef = .pointer (some ⟨g, 0, none⟩) := hd.1 rfl
    exact rf_nilck (guard_none rfl) rfl _ rfl _ h24 rfl
  refine ⟨?_, ?_⟩
  · intro a _w _hB _hF hd
    have h25 : a.tmps.getD 25 undef = .pointer (some ⟨g, 0, none⟩) := hd.1 rfl
    exact rf_faddr (guard_none rfl) rfl _ _ _ rfl _ _ 1 _ h25 (by omega) (fun _ _ => by kernel_rfl) rfl
  refine ⟨?_, ?_⟩
  · intro a _w hB _hF hd
    have h26 : a.tmps.getD 26 undef = .pointer (some ⟨g, 1, none⟩) := hd.1 rfl
    exact rf_load1 (guard_none rfl) rfl _ _ rfl _ _ h26 (run_ldPart ((Has.cell (S.st.below hB S.st.lt) 1).trans rfl)) rfl
  refine ⟨?_, ?_⟩
  · intro _a _w hB hF _hd
    exact rf_loadS (guard_none rfl) rfl _ _ rfl _ _ ((hF.other 6 rfl).trans S.v6) _ (rf_range (S.bx.below hB S.bx.lt)) Try.underlying23 rfl (by kernel_rfl) rfl
  refine ⟨?_, ?_⟩
  · intro a w hB _hF hd
    have h23 : a.tmps.getD 23 undef = .pointer (some ⟨g, 0, none⟩) := hd.1 rfl
    have h27 : a.tmps.getD 27 undef = .pointer root := hd.2.1 rfl
    have h28 : a.tmps.getD 28 undef = .agg #[.int .i64 x.s, .int .i64 x.t, .int .i64 x.q, .int .i64 x.v] := hd.2.2.1 rfl
    refine step_call (guard_none rfl) rfl _ _ (rf_call_run Try.func61 (by kernel_rfl) (by kernel_rfl) _ _ rfl) ?_
    simp only [List.map_toArray, List.map_cons, List.map_nil, Act.eval, h23, h27, h28]
    exact (S.c1 w hB).mono (by rintro e w1 ⟨T, rfl, h1, h2, hb⟩; exact ⟨_, rfl, hb, T, rfl, h1, h2⟩)
  refine ⟨?_, ?_⟩
  · intro a _w _hB _hF hd
    have h22 : a.tmps.getD 22 undef = .pointer (some ⟨g, 0, none⟩) := hd.1 rfl
    exact rf_nilck (guard_none rfl) rfl _ rfl _ h22 rfl
  refine ⟨?_, ?_⟩
  · intro a _w _hB _hF hd
    have h30 : a.tmps.getD 30 undef = .pointer (some ⟨g, 0, none⟩) := hd.1 rfl
    exact rf_faddr (guard_none rfl) rfl _ _ _ rfl _ _ 1 _ h30 (by omega) (fun _ _ => by kernel_rfl) rfl
  trivial
theorem tir_any {Q : Exit → Act → World → Prop} {l : List Oper} (hl : opsOf 10 Try.f27 = l) (hend : ∀ (T29 : Tr), ∀ w : World, Below w0.heap.size w0 w → (T29.At bs P w ∧ T29.row = R1) → wpList Try.prog l.toArray Q (l.drop 10) (putAll a0 [(22, .pointer (some ⟨g, 0, none⟩)), (23, .pointer (some ⟨g, 0, none⟩)), (24, .pointer (some ⟨g, 0, none⟩)), (25, .pointer (some ⟨g, 0, none⟩)), (26, .pointer (some ⟨g, 1, none⟩)), (27, .pointer root), (28, .agg #[.int .i64 x.s, .int .i64 x.t, .int .i64 x.q, .int .i64 x.v]), (29, .pointer T29.ptr), (30, .pointer (some ⟨g, 0, none⟩)), (31, .pointer (some ⟨g, 1, none⟩))]) w) :
    (Code.region 10 l.toArray true).wp Try.prog Q a0 w0 := by
  subst hl
  refine region_head2 (tirF g y m d A root x bs P R1) tirD 10 33 S.size rfl (by kernel_rfl) (by kernel_rfl) (by kernel_rfl) (tirF_mono _ _ _ _ _ _ _ _ _ _) (tir_ok S) fun a w hB hF h => ?_
  obtain ⟨T29, h29, p29⟩ : trV bs P R1 (a.tmps.getD 29 undef) w := h 7 (some 29) (by omega) rfl
  have hv : valsAre a [(22, .pointer (some ⟨g, 0, none⟩)), (23, .pointer (some ⟨g, 0, none⟩)), (24, .pointer (some ⟨g, 0, none⟩)), (25, .pointer (some ⟨g, 0, none⟩)), (26, .pointer (some ⟨g, 1, none⟩)), (27, .pointer root), (28, .agg #[.int .i64 x.s, .int .i64 x.t, .int .i64 x.q, .int .i64 x.v]), (29, .pointer T29.ptr), (30, .pointer (some ⟨g, 0, none⟩)), (31, .pointer (some ⟨g, 1, none⟩))] := by
    refine ⟨?_, ?_, ?_, ?_, ?_, ?_, ?_, ?_, ?_, ?_, trivial⟩
    · exact h 0 (some 22) (by omega) rfl
    · exact h 1 (some 23) (by omega) rfl
    · exact h 2 (some 24) (by omega) rfl
    · exact h 3 (some 25) (by omega) rfl
    · exact h 4 (some 26) (by omega) rfl
    · exact h 5 (some 27) (by omega) rfl
    · exact h 6 (some 28) (by omega) rfl
    · exact h29
    · exact h 8 (some 30) (by omega) rfl
    · exact h 9 (some 31) (by omega) rfl
  rw [frame_is hF _ hv (by rfl) (by rfl)]
  exact hend T29 w hB p29
end

end Go.Proofs.Ytjgjbhbpndjnnaa
