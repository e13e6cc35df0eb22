/-
  The drawn regions of Range and Insert (written by gen/trreg.py).
  The program's tree as its callers see it: the row that it holds, the blocks that it owns; New, Items, Range, Evict.
-/
import Derived.Test.YtdoflmphkalicaaS7
import Derived.Test.YtdoflmphkalicaaS8
import Derived.Test.YtdoflmphkalicaaRfB
import Derived.Test.YtdoflmphkalicaaS3
import Derived.Test.YtdoflmphkalicaaS10
import Derived.Test.YtdoflmphkalicaaS11
import Derived.Test.YtdoflmphkalicaaS12
import Derived.Test.YtdoflmphkalicaaSclone
import Derived.Test.YtdoflmphkalicaaBounds
namespace Go.Proofs.Ytdoflmphkalicaa
open Go.RowKit

def trgD : List (Option Tmp) := [some 8, some 9, some 10, some 11, some 12, some 13, some 14, some 15, some 16, none]
def trgF (g _y _m _d z : Nat) (_A root : Option Addr) (sa sb : Int) (V : Ac) (xs : List Ac) : List Fact := [isV (.pointer (some ⟨g, 0, none⟩)), isV (.pointer (some ⟨g, 0, none⟩)), isV (.pointer (some ⟨g, 0, none⟩)), isV (.pointer (some ⟨g, 0, none⟩)), isV (.pointer (some ⟨g, 1, none⟩)), isV (.pointer root), isV (.agg #[.int .i64 sa, .int .i64 sb]), rowX xs, tAcc z V]
theorem trgF_mono (g y m d z : Nat) (A root : Option Addr) (sa sb : Int) (V : Ac) (xs : List Ac) : ∀ φ ∈ trgF g y m d z A root sa sb V xs, Mono φ := by
  unfold trgF
  refine monos_cons (mono_isV _) ?_
  refine monos_cons (mono_isV _) ?_
  refine monos_cons (mono_isV _) ?_
  refine monos_cons (mono_isV _) ?_
  refine monos_cons (mono_isV _) ?_
  refine monos_cons (mono_isV _) ?_
  refine monos_cons (mono_isV _) ?_
  refine monos_cons (rowX_mono _) ?_
  refine monos_cons (tAcc_mono _ _) ?_
  exact monos_nil
structure trgS (g y m d z : Nat) (A root : Option Addr) (sa sb : Int) (V : Ac) (xs : List Ac) (a0 : Act) (w0 : World) : Prop where
  size : a0.tmps.size = 17
  v0 : a0.tmps.getD 0 undef = .pointer (some ⟨g, 0, none⟩)
  v3 : a0.tmps.getD 3 undef = .pointer (some ⟨y, 0, none⟩)
  st : Has w0 g 77 #[.slice A m d, .pointer root]
  bx : Has w0 y 38 #[.int .i64 sa, .int .i64 sb]
  ez : z ≤ w0.heap.size
  cw : ∀ w, Below w0.heap.size w0 w → Calls Try.prog 51 #[.pointer (some ⟨g, 0, none⟩), .pointer root, .agg #[.int .i64 sa, .int .i64 sb], .slice none 0 0] w fun e w1 => ∃ A n c, e = .returned (.slice A n c) ∧ Accs w1 A n xs ∧ Below w.heap.size w w1
  cj : ∀ w C n c, Below w0.heap.size w0 w → Accs w C n xs → Calls Try.prog 50 #[.pointer (some ⟨g, 0, none⟩), .slice C n c] w fun e w1 => ∃ H, w.heap.size ≤ H ∧ e = .returned (accV V (some ⟨H, 0, none⟩) V.h.length V.h.length) ∧ Has w1 H 3 (ints V.h) ∧ Below w.heap.size w w1
section
variable {g y m d z : Nat} {A root : Option Addr} {sa sb : Int} {V : Ac} {xs : List Ac} {a0 : Act} {w0 : World} (S : trgS g y m d z A root sa sb V xs a0 w0)
include S
set_option maxRecDepth 100000 in
set_option maxHeartbeats 8000000 in
theorem trg_ok : AllOps (fun j o => ∀ (a : Act) (w : World), Below w0.heap.size w0 w → FrD (trgD.take 9) a0 a → needs trgD (trgF g y m d z A root sa sb V xs) a w o.after.toList → StepD Try.prog trgD (factAt (trgF g y m d z A root sa sb V xs) j) o a w) 0 ((opsOf 3 Try.f21).take 9) := by
  simp only [opsOf, Try.f21, opsAt, Option.bind, Option.or, Option.getD, reduceCtorEq, if_true, if_false, Nat.reduceEqDiff, List.take_succ_cons, List.take_zero]
  refine ⟨?_, ?_⟩
  · intro _a _w _hB hF _hd
    exact step_move (guard_none rfl) rfl _ rfl ((hF.other 0 rfl).trans S.v0)
  refine ⟨?_, ?_⟩
  · intro _a _w _hB hF _hd
    exact step_move (guard_none rfl) rfl _ rfl ((hF.other 0 rfl).trans S.v0)
  refine ⟨?_, ?_⟩
  · intro _a _w _hB hF _hd
    exact step_move (guard_none rfl) rfl _ rfl ((hF.other 0 rfl).trans S.v0)
  refine ⟨?_, ?_⟩
  · intro a _w _hB _hF hd
    have h10 : a.tmps.getD 10 undef = .pointer (some ⟨g, 0, none⟩) := hd.1 rfl
    exact rf_nilck (guard_none rfl) rfl _ rfl _ h10 rfl
  refine ⟨?_, ?_⟩
  · intro a _w _hB _hF hd
    have h11 : a.tmps.getD 11 undef = .pointer (some ⟨g, 0, none⟩) := hd.1 rfl
    exact rf_faddr (guard_none rfl) rfl _ _ _ rfl _ _ 1 _ h11 (by omega) (fun _ _ => by kernel_rfl) rfl
  refine ⟨?_, ?_⟩
  · intro a _w hB _hF hd
    have h12 : a.tmps.getD 12 undef = .pointer (some ⟨g, 1, none⟩) := hd.1 rfl
    exact rf_load1 (guard_none rfl) rfl _ _ rfl _ _ h12 (run_ldPart ((Has.cell (S.st.below hB S.st.lt) 1).trans rfl)) rfl
  refine ⟨?_, ?_⟩
  · intro _a _w hB hF _hd
    exact rf_loadS (guard_none rfl) rfl _ _ rfl _ _ ((hF.other 3 rfl).trans S.v3) _ (rf_range (S.bx.below hB S.bx.lt)) Try.underlying38 rfl (by kernel_rfl) rfl
  refine ⟨?_, ?_⟩
  · intro a w hB _hF hd
    have h9 : a.tmps.getD 9 undef = .pointer (some ⟨g, 0, none⟩) := hd.1 rfl
    have h13 : a.tmps.getD 13 undef = .pointer root := hd.2.1 rfl
    have h14 : a.tmps.getD 14 undef = .agg #[.int .i64 sa, .int .i64 sb] := hd.2.2.1 rfl
    refine step_call (guard_none rfl) rfl _ _ (rf_call_run Try.func51 (by kernel_rfl) (by kernel_rfl) _ _ rfl) ?_
    simp only [List.map_toArray, List.map_cons, List.map_nil, Act.eval, h9, h13, h14]
    exact (S.cw w hB).mono (by rintro e w1 ⟨A, n, c, rfl, h, hb⟩; exact ⟨_, rfl, hb, A, n, c, rfl, h⟩)
  refine ⟨?_, ?_⟩
  · intro a w hB _hF hd
    have h8 : a.tmps.getD 8 undef = .pointer (some ⟨g, 0, none⟩) := hd.1 rfl
    obtain ⟨A15, n15, c15, h15, p15⟩ : rowX xs (a.tmps.getD 15 undef) w := hd.2.1 rfl
    refine step_call (guard_none rfl) rfl _ _ (rf_call_run Try.func50 (by kernel_rfl) (by kernel_rfl) _ _ rfl) ?_
    simp only [List.map_toArray, List.map_cons, List.map_nil, Act.eval, h8, h15]
    exact (S.cj w _ _ _ hB p15).mono (by rintro e w1 ⟨H, hlo, rfl, hh, hb⟩; exact ⟨_, rfl, hb, H, rfl, hh, Nat.le_trans (Nat.le_trans S.ez hB.size) hlo⟩)
  trivial
theorem trg_any {Q : Exit → Act → World → Prop} {l : List Oper} (hl : opsOf 3 Try.f21 = l) (hend : ∀ (A15 : Option Addr) (n15 : Nat) (c15 : Nat), ∀ (H16 : Nat), ∀ w : World, Below w0.heap.size w0 w → Accs w A15 n15 xs → (Has w H16 3 (ints V.h) ∧ z ≤ H16) → wpList Try.prog l.toArray Q (l.drop 9) (putAll a0 [(8, .pointer (some ⟨g, 0, none⟩)), (9, .pointer (some ⟨g, 0, none⟩)), (10, .pointer (some ⟨g, 0, none⟩)), (11, .pointer (some ⟨g, 0, none⟩)), (12, .pointer (some ⟨g, 1, none⟩)), (13, .pointer root), (14, .agg #[.int .i64 sa, .int .i64 sb]), (15, .slice A15 n15 c15), (16, .agg (accC V (some ⟨H16, 0, none⟩) V.h.length V.h.length))]) w) :
    (Code.region 3 l.toArray true).wp Try.prog Q a0 w0 := by
  subst hl
  refine region_head2 (trgF g y m d z A root sa sb V xs) trgD 9 17 S.size rfl (by kernel_rfl) (by kernel_rfl) (by kernel_rfl) (trgF_mono _ _ _ _ _ _ _ _ _ _ _) (trg_ok S) fun a w hB hF h => ?_
  obtain ⟨A15, n15, c15, h15, p15⟩ : rowX xs (a.tmps.getD 15 undef) w := h 7 (some 15) (by omega) rfl
  obtain ⟨H16, h16, p16⟩ : tAcc z V (a.tmps.getD 16 undef) w := h 8 (some 16) (by omega) rfl
  have hv : valsAre a [(8, .pointer (some ⟨g, 0, none⟩)), (9, .pointer (some ⟨g, 0, none⟩)), (10, .pointer (some ⟨g, 0, none⟩)), (11, .pointer (some ⟨g, 0, none⟩)), (12, .pointer (some ⟨g, 1, none⟩)), (13, .pointer root), (14, .agg #[.int .i64 sa, .int .i64 sb]), (15, .slice A15 n15 c15), (16, .agg (accC V (some ⟨H16, 0, none⟩) V.h.length V.h.length))] := by
    refine ⟨?_, ?_, ?_, ?_, ?_, ?_, ?_, ?_, ?_, trivial⟩
    · exact h 0 (some 8) (by omega) rfl
    · exact h 1 (some 9) (by omega) rfl
    · exact h 2 (some 10) (by omega) rfl
    · exact h 3 (some 11) (by omega) rfl
    · exact h 4 (some 12) (by omega) rfl
    · exact h 5 (some 13) (by omega) rfl
    · exact h 6 (some 14) (by omega) rfl
    · exact h15
    · exact h16
  rw [frame_is hF _ hv (by rfl) (by rfl)]
  exact hend A15 n15 c15 H16 w hB p15 p16
end

def tirD : List (Option Tmp) := [some 22, some 23, some 24, some 25, some 26, some 27, some 28, some 29, some 30, some 31, none]
def tirF (g _y _m _d : Nat) (_A root : Option Addr) (x : It) (bs : List Int) (P : Nat → Prop) (R1 : List It) : List Fact := [isV (.pointer (some ⟨g, 0, none⟩)), isV (.pointer (some ⟨g, 0, none⟩)), isV (.pointer (some ⟨g, 0, none⟩)), isV (.pointer (some ⟨g, 0, none⟩)), isV (.pointer (some ⟨g, 1, none⟩)), isV (.pointer root), isV (.agg #[.int .i64 x.s, .int .i64 x.t, .int .i64 x.q, .int .i64 x.v]), trV bs P R1, isV (.pointer (some ⟨g, 0, none⟩)), isV (.pointer (some ⟨g, 1, none⟩))]
theorem tirF_mono (g y m d : Nat) (A root : Option Addr) (x : It) (bs : List Int) (P : Nat → Prop) (R1 : List It) : ∀ φ ∈ tirF g y m d A root x bs P R1, Mono φ := by
  unfold tirF
  refine monos_cons (mono_isV _) ?_
  refine monos_cons (mono_isV _) ?_
  refine monos_cons (mono_isV _) ?_
  refine monos_cons (mono_isV _) ?_
  refine monos_cons (mono_isV _) ?_
  refine monos_cons (mono_isV _) ?_
  refine monos_cons (mono_isV _) ?_
  refine monos_cons (trV_mono _ _ _) ?_
  refine monos_cons (mono_isV _) ?_
  refine monos_cons (mono_isV _) ?_
  exact monos_nil
structure tirS (g y m d : Nat) (A root : Option Addr) (x : It) (bs : List Int) (P : Nat → Prop) (R1 : List It) (a0 : Act) (w0 : World) : Prop where
  size : a0.tmps.size = 33
  v0 : a0.tmps.getD 0 undef = .pointer (some ⟨g, 0, none⟩)
  v6 : a0.tmps.getD 6 undef = .pointer (some ⟨y, 0, none⟩)
  st : Has w0 g 77 #[.slice A m d, .pointer root]
  bx : Has w0 y 47 #[.int .i64 x.s, .int .i64 x.t, .int .i64 x.q, .int .i64 x.v]
  c1 : ∀ w, Below w0.heap.size w0 w → Calls Try.prog 46 #[.pointer (some ⟨g, 0, none⟩), .pointer root, .agg #[.int .i64 x.s, .int .i64 x.t, .int .i64 x.q, .int .i64 x.v]] w (TrO bs P R1 w)
section
variable {g y m d : Nat} {A root : Option Addr} {x : It} {bs : List Int} {P : Nat → Prop} {R1 : List It} {a0 : Act} {w0 : World} (S : tirS g y m d A root x bs P R1 a0 w0)
include S
set_option maxRecDepth 100000 in
set_option maxHeartbeats 8000000 in
theorem tir_ok : AllOps (fun j o => ∀ (a : Act) (w : World), Below w0.heap.size w0 w → FrD (tirD.take 10) a0 a → needs tirD (tirF g y m d A root x bs P R1) a w o.after.toList → StepD Try.prog tirD (factAt (tirF g y m d A root x bs P R1) j) o a w) 0 ((opsOf 10 Try.f17).take 10) := by
  simp only [opsOf, Try.f17, opsAt, Option.bind, Option.or, Option.getD, reduceCtorEq, if_true, if_false, Nat.reduceEqDiff, List.take_succ_cons, List.take_zero]
  refine ⟨?_, ?_⟩
  · intro _a _w _hB hF _hd
    exact step_move (guard_none rfl) rfl _ rfl ((hF.other 0 rfl).trans S.v0)
  refine ⟨?_, ?_⟩
  · intro _a _w _hB hF _hd
    exact step_move (guard_none rfl) rfl _ rfl ((hF.other 0 rfl).trans S.v0)
  refine ⟨?_, ?_⟩
  · intro _a _w _hB hF _hd
    exact step_move (guard_none rfl) rfl _ rfl ((hF.other 0 rfl).trans S.v0)
  refine ⟨?_, ?_⟩
  · intro a _w _hB _hF hd
    have h24 : a.tmps.getD 24 undef = .pointer (some ⟨g, 0, none⟩) := hd.1 rfl
    exact rf_nilck (guard_none rfl) rfl _ rfl _ h24 rfl
  refine ⟨?_, ?_⟩
  · intro a _w _hB _hF hd
    have h25 : a.tmps.getD 25 undef = .pointer (some ⟨g, 0, none⟩) := hd.1 rfl
    exact rf_faddr (guard_none rfl) rfl _ _ _ rfl _ _ 1 _ h25 (by omega) (fun _ _ => by kernel_rfl) rfl
  refine ⟨?_, ?_⟩
  · intro a _w hB _hF hd
    have h26 : a.tmps.getD 26 undef = .pointer (some ⟨g, 1, none⟩) := hd.1 rfl
    exact rf_load1 (guard_none rfl) rfl _ _ rfl _ _ h26 (run_ldPart ((Has.cell (S.st.below hB S.st.lt) 1).trans rfl)) rfl
  refine ⟨?_, ?_⟩
  · intro _a _w hB hF _hd
    exact rf_loadS (guard_none rfl) rfl _ _ rfl _ _ ((hF.other 6 rfl).trans S.v6) _ (rf_range (S.bx.below hB S.bx.lt)) Try.underlying47 rfl (by kernel_rfl) rfl
  refine ⟨?_, ?_⟩
  · intro a w hB _hF hd
    have h23 : a.tmps.getD 23 undef = .pointer (some ⟨g, 0, none⟩) := hd.1 rfl
    have h27 : a.tmps.getD 27 undef = .pointer root := hd.2.1 rfl
    have h28 : a.tmps.getD 28 undef = .agg #[.int .i64 x.s, .int .i64 x.t, .int .i64 x.q, .int .i64 x.v] := hd.2.2.1 rfl
    refine step_call (guard_none rfl) rfl _ _ (rf_call_run Try.func46 (by kernel_rfl) (by kernel_rfl) _ _ rfl) ?_
    simp only [List.map_toArray, List.map_cons, List.map_nil, Act.eval, h23, h27, h28]
    exact (S.c1 w hB).mono (by rintro e w1 ⟨T, rfl, h1, h2, hb⟩; exact ⟨_, rfl, hb, T, rfl, h1, h2⟩)
  refine ⟨?_, ?_⟩
  · intro a _w _hB _hF hd
    have h22 : a.tmps.getD 22 undef = .pointer (some ⟨g, 0, none⟩) := hd.1 rfl
    exact rf_nilck (guard_none rfl) rfl _ rfl _ h22 rfl
  refine ⟨?_, ?_⟩
  · intro a _w _hB _hF hd
    have h30 : a.tmps.getD 30 undef = .pointer (some ⟨g, 0, none⟩) := hd.1 rfl
    exact rf_faddr (guard_none rfl) rfl _ _ _ rfl _ _ 1 _ h30 (by omega) (fun _ _ => by kernel_rfl) rfl
  trivial
theorem tir_any {Q : Exit → Act → World → Prop} {l : List Oper} (hl : opsOf 10 Try.f17 = l) (hend : ∀ (T29 : Tr), ∀ w : World, Below w0.heap.size w0 w → (T29.At bs P w ∧ T29.row = R1) → wpList Try.prog l.toArray Q (l.drop 10) (putAll a0 [(22, .pointer (some ⟨g, 0, none⟩)), (23, .pointer (some ⟨g, 0, none⟩)), (24, .pointer (some ⟨g, 0, none⟩)), (25, .pointer (some ⟨g, 0, none⟩)), (26, .pointer (some ⟨g, 1, none⟩)), (27, .pointer root), (28, .agg #[.int .i64 x.s, .int .i64 x.t, .int .i64 x.q, .int .i64 x.v]), (29, .pointer T29.ptr), (30, .pointer (some ⟨g, 0, none⟩)), (31, .pointer (some ⟨g, 1, none⟩))]) w) :
    (Code.region 10 l.toArray true).wp Try.prog Q a0 w0 := by
  subst hl
  refine region_head2 (tirF g y m d A root x bs P R1) tirD 10 33 S.size rfl (by kernel_rfl) (by kernel_rfl) (by kernel_rfl) (tirF_mono _ _ _ _ _ _ _ _ _ _) (tir_ok S) fun a w hB hF h => ?_
  obtain ⟨T29, h29, p29⟩ : trV bs P R1 (a.tmps.getD 29 undef) w := h 7 (some 29) (by omega) rfl
  have hv : valsAre a [(22, .pointer (some ⟨g, 0, none⟩)), (23, .pointer (some ⟨g, 0, none⟩)), (24, .pointer (some ⟨g, 0, none⟩)), (25, .pointer (some ⟨g, 0, none⟩)), (26, .pointer (some ⟨g, 1, none⟩)), (27, .pointer root), (28, .agg #[.int .i64 x.s, .int .i64 x.t, .int .i64 x.q, .int .i64 x.v]), (29, .pointer T29.ptr), (30, .pointer (some ⟨g, 0, none⟩)), (31, .pointer (some ⟨g, 1, none⟩))] := by
    refine ⟨?_, ?_, ?_, ?_, ?_, ?_, ?_, ?_, ?_, ?_, trivial⟩
    · exact h 0 (some 22) (by omega) rfl
    · exact h 1 (some 23) (by omega) rfl
    · exact h 2 (some 24) (by omega) rfl
    · exact h 3 (some 25) (by omega) rfl
    · exact h 4 (some 26) (by omega) rfl
    · exact h 5 (some 27) (by omega) rfl
    · exact h 6 (some 28) (by omega) rfl
    · exact h29
    · exact h 8 (some 30) (by omega) rfl
    · exact h 9 (some 31) (by omega) rfl
  rw [frame_is hF _ hv (by rfl) (by rfl)]
  exact hend T29 w hB p29
end

end Go.Proofs.Ytdoflmphkalicaa

namespace Go.Proofs.Ytdoflmphkalicaa
open Go.RowKit

/-- The tree at g, with these bounds, holds the row R; it lies in blocks out of O. -/
def PTr (O : Nat → Prop) (g : Nat) (bs : List Int) (R : List It) (w : World) : Prop := ∃ (T : Tr) (A : Option Addr) (m d : Nat), TBd O w g bs A m d T.ptr ∧ T.At bs O w ∧ T.row = R ∧ StrS R ∧ ItsT bs R
def GrowT (O : Nat → Prop) (w w' : World) : Nat → Prop := fun k => O k ∨ (w.heap.size ≤ k ∧ k < w'.heap.size)
section
variable {O O' : Nat → Prop} {g m d : Nat} {A root : Option Addr} {bs : List Int} {R : List It} {w w' : World}
theorem TBd.mono (h : TBd O w g bs A m d root) (ho : ∀ k, k < w.heap.size → O k → O' k) : TBd O' w g bs A m d root :=
  ⟨h.st, h.bd, ho g h.st.lt h.inG, fun k hk => ho k (World.ownsRow.lt h.bd k hk).2 (h.inD k hk)⟩
theorem PTr.same (h : PTr O g bs R w) (hk : ∀ k, k < w.heap.size → O k → w'.heap[k]? = w.heap[k]?) : PTr O g bs R w' := by
  obtain ⟨T, A, m, d, h1, h2, h3, h4, h5⟩ := h
  exact ⟨T, A, m, d, h1.same hk, h2.same hk, h3, h4, h5⟩
theorem PTr.mono (h : PTr O g bs R w) (ho : ∀ k, k < w.heap.size → O k → O' k) : PTr O' g bs R w := by
  obtain ⟨T, A, m, d, h1, h2, h3, h4, h5⟩ := h
  exact ⟨T, A, m, d, h1.mono ho, h2.mono ho, h3, h4, h5⟩
theorem PTr.below (h : PTr O g bs R w) (hb : Below w.heap.size w w') : PTr O g bs R w' := h.same fun k hk _ => hb.block k hk
theorem PTr.its (h : PTr O g bs R w) : ItsT bs R := by obtain ⟨_, _, _, _, _, _, _, _, h5⟩ := h; exact h5
theorem PTr.str (h : PTr O g bs R w) : StrS R := by obtain ⟨_, _, _, _, _, _, _, h4, _⟩ := h; exact h4
theorem PTr.gO (h : PTr O g bs R w) : O g ∧ g < w.heap.size := by obtain ⟨_, _, _, _, h1, _⟩ := h; exact ⟨h1.inG, h1.st.lt⟩
theorem butO_nil {c : Nat} (h : ButO (slB (.slice none 0 c)) w w') : Below w.heap.size w w' := ⟨h.os, h.tape, h.output, h.size, fun k hk => h.other k hk (fun e => by simp [slB, Value.ownBlock] at e)⟩

/-- Items: all, in a row of the caller's. -/
theorem PTr.items (h : PTr O g bs R w) :
    Calls Try.prog 26 #[.pointer (some ⟨g, 0, none⟩)] w fun e w' => ∃ A c, e = .returned (.slice A R.length c) ∧ OwnIt w' w.heap.size (.slice A R.length c) R ∧ Below w.heap.size w w' := by
  obtain ⟨T, A, m, d, h1, h2, rfl, h4, h5⟩ := h
  have HC := Lib.hid (titems_any (P := fun k => O k ∧ k < w.heap.size) (bs := bs) w.heap.size w.heap.size (fun k hk => hk.2) T w (.slice none 0 0) [] (h2.mono fun k hk ho => ⟨ho, hk⟩) (Nat.le_refl _) (World.ownsRow_nil _ _ _ _) (Nat.le_refl _) (fun k _ e => by simp [Value.ownBlock] at e) (by have := h5.le; simp; omega))
  have hc1 : w.cell? ⟨g, 1, none⟩ = some (.pointer T.ptr) := h1.st.cell 1
  clear h1 h2 h4 h5
  generalize T.ptr = tp at hc1 HC
  rw [List.nil_append] at HC
  generalize T.row = R at HC ⊢
  go_enter Try.func26, Try.ntmps26
  go_wp2_with (refine HC.out.mono ?_; clear HC; rintro e w1 ⟨v, rfl, k1, k2, k3⟩)
  go_ret
  obtain ⟨A2, c2, rfl, _⟩ := k1.form
  exact ⟨A2, c2, rfl, k1, butO_nil k2⟩

set_option maxRecDepth 100000 in
set_option maxHeartbeats 1000000 in
/-- Range: what is known of all in the span. -/
theorem PTr.range (h : PTr O g bs R w) (sa sb : Int) :
    Calls Try.prog 21 #[.pointer (some ⟨g, 0, none⟩), .agg #[.int .i64 sa, .int .i64 sb]] w (AcO (foldA bs (inS sa sb R)) w) := by
  obtain ⟨T, A, m, d, h1, h2, rfl, h4, h5⟩ := h
  have hfl := Tr.told_flat bs sa sb T h5
  have hits : ItsT bs (T.told bs sa sb).flatten := hfl ▸ h5.sublist List.filter_sublist
  have hln := Tr.told_len bs sa sb T
  have HJ : Hid (∀ w' C n c, Below w.heap.size w w' → Accs w' C n ((T.told bs sa sb).map (foldA bs)) → Calls Try.prog 50 #[.pointer (some ⟨g, 0, none⟩), .slice C n c] w' (AcO (foldA bs (inS sa sb T.row)) w')) := fun w' C n c hb hA => by
    rw [← hfl, ← groups_join hits]
    exact tjoin_any (h1.below hb) C n c _ hA (by have := hA.1; rw [List.length_map] at this; have := h5.le; omega) (groups_row hits)
  have HC : Hid (∀ w', Below w.heap.size w w' → Calls Try.prog 51 #[.pointer (some ⟨g, 0, none⟩), .pointer T.ptr, .agg #[.int .i64 sa, .int .i64 sb], .slice none 0 0] w' fun e w1 => ∃ A n c, e = .returned (.slice A n c) ∧ Accs w1 A n ((T.told bs sa sb).map (foldA bs)) ∧ Below w'.heap.size w' w1) := fun w' hb => by
    have := twithin_any (P := fun k => O k ∧ k < w'.heap.size) (g := g) (m := m) (d := d) (A := A) (root := T.ptr) (bs := bs) w'.heap.size w'.heap.size (fun k hk => hk.2) sa sb T w' (.slice none 0 0) [] ((h1.below hb).mono fun k hk ho => ⟨ho, hk⟩) ((h2.below hb).mono fun k hk ho => ⟨ho, hk⟩) (Nat.le_refl _) (Own.nil _ _) (Nat.le_refl _) (fun k _ e => by simp [Value.ownBlock] at e) (by have := h5.le; simp; omega) h5
    refine this.mono ?_
    rintro e w1 ⟨v, qs, rfl, k1, k2, k3, k4⟩
    rw [List.nil_append] at k1
    obtain ⟨A2, c2, rfl, _⟩ := k1.form
    refine ⟨A2, _, c2, rfl, ?_, butO_nil k3⟩
    rw [← k2]
    refine k1.accs fun p hp => ?_
    have hm : p.1 ∈ (T.told bs sa sb).map (foldA bs) := by rw [← k2]; exact List.mem_map.2 ⟨p, hp, rfl⟩
    obtain ⟨y, _, e⟩ := List.mem_map.1 hm
    rw [← e, foldA_len]
    have := (boundsB_true h5.bd).1
    unfold maxLen
    omega
  have HST := Lib.hid h1.st
  have HAL : Hid (∀ o o', Below w.heap.size w ((w.alloc o).alloc o')) := fun o o' => below_alloc ((Below.refl _ _).alloc (Nat.le_refl _) o) (Nat.le_refl _) o'
  clear h1 h2 h4 h5 hfl hits hln
  generalize T.ptr = tp at HC HST
  generalize (T.told bs sa sb).map (foldA bs) = xs at HC HJ
  generalize foldA bs (inS sa sb T.row) = V at HJ ⊢
  go_enter Try.func21, Try.ntmps21
  go_upto_region 3 with fail
  refine trg_any (g := g) (y := w.heap.size) (m := m) (d := d) (z := w.heap.size + 2) (A := A) (root := tp) (sa := sa) (sb := sb) (V := V) (xs := xs) ⟨rfl, rfl, rfl, (HST.out.alloc _).alloc _, (Has.made _ _ _).alloc _, by simp, fun w' hb => HC.out w' ((HAL.out _ _).trans (hb.mono (by simp; omega))), fun w' C n c hb hA => HJ.out w' C n c ((HAL.out _ _).trans (hb.mono (by simp; omega))) hA⟩ (by kernel_rfl) ?_
  intro A15 n15 c15 H16 w9 hB9 _ hV
  have H4 := Lib.hid (show Has w9 (w.heap.size + 1) 49 (accC zeroAc none 0 0) from (made2 w _ _ _).below hB9 (by simp))
  have HB9 := Lib.hid ((HAL.out _ _).trans (hB9.mono (by simp; omega)))
  have HV := Lib.hid hV
  clear hB9 hV HAL HJ HC HST
  simp only [putAll, Act.put, List.setIfInBounds_toArray, List.set_cons_succ, List.set_cons_zero, List.drop_succ_cons, List.drop_zero]
  refine store_has rfl _ _ rfl (w.heap.size + 1) (ac := V) (A := some ⟨H16, 0, none⟩) (k := V.h.length) (c := V.h.length) rfl rfl H4.out rfl ?_
  go_wp2_with fail
  refine bodyPost_ret (ret_row1 rfl _ _ _ 49 (accC V (some ⟨H16, 0, none⟩) V.h.length V.h.length) _ rfl (H4.out.row _) Try.underlying49 rfl (by exact Try.sizeAcc)) rfl ?_
  have h1 := HV.out.2
  exact ⟨H16, by omega, rfl, HV.out.1.rowFar (by omega) _, below_row HB9.out (by omega) _⟩

/-! The root turned. -/
theorem Tr.At.putG {P : Nat → Prop} {cs : Array Value} (hg : Has w g TT cs) (i : Nat) (v : Value) : ∀ {t : Tr}, t.At bs P w → t.At bs P (w.setCell ⟨g, i, none⟩ v)
  | .nil, _ => trivial
  | .node b H l x r, h => by
    obtain ⟨h1, h2, h3, h4, h5, h6⟩ := h
    exact ⟨h1, h2, h3.putFar (fun e => has_types (e ▸ h3) hg (by decide)) v, h4.putFar (fun e => has_types (e ▸ h4) hg (by decide)) v, Tr.At.putG hg i v h5, Tr.At.putG hg i v h6⟩
theorem TBd.putG {P : Nat → Prop} (h : TBd P w g bs A m d root) (r : Option Addr) : TBd P (w.setCell ⟨g, 1, none⟩ (.pointer r)) g bs A m d r :=
  ⟨h.st.put 1 (.pointer r), ownI_same h.bd fun k hk e => by
    obtain ⟨cur, hh⟩ : ∃ cur, Has w k 3 cur := by
      rcases h.bd.2 with ⟨e1, _⟩ | ⟨g', cap, cur, e1, _, hh, _⟩
      · rw [e1] at e; simp [Value.ownBlock] at e
      · rw [e1] at e
        have : g' = k := by simpa [Value.ownBlock] using e
        exact ⟨cur, this ▸ hh⟩
    exact heap_setCell_other _ _ _ _ (fun e => has_types (e ▸ hh) h.st (by decide)), h.inG, h.inD⟩
/-- What an eviction leaves. -/
def EvO (O : Nat → Prop) (g : Nat) (bs : List Int) (R : List It) (w w' : World) : Prop := ButS [g] w w' ∧ PTr (GrowT O w w') g bs R w'
set_option maxRecDepth 100000 in
set_option maxHeartbeats 1000000 in
theorem PTr.evict (h : PTr O g bs R w) (u : Int) :
    Calls Try.prog 24 #[.pointer (some ⟨g, 0, none⟩), .int .i64 u] w fun e w' => e = .returned (.int .i64 ((R.length : Nat) - ((stay u R).length : Nat))) ∧ EvO O g bs (stay u R) w w' := by
  obtain ⟨T, A, m, d, h1, h2, rfl, h4, h5⟩ := h
  have h1' : TBd (fun k => O k ∨ w.heap.size ≤ k) w g bs A m d T.ptr := h1.mono fun _ _ h => .inl h
  have h2' : T.At bs (fun k => O k ∨ w.heap.size ≤ k) w := h2.mono fun _ _ h => .inl h
  have HE := Lib.hid (tevict_any u T w h1' h2' (fun k hk => .inr hk) h4 h5)
  have HCT := Lib.hid (tcount_any bs _ T w h2)
  have HT1 := Lib.hid h1'
  have HS4 := Lib.hid (show StrS (stay u T.row) from h4.filter fun x => decide (¬ x.t < u))
  have HI5 := Lib.hid (h5.sublist (xs := stay u T.row) List.filter_sublist)
  have hc1 : w.cell? ⟨g, 1, none⟩ = some (.pointer T.ptr) := h1.st.cell 1
  have hle : (stay u T.row).length ≤ T.row.length := List.length_filter_le _ _
  have h8 := h5.le
  clear h1 h2 h4 h5 h1' h2'
  generalize T.ptr = tp at hc1 HE HCT HT1
  generalize T.row.length = N at HCT hle h8 ⊢
  generalize stay u T.row = SR at HE hle HI5 HS4 ⊢
  go_enter Try.func24, Try.ntmps24
  go_upto_region 4 with (refine HCT.out.mono ?_; clear HCT; rintro e w1 ⟨rfl, rfl⟩)
  have HC2 : Hid (∀ (w2 : World) (T2 : Tr) (r : Option Addr), T2.ptr = r → T2.At bs (fun k => O k ∨ w.heap.size ≤ k) w2 → Calls Try.prog 53 #[.pointer r] w2 fun e w' => e = .returned (.int .i64 (T2.row.length : Nat)) ∧ w2 = w') := fun w2 T2 r e h => e ▸ tcount_any bs _ T2 w2 h
  go_wp2_with fail
  refine HE.out.mono ?_
  clear HE
  rintro e w2 ⟨T2, rfl, k1, k2, k3⟩
  have K := Lib.hid (show TBd (fun k => O k ∨ w.heap.size ≤ k) w2 g bs A m d tp ∧ T2.At bs (fun k => O k ∨ w.heap.size ≤ k) w2 ∧ T2.row = SR ∧ Below w.heap.size w w2 from ⟨HT1.out.below k3, k1, k2, k3⟩)
  have hc2 : w2.cell? ⟨g, 1, none⟩ = some (.pointer tp) := K.out.1.st.cell 1
  have hf2 : w2.frozen? ⟨g, 1, none⟩ = false := K.out.1.st.mark 1
  clear k1 k2 k3 hc1
  go_upto_region 5 with fail
  have K2 := Lib.hid (show TBd (fun k => O k ∨ w.heap.size ≤ k) (w2.setCell ⟨g, 1, none⟩ (.pointer T2.ptr)) g bs A m d T2.ptr ∧ T2.At bs (fun k => O k ∨ w.heap.size ≤ k) (w2.setCell ⟨g, 1, none⟩ (.pointer T2.ptr)) ∧ T2.row = SR ∧ ButS [g] w (w2.setCell ⟨g, 1, none⟩ (.pointer T2.ptr)) from
    ⟨K.out.1.putG _, Tr.At.putG K.out.1.st _ _ K.out.2.1, K.out.2.2.1, (below_butS K.out.2.2.2 [g]).trans (setCell_butS1 _ _ _ _)⟩)
  generalize w2.setCell ⟨g, 1, none⟩ (.pointer T2.ptr) = w3 at K2 ⊢
  have hc3 : w3.cell? ⟨g, 1, none⟩ = some (.pointer T2.ptr) := K2.out.1.st.cell 1
  clear K hc2 hf2 HT1
  have HC3 := Lib.hid (HC2.out w3 T2 _ rfl K2.out.2.1)
  rw [K2.out.2.2.1] at HC3
  clear HC2
  have hN : (0 : Int) ≤ (N : Nat) ∧ ((N : Nat) : Int) ≤ 8192 ∧ (0 : Int) ≤ (SR.length : Nat) ∧ ((SR.length : Nat) : Int) ≤ (N : Nat) := by omega
  generalize hr : T2.ptr = r at hc3 HC3
  clear hr
  clear hle
  go_wp2_with (refine HC3.out.mono ?_; clear HC3; rintro e w4 ⟨rfl, rfl⟩)
  go_ret
  refine ⟨rfl, K2.out.2.2.2, T2, A, m, d, K2.out.1.mono ?_, K2.out.2.1.mono ?_, K2.out.2.2.1, HS4.out, HI5.out⟩
  all_goals
    intro k hk hp
    rcases hp with hp | hp
    · exact .inl hp
    · exact .inr ⟨hp, hk⟩
end

/-! New. -/
set_option maxRecDepth 100000 in
set_option maxHeartbeats 1000000 in
theorem tnew_no (B : Option Addr) (m d : Nat) (bs : List Int) (w : World) (hbs : Ints w B m bs) (hm : m ≤ maxLen) (h : boundsB bs = false) :
    Calls Try.prog 10 #[.slice B m d] w fun e w' => e = .returned (.tuple #[.pointer none, .int .i64 1900]) ∧ Below w.heap.size w w' := by
  have HBS := Lib.hid hbs
  have H1 := Lib.hid h
  clear hbs h
  go_enter Try.func10, Try.ntmps10
  go_wp2_with fail
  refine (bounds_any B m d bs _ HBS.out hm).mono ?_
  rintro e w1 ⟨rfl, k, rfl⟩
  rw [H1.out]
  go_wp2_with fail
  go_ret2
  exact ⟨rfl, below_drewN (Below.refl _ _) _⟩
set_option maxRecDepth 100000 in
set_option maxHeartbeats 1000000 in
theorem tnew_ok (B : Option Addr) (m d : Nat) (bs : List Int) (w : World) (hbs : Ints w B m bs) (hnil : B = none → d = 0) (h : boundsB bs = true) :
    Calls Try.prog 10 #[.slice B m d] w fun e w' => ∃ g, e = .returned (.tuple #[.pointer (some ⟨g, 0, none⟩), .int .i64 0]) ∧ PTr (fun k => w.heap.size ≤ k ∧ k < w'.heap.size) g bs [] w' ∧ Below w.heap.size w w' := by
  obtain rfl : bs.length = m := hbs.1
  have h8 : bs.length ≤ 8 := (boundsB_true h).1
  have HBS := Lib.hid hbs
  have H1 := Lib.hid h
  have HNIL := Lib.hid hnil
  clear hbs h hnil
  go_enter Try.func10, Try.ntmps10
  go_wp2_with fail
  refine (bounds_any B bs.length d bs _ HBS.out (by unfold maxLen; omega)).mono ?_
  rintro e w1 ⟨rfl, k, hk⟩
  have HB1 := Lib.hid (show Below w.heap.size w w1 from hk ▸ below_drewN (Below.refl _ _) _)
  clear hk
  rw [H1.out]
  go_wp2_with fail
  refine (sclone_any B bs.length d bs w1 (HBS.out.below HB1.out) HNIL.out (by omega)).mono ?_
  rintro e w2 ⟨A2, c2, rfl, ho, hb⟩
  have HO := Lib.hid (ho.mono HB1.out.size)
  have HB2 := Lib.hid (HB1.out.trans (hb.mono HB1.out.size))
  clear ho hb
  go_wp2_with fail
  go_ret2
  have hal : Below w2.heap.size w2 (w2.alloc (.cells #[.slice A2 bs.length c2, .pointer none] TT)) := (Below.refl _ _).alloc (Nat.le_refl _) _
  have hown := HO.out.below hal
  refine ⟨w2.heap.size, rfl, ⟨.nil, A2, bs.length, c2, ⟨Has.made _ _ _, hown.mono (Nat.zero_le _), ⟨HB2.out.size, by simp⟩, fun k hk => ?_⟩, trivial, rfl, List.Pairwise.nil, ItsT.nil H1.out⟩, below_alloc HB2.out (Nat.le_refl _) _⟩
  exact World.ownsRow.lt hown k hk

end Go.Proofs.Ytdoflmphkalicaa
