/-
  The drawn regions of the queue's Total, Push and turn (written by gen/stqu.py).
  Walks: slices.Clone of a []int; the queue's Len, Total, Push, in raw form.
  Walks: the queue's Push, in raw form.
  Walks: stacks.New.
-/
import Derived.Test.YtjmaeiilkbfnaaaQ10
import Derived.BigQuiet
import Derived.Deep.QuietTactic
namespace Go.Proofs.Ytjmaeiilkbfnaaa
open Go.RowKit

def stt3D : List (Option Tmp) := [some 6, some 7, some 8, some 9, some 10, some 11, some 12, some 13, some 14, some 15, some 16, some 17, some 18, some 19, some 20, none]
def stt3F (g _m _d fn fc bn bc : Nat) (_bA FA BA : Option Addr) (z : Nat) (V W T : Ac) : List Fact := [isV (.pointer (some ⟨g, 0, none⟩)), isV (.pointer (some ⟨g, 0, none⟩)), isV (.pointer (some ⟨g, 0, none⟩)), isV (.pointer (some ⟨g, 0, none⟩)), isV (.pointer (some ⟨g, 1, none⟩)), isV (.slice FA fn fc), accN V, isV (.pointer (some ⟨g, 0, none⟩)), isV (.pointer (some ⟨g, 0, none⟩)), isV (.pointer (some ⟨g, 0, none⟩)), isV (.pointer (some ⟨g, 2, none⟩)), isV (.slice BA bn bc), accN W, row2A V W, accZ z T]
theorem stt3F_mono (g m d fn fc bn bc : Nat) (bA FA BA : Option Addr) (z : Nat) (V W T : Ac) : ∀ φ ∈ stt3F g m d fn fc bn bc bA FA BA z V W T, Mono φ := by
  unfold stt3F
  refine monos_cons (mono_isV _) ?_
  refine monos_cons (mono_isV _) ?_
  refine monos_cons (mono_isV _) ?_
  refine monos_cons (mono_isV _) ?_
  refine monos_cons (mono_isV _) ?_
  refine monos_cons (mono_isV _) ?_
  refine monos_cons (accN_mono _) ?_
  refine monos_cons (mono_isV _) ?_
  refine monos_cons (mono_isV _) ?_
  refine monos_cons (mono_isV _) ?_
  refine monos_cons (mono_isV _) ?_
  refine monos_cons (mono_isV _) ?_
  refine monos_cons (accN_mono _) ?_
  refine monos_cons (row2A_mono _ _) ?_
  refine monos_cons (accZ_mono _ _) ?_
  exact monos_nil
structure stt3S (g m d fn fc bn bc : Nat) (bA FA BA : Option Addr) (z : Nat) (V W T : Ac) (a0 : Act) (w0 : World) : Prop where
  size : a0.tmps.size = 21
  v0 : a0.tmps.getD 0 undef = .pointer (some ⟨g, 0, none⟩)
  st : Has w0 g 80 #[.slice bA m d, .slice FA fn fc, .slice BA bn bc]
  ez : z ≤ w0.heap.size
  c1 : ∀ w, Below w0.heap.size w0 w → Calls Try.prog 57 #[.pointer (some ⟨g, 0, none⟩), .slice FA fn fc] w (OutT V w)
  c2 : ∀ w, Below w0.heap.size w0 w → Calls Try.prog 57 #[.pointer (some ⟨g, 0, none⟩), .slice BA bn bc] w (OutT W w)
  cj : ∀ (w : World) (e : Nat), Below w0.heap.size w0 w → Accs w (some ⟨e, 0, none⟩) 2 [V, W] → Calls Try.prog 56 #[.pointer (some ⟨g, 0, none⟩), .slice (some ⟨e, 0, none⟩) 2 2] w (OutA T w)
  lV : V.h.length ≤ maxLen
  lW : W.h.length ≤ maxLen
section
variable {g m d fn fc bn bc : Nat} {bA FA BA : Option Addr} {z : Nat} {V W T : Ac} {a0 : Act} {w0 : World} (S : stt3S g m d fn fc bn bc bA FA BA z V W T a0 w0)
include S
set_option maxRecDepth 100000 in
set_option maxHeartbeats 8000000 in
theorem stt3_ok : AllOps (fun j o => ∀ (a : Act) (w : World), Below w0.heap.size w0 w → FrD (stt3D.take 15) a0 a → needs stt3D (stt3F g m d fn fc bn bc bA FA BA z V W T) a w o.after.toList → StepD Try.prog stt3D (factAt (stt3F g m d fn fc bn bc bA FA BA z V W T) j) o a w) 0 ((opsOf 3 Try.f29).take 15) := by
  simp only [opsOf, Try.f29, opsAt, Option.bind, Option.or, Option.getD, reduceCtorEq, if_true, if_false, Nat.reduceEqDiff, List.take_succ_cons, List.take_zero]
  refine ⟨?_, ?_⟩
  · intro _a _w _hB hF _hd
    exact step_move (guard_none rfl) rfl _ rfl ((hF.other 0 rfl).trans S.v0)
  refine ⟨?_, ?_⟩
  · intro _a _w _hB hF _hd
    exact step_move (guard_none rfl) rfl _ rfl ((hF.other 0 rfl).trans S.v0)
  refine ⟨?_, ?_⟩
  · intro _a _w _hB hF _hd
    exact step_move (guard_none rfl) rfl _ rfl ((hF.other 0 rfl).trans S.v0)
  refine ⟨?_, ?_⟩
  · intro a _w _hB _hF hd
    have h8 : a.tmps.getD 8 undef = .pointer (some ⟨g, 0, none⟩) := hd.1 rfl
    exact rf_nilck (guard_none rfl) rfl _ rfl _ h8 rfl
  refine ⟨?_, ?_⟩
  · intro a _w _hB _hF hd
    have h9 : a.tmps.getD 9 undef = .pointer (some ⟨g, 0, none⟩) := hd.1 rfl
    exact rf_faddr (guard_none rfl) rfl _ _ _ rfl _ _ 1 _ h9 (by omega) (fun _ _ => by kernel_rfl) rfl
  refine ⟨?_, ?_⟩
  · intro a _w hB _hF hd
    have h10 : a.tmps.getD 10 undef = .pointer (some ⟨g, 1, none⟩) := hd.1 rfl
    exact rf_load1 (guard_none rfl) rfl _ _ rfl _ _ h10 (run_ldK ((Has.cell (S.st.below hB S.st.lt) 1).trans rfl)) rfl
  refine ⟨?_, ?_⟩
  · intro a w hB _hF hd
    have h7 : a.tmps.getD 7 undef = .pointer (some ⟨g, 0, none⟩) := hd.1 rfl
    have h11 : a.tmps.getD 11 undef = .slice FA fn fc := hd.2.1 rfl
    refine step_call (guard_none rfl) rfl _ _ (rf_call_run Try.func57 (by kernel_rfl) (by kernel_rfl) _ _ rfl) ?_
    simp only [List.map_toArray, List.map_cons, List.map_nil, Act.eval, h7, h11]
    exact (S.c1 w hB).mono (by rintro e w1 ⟨H, rfl, hh, hb⟩; exact ⟨_, rfl, hb, H, rfl, hh⟩)
  refine ⟨?_, ?_⟩
  · intro _a _w _hB hF _hd
    exact step_move (guard_none rfl) rfl _ rfl ((hF.other 0 rfl).trans S.v0)
  refine ⟨?_, ?_⟩
  · intro _a _w _hB hF _hd
    exact step_move (guard_none rfl) rfl _ rfl ((hF.other 0 rfl).trans S.v0)
  refine ⟨?_, ?_⟩
  · intro a _w _hB _hF hd
    have h14 : a.tmps.getD 14 undef = .pointer (some ⟨g, 0, none⟩) := hd.1 rfl
    exact rf_nilck (guard_none rfl) rfl _ rfl _ h14 rfl
  refine ⟨?_, ?_⟩
  · intro a _w _hB _hF hd
    have h15 : a.tmps.getD 15 undef = .pointer (some ⟨g, 0, none⟩) := hd.1 rfl
    exact rf_faddr (guard_none rfl) rfl _ _ _ rfl _ _ 2 _ h15 (by omega) (fun _ _ => by kernel_rfl) rfl
  refine ⟨?_, ?_⟩
  · intro a _w hB _hF hd
    have h16 : a.tmps.getD 16 undef = .pointer (some ⟨g, 2, none⟩) := hd.1 rfl
    exact rf_load1 (guard_none rfl) rfl _ _ rfl _ _ h16 (run_ldK ((Has.cell (S.st.below hB S.st.lt) 2).trans rfl)) rfl
  refine ⟨?_, ?_⟩
  · intro a w hB _hF hd
    have h13 : a.tmps.getD 13 undef = .pointer (some ⟨g, 0, none⟩) := hd.1 rfl
    have h17 : a.tmps.getD 17 undef = .slice BA bn bc := hd.2.1 rfl
    refine step_call (guard_none rfl) rfl _ _ (rf_call_run Try.func57 (by kernel_rfl) (by kernel_rfl) _ _ rfl) ?_
    simp only [List.map_toArray, List.map_cons, List.map_nil, Act.eval, h13, h17]
    exact (S.c2 w hB).mono (by rintro e w1 ⟨H, rfl, hh, hb⟩; exact ⟨_, rfl, hb, H, rfl, hh⟩)
  refine ⟨?_, ?_⟩
  · intro a w _hB _hF hd
    obtain ⟨H12, h12, p12⟩ : accN V (a.tmps.getD 12 undef) w := hd.1 rfl
    obtain ⟨H18, h18, p18⟩ : accN W (a.tmps.getD 18 undef) w := hd.2.1 rfl
    exact rf_2n (guard_none rfl) rfl _ _ rfl V W _ _ h12 h18 p12 p18 S.lV S.lW (fun _ _ h => h)
  refine ⟨?_, ?_⟩
  · intro a w hB _hF hd
    have h6 : a.tmps.getD 6 undef = .pointer (some ⟨g, 0, none⟩) := hd.1 rfl
    obtain ⟨e19, h19, p19⟩ : row2A V W (a.tmps.getD 19 undef) w := hd.2.1 rfl
    refine step_call (guard_none rfl) rfl _ _ (rf_call_run Try.func56 (by kernel_rfl) (by kernel_rfl) _ _ rfl) ?_
    simp only [List.map_toArray, List.map_cons, List.map_nil, Act.eval, h6, h19]
    exact (S.cj w e19 hB p19).mono (by rintro e w1 ⟨H, hlo, rfl, hh, hb⟩; exact ⟨_, rfl, hb, H, rfl, hh, Nat.le_trans (Nat.le_trans S.ez hB.size) hlo⟩)
  trivial
theorem stt3_any {Q : Exit → Act → World → Prop} {l : List Oper} (hl : opsOf 3 Try.f29 = l) (hend : ∀ (H12 : Nat), ∀ (H18 : Nat), ∀ (e19 : Nat), ∀ (H20 : Nat), ∀ w : World, Below w0.heap.size w0 w → Has w H12 3 (ints V.h) → Has w H18 3 (ints W.h) → Accs w (some ⟨e19, 0, none⟩) 2 [V, W] → (Has w H20 3 (ints T.h) ∧ z ≤ H20) → wpList Try.prog l.toArray Q (l.drop 15) (putAll a0 [(6, .pointer (some ⟨g, 0, none⟩)), (7, .pointer (some ⟨g, 0, none⟩)), (8, .pointer (some ⟨g, 0, none⟩)), (9, .pointer (some ⟨g, 0, none⟩)), (10, .pointer (some ⟨g, 1, none⟩)), (11, .slice FA fn fc), (12, .agg (accC V (some ⟨H12, 0, none⟩) V.h.length V.h.length)), (13, .pointer (some ⟨g, 0, none⟩)), (14, .pointer (some ⟨g, 0, none⟩)), (15, .pointer (some ⟨g, 0, none⟩)), (16, .pointer (some ⟨g, 2, none⟩)), (17, .slice BA bn bc), (18, .agg (accC W (some ⟨H18, 0, none⟩) W.h.length W.h.length)), (19, .slice (some ⟨e19, 0, none⟩) 2 2), (20, .agg (accC T (some ⟨H20, 0, none⟩) T.h.length T.h.length))]) w) :
    (Code.region 3 l.toArray true).wp Try.prog Q a0 w0 := by
  subst hl
  refine region_head2 (stt3F g m d fn fc bn bc bA FA BA z V W T) stt3D 15 21 S.size rfl (by kernel_rfl) (by kernel_rfl) (by kernel_rfl) (stt3F_mono _ _ _ _ _ _ _ _ _ _ _ _ _ _) (stt3_ok S) fun a w hB hF h => ?_
  obtain ⟨H12, h12, p12⟩ : accN V (a.tmps.getD 12 undef) w := h 6 (some 12) (by omega) rfl
  obtain ⟨H18, h18, p18⟩ : accN W (a.tmps.getD 18 undef) w := h 12 (some 18) (by omega) rfl
  obtain ⟨e19, h19, p19⟩ : row2A V W (a.tmps.getD 19 undef) w := h 13 (some 19) (by omega) rfl
  obtain ⟨H20, h20, p20⟩ : accZ z T (a.tmps.getD 20 undef) w := h 14 (some 20) (by omega) rfl
  have hv : valsAre a [(6, .pointer (some ⟨g, 0, none⟩)), (7, .pointer (some ⟨g, 0, none⟩)), (8, .pointer (some ⟨g, 0, none⟩)), (9, .pointer (some ⟨g, 0, none⟩)), (10, .pointer (some ⟨g, 1, none⟩)), (11, .slice FA fn fc), (12, .agg (accC V (some ⟨H12, 0, none⟩) V.h.length V.h.length)), (13, .pointer (some ⟨g, 0, none⟩)), (14, .pointer (some ⟨g, 0, none⟩)), (15, .pointer (some ⟨g, 0, none⟩)), (16, .pointer (some ⟨g, 2, none⟩)), (17, .slice BA bn bc), (18, .agg (accC W (some ⟨H18, 0, none⟩) W.h.length W.h.length)), (19, .slice (some ⟨e19, 0, none⟩) 2 2), (20, .agg (accC T (some ⟨H20, 0, none⟩) T.h.length T.h.length))] := by
    refine ⟨?_, ?_, ?_, ?_, ?_, ?_, ?_, ?_, ?_, ?_, ?_, ?_, ?_, ?_, ?_, trivial⟩
    · exact h 0 (some 6) (by omega) rfl
    · exact h 1 (some 7) (by omega) rfl
    · exact h 2 (some 8) (by omega) rfl
    · exact h 3 (some 9) (by omega) rfl
    · exact h 4 (some 10) (by omega) rfl
    · exact h 5 (some 11) (by omega) rfl
    · exact h12
    · exact h 7 (some 13) (by omega) rfl
    · exact h 8 (some 14) (by omega) rfl
    · exact h 9 (some 15) (by omega) rfl
    · exact h 10 (some 16) (by omega) rfl
    · exact h 11 (some 17) (by omega) rfl
    · exact h18
    · exact h19
    · exact h20
  rw [frame_is hF _ hv (by rfl) (by rfl)]
  exact hend H12 H18 e19 H20 w hB p12 p18 p19 p20
end

def stp3D : List (Option Tmp) := [some 10, some 11, some 12, some 13, some 14, some 15, some 16, some 17, some 18, some 9, some 19, some 20, some 5, none, some 6]
def stp3F (g m d _fn _fc _bn _bc : Nat) (bA _FA _BA : Option Addr) (k c _x z : Nat) (A : Option Addr) (T u U : Ac) (code : Int) : List Fact := [isV (.pointer (some ⟨g, 0, none⟩)), isV (.pointer (some ⟨g, 0, none⟩)), isV (.pointer (some ⟨g, 0, none⟩)), isV (.slice bA m d), isV (.pointer (some ⟨g, 0, none⟩)), accN T, isV (.agg (accC u A k c)), row2A T u, tupX U code, tupX U code, accX U, isV (.int .i64 code), newA z]
theorem stp3F_mono (g m d fn fc bn bc : Nat) (bA FA BA : Option Addr) (k c x z : Nat) (A : Option Addr) (T u U : Ac) (code : Int) : ∀ φ ∈ stp3F g m d fn fc bn bc bA FA BA k c x z A T u U code, Mono φ := by
  unfold stp3F
  refine monos_cons (mono_isV _) ?_
  refine monos_cons (mono_isV _) ?_
  refine monos_cons (mono_isV _) ?_
  refine monos_cons (mono_isV _) ?_
  refine monos_cons (mono_isV _) ?_
  refine monos_cons (accN_mono _) ?_
  refine monos_cons (mono_isV _) ?_
  refine monos_cons (row2A_mono _ _) ?_
  refine monos_cons (tupX_mono _ _) ?_
  refine monos_cons (tupX_mono _ _) ?_
  refine monos_cons (accX_mono _) ?_
  refine monos_cons (mono_isV _) ?_
  refine monos_cons (newA_mono _) ?_
  exact monos_nil
structure stp3S (g m d fn fc bn bc : Nat) (bA FA BA : Option Addr) (k c x z : Nat) (A : Option Addr) (T u U : Ac) (code : Int) (a0 : Act) (w0 : World) : Prop where
  size : a0.tmps.size = 43
  v0 : a0.tmps.getD 0 undef = .pointer (some ⟨g, 0, none⟩)
  v3 : a0.tmps.getD 3 undef = .pointer (some ⟨x, 0, none⟩)
  st : Has w0 g 80 #[.slice bA m d, .slice FA fn fc, .slice BA bn bc]
  ez : z ≤ w0.heap.size
  bx : Has w0 x 29 (accC u A k c)
  bu : Ints w0 A k u.h
  kc : k ≤ c
  cm : c ≤ maxLen
  lT : T.h.length ≤ maxLen
  ct : ∀ w, Below w0.heap.size w0 w → Calls Try.prog 29 #[.pointer (some ⟨g, 0, none⟩)] w (OutA T w)
  cj : ∀ (w : World) (e : Nat), Below w0.heap.size w0 w → Accs w (some ⟨e, 0, none⟩) 2 [T, u] → Calls Try.prog 11 #[.slice bA m d, .slice (some ⟨e, 0, none⟩) 2 2] w (OutX U code w)
section
variable {g m d fn fc bn bc : Nat} {bA FA BA : Option Addr} {k c x z : Nat} {A : Option Addr} {T u U : Ac} {code : Int} {a0 : Act} {w0 : World} (S : stp3S g m d fn fc bn bc bA FA BA k c x z A T u U code a0 w0)
include S
set_option maxRecDepth 100000 in
set_option maxHeartbeats 8000000 in
theorem stp3_ok : AllOps (fun j o => ∀ (a : Act) (w : World), Below w0.heap.size w0 w → FrD (stp3D.take 13) a0 a → needs stp3D (stp3F g m d fn fc bn bc bA FA BA k c x z A T u U code) a w o.after.toList → StepD Try.prog stp3D (factAt (stp3F g m d fn fc bn bc bA FA BA k c x z A T u U code) j) o a w) 0 ((opsOf 3 Try.f27).take 13) := by
  simp only [opsOf, Try.f27, opsAt, Option.bind, Option.or, Option.getD, reduceCtorEq, if_true, if_false, Nat.reduceEqDiff, List.take_succ_cons, List.take_zero]
  refine ⟨?_, ?_⟩
  · intro _a _w _hB hF _hd
    exact step_move (guard_none rfl) rfl _ rfl ((hF.other 0 rfl).trans S.v0)
  refine ⟨?_, ?_⟩
  · intro a _w _hB _hF hd
    have h10 : a.tmps.getD 10 undef = .pointer (some ⟨g, 0, none⟩) := hd.1 rfl
    exact rf_nilck (guard_none rfl) rfl _ rfl _ h10 rfl
  refine ⟨?_, ?_⟩
  · intro a _w _hB _hF hd
    have h11 : a.tmps.getD 11 undef = .pointer (some ⟨g, 0, none⟩) := hd.1 rfl
    exact rf_faddr (guard_none rfl) rfl _ _ _ rfl _ _ 0 _ h11 (by omega) (fun _ _ => by kernel_rfl) rfl
  refine ⟨?_, ?_⟩
  · intro a _w hB _hF hd
    have h12 : a.tmps.getD 12 undef = .pointer (some ⟨g, 0, none⟩) := hd.1 rfl
    exact rf_load1 (guard_none rfl) rfl _ _ rfl _ _ h12 (run_ldN ((Has.cell (S.st.below hB S.st.lt) 0).trans rfl)) rfl
  refine ⟨?_, ?_⟩
  · intro _a _w _hB hF _hd
    exact step_move (guard_none rfl) rfl _ rfl ((hF.other 0 rfl).trans S.v0)
  refine ⟨?_, ?_⟩
  · intro a w hB _hF hd
    have h14 : a.tmps.getD 14 undef = .pointer (some ⟨g, 0, none⟩) := hd.1 rfl
    refine step_call (guard_none rfl) rfl _ _ (rf_call_run Try.func29 (by kernel_rfl) (by kernel_rfl) _ _ rfl) ?_
    simp only [List.map_toArray, List.map_cons, List.map_nil, Act.eval, h14]
    exact (S.ct w hB).mono (by rintro e w1 ⟨H, _, rfl, hh, hb⟩; exact ⟨_, rfl, hb, H, rfl, hh⟩)
  refine ⟨?_, ?_⟩
  · intro _a _w hB hF _hd
    exact rf_loadA (guard_none rfl) rfl _ rfl x ((hF.other 3 rfl).trans S.v3) (S.bx.below hB S.bx.lt) rfl
  refine ⟨?_, ?_⟩
  · intro a w hB _hF hd
    obtain ⟨H15, h15, p15⟩ : accN T (a.tmps.getD 15 undef) w := hd.1 rfl
    have h16 : a.tmps.getD 16 undef = .agg (accC u A k c) := hd.2.1 rfl
    exact rf_twoA (guard_none rfl) rfl _ _ rfl T u _ A k c h15 h16 p15 (S.bu.below hB) S.lT S.kc S.cm (fun _ _ h => h)
  refine ⟨?_, ?_⟩
  · intro a w hB _hF hd
    have h13 : a.tmps.getD 13 undef = .slice bA m d := hd.1 rfl
    obtain ⟨e17, h17, p17⟩ : row2A T u (a.tmps.getD 17 undef) w := hd.2.1 rfl
    refine step_call (guard_none rfl) rfl _ _ (rf_call_run Try.func11 (by kernel_rfl) (by kernel_rfl) _ _ rfl) ?_
    simp only [List.map_toArray, List.map_cons, List.map_nil, Act.eval, h13, h17]
    exact (S.cj w e17 hB p17).mono (by rintro e w1 ⟨A, n, c, rfl, hb⟩; exact ⟨_, rfl, hb, A, n, c, rfl, trivial⟩)
  refine ⟨?_, ?_⟩
  · intro a w _hB _hF hd
    obtain ⟨A18, n18, c18, h18, p18⟩ : tupX U code (a.tmps.getD 18 undef) w := hd.1 rfl
    exact step_move (guard_none rfl) rfl _ rfl ⟨A18, n18, c18, h18, p18⟩
  refine ⟨?_, ?_⟩
  · intro a w _hB _hF hd
    obtain ⟨A9, n9, c9, h9, p9⟩ : tupX U code (a.tmps.getD 9 undef) w := hd.1 rfl
    exact rf_extract (guard_none rfl) rfl _ 0 rfl _ _ h9 rfl ⟨A9, n9, c9, rfl, p9⟩
  refine ⟨?_, ?_⟩
  · intro a w _hB _hF hd
    obtain ⟨A9, n9, c9, h9, p9⟩ : tupX U code (a.tmps.getD 9 undef) w := hd.1 rfl
    exact rf_extract (guard_none rfl) rfl _ 1 rfl _ _ h9 rfl rfl
  refine ⟨?_, ?_⟩
  · intro _a _w hB _hF _hd
    exact rf_newA (guard_none rfl) rfl rfl (Nat.le_trans S.ez hB.size) (fun _ _ h => h)
  trivial
theorem stp3_any {Q : Exit → Act → World → Prop} {l : List Oper} (hl : opsOf 3 Try.f27 = l) (hend : ∀ (H15 : Nat), ∀ (e17 : Nat), ∀ (A18 : Option Addr) (n18 : Nat) (c18 : Nat), ∀ (A9 : Option Addr) (n9 : Nat) (c9 : Nat), ∀ (A19 : Option Addr) (n19 : Nat) (c19 : Nat), ∀ (y5 : Nat), ∀ w : World, Below w0.heap.size w0 w → Has w H15 3 (ints T.h) → Accs w (some ⟨e17, 0, none⟩) 2 [T, u] → True → True → True → Has w y5 29 (accC zeroAc none 0 0) ∧ z ≤ y5 → wpList Try.prog l.toArray Q (l.drop 13) (putAll a0 [(10, .pointer (some ⟨g, 0, none⟩)), (11, .pointer (some ⟨g, 0, none⟩)), (12, .pointer (some ⟨g, 0, none⟩)), (13, .slice bA m d), (14, .pointer (some ⟨g, 0, none⟩)), (15, .agg (accC T (some ⟨H15, 0, none⟩) T.h.length T.h.length)), (16, .agg (accC u A k c)), (17, .slice (some ⟨e17, 0, none⟩) 2 2), (18, .tuple #[.agg (accC U A18 n18 c18), .int .i64 code]), (9, .tuple #[.agg (accC U A9 n9 c9), .int .i64 code]), (19, .agg (accC U A19 n19 c19)), (20, .int .i64 code), (5, .pointer (some ⟨y5, 0, none⟩))]) w)
    (hendQ : ∀ (H15 : Nat), ∀ (e17 : Nat), ∀ (A18 : Option Addr) (n18 : Nat) (c18 : Nat), ∀ (A9 : Option Addr) (n9 : Nat) (c9 : Nat), ∀ (A19 : Option Addr) (n19 : Nat) (c19 : Nat), ∀ (y5 : Nat), ∀ w : World, Below w0.heap.size w0 w → Has w H15 3 (ints T.h) → Accs w (some ⟨e17, 0, none⟩) 2 [T, u] → True → True → True → Has w y5 29 (accC zeroAc none 0 0) ∧ z ≤ y5 → wpList Try.prog l.toArray Q (pickL l [13, 11, 14]) (putAll a0 [(10, .pointer (some ⟨g, 0, none⟩)), (11, .pointer (some ⟨g, 0, none⟩)), (12, .pointer (some ⟨g, 0, none⟩)), (13, .slice bA m d), (14, .pointer (some ⟨g, 0, none⟩)), (15, .agg (accC T (some ⟨H15, 0, none⟩) T.h.length T.h.length)), (16, .agg (accC u A k c)), (17, .slice (some ⟨e17, 0, none⟩) 2 2), (18, .tuple #[.agg (accC U A18 n18 c18), .int .i64 code]), (9, .tuple #[.agg (accC U A9 n9 c9), .int .i64 code]), (19, .agg (accC U A19 n19 c19)), (20, a0.tmps.getD 20 undef), (5, .pointer (some ⟨y5, 0, none⟩))]) w) :
    (Code.region 3 l.toArray true).wp Try.prog Q a0 w0 := by
  subst hl
  refine region_head3 (stp3F g m d fn fc bn bc bA FA BA k c x z A T u U code) stp3D 13 43 11 [11, 14] S.size rfl (by kernel_rfl) (by kernel_rfl) (by kernel_rfl) (stp3F_mono _ _ _ _ _ _ _ _ _ _ _ _ _ _ _ _ _ _ _) (stp3_ok S) ?_ ?_
  · intro a w hB hF h
    obtain ⟨H15, h15, p15⟩ : accN T (a.tmps.getD 15 undef) w := h 5 (some 15) (by omega) rfl
    obtain ⟨e17, h17, p17⟩ : row2A T u (a.tmps.getD 17 undef) w := h 7 (some 17) (by omega) rfl
    obtain ⟨A18, n18, c18, h18, p18⟩ : tupX U code (a.tmps.getD 18 undef) w := h 8 (some 18) (by omega) rfl
    obtain ⟨A9, n9, c9, h9, p9⟩ : tupX U code (a.tmps.getD 9 undef) w := h 9 (some 9) (by omega) rfl
    obtain ⟨A19, n19, c19, h19, p19⟩ : accX U (a.tmps.getD 19 undef) w := h 10 (some 19) (by omega) rfl
    obtain ⟨y5, h5, p5⟩ : newA z (a.tmps.getD 5 undef) w := h 12 (some 5) (by omega) rfl
    have hv : valsAre a [(10, .pointer (some ⟨g, 0, none⟩)), (11, .pointer (some ⟨g, 0, none⟩)), (12, .pointer (some ⟨g, 0, none⟩)), (13, .slice bA m d), (14, .pointer (some ⟨g, 0, none⟩)), (15, .agg (accC T (some ⟨H15, 0, none⟩) T.h.length T.h.length)), (16, .agg (accC u A k c)), (17, .slice (some ⟨e17, 0, none⟩) 2 2), (18, .tuple #[.agg (accC U A18 n18 c18), .int .i64 code]), (9, .tuple #[.agg (accC U A9 n9 c9), .int .i64 code]), (19, .agg (accC U A19 n19 c19)), (20, .int .i64 code), (5, .pointer (some ⟨y5, 0, none⟩))] := by
      refine ⟨?_, ?_, ?_, ?_, ?_, ?_, ?_, ?_, ?_, ?_, ?_, ?_, ?_, trivial⟩
      · exact h 0 (some 10) (by omega) rfl
      · exact h 1 (some 11) (by omega) rfl
      · exact h 2 (some 12) (by omega) rfl
      · exact h 3 (some 13) (by omega) rfl
      · exact h 4 (some 14) (by omega) rfl
      · exact h15
      · exact h 6 (some 16) (by omega) rfl
      · exact h17
      · exact h18
      · exact h9
      · exact h19
      · exact h 11 (some 20) (by omega) rfl
      · exact h5
    rw [frame_is hF _ hv (by rfl) (by rfl)]
    exact hend H15 e17 A18 n18 c18 A9 n9 c9 A19 n19 c19 y5 w hB p15 p17 p18 p9 p19 p5
  · intro a w hB hF h hq
    obtain ⟨H15, h15, p15⟩ : accN T (a.tmps.getD 15 undef) w := h 5 (some 15) (by omega) (by omega) rfl
    obtain ⟨e17, h17, p17⟩ : row2A T u (a.tmps.getD 17 undef) w := h 7 (some 17) (by omega) (by omega) rfl
    obtain ⟨A18, n18, c18, h18, p18⟩ : tupX U code (a.tmps.getD 18 undef) w := h 8 (some 18) (by omega) (by omega) rfl
    obtain ⟨A9, n9, c9, h9, p9⟩ : tupX U code (a.tmps.getD 9 undef) w := h 9 (some 9) (by omega) (by omega) rfl
    obtain ⟨A19, n19, c19, h19, p19⟩ : accX U (a.tmps.getD 19 undef) w := h 10 (some 19) (by omega) (by omega) rfl
    obtain ⟨y5, h5, p5⟩ : newA z (a.tmps.getD 5 undef) w := h 12 (some 5) (by omega) (by omega) rfl
    have hv : valsAre a [(10, .pointer (some ⟨g, 0, none⟩)), (11, .pointer (some ⟨g, 0, none⟩)), (12, .pointer (some ⟨g, 0, none⟩)), (13, .slice bA m d), (14, .pointer (some ⟨g, 0, none⟩)), (15, .agg (accC T (some ⟨H15, 0, none⟩) T.h.length T.h.length)), (16, .agg (accC u A k c)), (17, .slice (some ⟨e17, 0, none⟩) 2 2), (18, .tuple #[.agg (accC U A18 n18 c18), .int .i64 code]), (9, .tuple #[.agg (accC U A9 n9 c9), .int .i64 code]), (19, .agg (accC U A19 n19 c19)), (20, a0.tmps.getD 20 undef), (5, .pointer (some ⟨y5, 0, none⟩))] := by
      refine ⟨?_, ?_, ?_, ?_, ?_, ?_, ?_, ?_, ?_, ?_, ?_, ?_, ?_, trivial⟩
      · exact h 0 (some 10) (by omega) (by omega) rfl
      · exact h 1 (some 11) (by omega) (by omega) rfl
      · exact h 2 (some 12) (by omega) (by omega) rfl
      · exact h 3 (some 13) (by omega) (by omega) rfl
      · exact h 4 (some 14) (by omega) (by omega) rfl
      · exact h15
      · exact h 6 (some 16) (by omega) (by omega) rfl
      · exact h17
      · exact h18
      · exact h9
      · exact h19
      · exact hq (some 20) rfl
      · exact h5
    rw [frame_is hF _ hv (by rfl) (by rfl)]
    exact hendQ H15 e17 A18 n18 c18 A9 n9 c9 A19 n19 c19 y5 w hB p15 p17 p18 p9 p19 p5
end

def stp7D : List (Option Tmp) := [some 27, some 28, some 29, some 30, some 31, some 32, some 33, some 34, some 35, some 36, some 37, some 38, some 39, some 40, some 41, some 42]
def stp7F (g _m _d _fn _fc bn bc : Nat) (_bA _FA BA : Option Addr) (hk c _x z : Nat) (u W T : Ac) : List Fact := [isV (.pointer (some ⟨g, 0, none⟩)), isV (.pointer (some ⟨g, 0, none⟩)), isV (.pointer (some ⟨g, 2, none⟩)), isV (.agg (accC u (some ⟨hk, 0, none⟩) u.h.length c)), isV (.pointer (some ⟨g, 0, none⟩)), isV (.pointer (some ⟨g, 0, none⟩)), isV (.pointer (some ⟨g, 0, none⟩)), isV (.pointer (some ⟨g, 0, none⟩)), isV (.pointer (some ⟨g, 2, none⟩)), isV (.slice BA bn bc), accN W, isV (.agg (accC u (some ⟨hk, 0, none⟩) u.h.length c)), row2A W u, accZ z T, partV z hk c u T]
theorem stp7F_mono (g m d fn fc bn bc : Nat) (bA FA BA : Option Addr) (hk c x z : Nat) (u W T : Ac) : ∀ φ ∈ stp7F g m d fn fc bn bc bA FA BA hk c x z u W T, Mono φ := by
  unfold stp7F
  refine monos_cons (mono_isV _) ?_
  refine monos_cons (mono_isV _) ?_
  refine monos_cons (mono_isV _) ?_
  refine monos_cons (mono_isV _) ?_
  refine monos_cons (mono_isV _) ?_
  refine monos_cons (mono_isV _) ?_
  refine monos_cons (mono_isV _) ?_
  refine monos_cons (mono_isV _) ?_
  refine monos_cons (mono_isV _) ?_
  refine monos_cons (mono_isV _) ?_
  refine monos_cons (accN_mono _) ?_
  refine monos_cons (mono_isV _) ?_
  refine monos_cons (row2A_mono _ _) ?_
  refine monos_cons (accZ_mono _ _) ?_
  refine monos_cons (partV_mono _ _ _ _ _) ?_
  exact monos_nil
structure stp7S (g m d fn fc bn bc : Nat) (bA FA BA : Option Addr) (hk c x z : Nat) (u W T : Ac) (a0 : Act) (w0 : World) : Prop where
  size : a0.tmps.size = 43
  v0 : a0.tmps.getD 0 undef = .pointer (some ⟨g, 0, none⟩)
  v3 : a0.tmps.getD 3 undef = .pointer (some ⟨x, 0, none⟩)
  st : Has w0 g 80 #[.slice bA m d, .slice FA fn fc, .slice BA bn bc]
  ez : z ≤ w0.heap.size
  bx : Has w0 x 29 (accC u (some ⟨hk, 0, none⟩) u.h.length c)
  bu : Ints w0 (some ⟨hk, 0, none⟩) u.h.length u.h
  kc : u.h.length ≤ c
  cm : c ≤ maxLen
  lW : W.h.length ≤ maxLen
  c2 : ∀ w, Below w0.heap.size w0 w → Calls Try.prog 57 #[.pointer (some ⟨g, 0, none⟩), .slice BA bn bc] w (OutT W w)
  cj : ∀ (w : World) (e : Nat), Below w0.heap.size w0 w → Accs w (some ⟨e, 0, none⟩) 2 [W, u] → Calls Try.prog 56 #[.pointer (some ⟨g, 0, none⟩), .slice (some ⟨e, 0, none⟩) 2 2] w (OutA T w)
section
variable {g m d fn fc bn bc : Nat} {bA FA BA : Option Addr} {hk c x z : Nat} {u W T : Ac} {a0 : Act} {w0 : World} (S : stp7S g m d fn fc bn bc bA FA BA hk c x z u W T a0 w0)
include S
set_option maxRecDepth 100000 in
set_option maxHeartbeats 8000000 in
theorem stp7_ok : AllOps (fun j o => ∀ (a : Act) (w : World), Below w0.heap.size w0 w → FrD (stp7D.take 15) a0 a → needs stp7D (stp7F g m d fn fc bn bc bA FA BA hk c x z u W T) a w o.after.toList → StepD Try.prog stp7D (factAt (stp7F g m d fn fc bn bc bA FA BA hk c x z u W T) j) o a w) 0 ((opsOf 7 Try.f27).take 15) := by
  simp only [opsOf, Try.f27, opsAt, Option.bind, Option.or, Option.getD, reduceCtorEq, if_true, if_false, Nat.reduceEqDiff, List.take_succ_cons, List.take_zero]
  refine ⟨?_, ?_⟩
  · intro _a _w _hB hF _hd
    exact step_move (guard_none rfl) rfl _ rfl ((hF.other 0 rfl).trans S.v0)
  refine ⟨?_, ?_⟩
  · intro a _w _hB _hF hd
    have h27 : a.tmps.getD 27 undef = .pointer (some ⟨g, 0, none⟩) := hd.1 rfl
    exact rf_nilck (guard_none rfl) rfl _ rfl _ h27 rfl
  refine ⟨?_, ?_⟩
  · intro a _w _hB _hF hd
    have h28 : a.tmps.getD 28 undef = .pointer (some ⟨g, 0, none⟩) := hd.1 rfl
    exact rf_faddr (guard_none rfl) rfl _ _ _ rfl _ _ 2 _ h28 (by omega) (fun _ _ => by kernel_rfl) rfl
  refine ⟨?_, ?_⟩
  · intro _a _w hB hF _hd
    exact rf_loadA (guard_none rfl) rfl _ rfl x ((hF.other 3 rfl).trans S.v3) (S.bx.below hB S.bx.lt) rfl
  refine ⟨?_, ?_⟩
  · intro _a _w _hB hF _hd
    exact step_move (guard_none rfl) rfl _ rfl ((hF.other 0 rfl).trans S.v0)
  refine ⟨?_, ?_⟩
  · intro _a _w _hB hF _hd
    exact step_move (guard_none rfl) rfl _ rfl ((hF.other 0 rfl).trans S.v0)
  refine ⟨?_, ?_⟩
  · intro _a _w _hB hF _hd
    exact step_move (guard_none rfl) rfl _ rfl ((hF.other 0 rfl).trans S.v0)
  refine ⟨?_, ?_⟩
  · intro a _w _hB _hF hd
    have h33 : a.tmps.getD 33 undef = .pointer (some ⟨g, 0, none⟩) := hd.1 rfl
    exact rf_nilck (guard_none rfl) rfl _ rfl _ h33 rfl
  refine ⟨?_, ?_⟩
  · intro a _w _hB _hF hd
    have h34 : a.tmps.getD 34 undef = .pointer (some ⟨g, 0, none⟩) := hd.1 rfl
    exact rf_faddr (guard_none rfl) rfl _ _ _ rfl _ _ 2 _ h34 (by omega) (fun _ _ => by kernel_rfl) rfl
  refine ⟨?_, ?_⟩
  · intro a _w hB _hF hd
    have h35 : a.tmps.getD 35 undef = .pointer (some ⟨g, 2, none⟩) := hd.1 rfl
    exact rf_load1 (guard_none rfl) rfl _ _ rfl _ _ h35 (run_ldK ((Has.cell (S.st.below hB S.st.lt) 2).trans rfl)) rfl
  refine ⟨?_, ?_⟩
  · intro a w hB _hF hd
    have h32 : a.tmps.getD 32 undef = .pointer (some ⟨g, 0, none⟩) := hd.1 rfl
    have h36 : a.tmps.getD 36 undef = .slice BA bn bc := hd.2.1 rfl
    refine step_call (guard_none rfl) rfl _ _ (rf_call_run Try.func57 (by kernel_rfl) (by kernel_rfl) _ _ rfl) ?_
    simp only [List.map_toArray, List.map_cons, List.map_nil, Act.eval, h32, h36]
    exact (S.c2 w hB).mono (by rintro e w1 ⟨H, rfl, hh, hb⟩; exact ⟨_, rfl, hb, H, rfl, hh⟩)
  refine ⟨?_, ?_⟩
  · intro _a _w hB hF _hd
    exact rf_loadA (guard_none rfl) rfl _ rfl x ((hF.other 3 rfl).trans S.v3) (S.bx.below hB S.bx.lt) rfl
  refine ⟨?_, ?_⟩
  · intro a w hB _hF hd
    obtain ⟨H37, h37, p37⟩ : accN W (a.tmps.getD 37 undef) w := hd.1 rfl
    have h38 : a.tmps.getD 38 undef = .agg (accC u (some ⟨hk, 0, none⟩) u.h.length c) := hd.2.1 rfl
    exact rf_twoA (guard_none rfl) rfl _ _ rfl W u _ _ _ c h37 h38 p37 (S.bu.below hB) S.lW S.kc S.cm (fun _ _ h => h)
  refine ⟨?_, ?_⟩
  · intro a w hB _hF hd
    have h31 : a.tmps.getD 31 undef = .pointer (some ⟨g, 0, none⟩) := hd.1 rfl
    obtain ⟨e39, h39, p39⟩ : row2A W u (a.tmps.getD 39 undef) w := hd.2.1 rfl
    refine step_call (guard_none rfl) rfl _ _ (rf_call_run Try.func56 (by kernel_rfl) (by kernel_rfl) _ _ rfl) ?_
    simp only [List.map_toArray, List.map_cons, List.map_nil, Act.eval, h31, h39]
    exact (S.cj w e39 hB p39).mono (by rintro e w1 ⟨H, hlo, rfl, hh, hb⟩; exact ⟨_, rfl, hb, H, rfl, hh, Nat.le_trans (Nat.le_trans S.ez hB.size) hlo⟩)
  refine ⟨?_, ?_⟩
  · intro a w _hB _hF hd
    have h30 : a.tmps.getD 30 undef = .agg (accC u (some ⟨hk, 0, none⟩) u.h.length c) := hd.1 rfl
    obtain ⟨H40, h40, p40⟩ : accZ z T (a.tmps.getD 40 undef) w := hd.2.1 rfl
    exact rf_part (guard_none rfl) rfl _ _ rfl hk c u T _ h30 h40 p40.1 p40.2 (fun _ _ h => h)
  trivial
theorem stp7_any {Q : Exit → Act → World → Prop} {l : List Oper} (hl : opsOf 7 Try.f27 = l) (hend : ∀ (H37 : Nat), ∀ (e39 : Nat), ∀ (H40 : Nat), ∀ (H41 : Nat), ∀ w : World, Below w0.heap.size w0 w → Has w H37 3 (ints W.h) → Accs w (some ⟨e39, 0, none⟩) 2 [W, u] → (Has w H40 3 (ints T.h) ∧ z ≤ H40) → (Has w H41 3 (ints T.h) ∧ z ≤ H41) → wpList Try.prog l.toArray Q (l.drop 15) (putAll a0 [(27, .pointer (some ⟨g, 0, none⟩)), (28, .pointer (some ⟨g, 0, none⟩)), (29, .pointer (some ⟨g, 2, none⟩)), (30, .agg (accC u (some ⟨hk, 0, none⟩) u.h.length c)), (31, .pointer (some ⟨g, 0, none⟩)), (32, .pointer (some ⟨g, 0, none⟩)), (33, .pointer (some ⟨g, 0, none⟩)), (34, .pointer (some ⟨g, 0, none⟩)), (35, .pointer (some ⟨g, 2, none⟩)), (36, .slice BA bn bc), (37, .agg (accC W (some ⟨H37, 0, none⟩) W.h.length W.h.length)), (38, .agg (accC u (some ⟨hk, 0, none⟩) u.h.length c)), (39, .slice (some ⟨e39, 0, none⟩) 2 2), (40, .agg (accC T (some ⟨H40, 0, none⟩) T.h.length T.h.length)), (41, .agg (partC ⟨u, hk, c, T, H41⟩))]) w) :
    (Code.region 7 l.toArray true).wp Try.prog Q a0 w0 := by
  subst hl
  refine region_head2 (stp7F g m d fn fc bn bc bA FA BA hk c x z u W T) stp7D 15 43 S.size rfl (by kernel_rfl) (by kernel_rfl) (by kernel_rfl) (stp7F_mono _ _ _ _ _ _ _ _ _ _ _ _ _ _ _ _ _) (stp7_ok S) fun a w hB hF h => ?_
  obtain ⟨H37, h37, p37⟩ : accN W (a.tmps.getD 37 undef) w := h 10 (some 37) (by omega) rfl
  obtain ⟨e39, h39, p39⟩ : row2A W u (a.tmps.getD 39 undef) w := h 12 (some 39) (by omega) rfl
  obtain ⟨H40, h40, p40⟩ : accZ z T (a.tmps.getD 40 undef) w := h 13 (some 40) (by omega) rfl
  obtain ⟨H41, h41, p41⟩ : partV z hk c u T (a.tmps.getD 41 undef) w := h 14 (some 41) (by omega) rfl
  have hv : valsAre a [(27, .pointer (some ⟨g, 0, none⟩)), (28, .pointer (some ⟨g, 0, none⟩)), (29, .pointer (some ⟨g, 2, none⟩)), (30, .agg (accC u (some ⟨hk, 0, none⟩) u.h.length c)), (31, .pointer (some ⟨g, 0, none⟩)), (32, .pointer (some ⟨g, 0, none⟩)), (33, .pointer (some ⟨g, 0, none⟩)), (34, .pointer (some ⟨g, 0, none⟩)), (35, .pointer (some ⟨g, 2, none⟩)), (36, .slice BA bn bc), (37, .agg (accC W (some ⟨H37, 0, none⟩) W.h.length W.h.length)), (38, .agg (accC u (some ⟨hk, 0, none⟩) u.h.length c)), (39, .slice (some ⟨e39, 0, none⟩) 2 2), (40, .agg (accC T (some ⟨H40, 0, none⟩) T.h.length T.h.length)), (41, .agg (partC ⟨u, hk, c, T, H41⟩))] := by
    refine ⟨?_, ?_, ?_, ?_, ?_, ?_, ?_, ?_, ?_, ?_, ?_, ?_, ?_, ?_, ?_, trivial⟩
    · exact h 0 (some 27) (by omega) rfl
    · exact h 1 (some 28) (by omega) rfl
    · exact h 2 (some 29) (by omega) rfl
    · exact h 3 (some 30) (by omega) rfl
    · exact h 4 (some 31) (by omega) rfl
    · exact h 5 (some 32) (by omega) rfl
    · exact h 6 (some 33) (by omega) rfl
    · exact h 7 (some 34) (by omega) rfl
    · exact h 8 (some 35) (by omega) rfl
    · exact h 9 (some 36) (by omega) rfl
    · exact h37
    · exact h 11 (some 38) (by omega) rfl
    · exact h39
    · exact h40
    · exact h41
  rw [frame_is hF _ hv (by rfl) (by rfl)]
  exact hend H37 e39 H40 H41 w hB p37 p39 p40 p41
end

def stu2D : List (Option Tmp) := [some 13, some 14, some 15, some 16, some 17, some 18, some 19, some 20, some 21, some 22, some 23, some 24, some 25, some 26, some 27, some 28]
def stu2F (g _m _d fn fc _bn _bc : Nat) (_bA FA _BA : Option Addr) (hk c _x z : Nat) (u V T : Ac) : List Fact := [isV (.pointer (some ⟨g, 0, none⟩)), isV (.pointer (some ⟨g, 0, none⟩)), isV (.pointer (some ⟨g, 1, none⟩)), isV (.agg (accC u (some ⟨hk, 0, none⟩) u.h.length c)), isV (.pointer (some ⟨g, 0, none⟩)), isV (.agg (accC u (some ⟨hk, 0, none⟩) u.h.length c)), isV (.pointer (some ⟨g, 0, none⟩)), isV (.pointer (some ⟨g, 0, none⟩)), isV (.pointer (some ⟨g, 0, none⟩)), isV (.pointer (some ⟨g, 1, none⟩)), isV (.slice FA fn fc), accN V, row2A u V, accZ z T, partV z hk c u T]
theorem stu2F_mono (g m d fn fc bn bc : Nat) (bA FA BA : Option Addr) (hk c x z : Nat) (u V T : Ac) : ∀ φ ∈ stu2F g m d fn fc bn bc bA FA BA hk c x z u V T, Mono φ := by
  unfold stu2F
  refine monos_cons (mono_isV _) ?_
  refine monos_cons (mono_isV _) ?_
  refine monos_cons (mono_isV _) ?_
  refine monos_cons (mono_isV _) ?_
  refine monos_cons (mono_isV _) ?_
  refine monos_cons (mono_isV _) ?_
  refine monos_cons (mono_isV _) ?_
  refine monos_cons (mono_isV _) ?_
  refine monos_cons (mono_isV _) ?_
  refine monos_cons (mono_isV _) ?_
  refine monos_cons (mono_isV _) ?_
  refine monos_cons (accN_mono _) ?_
  refine monos_cons (row2A_mono _ _) ?_
  refine monos_cons (accZ_mono _ _) ?_
  refine monos_cons (partV_mono _ _ _ _ _) ?_
  exact monos_nil
structure stu2S (g m d fn fc bn bc : Nat) (bA FA BA : Option Addr) (hk c x z : Nat) (u V T : Ac) (a0 : Act) (w0 : World) : Prop where
  size : a0.tmps.size = 29
  v0 : a0.tmps.getD 0 undef = .pointer (some ⟨g, 0, none⟩)
  v2 : a0.tmps.getD 2 undef = .pointer (some ⟨x, 0, none⟩)
  st : Has w0 g 80 #[.slice bA m d, .slice FA fn fc, .slice BA bn bc]
  ez : z ≤ w0.heap.size
  bx : Has w0 x 29 (accC u (some ⟨hk, 0, none⟩) u.h.length c)
  bu : Ints w0 (some ⟨hk, 0, none⟩) u.h.length u.h
  kc : u.h.length ≤ c
  cm : c ≤ maxLen
  lV : V.h.length ≤ maxLen
  c1 : ∀ w, Below w0.heap.size w0 w → Calls Try.prog 57 #[.pointer (some ⟨g, 0, none⟩), .slice FA fn fc] w (OutT V w)
  cj : ∀ (w : World) (e : Nat), Below w0.heap.size w0 w → Accs w (some ⟨e, 0, none⟩) 2 [u, V] → Calls Try.prog 56 #[.pointer (some ⟨g, 0, none⟩), .slice (some ⟨e, 0, none⟩) 2 2] w (OutA T w)
section
variable {g m d fn fc bn bc : Nat} {bA FA BA : Option Addr} {hk c x z : Nat} {u V T : Ac} {a0 : Act} {w0 : World} (S : stu2S g m d fn fc bn bc bA FA BA hk c x z u V T a0 w0)
include S
set_option maxRecDepth 100000 in
set_option maxHeartbeats 8000000 in
theorem stu2_ok : AllOps (fun j o => ∀ (a : Act) (w : World), Below w0.heap.size w0 w → FrD (stu2D.take 15) a0 a → needs stu2D (stu2F g m d fn fc bn bc bA FA BA hk c x z u V T) a w o.after.toList → StepD Try.prog stu2D (factAt (stu2F g m d fn fc bn bc bA FA BA hk c x z u V T) j) o a w) 0 ((opsOf 2 Try.f53).take 15) := by
  simp only [opsOf, Try.f53, opsAt, Option.bind, Option.or, Option.getD, reduceCtorEq, if_true, if_false, Nat.reduceEqDiff, List.take_succ_cons, List.take_zero]
  refine ⟨?_, ?_⟩
  · intro _a _w _hB hF _hd
    exact step_move (guard_none rfl) rfl _ rfl ((hF.other 0 rfl).trans S.v0)
  refine ⟨?_, ?_⟩
  · intro a _w _hB _hF hd
    have h13 : a.tmps.getD 13 undef = .pointer (some ⟨g, 0, none⟩) := hd.1 rfl
    exact rf_nilck (guard_none rfl) rfl _ rfl _ h13 rfl
  refine ⟨?_, ?_⟩
  · intro a _w _hB _hF hd
    have h14 : a.tmps.getD 14 undef = .pointer (some ⟨g, 0, none⟩) := hd.1 rfl
    exact rf_faddr (guard_none rfl) rfl _ _ _ rfl _ _ 1 _ h14 (by omega) (fun _ _ => by kernel_rfl) rfl
  refine ⟨?_, ?_⟩
  · intro _a _w hB hF _hd
    exact rf_loadA (guard_none rfl) rfl _ rfl x ((hF.other 2 rfl).trans S.v2) (S.bx.below hB S.bx.lt) rfl
  refine ⟨?_, ?_⟩
  · intro _a _w _hB hF _hd
    exact step_move (guard_none rfl) rfl _ rfl ((hF.other 0 rfl).trans S.v0)
  refine ⟨?_, ?_⟩
  · intro _a _w hB hF _hd
    exact rf_loadA (guard_none rfl) rfl _ rfl x ((hF.other 2 rfl).trans S.v2) (S.bx.below hB S.bx.lt) rfl
  refine ⟨?_, ?_⟩
  · intro _a _w _hB hF _hd
    exact step_move (guard_none rfl) rfl _ rfl ((hF.other 0 rfl).trans S.v0)
  refine ⟨?_, ?_⟩
  · intro _a _w _hB hF _hd
    exact step_move (guard_none rfl) rfl _ rfl ((hF.other 0 rfl).trans S.v0)
  refine ⟨?_, ?_⟩
  · intro a _w _hB _hF hd
    have h20 : a.tmps.getD 20 undef = .pointer (some ⟨g, 0, none⟩) := hd.1 rfl
    exact rf_nilck (guard_none rfl) rfl _ rfl _ h20 rfl
  refine ⟨?_, ?_⟩
  · intro a _w _hB _hF hd
    have h21 : a.tmps.getD 21 undef = .pointer (some ⟨g, 0, none⟩) := hd.1 rfl
    exact rf_faddr (guard_none rfl) rfl _ _ _ rfl _ _ 1 _ h21 (by omega) (fun _ _ => by kernel_rfl) rfl
  refine ⟨?_, ?_⟩
  · intro a _w hB _hF hd
    have h22 : a.tmps.getD 22 undef = .pointer (some ⟨g, 1, none⟩) := hd.1 rfl
    exact rf_load1 (guard_none rfl) rfl _ _ rfl _ _ h22 (run_ldK ((Has.cell (S.st.below hB S.st.lt) 1).trans rfl)) rfl
  refine ⟨?_, ?_⟩
  · intro a w hB _hF hd
    have h19 : a.tmps.getD 19 undef = .pointer (some ⟨g, 0, none⟩) := hd.1 rfl
    have h23 : a.tmps.getD 23 undef = .slice FA fn fc := hd.2.1 rfl
    refine step_call (guard_none rfl) rfl _ _ (rf_call_run Try.func57 (by kernel_rfl) (by kernel_rfl) _ _ rfl) ?_
    simp only [List.map_toArray, List.map_cons, List.map_nil, Act.eval, h19, h23]
    exact (S.c1 w hB).mono (by rintro e w1 ⟨H, rfl, hh, hb⟩; exact ⟨_, rfl, hb, H, rfl, hh⟩)
  refine ⟨?_, ?_⟩
  · intro a w hB _hF hd
    have h18 : a.tmps.getD 18 undef = .agg (accC u (some ⟨hk, 0, none⟩) u.h.length c) := hd.1 rfl
    obtain ⟨H24, h24, p24⟩ : accN V (a.tmps.getD 24 undef) w := hd.2.1 rfl
    exact rf_twoB (guard_none rfl) rfl _ _ rfl u V _ _ c _ h18 h24 (S.bu.below hB) p24 S.kc S.cm S.lV (fun _ _ h => h)
  refine ⟨?_, ?_⟩
  · intro a w hB _hF hd
    have h17 : a.tmps.getD 17 undef = .pointer (some ⟨g, 0, none⟩) := hd.1 rfl
    obtain ⟨e25, h25, p25⟩ : row2A u V (a.tmps.getD 25 undef) w := hd.2.1 rfl
    refine step_call (guard_none rfl) rfl _ _ (rf_call_run Try.func56 (by kernel_rfl) (by kernel_rfl) _ _ rfl) ?_
    simp only [List.map_toArray, List.map_cons, List.map_nil, Act.eval, h17, h25]
    exact (S.cj w e25 hB p25).mono (by rintro e w1 ⟨H, hlo, rfl, hh, hb⟩; exact ⟨_, rfl, hb, H, rfl, hh, Nat.le_trans (Nat.le_trans S.ez hB.size) hlo⟩)
  refine ⟨?_, ?_⟩
  · intro a w _hB _hF hd
    have h16 : a.tmps.getD 16 undef = .agg (accC u (some ⟨hk, 0, none⟩) u.h.length c) := hd.1 rfl
    obtain ⟨H26, h26, p26⟩ : accZ z T (a.tmps.getD 26 undef) w := hd.2.1 rfl
    exact rf_part (guard_none rfl) rfl _ _ rfl hk c u T _ h16 h26 p26.1 p26.2 (fun _ _ h => h)
  trivial
theorem stu2_any {Q : Exit → Act → World → Prop} {l : List Oper} (hl : opsOf 2 Try.f53 = l) (hend : ∀ (H24 : Nat), ∀ (e25 : Nat), ∀ (H26 : Nat), ∀ (H27 : Nat), ∀ w : World, Below w0.heap.size w0 w → Has w H24 3 (ints V.h) → Accs w (some ⟨e25, 0, none⟩) 2 [u, V] → (Has w H26 3 (ints T.h) ∧ z ≤ H26) → (Has w H27 3 (ints T.h) ∧ z ≤ H27) → wpList Try.prog l.toArray Q (l.drop 15) (putAll a0 [(13, .pointer (some ⟨g, 0, none⟩)), (14, .pointer (some ⟨g, 0, none⟩)), (15, .pointer (some ⟨g, 1, none⟩)), (16, .agg (accC u (some ⟨hk, 0, none⟩) u.h.length c)), (17, .pointer (some ⟨g, 0, none⟩)), (18, .agg (accC u (some ⟨hk, 0, none⟩) u.h.length c)), (19, .pointer (some ⟨g, 0, none⟩)), (20, .pointer (some ⟨g, 0, none⟩)), (21, .pointer (some ⟨g, 0, none⟩)), (22, .pointer (some ⟨g, 1, none⟩)), (23, .slice FA fn fc), (24, .agg (accC V (some ⟨H24, 0, none⟩) V.h.length V.h.length)), (25, .slice (some ⟨e25, 0, none⟩) 2 2), (26, .agg (accC T (some ⟨H26, 0, none⟩) T.h.length T.h.length)), (27, .agg (partC ⟨u, hk, c, T, H27⟩))]) w) :
    (Code.region 2 l.toArray true).wp Try.prog Q a0 w0 := by
  subst hl
  refine region_head2 (stu2F g m d fn fc bn bc bA FA BA hk c x z u V T) stu2D 15 29 S.size rfl (by kernel_rfl) (by kernel_rfl) (by kernel_rfl) (stu2F_mono _ _ _ _ _ _ _ _ _ _ _ _ _ _ _ _ _) (stu2_ok S) fun a w hB hF h => ?_
  obtain ⟨H24, h24, p24⟩ : accN V (a.tmps.getD 24 undef) w := h 11 (some 24) (by omega) rfl
  obtain ⟨e25, h25, p25⟩ : row2A u V (a.tmps.getD 25 undef) w := h 12 (some 25) (by omega) rfl
  obtain ⟨H26, h26, p26⟩ : accZ z T (a.tmps.getD 26 undef) w := h 13 (some 26) (by omega) rfl
  obtain ⟨H27, h27, p27⟩ : partV z hk c u T (a.tmps.getD 27 undef) w := h 14 (some 27) (by omega) rfl
  have hv : valsAre a [(13, .pointer (some ⟨g, 0, none⟩)), (14, .pointer (some ⟨g, 0, none⟩)), (15, .pointer (some ⟨g, 1, none⟩)), (16, .agg (accC u (some ⟨hk, 0, none⟩) u.h.length c)), (17, .pointer (some ⟨g, 0, none⟩)), (18, .agg (accC u (some ⟨hk, 0, none⟩) u.h.length c)), (19, .pointer (some ⟨g, 0, none⟩)), (20, .pointer (some ⟨g, 0, none⟩)), (21, .pointer (some ⟨g, 0, none⟩)), (22, .pointer (some ⟨g, 1, none⟩)), (23, .slice FA fn fc), (24, .agg (accC V (some ⟨H24, 0, none⟩) V.h.length V.h.length)), (25, .slice (some ⟨e25, 0, none⟩) 2 2), (26, .agg (accC T (some ⟨H26, 0, none⟩) T.h.length T.h.length)), (27, .agg (partC ⟨u, hk, c, T, H27⟩))] := by
    refine ⟨?_, ?_, ?_, ?_, ?_, ?_, ?_, ?_, ?_, ?_, ?_, ?_, ?_, ?_, ?_, trivial⟩
    · exact h 0 (some 13) (by omega) rfl
    · exact h 1 (some 14) (by omega) rfl
    · exact h 2 (some 15) (by omega) rfl
    · exact h 3 (some 16) (by omega) rfl
    · exact h 4 (some 17) (by omega) rfl
    · exact h 5 (some 18) (by omega) rfl
    · exact h 6 (some 19) (by omega) rfl
    · exact h 7 (some 20) (by omega) rfl
    · exact h 8 (some 21) (by omega) rfl
    · exact h 9 (some 22) (by omega) rfl
    · exact h 10 (some 23) (by omega) rfl
    · exact h24
    · exact h25
    · exact h26
    · exact h27
  rw [frame_is hF _ hv (by rfl) (by rfl)]
  exact hend H24 e25 H26 H27 w hB p24 p25 p26 p27
end

end Go.Proofs.Ytjmaeiilkbfnaaa

namespace Go.Proofs.Ytjmaeiilkbfnaaa
open Go.RowKit

set_option maxRecDepth 100000 in
set_option maxHeartbeats 2000000 in
theorem sclone_some (ad : Addr) (n c : Nat) (xs : List Int) (w : World) (hr : Ints w (some ad) n xs) (hn : n * 8 ≤ 140737488351232) :
    Calls Try.prog 52 #[.slice (some ad) n c] w fun e w' => ∃ A' c', e = .returned (.slice A' n c') ∧ OwnI w' w.heap.size (.slice A' n c') xs ∧ Below w.heap.size w w' := by
  have hnil : ∀ W, (binOp .eql 25 (.slice (some ad) n c) (.slice none 0 0)).run Try.prog W = .ok (.bool false) W := fun W => Lib.run_eql_slice_nil (w := W) (h := Try.underlying25) ..
  go_enter Try.func52, Try.ntmps52
  go_wp2_with (refine app_intsA rfl _ _ rfl rfl (own_empty w) rfl (hr.below ((Below.refl _ _).alloc (Nat.le_refl _) _)) (fun e => by cases e) hn (by simp) ?_; intro A2 c2 wn hwn hbn)
  have hB : Below w.heap.size w wn := ((Below.refl _ _).alloc (Nat.le_refl _) _).trans hbn
  go_ret
  exact ⟨A2, _, rfl, hwn, hB⟩
set_option maxRecDepth 100000 in
set_option maxHeartbeats 400000 in
theorem sclone_none (w : World) :
    Calls Try.prog 52 #[.slice none 0 0] w fun e w' => e = .returned (.slice none 0 0) ∧ w = w' := by
  have hnil : ∀ W, (binOp .eql 25 (.slice none 0 0) (.slice none 0 0)).run Try.prog W = .ok (.bool true) W := fun W => Lib.run_eql_slice_nil (w := W) (h := Try.underlying25) ..
  go_enter Try.func52, Try.ntmps52
  go_wp2_with fail
  go_ret
  exact ⟨rfl, rfl⟩
theorem sclone_any (A : Option Addr) (n c : Nat) (xs : List Int) (w : World) (hr : Ints w A n xs) (hnil : A = none → c = 0) (hn : n * 8 ≤ 140737488351232) :
    Calls Try.prog 52 #[.slice A n c] w fun e w' => ∃ A' c', e = .returned (.slice A' n c') ∧ OwnI w' w.heap.size (.slice A' n c') xs ∧ Below w.heap.size w w' := by
  cases A with
  | some ad => exact sclone_some ad n c xs w hr hn
  | none =>
    have hc := hnil rfl
    subst hc
    have h0 : n = 0 := by
      rcases Nat.eq_zero_or_pos n with h | h
      · exact h
      · obtain ⟨b, o, e, _⟩ := hr.at_ h
        cases e
    subst h0
    obtain rfl : xs = [] := List.eq_nil_of_length_eq_zero hr.1
    refine (sclone_none w).mono ?_
    rintro e w' ⟨rfl, rfl⟩
    exact ⟨none, 0, rfl, OwnI.nil _ _, Below.refl _ _⟩

set_option maxRecDepth 100000 in
set_option maxHeartbeats 1000000 in
theorem qlen_raw (g fn fc bn bc : Nat) (bv : Value) (FA BA : Option Addr) (w : World) (hst : Has w g QT #[bv, .slice FA fn fc, .slice BA bn bc]) (h1 : fn ≤ 65536) (h2 : bn ≤ 65536) :
    Calls Try.prog 31 #[.pointer (some ⟨g, 0, none⟩)] w fun e w' => e = .returned (.int .i64 ((fn + bn : Nat) : Int)) ∧ ∃ k, w' = w.drewN k := by
  have c1 := hst.cell 1
  have c2 := hst.cell 2
  simp only [List.getElem?_toArray, List.getElem?_cons_succ, List.getElem?_cons_zero] at c1 c2
  clear hst
  go_enter Try.func31, Try.ntmps31
  go_wp2_with fail
  go_quiet (fail)
  go_wp2_with fail
  go_ret
  exact ⟨by rw [Int.natCast_add]; rfl, _, rfl⟩

section
variable {g m d fn fc bn bc : Nat} {bA FA BA : Option Addr} {w : World}
set_option maxRecDepth 100000 in
set_option maxHeartbeats 1000000 in
theorem qtotal_raw {V W T : Ac} (hst : Has w g QT #[.slice bA m d, .slice FA fn fc, .slice BA bn bc])
    (c1 : ∀ w', Below w.heap.size w w' → Calls Try.prog 57 #[.pointer (some ⟨g, 0, none⟩), .slice FA fn fc] w' (OutT V w'))
    (c2 : ∀ w', Below w.heap.size w w' → Calls Try.prog 57 #[.pointer (some ⟨g, 0, none⟩), .slice BA bn bc] w' (OutT W w'))
    (cj : ∀ (w' : World) (e : Nat), Below w.heap.size w w' → Accs w' (some ⟨e, 0, none⟩) 2 [V, W] → Calls Try.prog 56 #[.pointer (some ⟨g, 0, none⟩), .slice (some ⟨e, 0, none⟩) 2 2] w' (OutA T w'))
    (lV : V.h.length ≤ maxLen) (lW : W.h.length ≤ maxLen) :
    Calls Try.prog 29 #[.pointer (some ⟨g, 0, none⟩)] w (OutA T w) := by
  have HC1 := Lib.hid c1
  have HC2 := Lib.hid c2
  have HCJ := Lib.hid cj
  have HST := Lib.hid hst
  have HLV := Lib.hid lV
  have HLW := Lib.hid lW
  have HAL : Hid (∀ o, Below w.heap.size w (w.alloc o)) := fun o => (Below.refl _ _).alloc (Nat.le_refl _) o
  clear c1 c2 cj hst lV lW
  go_enter Try.func29, Try.ntmps29
  go_upto_region 3 with fail
  refine stt3_any (g := g) (m := m) (d := d) (fn := fn) (fc := fc) (bn := bn) (bc := bc) (bA := bA) (FA := FA) (BA := BA) (z := w.heap.size + 1) (V := V) (W := W) (T := T) ⟨rfl, rfl, HST.out.alloc _, by simp, fun w' hb => HC1.out w' ((HAL.out _).trans (hb.mono (by simp))), fun w' hb => HC2.out w' ((HAL.out _).trans (hb.mono (by simp))), fun w' e hb ha => HCJ.out w' e ((HAL.out _).trans (hb.mono (by simp))) ha, HLV.out, HLW.out⟩ (by kernel_rfl) ?_
  intro H12 H18 e19 H20 w9 hB9 _ _ _ hH
  have H4 := Lib.hid (show Has w9 w.heap.size 29 (accC zeroAc none 0 0) from (Has.made w _ _).below hB9 (by simp))
  have HB9 := Lib.hid ((HAL.out _).trans (hB9.mono (by simp)))
  have HH := Lib.hid hH
  clear hB9 hH HC1 HC2 HCJ HAL
  simp only [putAll, Act.put, List.setIfInBounds_toArray, List.set_cons_succ, List.set_cons_zero, List.drop_succ_cons, List.drop_zero]
  go_wp2_with (refine store_has rfl _ _ rfl w.heap.size (ac := T) (A := some ⟨H20, 0, none⟩) (k := T.h.length) (c := T.h.length) rfl rfl H4.out rfl ?_)
  refine bodyPost_ret (ret_row1 rfl _ _ _ 29 (accC T (some ⟨H20, 0, none⟩) T.h.length T.h.length) _ rfl (H4.out.row _) Try.underlying29 rfl (by exact Try.sizeAcc)) rfl ?_
  have hlo := HH.out.2
  exact ⟨H20, by omega, rfl, HH.out.1.rowFar (by omega) _, below_row HB9.out (Nat.le_refl _) _⟩
end

end Go.Proofs.Ytjmaeiilkbfnaaa

namespace Go.Proofs.Ytjmaeiilkbfnaaa
open Go.RowKit

theorem accC_put (a : Ac) (A A' : Option Addr) (k c k' c' : Nat) : (accC a A k c).setIfInBounds 12 (.slice A' k' c') = accC a A' k' c' := rfl

section
variable {g m d fn fc bn bc k c : Nat} {bA FA BA A : Option Addr} {w : World} {T u U W : Ac} {code : Int}
set_option maxRecDepth 100000 in
set_option maxHeartbeats 2000000 in
theorem qpush_no (hst : Has w g QT #[.slice bA m d, .slice FA fn fc, .slice BA bn bc]) (hu : Ints w A k u.h) (hk : k ≤ c) (hc : c ≤ maxLen) (lT : T.h.length ≤ maxLen)
    (ct : ∀ w', Below w.heap.size w w' → Calls Try.prog 29 #[.pointer (some ⟨g, 0, none⟩)] w' (OutA T w'))
    (cj : ∀ (w' : World) (e : Nat), Below w.heap.size w w' → Accs w' (some ⟨e, 0, none⟩) 2 [T, u] → Calls Try.prog 11 #[.slice bA m d, .slice (some ⟨e, 0, none⟩) 2 2] w' (OutX U code w')) (hcode : ¬ code = 0) :
    Calls Try.prog 27 #[.pointer (some ⟨g, 0, none⟩), .agg (accC u A k c)] w fun e w' => e = .returned (.int .i64 1700) ∧ Below w.heap.size w w' := by
  have HCT := Lib.hid ct
  have HCJ := Lib.hid cj
  have HST := Lib.hid hst
  have HU := Lib.hid hu
  have HB0 := Lib.hid (show Below w.heap.size w (w.alloc (.cells (accC u A k c) 29)) from (Below.refl _ _).alloc (Nat.le_refl _) _)
  clear ct cj hst hu
  go_enter Try.func27, Try.ntmps27
  go_upto_region 3 with fail
  refine stp3_any (g := g) (m := m) (d := d) (fn := fn) (fc := fc) (bn := bn) (bc := bc) (bA := bA) (FA := FA) (BA := BA) (k := k) (c := c) (x := w.heap.size) (z := w.heap.size + 1) (A := A) (T := T) (u := u) (U := U) (code := code) ⟨rfl, rfl, rfl, HST.out.alloc _, by simp, Has.made _ _ _, HU.out.below HB0.out, hk, hc, lT, fun w' hb => HCT.out w' (HB0.out.trans (hb.mono (by simp))), fun w' e hb ha => HCJ.out w' e (HB0.out.trans (hb.mono (by simp))) ha⟩ (by kernel_rfl) ?_ ?_
  · intro H15 e17 A18 n18 c18 A9 n9 c9 A19 n19 c19 y5 w9 hB9 _ _ _ _ _ hY
    have HB9 := Lib.hid (HB0.out.trans (hB9.mono (by simp)))
    have HY := Lib.hid hY
    clear hB9 hY HCT HCJ HB0 HU HST
    simp only [putAll, Act.put, List.setIfInBounds_toArray, List.set_cons_succ, List.set_cons_zero, List.drop_succ_cons, List.drop_zero]
    refine store_has rfl _ _ rfl y5 (ac := U) (A := A19) (k := n19) (c := c19) rfl rfl HY.out.1 rfl ?_
    go_wp2_with fail
    go_ret
    have hlo := HY.out.2
    exact ⟨rfl, below_row HB9.out (by omega) _⟩
  · intro H15 e17 A18 n18 c18 A9 n9 c9 A19 n19 c19 y5 w9 hB9 _ _ _ _ _ hY
    have HB9 := Lib.hid (HB0.out.trans (hB9.mono (by simp)))
    have HY := Lib.hid hY
    clear hB9 hY HCT HCJ HB0 HU HST
    simp only [putAll, Act.put, List.setIfInBounds_toArray, List.set_cons_succ, List.set_cons_zero, pickL, List.filterMap_cons, List.getElem?_cons_succ, List.getElem?_cons_zero, List.filterMap_nil]
    refine store_has rfl _ _ rfl y5 (ac := U) (A := A19) (k := n19) (c := c19) rfl rfl HY.out.1 rfl ?_
    go_wp2_with fail
    go_ret
    have hlo := HY.out.2
    exact ⟨rfl, below_row HB9.out (by omega) _⟩

/-- What Push's first half leaves, ahead of the copy. -/
structure PuS1 (w : World) (A : Option Addr) (k c : Nat) (u : Ac) (wr : World) : Prop where
  box : Has wr w.heap.size 29 (accC u A k c)
  keep : Below w.heap.size w wr
/-- What Push leaves. -/
def PushO (g : Nat) (cs : Array Value) (B : Value) (ps : List Pt) (u T : Ac) (w w' : World) : Prop :=
  ∃ hk c' H w1, Below w.heap.size w w1 ∧ OwnI w1 w.heap.size (.slice (some ⟨hk, 0, none⟩) u.h.length c') u.h ∧ Has w1 H 3 (ints T.h) ∧ hk < H ∧ PushedO g 2 cs B (ps ++ [⟨u, hk, c', T, H⟩]) w1 w'
set_option maxRecDepth 100000 in
set_option maxHeartbeats 4000000 in
theorem qpush_ok {ps : List Pt} (hst : Has w g QT #[.slice bA m d, .slice FA fn fc, .slice BA bn bc]) (hu : Ints w A k u.h) (hk : k ≤ c) (hc : c ≤ maxLen) (hk0 : 0 < k) (hk8 : k * 8 ≤ 140737488351232) (lT : T.h.length ≤ maxLen) (lW : W.h.length ≤ maxLen)
    (ct : ∀ w', Below w.heap.size w w' → Calls Try.prog 29 #[.pointer (some ⟨g, 0, none⟩)] w' (OutA T w'))
    (cj : ∀ (w' : World) (e : Nat), Below w.heap.size w w' → Accs w' (some ⟨e, 0, none⟩) 2 [T, u] → Calls Try.prog 11 #[.slice bA m d, .slice (some ⟨e, 0, none⟩) 2 2] w' (OutX U 0 w'))
    (c2 : ∀ w', Below w.heap.size w w' → Calls Try.prog 57 #[.pointer (some ⟨g, 0, none⟩), .slice BA bn bc] w' (OutT W w')) {X : Ac}
    (cq : ∀ (w' : World) (e : Nat), Below w.heap.size w w' → Accs w' (some ⟨e, 0, none⟩) 2 [W, u] → Calls Try.prog 56 #[.pointer (some ⟨g, 0, none⟩), .slice (some ⟨e, 0, none⟩) 2 2] w' (OutA X w'))
    (ho : OwnP w (.slice BA bn bc) ps) (hn : ps.length ≤ 65536) :
    Calls Try.prog 27 #[.pointer (some ⟨g, 0, none⟩), .agg (accC u A k c)] w fun e w' => e = .returned (.int .i64 0) ∧ PushO g #[.slice bA m d, .slice FA fn fc, .slice BA bn bc] (.slice BA bn bc) ps u X w w' := by
  obtain rfl : u.h.length = k := hu.1
  have HCT := Lib.hid ct
  have HCJ := Lib.hid cj
  have HC2 := Lib.hid c2
  have HCQ := Lib.hid cq
  have HST := Lib.hid hst
  have HU := Lib.hid hu
  have HO := Lib.hid ho
  have HB0 := Lib.hid (show Below w.heap.size w (w.alloc (.cells (accC u A u.h.length c) 29)) from (Below.refl _ _).alloc (Nat.le_refl _) _)
  have HNIL := Lib.hid (show A = none → c = 0 from fun e => by
    obtain ⟨b, o, e2, _⟩ := hu.at_ hk0
    rw [e2] at e; cases e)
  have HPU : Hid (∀ (w' : World) (q : Pt), Below w.heap.size w w' → Calls Try.prog 55 #[.pointer (some ⟨g, 2, none⟩), .agg (partC q)] w' fun e w2 => e = .returned (.tuple #[]) ∧ PushedO g 2 #[.slice bA m d, .slice FA fn fc, .slice BA bn bc] (.slice BA bn bc) (ps ++ [q]) w' w2) := fun w' q hb => spush_any g 2 _ _ ps q w' (hst.below hb hst.lt) rfl (ho.below hb) hn
  clear ct cj c2 cq hst hu ho
  go_enter Try.func27, Try.ntmps27
  go_upto_region 3 with fail
  refine stp3_any (g := g) (m := m) (d := d) (fn := fn) (fc := fc) (bn := bn) (bc := bc) (bA := bA) (FA := FA) (BA := BA) (k := u.h.length) (c := c) (x := w.heap.size) (z := w.heap.size + 1) (A := A) (T := T) (u := u) (U := U) (code := 0) ⟨rfl, rfl, rfl, HST.out.alloc _, by simp, Has.made _ _ _, HU.out.below HB0.out, hk, hc, lT, fun w' hb => HCT.out w' (HB0.out.trans (hb.mono (by simp))), fun w' e hb ha => HCJ.out w' e (HB0.out.trans (hb.mono (by simp))) ha⟩ (by kernel_rfl) ?_ ?_
  all_goals
    intro H15 e17 A18 n18 c18 A9 n9 c9 A19 n19 c19 y5 w9 hB9 _ _ _ _ _ hY
    have HP1 := Lib.hid (show PuS1 w A u.h.length c u (w9.setRow y5 (accC U A19 n19 c19)) from ⟨((Has.made w _ _).below hB9 (by simp)).rowFar (by have := hY.2; omega) _, below_row (HB0.out.trans (hB9.mono (by simp))) (by have := hY.2; omega) _⟩)
    have HY := Lib.hid hY
    clear hB9 hY HCT HCJ HB0
    simp only [putAll, Act.put, List.setIfInBounds_toArray, List.set_cons_succ, List.set_cons_zero, List.drop_succ_cons, List.drop_zero, pickL, List.filterMap_cons, List.getElem?_cons_succ, List.getElem?_cons_zero, List.filterMap_nil]
    refine store_has rfl _ _ rfl y5 (ac := U) (A := A19) (k := n19) (c := c19) rfl rfl HY.out.1 rfl ?_
    generalize w9.setRow _ _ = w10 at HP1 ⊢
    have hc10 : w10.cell? ⟨w.heap.size, 12, none⟩ = some (.slice A u.h.length c) := HP1.out.box.cell 12
    clear HY
    go_wp2_with fail
    refine (sclone_any A u.h.length c u.h w10 (HU.out.below HP1.out.keep) HNIL.out hk8).mono ?_
    rintro e w11 ⟨A2, c2, rfl, ho2, hb2⟩
    have h11 := HP1.out.box.below hb2 HP1.out.box.lt
    have hc11 : w11.cell? ⟨w.heap.size, 12, none⟩ = some (.slice A u.h.length c) := h11.cell 12
    have hf11 : w11.frozen? ⟨w.heap.size, 12, none⟩ = false := h11.mark 12
    have hkx : ∃ hk, A2 = some ⟨hk, 0, none⟩ ∧ w.heap.size ≤ hk ∧ hk < w11.heap.size ∧ u.h.length ≤ c2 ∧ c2 ≤ maxLen := by
      rcases ho2.2 with ⟨e, h0⟩ | ⟨gz, cap, cur, e, hgz, hhz, hz1, hz2, _⟩
      · omega
      · injection e with e1 e2 e3
        have := HP1.out.keep.size
        exact ⟨gz, e1, by omega, Has.lt hhz, by omega, by omega⟩
    obtain ⟨hk2, rfl, hk3, hk4, hk5, hk6⟩ := hkx
    have HP2 := Lib.hid (show PuS1 w (some ⟨hk2, 0, none⟩) u.h.length c2 u (w11.setCell ⟨w.heap.size, 12, none⟩ (.slice (some ⟨hk2, 0, none⟩) u.h.length c2)) ∧ OwnI (w11.setCell ⟨w.heap.size, 12, none⟩ (.slice (some ⟨hk2, 0, none⟩) u.h.length c2)) w.heap.size (.slice (some ⟨hk2, 0, none⟩) u.h.length c2) u.h ∧ hk2 < (w11.setCell ⟨w.heap.size, 12, none⟩ (.slice (some ⟨hk2, 0, none⟩) u.h.length c2)).heap.size from
      ⟨⟨h11.put 12 _, (HP1.out.keep.trans (hb2.mono HP1.out.keep.size)).setCell (Nat.le_refl _) _⟩, (ho2.mono HP1.out.keep.size).same fun k hk => heap_setCell_other _ _ _ _ (fun e => ho2.apart h11 (by decide) (by simp only at e; rw [hk, e])), by simpa [World.setCell] using hk4⟩)
    clear h11 ho2 hb2 hc10 HP1
    go_upto_region 7 with fail
    generalize w11.setCell _ _ = w12 at HP2 ⊢
    clear hc11 hf11
    have HB12 := Lib.hid HP2.out.1.keep
    refine stp7_any (g := g) (m := m) (d := d) (fn := fn) (fc := fc) (bn := bn) (bc := bc) (bA := bA) (FA := FA) (BA := BA) (hk := hk2) (c := c2) (x := w.heap.size) (z := w12.heap.size) (u := u) (W := W) (T := X) ⟨rfl, rfl, rfl, HST.out.below HB12.out HST.out.lt, Nat.le_refl _, HP2.out.1.box, HP2.out.2.1.ints, hk5, hk6, lW, fun w' hb => HC2.out w' (HB12.out.trans (hb.mono HB12.out.size)), fun w' e hb ha => HCQ.out w' e (HB12.out.trans (hb.mono HB12.out.size)) ha⟩ (by kernel_rfl) ?_
    intro H37 e39 H40 H41 w13 hB13 _ _ _ hH
    have HB13 := Lib.hid (HB12.out.trans (hB13.mono HB12.out.size))
    have HH := Lib.hid hH
    have HK := Lib.hid (HP2.out.2.1.below hB13)
    have HLT := Lib.hid HP2.out.2.2
    clear hB13 hH HC2 HCQ HB12 HP2
    simp only [putAll, Act.put, List.setIfInBounds_toArray, List.set_cons_succ, List.set_cons_zero, List.drop_succ_cons, List.drop_zero]
    go_wp2_with fail
    refine (HPU.out w13 _ HB13.out).mono ?_
    rintro e w14 ⟨rfl, hp⟩
    have HF := Lib.hid (show PushO g #[.slice bA m d, .slice FA fn fc, .slice BA bn bc] (.slice BA bn bc) ps u X w w14 from
      ⟨hk2, c2, H41, w13, HB13.out, HK.out, HH.out.1, by have := HH.out.2; have := HLT.out; omega, hp⟩)
    clear hp HB13 HH HK HLT HPU
    go_wp2_with fail
    go_ret
    exact ⟨rfl, HF.out⟩
end

end Go.Proofs.Ytjmaeiilkbfnaaa

namespace Go.Proofs.Ytjmaeiilkbfnaaa
open Go.RowKit

set_option maxRecDepth 100000 in
set_option maxHeartbeats 1000000 in
theorem qnew_no (B : Option Addr) (m d : Nat) (bs : List Int) (w : World) (hbs : Ints w B m bs) (hm : m ≤ maxLen) (h : boundsB bs = false) :
    Calls Try.prog 21 #[.slice B m d] w fun e w' => e = .returned (.tuple #[.pointer none, .int .i64 1700]) ∧ Below w.heap.size w w' := by
  have HBS := Lib.hid hbs
  have H1 := Lib.hid h
  clear hbs h
  go_enter Try.func21, Try.ntmps21
  go_wp2_with fail
  refine (bounds_any B m d bs _ HBS.out hm).mono ?_
  rintro e w1 ⟨rfl, k, rfl⟩
  rw [H1.out]
  go_wp2_with fail
  go_ret2
  exact ⟨rfl, below_drewN (Below.refl _ _) _⟩
/-- What New hands out: an empty queue in a new block. -/
def NewQ (T : TypeId) (cs : Value → Array Value) (bs : List Int) (w : World) (e : Ending) (w' : World) : Prop :=
  ∃ g A c, e = .returned (.tuple #[.pointer (some ⟨g, 0, none⟩), .int .i64 0]) ∧ w.heap.size ≤ g ∧ Has w' g T (cs (.slice A bs.length c)) ∧ OwnI w' w.heap.size (.slice A bs.length c) bs ∧ Below w.heap.size w w'
set_option maxRecDepth 100000 in
set_option maxHeartbeats 1000000 in
theorem qnew_ok (B : Option Addr) (m d : Nat) (bs : List Int) (w : World) (hbs : Ints w B m bs) (hnil : B = none → d = 0) (h : boundsB bs = true) :
    Calls Try.prog 21 #[.slice B m d] w (NewQ QT (fun bv => #[bv, .slice none 0 0, .slice none 0 0]) bs w) := by
  obtain rfl : bs.length = m := hbs.1
  have h8 : bs.length ≤ 8 := (boundsB_true h).1
  have HBS := Lib.hid hbs
  have H1 := Lib.hid h
  have HNIL := Lib.hid hnil
  clear hbs h hnil
  go_enter Try.func21, Try.ntmps21
  go_wp2_with fail
  refine (bounds_any B bs.length d bs _ HBS.out (by unfold maxLen; omega)).mono ?_
  rintro e w1 ⟨rfl, k, hk⟩
  have HB1 := Lib.hid (show Below w.heap.size w w1 from hk ▸ below_drewN (Below.refl _ _) _)
  clear hk
  rw [H1.out]
  go_wp2_with fail
  refine (sclone_any B bs.length d bs w1 (HBS.out.below HB1.out) HNIL.out (by omega)).mono ?_
  rintro e w2 ⟨A2, c2, rfl, ho, hb⟩
  have HO := Lib.hid (ho.mono HB1.out.size)
  have HB2 := Lib.hid (HB1.out.trans (hb.mono HB1.out.size))
  clear ho hb
  go_wp2_with fail
  go_ret2
  exact ⟨_, A2, c2, rfl, HB2.out.size, Has.made _ _ _, HO.out.below ((Below.refl _ _).alloc (Nat.le_refl _) _), below_alloc HB2.out (Nat.le_refl _) _⟩

end Go.Proofs.Ytjmaeiilkbfnaaa
