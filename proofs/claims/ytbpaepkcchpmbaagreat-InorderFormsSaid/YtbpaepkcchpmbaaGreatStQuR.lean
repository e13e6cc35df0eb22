import Derived.Test.YtbpaepkcchpmbaaGreatG24
namespace Go.Proofs.YtbpaepkcchpmbaaGreat
open Go.RowKit
def stt3D : List (Option Tmp) := [some 6, some 7, some 8, some 9, some 10, some 11, some 12, some 13, some 14, some 15, some 16, some 17, some 18, some 19, some 20, none]
def stt3F (g _m _d fn fc bn bc : Nat) (_bA FA BA : Option Addr) (z : Nat) (V W T : Ac) : List Fact := [isV (.pointer (some ⟨g, 0, none⟩)), isV (.pointer (some ⟨g, 0, none⟩)), isV (.pointer (some ⟨g, 0, none⟩)), isV (.pointer (some ⟨g, 0, none⟩)), isV (.pointer (some ⟨g, 1, none⟩)), isV (.slice FA fn fc), accN V, isV (.pointer (some ⟨g, 0, none⟩)), isV (.pointer (some ⟨g, 0, none⟩)), isV (.pointer (some ⟨g, 0, none⟩)), isV (.pointer (some ⟨g, 2, none⟩)), isV (.slice BA bn bc), accN W, row2A V W, accZ z T]
theorem stt3F_mono (g m d fn fc bn bc : Nat) (bA FA BA : Option Addr) (z : Nat) (V W T : Ac) : ∀ φ ∈ stt3F g m d fn fc bn bc bA FA BA z V W T, Mono φ := by
  unfold stt3F
  refine monos_cons (mono_isV _) ?_
  refine monos_cons (mono_isV _) ?_
  refine monos_cons (mono_isV _) ?_
  refine monos_cons (mono_isV _) ?_
  refine monos_cons (mono_isV _) ?_
  refine monos_cons (mono_isV _) ?_
  refine monos_cons (accN_mono _) ?_
  refine monos_cons (mono_isV _) ?_
  refine monos_cons (mono_isV _) ?_
  refine monos_cons (mono_isV _) ?_
  refine monos_cons (mono_isV _) ?_
  refine monos_cons (mono_isV _) ?_
  refine monos_cons (accN_mono _) ?_
  refine monos_cons (row2A_mono _ _) ?_
  refine monos_cons (accZ_mono _ _) ?_
  exact monos_nil
structure stt3S (g m d fn fc bn bc : Nat) (bA FA BA : Option Addr) (z : Nat) (V W T : Ac) (a0 : Act) (w0 : World) : Prop where
  size : a0.tmps.size = 21
  v0 : a0.tmps.getD 0 undef = .pointer (some ⟨g, 0, none⟩)
  st : Has w0 g 207 #[.slice bA m d, .slice FA fn fc, .slice BA bn bc]
  ez : z ≤ w0.heap.size
  c1 : ∀ w, Below w0.heap.size w0 w → Calls Tryz.prog 190 #[.pointer (some ⟨g, 0, none⟩), .slice FA fn fc] w (OutT V w)
  c2 : ∀ w, Below w0.heap.size w0 w → Calls Tryz.prog 190 #[.pointer (some ⟨g, 0, none⟩), .slice BA bn bc] w (OutT W w)
  cj : ∀ (w : World) (e : Nat), Below w0.heap.size w0 w → Accs w (some ⟨e, 0, none⟩) 2 [V, W] → Calls Tryz.prog 189 #[.pointer (some ⟨g, 0, none⟩), .slice (some ⟨e, 0, none⟩) 2 2] w (OutA T w)
  lV : V.h.length ≤ maxLen
  lW : W.h.length ≤ maxLen
section
variable {g m d fn fc bn bc : Nat} {bA FA BA : Option Addr} {z : Nat} {V W T : Ac} {a0 : Act} {w0 : World} (S : stt3S g m d fn fc bn bc bA FA BA z V W T a0 w0)
include S
set_option maxRecDepth 100000 in
set_option maxHeartbeats 8000000 in
theorem stt3_ok : AllOps (fun j o => ∀ (a : Act) (w : World), Below w0.heap.size w0 w → FrD (stt3D.take 15) a0 a → needs stt3D (stt3F g m d fn fc bn bc bA FA BA z V W T) a w o.after.toList → StepD Tryz.prog stt3D (factAt (stt3F g m d fn fc bn bc bA FA BA z V W T) j) o a w) 0 ((opsOf 3 Tryz.f142).take 15) := by
  simp only [opsOf, Tryz.f142, opsAt, Option.bind, Option.or, Option.getD, reduceCtorEq, if_true, if_false, Nat.reduceEqDiff, List.take_succ_cons, List.take_zero]
  refine ⟨?_, ?_⟩
  · intro _a _w _hB hF _hd
    exact step_move (guard_none rfl) rfl _ rfl ((hF.other 0 rfl).trans S.v0)
  refine ⟨?_, ?_⟩
  · intro _a _w _hB hF _hd
    exact step_move (guard_none rfl) rfl _ rfl ((hF.other 0 rfl).trans S.v0)
  refine ⟨?_, ?_⟩
  · intro _a _w _hB hF _hd
    exact step_move (guard_none rfl) rfl _ rfl ((hF.other 0 rfl).trans S.v0)
  refine ⟨?_, ?_⟩
  · intro a _w _hB _hF hd
    have h8 : a.tmps.getD 8 undef = .pointer (some ⟨g, 0, none⟩) := hd.1 rfl
    exact rf_nilck (guard_none rfl) rfl _ rfl _ h8 rfl
  refine ⟨?_, ?_⟩
  · intro a _w _hB _hF hd
    have h9 : a.tmps.getD 9 undef = .pointer (some ⟨g, 0, none⟩) := hd.1 rfl
    exact rf_faddr (guard_none rfl) rfl _ _ _ rfl _ _ 1 _ h9 (by omega) (fun _ _ => by kernel_rfl) rfl
  refine ⟨?_, ?_⟩
  · intro a _w hB _hF hd
    have h10 : a.tmps.getD 10 undef = .pointer (some ⟨g, 1, none⟩) := hd.1 rfl
    exact rf_load1 (guard_none rfl) rfl _ _ rfl _ _ h10 (run_ldK ((Has.cell (S.st.below hB S.st.lt) 1).trans rfl)) rfl
  refine ⟨?_, ?_⟩
  · intro a w hB _hF hd
    have h7 : a.tmps.getD 7 undef = .pointer (some ⟨g, 0, none⟩) := hd.1 rfl
    have h11 : a.tmps.getD 11 undef = .slice FA fn fc := hd.2.1 rfl
    refine step_call (guard_none rfl) rfl _ _ (rf_call_run Tryz.func190 (by kernel_rfl) (by kernel_rfl) _ _ rfl) ?_
    simp only [List.map_toArray, List.map_cons, List.map_nil, Act.eval, h7, h11]
    exact (S.c1 w hB).mono (by rintro e w1 ⟨H, rfl, hh, hb⟩; exact ⟨_, rfl, hb, H, rfl, hh⟩)
  refine ⟨?_, ?_⟩
  · intro _a _w _hB hF _hd
    exact step_move (guard_none rfl) rfl _ rfl ((hF.other 0 rfl).trans S.v0)
  refine ⟨?_, ?_⟩
  · intro _a _w _hB hF _hd
    exact step_move (guard_none rfl) rfl _ rfl ((hF.other 0 rfl).trans S.v0)
  refine ⟨?_, ?_⟩
  · intro a _w _hB _hF hd
    have h14 : a.tmps.getD 14 undef = .pointer (some ⟨g, 0, none⟩) := hd.1 rfl
    exact rf_nilck (guard_none rfl) rfl _ rfl _ h14 rfl
  refine ⟨?_, ?_⟩
  · intro a _w _hB _hF hd
    have h15 : a.tmps.getD 15 undef = .pointer (some ⟨g, 0, none⟩) := hd.1 rfl
    exact rf_faddr (guard_none rfl) rfl _ _ _ rfl _ _ 2 _ h15 (by omega) (fun _ _ => by kernel_rfl) rfl
  refine ⟨?_, ?_⟩
  · intro a _w hB _hF hd
    have h16 : a.tmps.getD 16 undef = .pointer (some ⟨g, 2, none⟩) := hd.1 rfl
    exact rf_load1 (guard_none rfl) rfl _ _ rfl _ _ h16 (run_ldK ((Has.cell (S.st.below hB S.st.lt) 2).trans rfl)) rfl
  refine ⟨?_, ?_⟩
  · intro a w hB _hF hd
    have h13 : a.tmps.getD 13 undef = .pointer (some ⟨g, 0, none⟩) := hd.1 rfl
    have h17 : a.tmps.getD 17 undef = .slice BA bn bc := hd.2.1 rfl
    refine step_call (guard_none rfl) rfl _ _ (rf_call_run Tryz.func190 (by kernel_rfl) (by kernel_rfl) _ _ rfl) ?_
    simp only [List.map_toArray, List.map_cons, List.map_nil, Act.eval, h13, h17]
    exact (S.c2 w hB).mono (by rintro e w1 ⟨H, rfl, hh, hb⟩; exact ⟨_, rfl, hb, H, rfl, hh⟩)
  refine ⟨?_, ?_⟩
  · intro a w _hB _hF hd
    obtain ⟨H12, h12, p12⟩ : accN V (a.tmps.getD 12 undef) w := hd.1 rfl
    obtain ⟨H18, h18, p18⟩ : accN W (a.tmps.getD 18 undef) w := hd.2.1 rfl
    exact rf_2n (guard_none rfl) rfl _ _ rfl V W _ _ h12 h18 p12 p18 S.lV S.lW (fun _ _ h => h)
  refine ⟨?_, ?_⟩
  · intro a w hB _hF hd
    have h6 : a.tmps.getD 6 undef = .pointer (some ⟨g, 0, none⟩) := hd.1 rfl
    obtain ⟨e19, h19, p19⟩ : row2A V W (a.tmps.getD 19 undef) w := hd.2.1 rfl
    refine step_call (guard_none rfl) rfl _ _ (rf_call_run Tryz.func189 (by kernel_rfl) (by kernel_rfl) _ _ rfl) ?_
    simp only [List.map_toArray, List.map_cons, List.map_nil, Act.eval, h6, h19]
    exact (S.cj w e19 hB p19).mono (by rintro e w1 ⟨H, hlo, rfl, hh, hb⟩; exact ⟨_, rfl, hb, H, rfl, hh, Nat.le_trans (Nat.le_trans S.ez hB.size) hlo⟩)
  trivial
theorem stt3_any {Q : Exit → Act → World → Prop} {l : List Oper} (hl : opsOf 3 Tryz.f142 = l) (hend : ∀ (H12 : Nat), ∀ (H18 : Nat), ∀ (e19 : Nat), ∀ (H20 : Nat), ∀ w : World, Below w0.heap.size w0 w → Has w H12 3 (ints V.h) → Has w H18 3 (ints W.h) → Accs w (some ⟨e19, 0, none⟩) 2 [V, W] → (Has w H20 3 (ints T.h) ∧ z ≤ H20) → wpList Tryz.prog l.toArray Q (l.drop 15) (putAll a0 [(6, .pointer (some ⟨g, 0, none⟩)), (7, .pointer (some ⟨g, 0, none⟩)), (8, .pointer (some ⟨g, 0, none⟩)), (9, .pointer (some ⟨g, 0, none⟩)), (10, .pointer (some ⟨g, 1, none⟩)), (11, .slice FA fn fc), (12, .agg (accC V (some ⟨H12, 0, none⟩) V.h.length V.h.length)), (13, .pointer (some ⟨g, 0, none⟩)), (14, .pointer (some ⟨g, 0, none⟩)), (15, .pointer (some ⟨g, 0, none⟩)), (16, .pointer (some ⟨g, 2, none⟩)), (17, .slice BA bn bc), (18, .agg (accC W (some ⟨H18, 0, none⟩) W.h.length W.h.length)), (19, .slice (some ⟨e19, 0, none⟩) 2 2), (20, .agg (accC T (some ⟨H20, 0, none⟩) T.h.length T.h.length))]) w) :
    (Code.region 3 l.toArray true).wp Tryz.prog Q a0 w0 := by
  subst hl
  refine region_head2 (stt3F g m d fn fc bn bc bA FA BA z V W T) stt3D 15 21 S.size rfl (by kernel_rfl) (by kernel_rfl) (by kernel_rfl) (stt3F_mono _ _ _ _ _ _ _ _ _ _ _ _ _ _) (stt3_ok S) fun a w hB hF h => ?_
  obtain ⟨H12, h12, p12⟩ : accN V (a.tmps.getD 12 undef) w := h 6 (some 12) (by omega) rfl
  obtain ⟨H18, h18, p18⟩ : accN W (a.tmps.getD 18 undef) w := h 12 (some 18) (by omega) rfl
  obtain ⟨e19, h19, p19⟩ : row2A V W (a.tmps.getD 19 undef) w := h 13 (some 19) (by omega) rfl
  obtain ⟨H20, h20, p20⟩ : accZ z T (a.tmps.getD 20 undef) w := h 14 (some 20) (by omega) rfl
  have hv : valsAre a [(6, .pointer (some ⟨g, 0, none⟩)), (7, .pointer (some ⟨g, 0, none⟩)), (8, .pointer (some ⟨g, 0, none⟩)), (9, .pointer (some ⟨g, 0, none⟩)), (10, .pointer (some ⟨g, 1, none⟩)), (11, .slice FA fn fc), (12, .agg (accC V (some ⟨H12, 0, none⟩) V.h.length V.h.length)), (13, .pointer (some ⟨g, 0, none⟩)), (14, .pointer (some ⟨g, 0, none⟩)), (15, .pointer (some ⟨g, 0, none⟩)), (16, .pointer (some ⟨g, 2, none⟩)), (17, .slice BA bn bc), (18, .agg (accC W (some ⟨H18, 0, none⟩) W.h.length W.h.length)), (19, .slice (some ⟨e19, 0, none⟩) 2 2), (20, .agg (accC T (some ⟨H20, 0, none⟩) T.h.length T.h.length))] := by
    refine ⟨?_, ?_, ?_, ?_, ?_, ?_, ?_, ?_, ?_, ?_, ?_, ?_, ?_, ?_, ?_, trivial⟩
    · exact h 0 (some 6) (by omega) rfl
    · exact h 1 (some 7) (by omega) rfl
    · exact h 2 (some 8) (by omega) rfl
    · exact h 3 (some 9) (by omega) rfl
    · exact h 4 (some 10) (by omega) rfl
    · exact h 5 (some 11) (by omega) rfl
    · exact h12
    · exact h 7 (some 13) (by omega) rfl
    · exact h 8 (some 14) (by omega) rfl
    · exact h 9 (some 15) (by omega) rfl
    · exact h 10 (some 16) (by omega) rfl
    · exact h 11 (some 17) (by omega) rfl
    · exact h18
    · exact h19
    · exact h20
  rw [frame_is hF _ hv (by rfl) (by rfl)]
  exact hend H12 H18 e19 H20 w hB p12 p18 p19 p20
end
def stp3D : List (Option Tmp) := [some 10, some 11, some 12, some 13, some 14, some 15, some 16, some 17, some 18, some 9, some 19, some 20, some 5, none, some 6]
def stp3F (g m d _fn _fc _bn _bc : Nat) (bA _FA _BA : Option Addr) (k c _x z : Nat) (A : Option Addr) (T u U : Ac) (code : Int) : List Fact := [isV (.pointer (some ⟨g, 0, none⟩)), isV (.pointer (some ⟨g, 0, none⟩)), isV (.pointer (some ⟨g, 0, none⟩)), isV (.slice bA m d), isV (.pointer (some ⟨g, 0, none⟩)), accN T, isV (.agg (accC u A k c)), row2A T u, tupX U code, tupX U code, accX U, isV (.int .i64 code), newA z]
theorem stp3F_mono (g m d fn fc bn bc : Nat) (bA FA BA : Option Addr) (k c x z : Nat) (A : Option Addr) (T u U : Ac) (code : Int) : ∀ φ ∈ stp3F g m d fn fc bn bc bA FA BA k c x z A T u U code, Mono φ := by
  unfold stp3F
  refine monos_cons (mono_isV _) ?_
  refine monos_cons (mono_isV _) ?_
  refine monos_cons (mono_isV _) ?_
  refine monos_cons (mono_isV _) ?_
  refine monos_cons (mono_isV _) ?_
  refine monos_cons (accN_mono _) ?_
  refine monos_cons (mono_isV _) ?_
  refine monos_cons (row2A_mono _ _) ?_
  refine monos_cons (tupX_mono _ _) ?_
  refine monos_cons (tupX_mono _ _) ?_
  refine monos_cons (accX_mono _) ?_
  refine monos_cons (mono_isV _) ?_
  refine monos_cons (newA_mono _) ?_
  exact monos_nil
structure stp3S (g m d fn fc bn bc : Nat) (bA FA BA : Option Addr) (k c x z : Nat) (A : Option Addr) (T u U : Ac) (code : Int) (a0 : Act) (w0 : World) : Prop where
  size : a0.tmps.size = 43
  v0 : a0.tmps.getD 0 undef = .pointer (some ⟨g, 0, none⟩)
  v3 : a0.tmps.getD 3 undef = .pointer (some ⟨x, 0, none⟩)
  st : Has w0 g 207 #[.slice bA m d, .slice FA fn fc, .slice BA bn bc]
  ez : z ≤ w0.heap.size
  bx : Has w0 x 144 (accC u A k c)
  bu : Ints w0 A k u.h
  kc : k ≤ c
  cm : c ≤ maxLen
  lT : T.h.length ≤ maxLen
  ct : ∀ w, Below w0.heap.size w0 w → Calls Tryz.prog 142 #[.pointer (some ⟨g, 0, none⟩)] w (OutA T w)
  cj : ∀ (w : World) (e : Nat), Below w0.heap.size w0 w → Accs w (some ⟨e, 0, none⟩) 2 [T, u] → Calls Tryz.prog 219 #[.slice bA m d, .slice (some ⟨e, 0, none⟩) 2 2] w (OutX U code w)
section
variable {g m d fn fc bn bc : Nat} {bA FA BA : Option Addr} {k c x z : Nat} {A : Option Addr} {T u U : Ac} {code : Int} {a0 : Act} {w0 : World} (S : stp3S g m d fn fc bn bc bA FA BA k c x z A T u U code a0 w0)
include S
set_option maxRecDepth 100000 in
set_option maxHeartbeats 8000000 in
theorem stp3_ok : AllOps (fun j o => ∀ (a : Act) (w : World), Below w0.heap.size w0 w → FrD (stp3D.take 13) a0 a → needs stp3D (stp3F g m d fn fc bn bc bA FA BA k c x z A T u U code) a w o.after.toList → StepD Tryz.prog stp3D (factAt (stp3F g m d fn fc bn bc bA FA BA k c x z A T u U code) j) o a w) 0 ((opsOf 3 Tryz.f188).take 13) := by
  simp only [opsOf, Tryz.f188, opsAt, Option.bind, Option.or, Option.getD, reduceCtorEq, if_true, if_false, Nat.reduceEqDiff, List.take_succ_cons, List.take_zero]
  refine ⟨?_, ?_⟩
  · intro _a _w _hB hF _hd
    exact step_move (guard_none rfl) rfl _ rfl ((hF.other 0 rfl).trans S.v0)
  refine ⟨?_, ?_⟩
  · intro a _w _hB _hF hd
    have h10 : a.tmps.getD 10 undef = .pointer (some ⟨g, 0, none⟩) := hd.1 rfl
    exact rf_nilck (guard_none rfl) rfl _ rfl _ h10 rfl
  refine ⟨?_, ?_⟩
  · intro a _w _hB _hF hd
    have h11 : a.tmps.getD 11 undef = .pointer (some ⟨g, 0, none⟩) := hd.1 rfl
    exact rf_faddr (guard_none rfl) rfl _ _ _ rfl _ _ 0 _ h11 (by omega) (fun _ _ => by kernel_rfl) rfl
  refine ⟨?_, ?_⟩
  · intro a _w hB _hF hd
    have h12 : a.tmps.getD 12 undef = .pointer (some ⟨g, 0, none⟩) := hd.1 rfl
    exact rf_load1 (guard_none rfl) rfl _ _ rfl _ _ h12 (run_ldN ((Has.cell (S.st.below hB S.st.lt) 0).trans rfl)) rfl
  refine ⟨?_, ?_⟩
  · intro _a _w _hB hF _hd
    exact step_move (guard_none rfl) rfl _ rfl ((hF.other 0 rfl).trans S.v0)
  refine ⟨?_, ?_⟩
  · intro a w hB _hF hd
    have h14 : a.tmps.getD 14 undef = .pointer (some ⟨g, 0, none⟩) := hd.1 rfl
    refine step_call (guard_none rfl) rfl _ _ (rf_call_run Tryz.func142 (by kernel_rfl) (by kernel_rfl) _ _ rfl) ?_
    simp only [List.map_toArray, List.map_cons, List.map_nil, Act.eval, h14]
    exact (S.ct w hB).mono (by rintro e w1 ⟨H, _, rfl, hh, hb⟩; exact ⟨_, rfl, hb, H, rfl, hh⟩)
  refine ⟨?_, ?_⟩
  · intro _a _w hB hF _hd
    exact rf_loadA (guard_none rfl) rfl _ rfl x ((hF.other 3 rfl).trans S.v3) (S.bx.below hB S.bx.lt) rfl
  refine ⟨?_, ?_⟩
  · intro a w hB _hF hd
    obtain ⟨H15, h15, p15⟩ : accN T (a.tmps.getD 15 undef) w := hd.1 rfl
    have h16 : a.tmps.getD 16 undef = .agg (accC u A k c) := hd.2.1 rfl
    exact rf_twoA (guard_none rfl) rfl _ _ rfl T u _ A k c h15 h16 p15 (S.bu.below hB) S.lT S.kc S.cm (fun _ _ h => h)
  refine ⟨?_, ?_⟩
  · intro a w hB _hF hd
    have h13 : a.tmps.getD 13 undef = .slice bA m d := hd.1 rfl
    obtain ⟨e17, h17, p17⟩ : row2A T u (a.tmps.getD 17 undef) w := hd.2.1 rfl
    refine step_call (guard_none rfl) rfl _ _ (rf_call_run Tryz.func219 (by kernel_rfl) (by kernel_rfl) _ _ rfl) ?_
    simp only [List.map_toArray, List.map_cons, List.map_nil, Act.eval, h13, h17]
    exact (S.cj w e17 hB p17).mono (by rintro e w1 ⟨A, n, c, rfl, hb⟩; exact ⟨_, rfl, hb, A, n, c, rfl, trivial⟩)
  refine ⟨?_, ?_⟩
  · intro a w _hB _hF hd
    obtain ⟨A18, n18, c18, h18, p18⟩ : tupX U code (a.tmps.getD 18 undef) w := hd.1 rfl
    exact step_move (guard_none rfl) rfl _ rfl ⟨A18, n18, c18, h18, p18⟩
  refine ⟨?_, ?_⟩
  · intro a w _hB _hF hd
    obtain ⟨A9, n9, c9, h9, p9⟩ : tupX U code (a.tmps.getD 9 undef) w := hd.1 rfl
    exact rf_extract (guard_none rfl) rfl _ 0 rfl _ _ h9 rfl ⟨A9, n9, c9, rfl, p9⟩
  refine ⟨?_, ?_⟩
  · intro a w _hB _hF hd
    obtain ⟨A9, n9, c9, h9, p9⟩ : tupX U code (a.tmps.getD 9 undef) w := hd.1 rfl
    exact rf_extract (guard_none rfl) rfl _ 1 rfl _ _ h9 rfl rfl
  refine ⟨?_, ?_⟩
  · intro _a _w hB _hF _hd
    exact rf_newA (guard_none rfl) rfl rfl (Nat.le_trans S.ez hB.size) (fun _ _ h => h)
  trivial
theorem stp3_any {Q : Exit → Act → World → Prop} {l : List Oper} (hl : opsOf 3 Tryz.f188 = l) (hend : ∀ (H15 : Nat), ∀ (e17 : Nat), ∀ (A18 : Option Addr) (n18 : Nat) (c18 : Nat), ∀ (A9 : Option Addr) (n9 : Nat) (c9 : Nat), ∀ (A19 : Option Addr) (n19 : Nat) (c19 : Nat), ∀ (y5 : Nat), ∀ w : World, Below w0.heap.size w0 w → Has w H15 3 (ints T.h) → Accs w (some ⟨e17, 0, none⟩) 2 [T, u] → True → True → True → Has w y5 144 (accC zeroAc none 0 0) ∧ z ≤ y5 → wpList Tryz.prog l.toArray Q (l.drop 13) (putAll a0 [(10, .pointer (some ⟨g, 0, none⟩)), (11, .pointer (some ⟨g, 0, none⟩)), (12, .pointer (some ⟨g, 0, none⟩)), (13, .slice bA m d), (14, .pointer (some ⟨g, 0, none⟩)), (15, .agg (accC T (some ⟨H15, 0, none⟩) T.h.length T.h.length)), (16, .agg (accC u A k c)), (17, .slice (some ⟨e17, 0, none⟩) 2 2), (18, .tuple #[.agg (accC U A18 n18 c18), .int .i64 code]), (9, .tuple #[.agg (accC U A9 n9 c9), .int .i64 code]), (19, .agg (accC U A19 n19 c19)), (20, .int .i64 code), (5, .pointer (some ⟨y5, 0, none⟩))]) w)
    (hendQ : ∀ (H15 : Nat), ∀ (e17 : Nat), ∀ (A18 : Option Addr) (n18 : Nat) (c18 : Nat), ∀ (A9 : Option Addr) (n9 : Nat) (c9 : Nat), ∀ (A19 : Option Addr) (n19 : Nat) (c19 : Nat), ∀ (y5 : Nat), ∀ w : World, Below w0.heap.size w0 w → Has w H15 3 (ints T.h) → Accs w (some ⟨e17, 0, none⟩) 2 [T, u] → True → True → True → Has w y5 144 (accC zeroAc none 0 0) ∧ z ≤ y5 → wpList Tryz.prog l.toArray Q (pickL l [13, 11, 14]) (putAll a0 [(10, .pointer (some ⟨g, 0, none⟩)), (11, .pointer (some ⟨g, 0, none⟩)), (12, .pointer (some ⟨g, 0, none⟩)), (13, .slice bA m d), (14, .pointer (some ⟨g, 0, none⟩)), (15, .agg (accC T (some ⟨H15, 0, none⟩) T.h.length T.h.length)), (16, .agg (accC u A k c)), (17, .slice (some ⟨e17, 0, none⟩) 2 2), (18, .tuple #[.agg (accC U A18 n18 c18), .int .i64 code]), (9, .tuple #[.agg (accC U A9 n9 c9), .int .i64 code]), (19, .agg (accC U A19 n19 c19)), (20, a0.tmps.getD 20 undef), (5, .pointer (some ⟨y5, 0, none⟩))]) w) :
    (Code.region 3 l.toArray true).wp Tryz.prog Q a0 w0 := by
  subst hl
  refine region_head3 (stp3F g m d fn fc bn bc bA FA BA k c x z A T u U code) stp3D 13 43 11 [11, 14] S.size rfl (by kernel_rfl) (by kernel_rfl) (by kernel_rfl) (stp3F_mono _ _ _ _ _ _ _ _ _ _ _ _ _ _ _ _ _ _ _) (stp3_ok S) ?_ ?_
  · intro a w hB hF h
    obtain ⟨H15, h15, p15⟩ : accN T (a.tmps.getD 15 undef) w := h 5 (some 15) (by omega) rfl
    obtain ⟨e17, h17, p17⟩ : row2A T u (a.tmps.getD 17 undef) w := h 7 (some 17) (by omega) rfl
    obtain ⟨A18, n18, c18, h18, p18⟩ : tupX U code (a.tmps.getD 18 undef) w := h 8 (some 18) (by omega) rfl
    obtain ⟨A9, n9, c9, h9, p9⟩ : tupX U code (a.tmps.getD 9 undef) w := h 9 (some 9) (by omega) rfl
    obtain ⟨A19, n19, c19, h19, p19⟩ : accX U (a.tmps.getD 19 undef) w := h 10 (some 19) (by omega) rfl
    obtain ⟨y5, h5, p5⟩ : newA z (a.tmps.getD 5 undef) w := h 12 (some 5) (by omega) rfl
    have hv : valsAre a [(10, .pointer (some ⟨g, 0, none⟩)), (11, .pointer (some ⟨g, 0, none⟩)), (12, .pointer (some ⟨g, 0, none⟩)), (13, .slice bA m d), (14, .pointer (some ⟨g, 0, none⟩)), (15, .agg (accC T (some ⟨H15, 0, none⟩) T.h.length T.h.length)), (16, .agg (accC u A k c)), (17, .slice (some ⟨e17, 0, none⟩) 2 2), (18, .tuple #[.agg (accC U A18 n18 c18), .int .i64 code]), (9, .tuple #[.agg (accC U A9 n9 c9), .int .i64 code]), (19, .agg (accC U A19 n19 c19)), (20, .int .i64 code), (5, .pointer (some ⟨y5, 0, none⟩))] := by
      refine ⟨?_, ?_, ?_, ?_, ?_, ?_, ?_, ?_, ?_, ?_, ?_, ?_, ?_, trivial⟩
      · exact h 0 (some 10) (by omega) rfl
      · exact h 1 (some 11) (by omega) rfl
      · exact h 2 (some 12) (by omega) rfl
      · exact h 3 (some 13) (by omega) rfl
      · exact h 4 (some 14) (by omega) rfl
      · exact h15
      · exact h 6 (some 16) (by omega) rfl
      · exact h17
      · exact h18
      · exact h9
      · exact h19
      · exact h 11 (some 20) (by omega) rfl
      · exact h5
    rw [frame_is hF _ hv (by rfl) (by rfl)]
    exact hend H15 e17 A18 n18 c18 A9 n9 c9 A19 n19 c19 y5 w hB p15 p17 p18 p9 p19 p5
  · intro a w hB hF h hq
    obtain ⟨H15, h15, p15⟩ : accN T (a.tmps.getD 15 undef) w := h 5 (some 15) (by omega) (by omega) rfl
    obtain ⟨e17, h17, p17⟩ : row2A T u (a.tmps.getD 17 undef) w := h 7 (some 17) (by omega) (by omega) rfl
    obtain ⟨A18, n18, c18, h18, p18⟩ : tupX U code (a.tmps.getD 18 undef) w := h 8 (some 18) (by omega) (by omega) rfl
    obtain ⟨A9, n9, c9, h9, p9⟩ : tupX U code (a.tmps.getD 9 undef) w := h 9 (some 9) (by omega) (by omega) rfl
    obtain ⟨A19, n19, c19, h19, p19⟩ : accX U (a.tmps.getD 19 undef) w := h 10 (some 19) (by omega) (by omega) rfl
    obtain ⟨y5, h5, p5⟩ : newA z (a.tmps.getD 5 undef) w := h 12 (some 5) (by omega) (by omega) rfl
    have hv : valsAre a [(10, .pointer (some ⟨g, 0, none⟩)), (11, .pointer (some ⟨g, 0, none⟩)), (12, .pointer (some ⟨g, 0, none⟩)), (13, .slice bA m d), (14, .pointer (some ⟨g, 0, none⟩)), (15, .agg (accC T (some ⟨H15, 0, none⟩) T.h.length T.h.length)), (16, .agg (accC u A k c)), (17, .slice (some ⟨e17, 0, none⟩) 2 2), (18, .tuple #[.agg (accC U A18 n18 c18), .int .i64 code]), (9, .tuple #[.agg (accC U A9 n9 c9), .int .i64 code]), (19, .agg (accC U A19 n19 c19)), (20, a0.tmps.getD 20 undef), (5, .pointer (some ⟨y5, 0, none⟩))] := by
      refine ⟨?_, ?_, ?_, ?_, ?_, ?_, ?_, ?_, ?_, ?_, ?_, ?_, ?_, trivial⟩
      · exact h 0 (some 10) (by omega) (by omega) rfl
      · exact h 1 (some 11) (by omega) (by omega) rfl
      · exact h 2 (some 12) (by omega) (by omega) rfl
      · exact h 3 (some 13) (by omega) (by omega) rfl
      · exact h 4 (some 14) (by omega) (by omega) rfl
      · exact h15
      · exact h 6 (some 16) (by omega) (by omega) rfl
      · exact h17
      · exact h18
      · exact h9
      · exact h19
      · exact hq (some 20) rfl
      · exact h5
    rw [frame_is hF _ hv (by rfl) (by rfl)]
    exact hendQ H15 e17 A18 n18 c18 A9 n9 c9 A19 n19 c19 y5 w hB p15 p17 p18 p9 p19 p5
end
def stp7D : List (Option Tmp) := [some 27, some 28, some 29, some 30, some 31, some 32, some 33, some 34, some 35, some 36, some 37, some 38, some 39, some 40, some 41, some 42]
def stp7F (g _m _d _fn _fc bn bc : Nat) (_bA _FA BA : Option Addr) (hk c _x z : Nat) (u W T : Ac) : List Fact := [isV (.pointer (some ⟨g, 0, none⟩)), isV (.pointer (some ⟨g, 0, none⟩)), isV (.pointer (some ⟨g, 2, none⟩)), isV (.agg (accC u (some ⟨hk, 0, none⟩) u.h.length c)), isV (.pointer (some ⟨g, 0, none⟩)), isV (.pointer (some ⟨g, 0, none⟩)), isV (.pointer (some ⟨g, 0, none⟩)), isV (.pointer (some ⟨g, 0, none⟩)), isV (.pointer (some ⟨g, 2, none⟩)), isV (.slice BA bn bc), accN W, isV (.agg (accC u (some ⟨hk, 0, none⟩) u.h.length c)), row2A W u, accZ z T, partV z hk c u T]
theorem stp7F_mono (g m d fn fc bn bc : Nat) (bA FA BA : Option Addr) (hk c x z : Nat) (u W T : Ac) : ∀ φ ∈ stp7F g m d fn fc bn bc bA FA BA hk c x z u W T, Mono φ := by
  unfold stp7F
  refine monos_cons (mono_isV _) ?_
  refine monos_cons (mono_isV _) ?_
  refine monos_cons (mono_isV _) ?_
  refine monos_cons (mono_isV _) ?_
  refine monos_cons (mono_isV _) ?_
  refine monos_cons (mono_isV _) ?_
  refine monos_cons (mono_isV _) ?_
  refine monos_cons (mono_isV _) ?_
  refine monos_cons (mono_isV _) ?_
  refine monos_cons (mono_isV _) ?_
  refine monos_cons (accN_mono _) ?_
  refine monos_cons (mono_isV _) ?_
  refine monos_cons (row2A_mono _ _) ?_
  refine monos_cons (accZ_mono _ _) ?_
  refine monos_cons (partV_mono _ _ _ _ _) ?_
  exact monos_nil
structure stp7S (g m d fn fc bn bc : Nat) (bA FA BA : Option Addr) (hk c x z : Nat) (u W T : Ac) (a0 : Act) (w0 : World) : Prop where
  size : a0.tmps.size = 43
  v0 : a0.tmps.getD 0 undef = .pointer (some ⟨g, 0, none⟩)
  v3 : a0.tmps.getD 3 undef = .pointer (some ⟨x, 0, none⟩)
  st : Has w0 g 207 #[.slice bA m d, .slice FA fn fc, .slice BA bn bc]
  ez : z ≤ w0.heap.size
  bx : Has w0 x 144 (accC u (some ⟨hk, 0, none⟩) u.h.length c)
  bu : Ints w0 (some ⟨hk, 0, none⟩) u.h.length u.h
  kc : u.h.length ≤ c
  cm : c ≤ maxLen
  lW : W.h.length ≤ maxLen
  c2 : ∀ w, Below w0.heap.size w0 w → Calls Tryz.prog 190 #[.pointer (some ⟨g, 0, none⟩), .slice BA bn bc] w (OutT W w)
  cj : ∀ (w : World) (e : Nat), Below w0.heap.size w0 w → Accs w (some ⟨e, 0, none⟩) 2 [W, u] → Calls Tryz.prog 189 #[.pointer (some ⟨g, 0, none⟩), .slice (some ⟨e, 0, none⟩) 2 2] w (OutA T w)
section
variable {g m d fn fc bn bc : Nat} {bA FA BA : Option Addr} {hk c x z : Nat} {u W T : Ac} {a0 : Act} {w0 : World} (S : stp7S g m d fn fc bn bc bA FA BA hk c x z u W T a0 w0)
include S
set_option maxRecDepth 100000 in
set_option maxHeartbeats 8000000 in
theorem stp7_ok : AllOps (fun j o => ∀ (a : Act) (w : World), Below w0.heap.size w0 w → FrD (stp7D.take 15) a0 a → needs stp7D (stp7F g m d fn fc bn bc bA FA BA hk c x z u W T) a w o.after.toList → StepD Tryz.prog stp7D (factAt (stp7F g m d fn fc bn bc bA FA BA hk c x z u W T) j) o a w) 0 ((opsOf 7 Tryz.f188).take 15) := by
  simp only [opsOf, Tryz.f188, opsAt, Option.bind, Option.or, Option.getD, reduceCtorEq, if_true, if_false, Nat.reduceEqDiff, List.take_succ_cons, List.take_zero]
  refine ⟨?_, ?_⟩
  · intro _a _w _hB hF _hd
    exact step_move (guard_none rfl) rfl _ rfl ((hF.other 0 rfl).trans S.v0)
  refine ⟨?_, ?_⟩
  · intro a _w _hB _hF hd
    have h27 : a.tmps.getD 27 undef = .pointer (some ⟨g, 0, none⟩) := hd.1 rfl
    exact rf_nilck (guard_none rfl) rfl _ rfl _ h27 rfl
  refine ⟨?_, ?_⟩
  · intro a _w _hB _hF hd
    have h28 : a.tmps.getD 28 undef = .pointer (some ⟨g, 0, none⟩) := hd.1 rfl
    exact rf_faddr (guard_none rfl) rfl _ _ _ rfl _ _ 2 _ h28 (by omega) (fun _ _ => by kernel_rfl) rfl
  refine ⟨?_, ?_⟩
  · intro _a _w hB hF _hd
    exact rf_loadA (guard_none rfl) rfl _ rfl x ((hF.other 3 rfl).trans S.v3) (S.bx.below hB S.bx.lt) rfl
  refine ⟨?_, ?_⟩
  · intro _a _w _hB hF _hd
    exact step_move (guard_none rfl) rfl _ rfl ((hF.other 0 rfl).trans S.v0)
  refine ⟨?_, ?_⟩
  · intro _a _w _hB hF _hd
    exact step_move (guard_none rfl) rfl _ rfl ((hF.other 0 rfl).trans S.v0)
  refine ⟨?_, ?_⟩
  · intro _a _w _hB hF _hd
    exact step_move (guard_none rfl) rfl _ rfl ((hF.other 0 rfl).trans S.v0)
  refine ⟨?_, ?_⟩
  · intro a _w _hB _hF hd
    have h33 : a.tmps.getD 33 undef = .pointer (some ⟨g, 0, none⟩) := hd.1 rfl
    exact rf_nilck (guard_none rfl) rfl _ rfl _ h33 rfl
  refine ⟨?_, ?_⟩
  · intro a _w _hB _hF hd
    have h34 : a.tmps.getD 34 undef = .pointer (some ⟨g, 0, none⟩) := hd.1 rfl
    exact rf_faddr (guard_none rfl) rfl _ _ _ rfl _ _ 2 _ h34 (by omega) (fun _ _ => by kernel_rfl) rfl
  refine ⟨?_, ?_⟩
  · intro a _w hB _hF hd
    have h35 : a.tmps.getD 35 undef = .pointer (some ⟨g, 2, none⟩) := hd.1 rfl
    exact rf_load1 (guard_none rfl) rfl _ _ rfl _ _ h35 (run_ldK ((Has.cell (S.st.below hB S.st.lt) 2).trans rfl)) rfl
  refine ⟨?_, ?_⟩
  · intro a w hB _hF hd
    have h32 : a.tmps.getD 32 undef = .pointer (some ⟨g, 0, none⟩) := hd.1 rfl
    have h36 : a.tmps.getD 36 undef = .slice BA bn bc := hd.2.1 rfl
    refine step_call (guard_none rfl) rfl _ _ (rf_call_run Tryz.func190 (by kernel_rfl) (by kernel_rfl) _ _ rfl) ?_
    simp only [List.map_toArray, List.map_cons, List.map_nil, Act.eval, h32, h36]
    exact (S.c2 w hB).mono (by rintro e w1 ⟨H, rfl, hh, hb⟩; exact ⟨_, rfl, hb, H, rfl, hh⟩)
  refine ⟨?_, ?_⟩
  · intro _a _w hB hF _hd
    exact rf_loadA (guard_none rfl) rfl _ rfl x ((hF.other 3 rfl).trans S.v3) (S.bx.below hB S.bx.lt) rfl
  refine ⟨?_, ?_⟩
  · intro a w hB _hF hd
    obtain ⟨H37, h37, p37⟩ : accN W (a.tmps.getD 37 undef) w := hd.1 rfl
    have h38 : a.tmps.getD 38 undef = .agg (accC u (some ⟨hk, 0, none⟩) u.h.length c) := hd.2.1 rfl
    exact rf_twoA (guard_none rfl) rfl _ _ rfl W u _ _ _ c h37 h38 p37 (S.bu.below hB) S.lW S.kc S.cm (fun _ _ h => h)
  refine ⟨?_, ?_⟩
  · intro a w hB _hF hd
    have h31 : a.tmps.getD 31 undef = .pointer (some ⟨g, 0, none⟩) := hd.1 rfl
    obtain ⟨e39, h39, p39⟩ : row2A W u (a.tmps.getD 39 undef) w := hd.2.1 rfl
    refine step_call (guard_none rfl) rfl _ _ (rf_call_run Tryz.func189 (by kernel_rfl) (by kernel_rfl) _ _ rfl) ?_
    simp only [List.map_toArray, List.map_cons, List.map_nil, Act.eval, h31, h39]
    exact (S.cj w e39 hB p39).mono (by rintro e w1 ⟨H, hlo, rfl, hh, hb⟩; exact ⟨_, rfl, hb, H, rfl, hh, Nat.le_trans (Nat.le_trans S.ez hB.size) hlo⟩)
  refine ⟨?_, ?_⟩
  · intro a w _hB _hF hd
    have h30 : a.tmps.getD 30 undef = .agg (accC u (some ⟨hk, 0, none⟩) u.h.length c) := hd.1 rfl
    obtain ⟨H40, h40, p40⟩ : accZ z T (a.tmps.getD 40 undef) w := hd.2.1 rfl
    exact rf_part (guard_none rfl) rfl _ _ rfl hk c u T _ h30 h40 p40.1 p40.2 (fun _ _ h => h)
  trivial
theorem stp7_any {Q : Exit → Act → World → Prop} {l : List Oper} (hl : opsOf 7 Tryz.f188 = l) (hend : ∀ (H37 : Nat), ∀ (e39 : Nat), ∀ (H40 : Nat), ∀ (H41 : Nat), ∀ w : World, Below w0.heap.size w0 w → Has w H37 3 (ints W.h) → Accs w (some ⟨e39, 0, none⟩) 2 [W, u] → (Has w H40 3 (ints T.h) ∧ z ≤ H40) → (Has w H41 3 (ints T.h) ∧ z ≤ H41) → wpList Tryz.prog l.toArray Q (l.drop 15) (putAll a0 [(27, .pointer (some ⟨g, 0, none⟩)), (28, .pointer (some ⟨g, 0, none⟩)), (29, .pointer (some ⟨g, 2, none⟩)), (30, .agg (accC u (some ⟨hk, 0, none⟩) u.h.length c)), (31, .pointer (some ⟨g, 0, none⟩)), (32, .pointer (some ⟨g, 0, none⟩)), (33, .pointer (some ⟨g, 0, none⟩)), (34, .pointer (some ⟨g, 0, none⟩)), (35, .pointer (some ⟨g, 2, none⟩)), (36, .slice BA bn bc), (37, .agg (accC W (some ⟨H37, 0, none⟩) W.h.length W.h.length)), (38, .agg (accC u (some ⟨hk, 0, none⟩) u.h.length c)), (39, .slice (some ⟨e39, 0, none⟩) 2 2), (40, .agg (accC T (some ⟨H40, 0, none⟩) T.h.length T.h.length)), (41, .agg (partC ⟨u, hk, c, T, H41⟩))]) w) :
    (Code.region 7 l.toArray true).wp Tryz.prog Q a0 w0 := by
  subst hl
  refine region_head2 (stp7F g m d fn fc bn bc bA FA BA hk c x z u W T) stp7D 15 43 S.size rfl (by kernel_rfl) (by kernel_rfl) (by kernel_rfl) (stp7F_mono _ _ _ _ _ _ _ _ _ _ _ _ _ _ _ _ _) (stp7_ok S) fun a w hB hF h => ?_
  obtain ⟨H37, h37, p37⟩ : accN W (a.tmps.getD 37 undef) w := h 10 (some 37) (by omega) rfl
  obtain ⟨e39, h39, p39⟩ : row2A W u (a.tmps.getD 39 undef) w := h 12 (some 39) (by omega) rfl
  obtain ⟨H40, h40, p40⟩ : accZ z T (a.tmps.getD 40 undef) w := h 13 (some 40) (by omega) rfl
  obtain ⟨H41, h41, p41⟩ : partV z hk c u T (a.tmps.getD 41 undef) w := h 14 (some 41) (by omega) rfl
  have hv : valsAre a [(27, .pointer (some ⟨g, 0, none⟩)), (28, .pointer (some ⟨g, 0, none⟩)), (29, .pointer (some ⟨g, 2, none⟩)), (30, .agg (accC u (some ⟨hk, 0, none⟩) u.h.length c)), (31, .pointer (some ⟨g, 0, none⟩)), (32, .pointer (some ⟨g, 0, none⟩)), (33, .pointer (some ⟨g, 0, none⟩)), (34, .pointer (some ⟨g, 0, none⟩)), (35, .pointer (some ⟨g, 2, none⟩)), (36, .slice BA bn bc), (37, .agg (accC W (some ⟨H37, 0, none⟩) W.h.length W.h.length)), (38, .agg (accC u (some ⟨hk, 0, none⟩) u.h.length c)), (39, .slice (some ⟨e39, 0, none⟩) 2 2), (40, .agg (accC T (some ⟨H40, 0, none⟩) T.h.length T.h.length)), (41, .agg (partC ⟨u, hk, c, T, H41⟩))] := by
    refine ⟨?_, ?_, ?_, ?_, ?_, ?_, ?_, ?_, ?_, ?_, ?_, ?_, ?_, ?_, ?_, trivial⟩
    · exact h 0 (some 27) (by omega) rfl
    · exact h 1 (some 28) (by omega) rfl
    · exact h 2 (some 29) (by omega) rfl
    · exact h 3 (some 30) (by omega) rfl
    · exact h 4 (some 31) (by omega) rfl
    · exact h 5 (some 32) (by omega) rfl
    · exact h 6 (some 33) (by omega) rfl
    · exact h 7 (some 34) (by omega) rfl
    · exact h 8 (some 35) (by omega) rfl
    · exact h 9 (some 36) (by omega) rfl
    · exact h37
    · exact h 11 (some 38) (by omega) rfl
    · exact h39
    · exact h40
    · exact h41
  rw [frame_is hF _ hv (by rfl) (by rfl)]
  exact hend H37 e39 H40 H41 w hB p37 p39 p40 p41
end
def stu2D : List (Option Tmp) := [some 13, some 14, some 15, some 16, some 17, some 18, some 19, some 20, some 21, some 22, some 23, some 24, some 25, some 26, some 27, some 28]
def stu2F (g _m _d fn fc _bn _bc : Nat) (_bA FA _BA : Option Addr) (hk c _x z : Nat) (u V T : Ac) : List Fact := [isV (.pointer (some ⟨g, 0, none⟩)), isV (.pointer (some ⟨g, 0, none⟩)), isV (.pointer (some ⟨g, 1, none⟩)), isV (.agg (accC u (some ⟨hk, 0, none⟩) u.h.length c)), isV (.pointer (some ⟨g, 0, none⟩)), isV (.agg (accC u (some ⟨hk, 0, none⟩) u.h.length c)), isV (.pointer (some ⟨g, 0, none⟩)), isV (.pointer (some ⟨g, 0, none⟩)), isV (.pointer (some ⟨g, 0, none⟩)), isV (.pointer (some ⟨g, 1, none⟩)), isV (.slice FA fn fc), accN V, row2A u V, accZ z T, partV z hk c u T]
theorem stu2F_mono (g m d fn fc bn bc : Nat) (bA FA BA : Option Addr) (hk c x z : Nat) (u V T : Ac) : ∀ φ ∈ stu2F g m d fn fc bn bc bA FA BA hk c x z u V T, Mono φ := by
  unfold stu2F
  refine monos_cons (mono_isV _) ?_
  refine monos_cons (mono_isV _) ?_
  refine monos_cons (mono_isV _) ?_
  refine monos_cons (mono_isV _) ?_
  refine monos_cons (mono_isV _) ?_
  refine monos_cons (mono_isV _) ?_
  refine monos_cons (mono_isV _) ?_
  refine monos_cons (mono_isV _) ?_
  refine monos_cons (mono_isV _) ?_
  refine monos_cons (mono_isV _) ?_
  refine monos_cons (mono_isV _) ?_
  refine monos_cons (accN_mono _) ?_
  refine monos_cons (row2A_mono _ _) ?_
  refine monos_cons (accZ_mono _ _) ?_
  refine monos_cons (partV_mono _ _ _ _ _) ?_
  exact monos_nil
structure stu2S (g m d fn fc bn bc : Nat) (bA FA BA : Option Addr) (hk c x z : Nat) (u V T : Ac) (a0 : Act) (w0 : World) : Prop where
  size : a0.tmps.size = 29
  v0 : a0.tmps.getD 0 undef = .pointer (some ⟨g, 0, none⟩)
  v2 : a0.tmps.getD 2 undef = .pointer (some ⟨x, 0, none⟩)
  st : Has w0 g 207 #[.slice bA m d, .slice FA fn fc, .slice BA bn bc]
  ez : z ≤ w0.heap.size
  bx : Has w0 x 144 (accC u (some ⟨hk, 0, none⟩) u.h.length c)
  bu : Ints w0 (some ⟨hk, 0, none⟩) u.h.length u.h
  kc : u.h.length ≤ c
  cm : c ≤ maxLen
  lV : V.h.length ≤ maxLen
  c1 : ∀ w, Below w0.heap.size w0 w → Calls Tryz.prog 190 #[.pointer (some ⟨g, 0, none⟩), .slice FA fn fc] w (OutT V w)
  cj : ∀ (w : World) (e : Nat), Below w0.heap.size w0 w → Accs w (some ⟨e, 0, none⟩) 2 [u, V] → Calls Tryz.prog 189 #[.pointer (some ⟨g, 0, none⟩), .slice (some ⟨e, 0, none⟩) 2 2] w (OutA T w)
section
variable {g m d fn fc bn bc : Nat} {bA FA BA : Option Addr} {hk c x z : Nat} {u V T : Ac} {a0 : Act} {w0 : World} (S : stu2S g m d fn fc bn bc bA FA BA hk c x z u V T a0 w0)
include S
set_option maxRecDepth 100000 in
set_option maxHeartbeats 8000000 in
theorem stu2_ok : AllOps (fun j o => ∀ (a : Act) (w : World), Below w0.heap.size w0 w → FrD (stu2D.take 15) a0 a → needs stu2D (stu2F g m d fn fc bn bc bA FA BA hk c x z u V T) a w o.after.toList → StepD Tryz.prog stu2D (factAt (stu2F g m d fn fc bn bc bA FA BA hk c x z u V T) j) o a w) 0 ((opsOf 2 Tryz.f193).take 15) := by
  simp only [opsOf, Tryz.f193, opsAt, Option.bind, Option.or, Option.getD, reduceCtorEq, if_true, if_false, Nat.reduceEqDiff, List.take_succ_cons, List.take_zero]
  refine ⟨?_, ?_⟩
  · intro _a _w _hB hF _hd
    exact step_move (guard_none rfl) rfl _ rfl ((hF.other 0 rfl).trans S.v0)
  refine ⟨?_, ?_⟩
  · intro a _w _hB _hF hd
    have h13 : a.tmps.getD 13 undef = .pointer (some ⟨g, 0, none⟩) := hd.1 rfl
    exact rf_nilck (guard_none rfl) rfl _ rfl _ h13 rfl
  refine ⟨?_, ?_⟩
  · intro a _w _hB _hF hd
    have h14 : a.tmps.getD 14 undef = .pointer (some ⟨g, 0, none⟩) := hd.1 rfl
    exact rf_faddr (guard_none rfl) rfl _ _ _ rfl _ _ 1 _ h14 (by omega) (fun _ _ => by kernel_rfl) rfl
  refine ⟨?_, ?_⟩
  · intro _a _w hB hF _hd
    exact rf_loadA (guard_none rfl) rfl _ rfl x ((hF.other 2 rfl).trans S.v2) (S.bx.below hB S.bx.lt) rfl
  refine ⟨?_, ?_⟩
  · intro _a _w _hB hF _hd
    exact step_move (guard_none rfl) rfl _ rfl ((hF.other 0 rfl).trans S.v0)
  refine ⟨?_, ?_⟩
  · intro _a _w hB hF _hd
    exact rf_loadA (guard_none rfl) rfl _ rfl x ((hF.other 2 rfl).trans S.v2) (S.bx.below hB S.bx.lt) rfl
  refine ⟨?_, ?_⟩
  · intro _a _w _hB hF _hd
    exact step_move (guard_none rfl) rfl _ rfl ((hF.other 0 rfl).trans S.v0)
  refine ⟨?_, ?_⟩
  · intro _a _w _hB hF _hd
    exact step_move (guard_none rfl) rfl _ rfl ((hF.other 0 rfl).trans S.v0)
  refine ⟨?_, ?_⟩
  · intro a _w _hB _hF hd
    have h20 : a.tmps.getD 20 undef = .pointer (some ⟨g, 0, none⟩) := hd.1 rfl
    exact rf_nilck (guard_none rfl) rfl _ rfl _ h20 rfl
  refine ⟨?_, ?_⟩
  · intro a _w _hB _hF hd
    have h21 : a.tmps.getD 21 undef = .pointer (some ⟨g, 0, none⟩) := hd.1 rfl
    exact rf_faddr (guard_none rfl) rfl _ _ _ rfl _ _ 1 _ h21 (by omega) (fun _ _ => by kernel_rfl) rfl
  refine ⟨?_, ?_⟩
  · intro a _w hB _hF hd
    have h22 : a.tmps.getD 22 undef = .pointer (some ⟨g, 1, none⟩) := hd.1 rfl
    exact rf_load1 (guard_none rfl) rfl _ _ rfl _ _ h22 (run_ldK ((Has.cell (S.st.below hB S.st.lt) 1).trans rfl)) rfl
  refine ⟨?_, ?_⟩
  · intro a w hB _hF hd
    have h19 : a.tmps.getD 19 undef = .pointer (some ⟨g, 0, none⟩) := hd.1 rfl
    have h23 : a.tmps.getD 23 undef = .slice FA fn fc := hd.2.1 rfl
    refine step_call (guard_none rfl) rfl _ _ (rf_call_run Tryz.func190 (by kernel_rfl) (by kernel_rfl) _ _ rfl) ?_
    simp only [List.map_toArray, List.map_cons, List.map_nil, Act.eval, h19, h23]
    exact (S.c1 w hB).mono (by rintro e w1 ⟨H, rfl, hh, hb⟩; exact ⟨_, rfl, hb, H, rfl, hh⟩)
  refine ⟨?_, ?_⟩
  · intro a w hB _hF hd
    have h18 : a.tmps.getD 18 undef = .agg (accC u (some ⟨hk, 0, none⟩) u.h.length c) := hd.1 rfl
    obtain ⟨H24, h24, p24⟩ : accN V (a.tmps.getD 24 undef) w := hd.2.1 rfl
    exact rf_twoB (guard_none rfl) rfl _ _ rfl u V _ _ c _ h18 h24 (S.bu.below hB) p24 S.kc S.cm S.lV (fun _ _ h => h)
  refine ⟨?_, ?_⟩
  · intro a w hB _hF hd
    have h17 : a.tmps.getD 17 undef = .pointer (some ⟨g, 0, none⟩) := hd.1 rfl
    obtain ⟨e25, h25, p25⟩ : row2A u V (a.tmps.getD 25 undef) w := hd.2.1 rfl
    refine step_call (guard_none rfl) rfl _ _ (rf_call_run Tryz.func189 (by kernel_rfl) (by kernel_rfl) _ _ rfl) ?_
    simp only [List.map_toArray, List.map_cons, List.map_nil, Act.eval, h17, h25]
    exact (S.cj w e25 hB p25).mono (by rintro e w1 ⟨H, hlo, rfl, hh, hb⟩; exact ⟨_, rfl, hb, H, rfl, hh, Nat.le_trans (Nat.le_trans S.ez hB.size) hlo⟩)
  refine ⟨?_, ?_⟩
  · intro a w _hB _hF hd
    have h16 : a.tmps.getD 16 undef = .agg (accC u (some ⟨hk, 0, none⟩) u.h.length c) := hd.1 rfl
    obtain ⟨H26, h26, p26⟩ : accZ z T (a.tmps.getD 26 undef) w := hd.2.1 rfl
    exact rf_part (guard_none rfl) rfl _ _ rfl hk c u T _ h16 h26 p26.1 p26.2 (fun _ _ h => h)
  trivial
theorem stu2_any {Q : Exit → Act → World → Prop} {l : List Oper} (hl : opsOf 2 Tryz.f193 = l) (hend : ∀ (H24 : Nat), ∀ (e25 : Nat), ∀ (H26 : Nat), ∀ (H27 : Nat), ∀ w : World, Below w0.heap.size w0 w → Has w H24 3 (ints V.h) → Accs w (some ⟨e25, 0, none⟩) 2 [u, V] → (Has w H26 3 (ints T.h) ∧ z ≤ H26) → (Has w H27 3 (ints T.h) ∧ z ≤ H27) → wpList Tryz.prog l.toArray Q (l.drop 15) (putAll a0 [(13, .pointer (some ⟨g, 0, none⟩)), (14, .pointer (some ⟨g, 0, none⟩)), (15, .pointer (some ⟨g, 1, none⟩)), (16, .agg (accC u (some ⟨hk, 0, none⟩) u.h.length c)), (17, .pointer (some ⟨g, 0, none⟩)), (18, .agg (accC u (some ⟨hk, 0, none⟩) u.h.length c)), (19, .pointer (some ⟨g, 0, none⟩)), (20, .pointer (some ⟨g, 0, none⟩)), (21, .pointer (some ⟨g, 0, none⟩)), (22, .pointer (some ⟨g, 1, none⟩)), (23, .slice FA fn fc), (24, .agg (accC V (some ⟨H24, 0, none⟩) V.h.length V.h.length)), (25, .slice (some ⟨e25, 0, none⟩) 2 2), (26, .agg (accC T (some ⟨H26, 0, none⟩) T.h.length T.h.length)), (27, .agg (partC ⟨u, hk, c, T, H27⟩))]) w) :
    (Code.region 2 l.toArray true).wp Tryz.prog Q a0 w0 := by
  subst hl
  refine region_head2 (stu2F g m d fn fc bn bc bA FA BA hk c x z u V T) stu2D 15 29 S.size rfl (by kernel_rfl) (by kernel_rfl) (by kernel_rfl) (stu2F_mono _ _ _ _ _ _ _ _ _ _ _ _ _ _ _ _ _) (stu2_ok S) fun a w hB hF h => ?_
  obtain ⟨H24, h24, p24⟩ : accN V (a.tmps.getD 24 undef) w := h 11 (some 24) (by omega) rfl
  obtain ⟨e25, h25, p25⟩ : row2A u V (a.tmps.getD 25 undef) w := h 12 (some 25) (by omega) rfl
  obtain ⟨H26, h26, p26⟩ : accZ z T (a.tmps.getD 26 undef) w := h 13 (some 26) (by omega) rfl
  obtain ⟨H27, h27, p27⟩ : partV z hk c u T (a.tmps.getD 27 undef) w := h 14 (some 27) (by omega) rfl
  have hv : valsAre a [(13, .pointer (some ⟨g, 0, none⟩)), (14, .pointer (some ⟨g, 0, none⟩)), (15, .pointer (some ⟨g, 1, none⟩)), (16, .agg (accC u (some ⟨hk, 0, none⟩) u.h.length c)), (17, .pointer (some ⟨g, 0, none⟩)), (18, .agg (accC u (some ⟨hk, 0, none⟩) u.h.length c)), (19, .pointer (some ⟨g, 0, none⟩)), (20, .pointer (some ⟨g, 0, none⟩)), (21, .pointer (some ⟨g, 0, none⟩)), (22, .pointer (some ⟨g, 1, none⟩)), (23, .slice FA fn fc), (24, .agg (accC V (some ⟨H24, 0, none⟩) V.h.length V.h.length)), (25, .slice (some ⟨e25, 0, none⟩) 2 2), (26, .agg (accC T (some ⟨H26, 0, none⟩) T.h.length T.h.length)), (27, .agg (partC ⟨u, hk, c, T, H27⟩))] := by
    refine ⟨?_, ?_, ?_, ?_, ?_, ?_, ?_, ?_, ?_, ?_, ?_, ?_, ?_, ?_, ?_, trivial⟩
    · exact h 0 (some 13) (by omega) rfl
    · exact h 1 (some 14) (by omega) rfl
    · exact h 2 (some 15) (by omega) rfl
    · exact h 3 (some 16) (by omega) rfl
    · exact h 4 (some 17) (by omega) rfl
    · exact h 5 (some 18) (by omega) rfl
    · exact h 6 (some 19) (by omega) rfl
    · exact h 7 (some 20) (by omega) rfl
    · exact h 8 (some 21) (by omega) rfl
    · exact h 9 (some 22) (by omega) rfl
    · exact h 10 (some 23) (by omega) rfl
    · exact h24
    · exact h25
    · exact h26
    · exact h27
  rw [frame_is hF _ hv (by rfl) (by rfl)]
  exact hend H24 e25 H26 H27 w hB p24 p25 p26 p27
end
end Go.Proofs.YtbpaepkcchpmbaaGreat
