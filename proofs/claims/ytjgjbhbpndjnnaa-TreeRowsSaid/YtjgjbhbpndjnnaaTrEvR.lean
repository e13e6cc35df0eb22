/-
  The drawn regions of TreeEvicts (written by gen/trlaws.py).
-/
import Derived.Test.YtjgjbhbpndjnnaaG25
import Derived.Test.YtjgjbhbpndjnnaaG49
import Derived.Test.YtjgjbhbpndjnnaaG4
import Derived.Test.YtjgjbhbpndjnnaaG50
namespace Go.Proofs.Ytjgjbhbpndjnnaa
open Go.RowKit

def te12D : List (Option Tmp) := [some 58, some 59, some 60, some 61, some 62, some 63, some 64, some 65, some 66, some 67, some 68, some 69, some 70, some 71, some 14, none]
def te12F (b oo n c jj z : Nat) (x t1 sh : Int) : List Fact := [isV (.slice (some ⟨b, oo, none⟩) n c), isV (.int .i64 ((jj : Int))), isV (.pointer (some ⟨b, oo + jj, none⟩)), isV (.int .i64 x), isV (.int .i64 t1), isV (.int .i64 ((jj : Int))), isV (.int .i64 ((jj : Int) + 1)), isV (.slice (some ⟨b, oo, none⟩) n c), isV (.int .i64 ((jj : Int))), isV (.pointer (some ⟨b, oo + jj, none⟩)), isV (.int .i64 x), isV (.int .i64 (x / 64)), isV (.int .i64 sh), isV (.agg #[.int .i64 1, .int .i64 t1, .int .i64 ((jj : Int) + 1), .int .i64 sh]), tNewI z]
theorem te12F_mono (b oo n c jj z : Nat) (x t1 sh : Int) : ∀ φ ∈ te12F b oo n c jj z x t1 sh, Mono φ := by
  unfold te12F
  refine monos_cons (mono_isV _) ?_
  refine monos_cons (mono_isV _) ?_
  refine monos_cons (mono_isV _) ?_
  refine monos_cons (mono_isV _) ?_
  refine monos_cons (mono_isV _) ?_
  refine monos_cons (mono_isV _) ?_
  refine monos_cons (mono_isV _) ?_
  refine monos_cons (mono_isV _) ?_
  refine monos_cons (mono_isV _) ?_
  refine monos_cons (mono_isV _) ?_
  refine monos_cons (mono_isV _) ?_
  refine monos_cons (mono_isV _) ?_
  refine monos_cons (mono_isV _) ?_
  refine monos_cons (mono_isV _) ?_
  refine monos_cons (tNewI_mono _) ?_
  exact monos_nil
structure te12S (b oo n c jj z : Nat) (x t1 sh : Int) (a0 : Act) (w0 : World) : Prop where
  size : a0.tmps.size = 133
  v0 : a0.tmps.getD 0 undef = .slice (some ⟨b, oo, none⟩) n c
  v13 : a0.tmps.getD 13 undef = .int .i64 ((jj : Int))
  ez : z ≤ w0.heap.size
  lj : jj < n
  lm : jj < 64
  cx : ∀ w, Below w0.heap.size w0 w → w.cell? ⟨b, oo + jj, none⟩ = some (.int .i64 x)
  e1 : bits .and .i64 x 63 = t1
  e2 : bits .and .i64 (x / 64) 63 = sh
section
variable {b oo n c jj z : Nat} {x t1 sh : Int} {a0 : Act} {w0 : World} (S : te12S b oo n c jj z x t1 sh a0 w0)
include S
set_option maxRecDepth 100000 in
set_option maxHeartbeats 8000000 in
theorem te12_ok : AllOps (fun j o => ∀ (a : Act) (w : World), Below w0.heap.size w0 w → FrD (te12D.take 15) a0 a → needs te12D (te12F b oo n c jj z x t1 sh) a w o.after.toList → StepD Try.prog te12D (factAt (te12F b oo n c jj z x t1 sh) j) o a w) 0 ((opsOf 12 Try.f7).take 15) := by
  simp only [opsOf, Try.f7, opsAt, Option.bind, Option.or, Option.getD, reduceCtorEq, if_true, if_false, Nat.reduceEqDiff, List.take_succ_cons, List.take_zero]
  refine ⟨?_, ?_⟩
  · intro _a _w _hB hF _hd
    exact step_move (guard_none rfl) rfl _ rfl ((hF.other 0 rfl).trans S.v0)
  refine ⟨?_, ?_⟩
  · intro _a _w _hB hF _hd
    exact step_move (guard_none rfl) rfl _ rfl ((hF.other 13 rfl).trans S.v13)
  refine ⟨?_, ?_⟩
  · intro a _w _hB _hF hd
    have h58 : a.tmps.getD 58 undef = .slice (some ⟨b, oo, none⟩) n c := hd.1 rfl
    have h59 : a.tmps.getD 59 undef = .int .i64 ((jj : Int)) := hd.2.1 rfl
    exact rf_indexN (guard_none rfl) rfl _ _ rfl b oo n c jj _ h58 h59 rfl S.lj rfl
  refine ⟨?_, ?_⟩
  · intro a w hB _hF hd
    have h60 : a.tmps.getD 60 undef = .pointer (some ⟨b, oo + jj, none⟩) := hd.1 rfl
    exact rf_loadi (guard_none rfl) rfl _ rfl _ _ h60 _ (S.cx w hB) rfl
  refine ⟨?_, ?_⟩
  · intro a _w _hB _hF hd
    have h61 : a.tmps.getD 61 undef = .int .i64 x := hd.1 rfl
    exact rf_and (guard_none rfl) rfl _ _ rfl x 63 t1 h61 rfl S.e1 rfl
  refine ⟨?_, ?_⟩
  · intro _a _w _hB hF _hd
    exact step_move (guard_none rfl) rfl _ rfl ((hF.other 13 rfl).trans S.v13)
  refine ⟨?_, ?_⟩
  · intro a _w _hB _hF hd
    have h63 : a.tmps.getD 63 undef = .int .i64 ((jj : Int)) := hd.1 rfl
    exact rf_addr (guard_none rfl) rfl _ _ rfl (jj : Int) 1 ((jj : Int) + 1) h63 rfl rfl (by omega) (by have := S.lm; omega) rfl
  refine ⟨?_, ?_⟩
  · intro _a _w _hB hF _hd
    exact step_move (guard_none rfl) rfl _ rfl ((hF.other 0 rfl).trans S.v0)
  refine ⟨?_, ?_⟩
  · intro _a _w _hB hF _hd
    exact step_move (guard_none rfl) rfl _ rfl ((hF.other 13 rfl).trans S.v13)
  refine ⟨?_, ?_⟩
  · intro a _w _hB _hF hd
    have h65 : a.tmps.getD 65 undef = .slice (some ⟨b, oo, none⟩) n c := hd.1 rfl
    have h66 : a.tmps.getD 66 undef = .int .i64 ((jj : Int)) := hd.2.1 rfl
    exact rf_indexN (guard_none rfl) rfl _ _ rfl b oo n c jj _ h65 h66 rfl S.lj rfl
  refine ⟨?_, ?_⟩
  · intro a w hB _hF hd
    have h67 : a.tmps.getD 67 undef = .pointer (some ⟨b, oo + jj, none⟩) := hd.1 rfl
    exact rf_loadi (guard_none rfl) rfl _ rfl _ _ h67 _ (S.cx w hB) rfl
  refine ⟨?_, ?_⟩
  · intro a _w _hB _hF hd
    have h68 : a.tmps.getD 68 undef = .int .i64 x := hd.1 rfl
    exact rf_shr6 (guard_none rfl) rfl _ _ rfl x h68 rfl rfl
  refine ⟨?_, ?_⟩
  · intro a _w _hB _hF hd
    have h69 : a.tmps.getD 69 undef = .int .i64 (x / 64) := hd.1 rfl
    exact rf_and (guard_none rfl) rfl _ _ rfl (x / 64) 63 sh h69 rfl S.e2 rfl
  refine ⟨?_, ?_⟩
  · intro a _w _hB _hF hd
    have h62 : a.tmps.getD 62 undef = .int .i64 t1 := hd.1 rfl
    have h64 : a.tmps.getD 64 undef = .int .i64 ((jj : Int) + 1) := hd.2.1 rfl
    have h70 : a.tmps.getD 70 undef = .int .i64 sh := hd.2.2.1 rfl
    refine step_call (guard_none rfl) rfl _ _ (rf_call_run Try.func37 (by kernel_rfl) (by kernel_rfl) _ _ rfl) ?_
    simp only [List.map_toArray, List.map_cons, List.map_nil, Act.eval, h62, h64, h70]
    exact (item19_any _ _ _ _ _).mono (by rintro e w1 ⟨rfl, hb⟩; exact ⟨_, rfl, hb, rfl⟩)
  refine ⟨?_, ?_⟩
  · intro _a _w hB _hF _hd
    exact rf_newI (guard_none rfl) rfl rfl (Nat.le_trans S.ez hB.size) (fun _ _ h => h)
  trivial
set_option maxRecDepth 100000 in
set_option maxHeartbeats 2000000 in
theorem te12_any {Q : Exit → Act → World → Prop} {l : List Oper} (hl : opsOf 12 Try.f7 = l) (hend : ∀ (y14 : Nat), ∀ w : World, Below w0.heap.size w0 w → (Has w y14 23 #[.int .i64 0, .int .i64 0, .int .i64 0, .int .i64 0] ∧ z ≤ y14) → wpList Try.prog l.toArray Q (l.drop 15) (putAll a0 [(58, .slice (some ⟨b, oo, none⟩) n c), (59, .int .i64 ((jj : Int))), (60, .pointer (some ⟨b, oo + jj, none⟩)), (61, .int .i64 x), (62, .int .i64 t1), (63, .int .i64 ((jj : Int))), (64, .int .i64 ((jj : Int) + 1)), (65, .slice (some ⟨b, oo, none⟩) n c), (66, .int .i64 ((jj : Int))), (67, .pointer (some ⟨b, oo + jj, none⟩)), (68, .int .i64 x), (69, .int .i64 (x / 64)), (70, .int .i64 sh), (71, .agg #[.int .i64 1, .int .i64 t1, .int .i64 ((jj : Int) + 1), .int .i64 sh]), (14, .pointer (some ⟨y14, 0, none⟩))]) w) :
    (Code.region 12 l.toArray true).wp Try.prog Q a0 w0 := by
  subst hl
  refine region_head2 (te12F b oo n c jj z x t1 sh) te12D 15 133 S.size rfl (by kernel_rfl) (by kernel_rfl) (by kernel_rfl) (te12F_mono _ _ _ _ _ _ _ _ _) (te12_ok S) fun a w hB hF h => ?_
  obtain ⟨y14, h14, p14⟩ : tNewI z (a.tmps.getD 14 undef) w := h 14 (some 14) (by omega) rfl
  have hv : valsAre a [(58, .slice (some ⟨b, oo, none⟩) n c), (59, .int .i64 ((jj : Int))), (60, .pointer (some ⟨b, oo + jj, none⟩)), (61, .int .i64 x), (62, .int .i64 t1), (63, .int .i64 ((jj : Int))), (64, .int .i64 ((jj : Int) + 1)), (65, .slice (some ⟨b, oo, none⟩) n c), (66, .int .i64 ((jj : Int))), (67, .pointer (some ⟨b, oo + jj, none⟩)), (68, .int .i64 x), (69, .int .i64 (x / 64)), (70, .int .i64 sh), (71, .agg #[.int .i64 1, .int .i64 t1, .int .i64 ((jj : Int) + 1), .int .i64 sh]), (14, .pointer (some ⟨y14, 0, none⟩))] := by
    refine ⟨?_, ?_, ?_, ?_, ?_, ?_, ?_, ?_, ?_, ?_, ?_, ?_, ?_, ?_, ?_, trivial⟩
    · exact h 0 (some 58) (by omega) rfl
    · exact h 1 (some 59) (by omega) rfl
    · exact h 2 (some 60) (by omega) rfl
    · exact h 3 (some 61) (by omega) rfl
    · exact h 4 (some 62) (by omega) rfl
    · exact h 5 (some 63) (by omega) rfl
    · exact h 6 (some 64) (by omega) rfl
    · exact h 7 (some 65) (by omega) rfl
    · exact h 8 (some 66) (by omega) rfl
    · exact h 9 (some 67) (by omega) rfl
    · exact h 10 (some 68) (by omega) rfl
    · exact h 11 (some 69) (by omega) rfl
    · exact h 12 (some 70) (by omega) rfl
    · exact h 13 (some 71) (by omega) rfl
    · exact h14
  rw [frame_is hF _ hv (by rfl) (by rfl)]
  exact hend y14 w hB p14
end

def te24D : List (Option Tmp) := [some 103, some 104, some 105, some 106, some 107, some 108, some 109, some 110, some 111, some 112, some 113, some 114, some 115, some 116, some 117, some 118, some 119, some 120, some 121, some 122, some 123, some 124, some 125, some 126, some 127, some 128, some 129, some 130, some 131, some 132, some 6]
def te24F (g gu _sp _ac H0 : Nat) (sa sb u k : Int) (R : List It) (V : Ac) : List Fact := [isV (.int .i64 k), isV (.int .i64 k), isV (.bool true), isV (.bool true), isV (.pointer (some ⟨g, 0, none⟩)), itsX R, isV (.pointer (some ⟨gu, 0, none⟩)), itsX R, isV (.bool true), isV (.bool true), isV (.bool true), isV (.pointer (some ⟨g, 0, none⟩)), isV (.agg #[.int .i64 sa, .int .i64 sb]), accH V, isV (.agg (accC V (some ⟨H0, 0, none⟩) V.h.length V.h.length)), isV (.bool true), isV (.bool true), isV (.bool true), isV (.pointer (some ⟨gu, 0, none⟩)), isV (.agg #[.int .i64 sa, .int .i64 sb]), accH V, isV (.agg (accC V (some ⟨H0, 0, none⟩) V.h.length V.h.length)), isV (.bool true), isV (.bool true), isV (.bool true), isV (.pointer (some ⟨g, 0, none⟩)), isV (.int .i64 u)]
theorem te24F_mono (g gu sp ac H0 : Nat) (sa sb u k : Int) (R : List It) (V : Ac) : ∀ φ ∈ te24F g gu sp ac H0 sa sb u k R V, Mono φ := by
  unfold te24F
  refine monos_cons (mono_isV _) ?_
  refine monos_cons (mono_isV _) ?_
  refine monos_cons (mono_isV _) ?_
  refine monos_cons (mono_isV _) ?_
  refine monos_cons (mono_isV _) ?_
  refine monos_cons (itsX_mono _) ?_
  refine monos_cons (mono_isV _) ?_
  refine monos_cons (itsX_mono _) ?_
  refine monos_cons (mono_isV _) ?_
  refine monos_cons (mono_isV _) ?_
  refine monos_cons (mono_isV _) ?_
  refine monos_cons (mono_isV _) ?_
  refine monos_cons (mono_isV _) ?_
  refine monos_cons (accH_mono _) ?_
  refine monos_cons (mono_isV _) ?_
  refine monos_cons (mono_isV _) ?_
  refine monos_cons (mono_isV _) ?_
  refine monos_cons (mono_isV _) ?_
  refine monos_cons (mono_isV _) ?_
  refine monos_cons (mono_isV _) ?_
  refine monos_cons (accH_mono _) ?_
  refine monos_cons (mono_isV _) ?_
  refine monos_cons (mono_isV _) ?_
  refine monos_cons (mono_isV _) ?_
  refine monos_cons (mono_isV _) ?_
  refine monos_cons (mono_isV _) ?_
  refine monos_cons (mono_isV _) ?_
  exact monos_nil
structure te24S (g gu sp ac H0 : Nat) (sa sb u k : Int) (R : List It) (V : Ac) (a0 : Act) (w0 : World) : Prop where
  size : a0.tmps.size = 133
  v7 : a0.tmps.getD 7 undef = .pointer (some ⟨g, 0, none⟩)
  v9 : a0.tmps.getD 9 undef = .pointer (some ⟨gu, 0, none⟩)
  v11 : a0.tmps.getD 11 undef = .int .i64 u
  v12 : a0.tmps.getD 12 undef = .int .i64 k
  v17 : a0.tmps.getD 17 undef = .pointer (some ⟨sp, 0, none⟩)
  v18 : a0.tmps.getD 18 undef = .pointer (some ⟨ac, 0, none⟩)
  v19 : a0.tmps.getD 19 undef = .int .i64 k
  bs : Has w0 sp 54 #[.int .i64 sa, .int .i64 sb]
  ba : Has w0 ac 29 (accC V (some ⟨H0, 0, none⟩) V.h.length V.h.length)
  bh : Has w0 H0 3 (ints V.h)
  lV : V.h.length ≤ maxLen
  lR : R.length ≤ 17592186044416
  i1 : ∀ w, Below w0.heap.size w0 w → Calls Try.prog 35 #[.pointer (some ⟨g, 0, none⟩)] w fun e w1 => ∃ A c, e = .returned (.slice A (R).length c) ∧ OwnIt w1 w.heap.size (.slice A (R).length c) R ∧ Below w.heap.size w w1
  i2 : ∀ w, Below w0.heap.size w0 w → Calls Try.prog 35 #[.pointer (some ⟨gu, 0, none⟩)] w fun e w1 => ∃ A c, e = .returned (.slice A (R).length c) ∧ OwnIt w1 w.heap.size (.slice A (R).length c) R ∧ Below w.heap.size w w1
  r1 : ∀ w, Below w0.heap.size w0 w → Calls Try.prog 31 #[.pointer (some ⟨g, 0, none⟩), .agg #[.int .i64 sa, .int .i64 sb]] w (AcO V w)
  r2 : ∀ w, Below w0.heap.size w0 w → Calls Try.prog 31 #[.pointer (some ⟨gu, 0, none⟩), .agg #[.int .i64 sa, .int .i64 sb]] w (AcO V w)
section
variable {g gu sp ac H0 : Nat} {sa sb u k : Int} {R : List It} {V : Ac} {a0 : Act} {w0 : World} (S : te24S g gu sp ac H0 sa sb u k R V a0 w0)
include S
set_option maxRecDepth 100000 in
set_option maxHeartbeats 8000000 in
theorem te24_ok : AllOps (fun j o => ∀ (a : Act) (w : World), Below w0.heap.size w0 w → FrD (te24D.take 27) a0 a → needs te24D (te24F g gu sp ac H0 sa sb u k R V) a w o.after.toList → StepD Try.prog te24D (factAt (te24F g gu sp ac H0 sa sb u k R V) j) o a w) 0 ((opsOf 24 Try.f7).take 27) := by
  simp only [opsOf, Try.f7, opsAt, Option.bind, Option.or, Option.getD, reduceCtorEq, if_true, if_false, Nat.reduceEqDiff, List.take_succ_cons, List.take_zero]
  refine ⟨?_, ?_⟩
  · intro _a _w _hB hF _hd
    exact step_move (guard_none rfl) rfl _ rfl ((hF.other 19 rfl).trans S.v19)
  refine ⟨?_, ?_⟩
  · intro _a _w _hB hF _hd
    exact step_move (guard_none rfl) rfl _ rfl ((hF.other 12 rfl).trans S.v12)
  refine ⟨?_, ?_⟩
  · intro a _w _hB _hF hd
    have h103 : a.tmps.getD 103 undef = .int .i64 k := hd.1 rfl
    have h104 : a.tmps.getD 104 undef = .int .i64 k := hd.2.1 rfl
    exact rf_eql (guard_none rfl) rfl _ _ rfl k k h103 h104 true (by simp) rfl
  refine ⟨?_, ?_⟩
  · intro a _w _hB _hF hd
    have h105 : a.tmps.getD 105 undef = .bool true := hd.1 rfl
    exact step_move (guard_none rfl) rfl _ rfl h105
  refine ⟨?_, ?_⟩
  · intro a _w _hB hF hd
    have h106 : a.tmps.getD 106 undef = .bool true := hd.1 rfl
    exact step_move (rf_open true rfl rfl h106) rfl _ rfl ((hF.other 7 rfl).trans S.v7)
  refine ⟨?_, ?_⟩
  · intro a w hB _hF hd
    have h106 : a.tmps.getD 106 undef = .bool true := hd.2.1 rfl
    have h107 : a.tmps.getD 107 undef = .pointer (some ⟨g, 0, none⟩) := hd.1 rfl
    refine step_call (rf_open true rfl rfl h106) rfl _ _ (rf_call_run Try.func35 (by kernel_rfl) (by kernel_rfl) _ _ rfl) ?_
    simp only [List.map_toArray, List.map_cons, List.map_nil, Act.eval, h107]
    exact (S.i1 w hB).mono (by rintro e w1 ⟨A, c, rfl, ho, hb⟩; exact ⟨_, rfl, hb, A, _, c, rfl, ho.items⟩)
  refine ⟨?_, ?_⟩
  · intro a _w _hB hF hd
    have h106 : a.tmps.getD 106 undef = .bool true := hd.1 rfl
    exact step_move (rf_open true rfl rfl h106) rfl _ rfl ((hF.other 9 rfl).trans S.v9)
  refine ⟨?_, ?_⟩
  · intro a w hB _hF hd
    have h106 : a.tmps.getD 106 undef = .bool true := hd.2.2.1 rfl
    have h109 : a.tmps.getD 109 undef = .pointer (some ⟨gu, 0, none⟩) := hd.1 rfl
    refine step_call (rf_open true rfl rfl h106) rfl _ _ (rf_call_run Try.func35 (by kernel_rfl) (by kernel_rfl) _ _ rfl) ?_
    simp only [List.map_toArray, List.map_cons, List.map_nil, Act.eval, h109]
    exact (S.i2 w hB).mono (by rintro e w1 ⟨A, c, rfl, ho, hb⟩; exact ⟨_, rfl, hb, A, _, c, rfl, ho.items⟩)
  refine ⟨?_, ?_⟩
  · intro a w _hB _hF hd
    have h106 : a.tmps.getD 106 undef = .bool true := hd.2.2.2.1 rfl
    obtain ⟨A108, n108, c108, h108, p108⟩ : itsX R (a.tmps.getD 108 undef) w := hd.1 rfl
    obtain ⟨A110, n110, c110, h110, p110⟩ : itsX R (a.tmps.getD 110 undef) w := hd.2.1 rfl
    refine step_call (rf_open true rfl rfl h106) rfl _ _ (rf_call_run Try.func36 (by kernel_rfl) (by kernel_rfl) _ _ rfl) ?_
    simp only [List.map_toArray, List.map_cons, List.map_nil, Act.eval, h108, h110]
    have l1 := p108.1; have l2 := p110.1; subst l1 l2
    exact (sameitems_any _ _ _ _ _ R _ p108 p110 S.lR).mono (by rintro e w1 ⟨rfl, hb⟩; exact ⟨_, rfl, hb, rfl⟩)
  refine ⟨?_, ?_⟩
  · intro a _w _hB _hF hd
    have h106 : a.tmps.getD 106 undef = .bool true := hd.1 rfl
    have h111 : a.tmps.getD 111 undef = .bool true := hd.2.1 rfl
    exact rf_pick (guard_none rfl) rfl _ _ _ rfl true h106 h111
  refine ⟨?_, ?_⟩
  · intro a _w _hB _hF hd
    have h112 : a.tmps.getD 112 undef = .bool true := hd.1 rfl
    exact step_move (guard_none rfl) rfl _ rfl h112
  refine ⟨?_, ?_⟩
  · intro a _w _hB hF hd
    have h113 : a.tmps.getD 113 undef = .bool true := hd.1 rfl
    exact step_move (rf_open true rfl rfl h113) rfl _ rfl ((hF.other 7 rfl).trans S.v7)
  refine ⟨?_, ?_⟩
  · intro a _w hB hF hd
    have h113 : a.tmps.getD 113 undef = .bool true := hd.1 rfl
    exact rf_loadS (rf_open true rfl rfl h113) rfl _ _ rfl _ _ ((hF.other 17 rfl).trans S.v17) _ (rf_range (S.bs.below hB S.bs.lt)) Try.underlying54 rfl (by kernel_rfl) rfl
  refine ⟨?_, ?_⟩
  · intro a w hB _hF hd
    have h113 : a.tmps.getD 113 undef = .bool true := hd.2.2.1 rfl
    have h114 : a.tmps.getD 114 undef = .pointer (some ⟨g, 0, none⟩) := hd.1 rfl
    have h115 : a.tmps.getD 115 undef = .agg #[.int .i64 sa, .int .i64 sb] := hd.2.1 rfl
    refine step_call (rf_open true rfl rfl h113) rfl _ _ (rf_call_run Try.func31 (by kernel_rfl) (by kernel_rfl) _ _ rfl) ?_
    simp only [List.map_toArray, List.map_cons, List.map_nil, Act.eval, h114, h115]
    exact (S.r1 w hB).mono (by rintro e w1 ⟨H, _, rfl, hh, hb⟩; exact ⟨_, rfl, hb, H, rfl, hh⟩)
  refine ⟨?_, ?_⟩
  · intro a _w hB hF hd
    have h113 : a.tmps.getD 113 undef = .bool true := hd.1 rfl
    exact rf_loadAc (rf_open true rfl rfl h113) rfl _ rfl ac ((hF.other 18 rfl).trans S.v18) (S.ba.below hB S.ba.lt) rfl
  refine ⟨?_, ?_⟩
  · intro a w hB _hF hd
    have h113 : a.tmps.getD 113 undef = .bool true := hd.2.2.2.1 rfl
    obtain ⟨H116, h116, p116⟩ : accH V (a.tmps.getD 116 undef) w := hd.1 rfl
    have h117 : a.tmps.getD 117 undef = .agg (accC V (some ⟨H0, 0, none⟩) V.h.length V.h.length) := hd.2.1 rfl
    refine step_call (rf_open true rfl rfl h113) rfl _ _ (rf_call_run Try.func15 (by kernel_rfl) (by kernel_rfl) _ _ rfl) ?_
    simp only [List.map_toArray, List.map_cons, List.map_nil, Act.eval, h116, h117]
    exact (sameAcc_true V _ _ _ _ _ _ (ints_of_has (p116) rfl) (ints_of_has (S.bh.below hB S.bh.lt) rfl) S.lV).mono (by rintro e w1 ⟨rfl, hb⟩; exact ⟨_, rfl, hb, rfl⟩)
  refine ⟨?_, ?_⟩
  · intro a _w _hB _hF hd
    have h113 : a.tmps.getD 113 undef = .bool true := hd.1 rfl
    have h118 : a.tmps.getD 118 undef = .bool true := hd.2.1 rfl
    exact rf_pick (guard_none rfl) rfl _ _ _ rfl true h113 h118
  refine ⟨?_, ?_⟩
  · intro a _w _hB _hF hd
    have h119 : a.tmps.getD 119 undef = .bool true := hd.1 rfl
    exact step_move (guard_none rfl) rfl _ rfl h119
  refine ⟨?_, ?_⟩
  · intro a _w _hB hF hd
    have h120 : a.tmps.getD 120 undef = .bool true := hd.1 rfl
    exact step_move (rf_open true rfl rfl h120) rfl _ rfl ((hF.other 9 rfl).trans S.v9)
  refine ⟨?_, ?_⟩
  · intro a _w hB hF hd
    have h120 : a.tmps.getD 120 undef = .bool true := hd.1 rfl
    exact rf_loadS (rf_open true rfl rfl h120) rfl _ _ rfl _ _ ((hF.other 17 rfl).trans S.v17) _ (rf_range (S.bs.below hB S.bs.lt)) Try.underlying54 rfl (by kernel_rfl) rfl
  refine ⟨?_, ?_⟩
  · intro a w hB _hF hd
    have h120 : a.tmps.getD 120 undef = .bool true := hd.2.2.1 rfl
    have h121 : a.tmps.getD 121 undef = .pointer (some ⟨gu, 0, none⟩) := hd.1 rfl
    have h122 : a.tmps.getD 122 undef = .agg #[.int .i64 sa, .int .i64 sb] := hd.2.1 rfl
    refine step_call (rf_open true rfl rfl h120) rfl _ _ (rf_call_run Try.func31 (by kernel_rfl) (by kernel_rfl) _ _ rfl) ?_
    simp only [List.map_toArray, List.map_cons, List.map_nil, Act.eval, h121, h122]
    exact (S.r2 w hB).mono (by rintro e w1 ⟨H, _, rfl, hh, hb⟩; exact ⟨_, rfl, hb, H, rfl, hh⟩)
  refine ⟨?_, ?_⟩
  · intro a _w hB hF hd
    have h120 : a.tmps.getD 120 undef = .bool true := hd.1 rfl
    exact rf_loadAc (rf_open true rfl rfl h120) rfl _ rfl ac ((hF.other 18 rfl).trans S.v18) (S.ba.below hB S.ba.lt) rfl
  refine ⟨?_, ?_⟩
  · intro a w hB _hF hd
    have h120 : a.tmps.getD 120 undef = .bool true := hd.2.2.2.1 rfl
    obtain ⟨H123, h123, p123⟩ : accH V (a.tmps.getD 123 undef) w := hd.1 rfl
    have h124 : a.tmps.getD 124 undef = .agg (accC V (some ⟨H0, 0, none⟩) V.h.length V.h.length) := hd.2.1 rfl
    refine step_call (rf_open true rfl rfl h120) rfl _ _ (rf_call_run Try.func15 (by kernel_rfl) (by kernel_rfl) _ _ rfl) ?_
    simp only [List.map_toArray, List.map_cons, List.map_nil, Act.eval, h123, h124]
    exact (sameAcc_true V _ _ _ _ _ _ (ints_of_has (p123) rfl) (ints_of_has (S.bh.below hB S.bh.lt) rfl) S.lV).mono (by rintro e w1 ⟨rfl, hb⟩; exact ⟨_, rfl, hb, rfl⟩)
  refine ⟨?_, ?_⟩
  · intro a _w _hB _hF hd
    have h120 : a.tmps.getD 120 undef = .bool true := hd.1 rfl
    have h125 : a.tmps.getD 125 undef = .bool true := hd.2.1 rfl
    exact rf_pick (guard_none rfl) rfl _ _ _ rfl true h120 h125
  refine ⟨?_, ?_⟩
  · intro a _w _hB _hF hd
    have h126 : a.tmps.getD 126 undef = .bool true := hd.1 rfl
    exact step_move (guard_none rfl) rfl _ rfl h126
  refine ⟨?_, ?_⟩
  · intro a _w _hB hF hd
    have h127 : a.tmps.getD 127 undef = .bool true := hd.1 rfl
    exact step_move (rf_open true rfl rfl h127) rfl _ rfl ((hF.other 7 rfl).trans S.v7)
  refine ⟨?_, ?_⟩
  · intro a _w _hB hF hd
    have h127 : a.tmps.getD 127 undef = .bool true := hd.1 rfl
    exact step_move (rf_open true rfl rfl h127) rfl _ rfl ((hF.other 11 rfl).trans S.v11)
  trivial
set_option maxRecDepth 100000 in
set_option maxHeartbeats 2000000 in
theorem te24_any {Q : Exit → Act → World → Prop} {l : List Oper} (hl : opsOf 24 Try.f7 = l) {W : Act → World → Prop} (hW : ∀ a w, W a w → wpList Try.prog l.toArray Q (l.drop 27) a w) (hend : ∀ (A108 : Option Addr) (n108 : Nat) (c108 : Nat), ∀ (A110 : Option Addr) (n110 : Nat) (c110 : Nat), ∀ (H116 : Nat), ∀ (H123 : Nat), ∀ w : World, Below w0.heap.size w0 w → Items w A108 n108 R → Items w A110 n110 R → Has w H116 3 (ints V.h) → Has w H123 3 (ints V.h) → W (putAll a0 [(103, .int .i64 k), (104, .int .i64 k), (105, .bool true), (106, .bool true), (107, .pointer (some ⟨g, 0, none⟩)), (108, .slice A108 n108 c108), (109, .pointer (some ⟨gu, 0, none⟩)), (110, .slice A110 n110 c110), (111, .bool true), (112, .bool true), (113, .bool true), (114, .pointer (some ⟨g, 0, none⟩)), (115, .agg #[.int .i64 sa, .int .i64 sb]), (116, .agg (accC V (some ⟨H116, 0, none⟩) V.h.length V.h.length)), (117, .agg (accC V (some ⟨H0, 0, none⟩) V.h.length V.h.length)), (118, .bool true), (119, .bool true), (120, .bool true), (121, .pointer (some ⟨gu, 0, none⟩)), (122, .agg #[.int .i64 sa, .int .i64 sb]), (123, .agg (accC V (some ⟨H123, 0, none⟩) V.h.length V.h.length)), (124, .agg (accC V (some ⟨H0, 0, none⟩) V.h.length V.h.length)), (125, .bool true), (126, .bool true), (127, .bool true), (128, .pointer (some ⟨g, 0, none⟩)), (129, .int .i64 u)]) w) :
    (Code.region 24 l.toArray true).wp Try.prog Q a0 w0 := by
  subst hl
  refine region_head2 (te24F g gu sp ac H0 sa sb u k R V) te24D 27 133 S.size rfl (by kernel_rfl) (by kernel_rfl) (by kernel_rfl) (te24F_mono _ _ _ _ _ _ _ _ _ _ _) (te24_ok S) fun a w hB hF h => ?_
  obtain ⟨A108, n108, c108, h108, p108⟩ : itsX R (a.tmps.getD 108 undef) w := h 5 (some 108) (by omega) rfl
  obtain ⟨A110, n110, c110, h110, p110⟩ : itsX R (a.tmps.getD 110 undef) w := h 7 (some 110) (by omega) rfl
  obtain ⟨H116, h116, p116⟩ : accH V (a.tmps.getD 116 undef) w := h 13 (some 116) (by omega) rfl
  obtain ⟨H123, h123, p123⟩ : accH V (a.tmps.getD 123 undef) w := h 20 (some 123) (by omega) rfl
  have hv : valsAre a [(103, .int .i64 k), (104, .int .i64 k), (105, .bool true), (106, .bool true), (107, .pointer (some ⟨g, 0, none⟩)), (108, .slice A108 n108 c108), (109, .pointer (some ⟨gu, 0, none⟩)), (110, .slice A110 n110 c110), (111, .bool true), (112, .bool true), (113, .bool true), (114, .pointer (some ⟨g, 0, none⟩)), (115, .agg #[.int .i64 sa, .int .i64 sb]), (116, .agg (accC V (some ⟨H116, 0, none⟩) V.h.length V.h.length)), (117, .agg (accC V (some ⟨H0, 0, none⟩) V.h.length V.h.length)), (118, .bool true), (119, .bool true), (120, .bool true), (121, .pointer (some ⟨gu, 0, none⟩)), (122, .agg #[.int .i64 sa, .int .i64 sb]), (123, .agg (accC V (some ⟨H123, 0, none⟩) V.h.length V.h.length)), (124, .agg (accC V (some ⟨H0, 0, none⟩) V.h.length V.h.length)), (125, .bool true), (126, .bool true), (127, .bool true), (128, .pointer (some ⟨g, 0, none⟩)), (129, .int .i64 u)] := by
    refine ⟨?_, ?_, ?_, ?_, ?_, ?_, ?_, ?_, ?_, ?_, ?_, ?_, ?_, ?_, ?_, ?_, ?_, ?_, ?_, ?_, ?_, ?_, ?_, ?_, ?_, ?_, ?_, trivial⟩
    · exact h 0 (some 103) (by omega) rfl
    · exact h 1 (some 104) (by omega) rfl
    · exact h 2 (some 105) (by omega) rfl
    · exact h 3 (some 106) (by omega) rfl
    · exact h 4 (some 107) (by omega) rfl
    · exact h108
    · exact h 6 (some 109) (by omega) rfl
    · exact h110
    · exact h 8 (some 111) (by omega) rfl
    · exact h 9 (some 112) (by omega) rfl
    · exact h 10 (some 113) (by omega) rfl
    · exact h 11 (some 114) (by omega) rfl
    · exact h 12 (some 115) (by omega) rfl
    · exact h116
    · exact h 14 (some 117) (by omega) rfl
    · exact h 15 (some 118) (by omega) rfl
    · exact h 16 (some 119) (by omega) rfl
    · exact h 17 (some 120) (by omega) rfl
    · exact h 18 (some 121) (by omega) rfl
    · exact h 19 (some 122) (by omega) rfl
    · exact h123
    · exact h 21 (some 124) (by omega) rfl
    · exact h 22 (some 125) (by omega) rfl
    · exact h 23 (some 126) (by omega) rfl
    · exact h 24 (some 127) (by omega) rfl
    · exact h 25 (some 128) (by omega) rfl
    · exact h 26 (some 129) (by omega) rfl
  refine hW _ _ ?_
  rw [frame_is hF _ hv (by rfl) (by rfl)]
  exact hend A108 n108 c108 A110 n110 c110 H116 H123 w hB p108 p110 p116 p123
end

end Go.Proofs.Ytjgjbhbpndjnnaa
