/-
  Walk: RecordForms: each part of a record that may not be (written by gen/rcfm.py).
-/
import Derived.Test.YtdbcmcdmipehgaaRcAwake
import Derived.Test.YtdbcmcdmipehgaaFMask
import Derived.Deep.DeepCutAuto
import Derived.Deep.CutBlock
import Derived.OpenShut
namespace Go.Proofs.Ytdbcmcdmipehgaa
open Go.RowKit

def recF : Rc := ⟨0, 7, 1048575, (-4398046511104), 4398046511104, 72057594037927940, false, (List.replicate 9 0), 0, 0, 0, 0⟩
def recZ : Rc := ⟨1, 0, 0, 0, 0, 0, false, [], 1048575, (-1099511627776), 1073741823, 0⟩
theorem may_fF : mayR recF = true := by decide
theorem may_fZ : mayR recZ = true := by decide
theorem may_f4 : mayR ⟨4, 0, 0, 0, 0, 0, false, [], 0, 0, 0, 0⟩ = true := by decide
theorem may_f5 : mayR ⟨5, 0, 0, 0, 0, 0, false, [], 0, 0, 0, 1073741823⟩ = true := by decide
section
variable {kd qu sr st en va se ti sq bd : Int} {ov : Bool} {hs : List Int}
theorem no_k (h : ¬ (0 ≤ kd ∧ kd ≤ 5)) : ¬ MayR ⟨kd, qu, sr, st, en, va, ov, hs, se, ti, sq, bd⟩ := fun hm => h hm.kinds
theorem no_0 (h : (0 ≤ qu ∧ qu ≤ 7) → (0 ≤ sr ∧ sr ≤ 1048575) → (-4398046511104 ≤ st ∧ st ≤ 4398046511104) → (-4398046511104 ≤ en ∧ en ≤ 4398046511104) → st < en → (ov = true → va = 0) → hs.length ≤ 9 → (∀ x ∈ hs, 0 ≤ x ∧ x ≤ 8192) → (-72057594037927940 ≤ va ∧ va ≤ 72057594037927940) → se = 0 → bd = 0 → False) :
    ¬ MayR ⟨0, qu, sr, st, en, va, ov, hs, se, ti, sq, bd⟩ := fun hm => by
  unfold MayR ResM OutM NoS at hm
  obtain ⟨_, ⟨h1, h2, h3, h4, h5, h6, h7, h8, h9⟩, h10, h11⟩ := hm.resolve_right (by simp only; omega)
  exact h h1 h2 h3 h4 h5 h6 h7 h8 h9 h10.1 h11
theorem no_1 (h : (-1099511627776 ≤ ti ∧ ti ≤ 1099511627776) → (1 ≤ sq ∧ sq ≤ 1073741823) → en = 0 → False) : ¬ MayR ⟨1, qu, sr, st, en, va, ov, hs, se, ti, sq, bd⟩ := fun hm => by
  unfold MayR SamM NoX at hm
  obtain ⟨_, h1, h2, _⟩ := (hm.resolve_left (by simp only; omega)).resolve_right (by simp only; omega)
  exact h h1.2.1 h1.2.2 h2.2.2.2.1
theorem no_4 (h : ti ≠ 0) : ¬ MayR ⟨4, qu, sr, st, en, va, ov, hs, se, ti, sq, bd⟩ := fun hm => by
  unfold MayR NoS at hm
  obtain ⟨_, _, h1, _⟩ := ((hm.resolve_left (by simp only; omega)).resolve_left (by simp only; omega)).resolve_right (by simp only; omega)
  exact h h1.2.1
theorem no_5 (h : (1 ≤ bd ∧ bd ≤ 1073741823) → sq = 0 → False) : ¬ MayR ⟨5, qu, sr, st, en, va, ov, hs, se, ti, sq, bd⟩ := fun hm => by
  unfold MayR NoS at hm
  obtain ⟨_, h1, _, h2⟩ := ((hm.resolve_left (by simp only; omega)).resolve_left (by simp only; omega)).resolve_left (by simp only; omega)
  exact h h1 h2.2.2
end

/-- What stands behind the switch: a record that may not be. -/
def RmS (w : World) (g : Nat) (wx : World) : Prop :=
  ∃ (r : Rc) (A : Option Addr) (n c : Nat), Has wx (g + 1) 30 (recC r A n c) ∧ Ints wx A n r.hs ∧ ¬ MayR r ∧ Below w.heap.size w wx
structure RmB (w : World) (g : Nat) (wx : World) : Prop where
  o : Has wx (g + 1) 30 (recC recF (some ⟨g, 0, none⟩) 9 9)
  m : Has wx (g + 2) 30 (recC recZ none 0 0)
  row : Has wx g 3 (ints (List.replicate 9 0))
  keep : Below w.heap.size w wx
  le : w.heap.size ≤ g
theorem rints_of_has {w : World} {g n : Nat} {xs : List Int} (h : Has w g 3 (ints xs)) (hn : xs.length = n) : Ints w (some ⟨g, 0, none⟩) n xs := by
  subst hn
  refine ⟨rfl, fun _ => ⟨g, 0, rfl, fun k hk => ?_⟩⟩
  rw [Nat.zero_add, h.cell, ints_get xs hk]
section
variable {w wx wy : World} {g : Nat} (S : RmB w g wx)
include S
theorem RmB.below (hb : Below wx.heap.size wx wy) : RmB w g wy := ⟨S.o.below hb S.o.lt, S.m.below hb S.m.lt, S.row.below hb S.row.lt, S.keep.trans (hb.mono S.keep.size), S.le⟩
theorem rm_put (r : Rc) (i : Nat) (v : Value) (e : (recC recF (some ⟨g, 0, none⟩) 9 9).setIfInBounds i v = recC r (some ⟨g, 0, none⟩) 9 9) (hh : r.hs = List.replicate 9 0) (hf : ¬ MayR r) : RmS w g (wx.setCell ⟨g + 1, i, none⟩ v) :=
  ⟨r, some ⟨g, 0, none⟩, 9, 9, e ▸ S.o.put i v, hh ▸ rints_of_has (S.row.putFar (p := ⟨g + 1, i, none⟩) (show g ≠ g + 1 by omega) v) rfl, hf, S.keep.setCell (by have := S.le; simp only; omega) v⟩
theorem rm_row (r : Rc) (hh : r.hs = []) (hf : ¬ MayR r) : RmS w g (wx.setRow (g + 1) (recC r none 0 0)) :=
  ⟨r, none, 0, 0, S.o.row _, hh ▸ Ints.nil, hf, below_row S.keep (by have := S.le; omega) _⟩
theorem rm_mark (r : Rc) (i : Nat) (v : Value) (e : (recC recZ none 0 0).setIfInBounds i v = recC r none 0 0) (hh : r.hs = []) (hf : ¬ MayR r) : RmS w g ((wx.setRow (g + 1) (recC recZ none 0 0)).setCell ⟨g + 1, i, none⟩ v) :=
  ⟨r, none, 0, 0, e ▸ (S.o.row _).put i v, hh ▸ Ints.nil, hf, (below_row S.keep (by have := S.le; omega) _).setCell (by have := S.le; simp only; omega) v⟩
theorem rm_cell (k : Nat) (x : Int) (hk : k < 9) (hf : x < 0 ∨ 8192 < x) : RmS w g (wx.setCell ⟨g, k, none⟩ (.int .i64 x)) := by
  have h := S.row.put k (.int .i64 x)
  rw [ints_set] at h
  exact ⟨⟨0, 7, 1048575, (-4398046511104), 4398046511104, 72057594037927940, false, (List.replicate 9 0).set k x, 0, 0, 0, 0⟩, some ⟨g, 0, none⟩, 9, 9, S.o.putFar (p := ⟨g, k, none⟩) (show g + 1 ≠ g by omega) _, rints_of_has h (by simp), no_0 (fun _ _ _ _ _ _ _ h8 _ _ _ => by
    have := h8 x (by
      have hl : k < ((List.replicate 9 (0 : Int)).set k x).length := by simpa using hk
      exact List.mem_iff_getElem.2 ⟨k, hl, by simp⟩)
    omega), S.keep.setCell S.le _⟩
theorem rm_new {cs : Array Value} (n : Nat) (hcs : cs = ints (List.replicate n 0)) (h9 : 9 < n) : RmS w g ((wx.alloc (.cells cs 3)).setCell ⟨g + 1, 7, none⟩ (.slice (some ⟨wx.heap.size, 0, none⟩) n n)) := by
  subst hcs
  have hl := S.o.lt
  exact ⟨⟨0, 7, 1048575, (-4398046511104), 4398046511104, 72057594037927940, false, List.replicate n 0, 0, 0, 0, 0⟩, some ⟨wx.heap.size, 0, none⟩, n, n, (S.o.alloc _).put 7 _, rints_of_has ((Has.made wx 3 (ints (List.replicate n 0))).putFar (p := ⟨g + 1, 7, none⟩) (show wx.heap.size ≠ g + 1 by omega) _) (by simp), no_0 (fun _ _ _ _ _ _ h7 _ _ _ _ => by simp at h7; omega), (S.keep.alloc S.keep.size _).setCell (by have := S.le; simp only; omega) _⟩
end
/-- 'make([]int, n)' in a walk. -/
theorem rmake_ints {ops : Array Oper} {rest : List Oper} {op : Oper} {p : Act} {w : World} {Q : Exit → Act → World → Prop} (hgd : op.guard = none) (l c : Operand) (ho : op.op = Op.makeSlice 24 l c)
    {L : Int} (n : Nat) (hl : p.eval l = .int .i64 L) (hc : p.eval c = .int .i64 L) (hL : L = (n : Int)) (hn : n ≤ 17592186044416)
    (h : wpList Try.prog ops Q rest (p.put op.dst (.slice (some ⟨w.heap.size, 0, none⟩) n n)) (w.alloc (.cells (ints (List.replicate n 0)) 3))) : wpList Try.prog ops Q (op :: rest) p w := by
  obtain ⟨i0, hi, hz, hs0, hy0⟩ := rinfo_parts
  refine wpList_plain hgd fun K hK => ?_
  subst hL
  have hr := run_make (P := Try.prog) w 24 3 i0 _ Try.underlying24 hi hz .i64 .i64 (n : Int) (n : Int) (by omega) (by omega) (by rw [hy0]; omega) (by omega)
  rw [hs0, Nat.mul_one, Int.toNat_natCast, show (Value.int IntKind.i64 0).cells = #[Value.int .i64 0] from rfl, madeCells_zeros, zeros_ints] at hr
  unfold Oper.wp
  simp [execOp, ho, hl, hc, hr, Result.andThen]
  exact hK _ _ h

theorem rm_made (w0 w : World) (hb : Below w0.heap.size w0 w) : RmB w0 w.heap.size (((w.alloc (.cells (ints (List.replicate 9 0)) 3)).alloc (.cells (recC recF (some ⟨w.heap.size, 0, none⟩) 9 9) 30)).alloc (.cells (recC recZ none 0 0) 30)) := by
  have hz := hb.size
  refine ⟨?_, ?_, ((Has.made w _ _).alloc _).alloc _, ((hb.alloc hb.size _).alloc (by simp; omega) _).alloc (by simp; omega) _, hb.size⟩
  · have h := (Has.made (w.alloc (.cells (ints (List.replicate 9 0)) 3)) 30 (recC recF (some ⟨w.heap.size, 0, none⟩) 9 9)).alloc (.cells (recC recZ none 0 0) 30)
    simpa using h
  · have h := Has.made ((w.alloc (.cells (ints (List.replicate 9 0)) 3)).alloc (.cells (recC recF (some ⟨w.heap.size, 0, none⟩) 9 9) 30)) 30 (recC recZ none 0 0)
    simpa using h

set_option maxRecDepth 100000 in
set_option maxHeartbeats 4000000 in
theorem rforms_any (a0 a1 : Int) (w : World) (w0 : (Lit.int .i64 a0).wf = true) (_ : (Lit.int .i64 a1).wf = true) :
    Calls Try.prog 5 #[.int .i64 a0, .int .i64 a1] w fun e w' => e = .returned (.bool true) ∧ Below w.heap.size w w' := by
  have b0 := bounds_i64 w0
  obtain ⟨d, hd5, hd3, hd4⟩ : ∃ d : Int, bits .and .i64 a1 1023 = d ∧ 0 ≤ d ∧ d ≤ 1023 := ⟨_, mask1023 a1, by omega, by omega⟩
  have HA := Lib.hid (fun w : World => awake_any w)
  have M0 := Lib.hid (fun (w : World) A hI => may_any recF A 9 9 true may_fF w hI)
  have M1 := Lib.hid (fun w : World => may_any recZ none 0 0 true may_fZ w Ints.nil)
  have M4 := Lib.hid (fun w : World => may_any _ none 0 0 true may_f4 w Ints.nil)
  have M5 := Lib.hid (fun w : World => may_any _ none 0 0 true may_f5 w Ints.nil)
  go_enter Try.func5, Try.ntmps5
  go_wp2_with fail
  refine (HA.out _).mono ?_
  rintro e w2 ⟨rfl, hb2⟩
  go_wp2_with (refine rmake_ints rfl _ _ rfl 9 rfl rfl rfl (by omega) ?_)
  have S0 := rm_made w w2 hb2
  have i0 := rints_of_has S0.row rfl
  refine (M0.out _ _ i0).mono ?_
  rintro e w3 ⟨rfl, hb3⟩
  have S1 := S0.below hb3
  clear hb3 S0 i0 hb2 HA M0
  generalize w2.heap.size = g at S1 ⊢
  go_wp2_with (refine load_rec rfl _ rfl _ rfl S1.m ?_)
  refine (M1.out _).mono ?_
  rintro e w4 ⟨rfl, hb4⟩
  have S2 := S1.below hb4
  clear hb4 S1 M1
  go_wp2_with fail
  refine (M4.out _).mono ?_
  rintro e w5 ⟨rfl, hb5⟩
  have S3 := S2.below hb5
  clear hb5 S2 M4
  go_wp2_with fail
  refine (M5.out _).mono ?_
  rintro e w6 ⟨rfl, hb6⟩
  have S := S3.below hb6
  clear hb6 S3 M5
  go_upto_block 0 with fail
  obtain ⟨k, hk, ek⟩ : ∃ k : Nat, k < 22 ∧ (IntKind.u64.wrap a0).tmod 22 = k := by
    have h : 0 ≤ IntKind.u64.wrap a0 := by simp [IntKind.wrap, IntKind.bits, IntKind.signed]; omega
    have e : (IntKind.u64.wrap a0).tmod 22 = IntKind.u64.wrap a0 % 22 := Int.tmod_eq_emod_of_nonneg h
    exact ⟨(IntKind.u64.wrap a0 % 22).toNat, by omega, by omega⟩
  rw [ek]
  clear ek
  go_cut [] (fun wx => Hid (RmS w g wx))
  case first =>
    have cQ : ∀ i, w6.cell? ⟨g + 1, i, none⟩ = (#[.int .i64 0, .int .i64 7, .int .i64 1048575, .int .i64 (-4398046511104), .int .i64 4398046511104, .int .i64 72057594037927940, .bool false, .slice (some ⟨g, 0, none⟩) 9 9, .int .i64 0, .int .i64 0, .int .i64 0, .int .i64 0] : Array Value)[i]? := fun i => S.o.cell i
    have mQ : ∀ i, w6.frozen? ⟨g + 1, i, none⟩ = false := fun i => S.o.mark i
    have cQa : ∀ o i, (w6.alloc o).cell? ⟨g + 1, i, none⟩ = (#[.int .i64 0, .int .i64 7, .int .i64 1048575, .int .i64 (-4398046511104), .int .i64 4398046511104, .int .i64 72057594037927940, .bool false, .slice (some ⟨g, 0, none⟩) 9 9, .int .i64 0, .int .i64 0, .int .i64 0, .int .i64 0] : Array Value)[i]? := fun o i => (S.o.alloc o).cell i
    have mQa : ∀ o i, (w6.alloc o).frozen? ⟨g + 1, i, none⟩ = false := fun o i => (S.o.alloc o).mark i
    have cH : ∀ i, w6.cell? ⟨g, i, none⟩ = (#[.int .i64 0, .int .i64 0, .int .i64 0, .int .i64 0, .int .i64 0, .int .i64 0, .int .i64 0, .int .i64 0, .int .i64 0] : Array Value)[i]? := fun i => S.row.cell i
    have mH : ∀ i, w6.frozen? ⟨g, i, none⟩ = false := fun i => S.row.mark i
    have cR : ∀ i, (w6.setRow (g + 1) (recC recZ none 0 0)).cell? ⟨g + 1, i, none⟩ = (#[.int .i64 1, .int .i64 0, .int .i64 0, .int .i64 0, .int .i64 0, .int .i64 0, .bool false, .slice none 0 0, .int .i64 1048575, .int .i64 (-1099511627776), .int .i64 1073741823, .int .i64 0] : Array Value)[i]? := fun i => (S.o.row _).cell i
    have mR : ∀ i, (w6.setRow (g + 1) (recC recZ none 0 0)).frozen? ⟨g + 1, i, none⟩ = false := fun i => (S.o.row (recC recZ none 0 0)).mark i
    have hk22 : k = 0 ∨ k = 1 ∨ k = 2 ∨ k = 3 ∨ k = 4 ∨ k = 5 ∨ k = 6 ∨ k = 7 ∨ k = 8 ∨ k = 9 ∨ k = 10 ∨ k = 11 ∨ k = 12 ∨ k = 13 ∨ k = 14 ∨ k = 15 ∨ k = 16 ∨ k = 17 ∨ k = 18 ∨ k = 19 ∨ k = 20 ∨ k = 21 := by omega
    clear hk
    have HS := Lib.hid S; clear S
    rcases hk22 with rfl | rfl | rfl | rfl | rfl | rfl | rfl | rfl | rfl | rfl | rfl | rfl | rfl | rfl | rfl | rfl | rfl | rfl | rfl | rfl | rfl | rfl
    · go_wp2_with fail
      go_meet
      case rel => exact rm_put HS.out ⟨(5 + (1 + d)), 7, 1048575, (-4398046511104), 4398046511104, 72057594037927940, false, (List.replicate 9 0), 0, 0, 0, 0⟩ 0 _ rfl rfl (no_k (by omega))
    · go_wp2_with fail
      go_meet
      case rel => exact rm_put HS.out ⟨(-(1 + d)), 7, 1048575, (-4398046511104), 4398046511104, 72057594037927940, false, (List.replicate 9 0), 0, 0, 0, 0⟩ 0 _ rfl rfl (no_k (by omega))
    · go_wp2_with fail
      go_meet
      case rel => exact rm_put HS.out ⟨0, (7 + (1 + d)), 1048575, (-4398046511104), 4398046511104, 72057594037927940, false, (List.replicate 9 0), 0, 0, 0, 0⟩ 1 _ rfl rfl (no_0 (fun h _ _ _ _ _ _ _ _ _ _ => by omega))
    · go_wp2_with fail
      go_meet
      case rel => exact rm_put HS.out ⟨0, 7, (-(1 + d)), (-4398046511104), 4398046511104, 72057594037927940, false, (List.replicate 9 0), 0, 0, 0, 0⟩ 2 _ rfl rfl (no_0 (fun _ h _ _ _ _ _ _ _ _ _ => by omega))
    · go_wp2_with fail
      go_meet
      case rel => exact rm_put HS.out ⟨0, 7, 1048575, (-4398046511104), (-4398046511104), 72057594037927940, false, (List.replicate 9 0), 0, 0, 0, 0⟩ 4 _ rfl rfl (no_0 (fun _ _ _ _ h _ _ _ _ _ _ => by omega))
    · go_wp2_with fail
      go_meet
      case rel => exact rm_put HS.out ⟨0, 7, 1048575, (-4398046511104 - (1 + d)), 4398046511104, 72057594037927940, false, (List.replicate 9 0), 0, 0, 0, 0⟩ 3 _ rfl rfl (no_0 (fun _ _ h _ _ _ _ _ _ _ _ => by omega))
    · go_wp2_with fail
      go_meet
      case rel => exact rm_put HS.out ⟨0, 7, 1048575, (-4398046511104), (4398046511104 + (1 + d)), 72057594037927940, false, (List.replicate 9 0), 0, 0, 0, 0⟩ 4 _ rfl rfl (no_0 (fun _ _ _ h _ _ _ _ _ _ _ => by omega))
    · go_wp2_with fail
      go_meet
      case rel => exact rm_put HS.out ⟨0, 7, 1048575, (-4398046511104), 4398046511104, (72057594037927940 + (1 + d)), false, (List.replicate 9 0), 0, 0, 0, 0⟩ 5 _ rfl rfl (no_0 (fun _ _ _ _ _ _ _ _ h _ _ => by omega))
    · go_wp2_with fail
      go_meet
      case rel => exact rm_put HS.out ⟨0, 7, 1048575, (-4398046511104), 4398046511104, 72057594037927940, true, (List.replicate 9 0), 0, 0, 0, 0⟩ 6 _ rfl rfl (no_0 (fun _ _ _ _ _ h _ _ _ _ _ => by have := h rfl; omega))
    · go_wp2_with (refine rmake_ints rfl _ _ rfl (9 + (1 + d)).toNat rfl rfl (by omega) (by omega) ?_)
      go_meet
      case rel => exact rm_new HS.out _ rfl (by omega)
    · go_wp2_with fail
      go_meet
      case rel => exact rm_cell HS.out 0 (8192 + (1 + d)) (by omega) (by omega)
    · go_wp2_with fail
      go_meet
      case rel => exact rm_cell HS.out 1 (-(1 + d)) (by omega) (by omega)
    · go_wp2_with fail
      go_meet
      case rel => exact rm_put HS.out ⟨0, 7, 1048575, (-4398046511104), 4398046511104, 72057594037927940, false, (List.replicate 9 0), (1 + d), 0, 0, 0⟩ 8 _ rfl rfl (no_0 (fun _ _ _ _ _ _ _ _ _ h _ => by omega))
    · go_wp2_with fail
      go_meet
      case rel => exact rm_put HS.out ⟨0, 7, 1048575, (-4398046511104), 4398046511104, 72057594037927940, false, (List.replicate 9 0), 0, 0, 0, (1 + d)⟩ 11 _ rfl rfl (no_0 (fun _ _ _ _ _ _ _ _ _ _ h => by omega))
    · go_wp2_with (first
        | (refine load_rec rfl _ rfl _ rfl HS.out.m ?_)
        | (refine store_rec (r := recZ) (A := none) (n := 0) (c := 0) rfl _ _ rfl _ rfl rfl HS.out.o rfl ?_))
      go_meet
      case rel => exact rm_mark HS.out ⟨1, 0, 0, 0, 0, 0, false, [], 1048575, (-1099511627776), (1 - (1 + d)), 0⟩ 10 _ rfl rfl (no_1 (fun _ h _ => by omega))
    · go_wp2_with (first
        | (refine load_rec rfl _ rfl _ rfl HS.out.m ?_)
        | (refine store_rec (r := recZ) (A := none) (n := 0) (c := 0) rfl _ _ rfl _ rfl rfl HS.out.o rfl ?_))
      go_meet
      case rel => exact rm_mark HS.out ⟨1, 0, 0, 0, 0, 0, false, [], 1048575, (1099511627776 + (1 + d)), 1073741823, 0⟩ 9 _ rfl rfl (no_1 (fun h _ _ => by omega))
    · go_wp2_with (first
        | (refine load_rec rfl _ rfl _ rfl HS.out.m ?_)
        | (refine store_rec (r := recZ) (A := none) (n := 0) (c := 0) rfl _ _ rfl _ rfl rfl HS.out.o rfl ?_))
      go_meet
      case rel => exact rm_mark HS.out ⟨1, 0, 0, 0, (1 + d), 0, false, [], 1048575, (-1099511627776), 1073741823, 0⟩ 4 _ rfl rfl (no_1 (fun _ _ h => by omega))
    · go_wp2_with (refine store_rec (r := ⟨5, 0, 0, 0, 0, 0, false, [], 0, 0, 1 + d, 1⟩) (A := none) (n := 0) (c := 0) rfl _ _ rfl _ rfl rfl HS.out.o rfl ?_)
      go_meet
      case rel => exact rm_row HS.out ⟨5, 0, 0, 0, 0, 0, false, [], 0, 0, 1 + d, 1⟩ rfl (no_5 (fun _ h => by omega))
    · go_wp2_with (refine store_rec (r := ⟨4, 0, 0, 0, 0, 0, false, [], 0, 1 + d, 0, 0⟩) (A := none) (n := 0) (c := 0) rfl _ _ rfl _ rfl rfl HS.out.o rfl ?_)
      go_meet
      case rel => exact rm_row HS.out ⟨4, 0, 0, 0, 0, 0, false, [], 0, 1 + d, 0, 0⟩ rfl (no_4 (by omega))
    · go_wp2_with (refine store_rec (r := ⟨5, 0, 0, 0, 0, 0, false, [], 0, 0, 0, 1 - (1 + d)⟩) (A := none) (n := 0) (c := 0) rfl _ _ rfl _ rfl rfl HS.out.o rfl ?_)
      go_meet
      case rel => exact rm_row HS.out ⟨5, 0, 0, 0, 0, 0, false, [], 0, 0, 0, 1 - (1 + d)⟩ rfl (no_5 (fun h _ => by omega))
    · go_wp2_with (refine store_rec (r := ⟨5, 0, 0, 0, 0, 0, false, [], 0, 0, 0, 1073741823 + (1 + d)⟩) (A := none) (n := 0) (c := 0) rfl _ _ rfl _ rfl rfl HS.out.o rfl ?_)
      go_meet
      case rel => exact rm_row HS.out ⟨5, 0, 0, 0, 0, 0, false, [], 0, 0, 0, 1073741823 + (1 + d)⟩ rfl (no_5 (fun h _ => by omega))
    · go_wp2_with (refine store_rec (r := ⟨5, 0, 0, 0, 0, 0, false, [], 0, 0, 1 + d, 1⟩) (A := none) (n := 0) (c := 0) rfl _ _ rfl _ rfl rfl HS.out.o rfl ?_)
      go_meet
      case rel => exact rm_row HS.out ⟨5, 0, 0, 0, 0, 0, false, [], 0, 0, 1 + d, 1⟩ rfl (no_5 (fun _ h => by omega))
  case rest =>
    clear S
    obtain ⟨r, A, n, c, hO, hI, hno, hB0⟩ := hcut.out
    clear hcut
    have HO := Lib.hid hO; clear hO
    have HI := Lib.hid hI; clear hI
    have HB := Lib.hid hB0; clear hB0
    have hput : putR r = (⟨#[]⟩, 1000) := by rw [putR, if_neg (by simp [mayR_no hno])]
    have HP := Lib.hid (fun (w : World) hI => put_rec r A n c _ _ hput w hI)
    have HM := Lib.hid (fun (w : World) hI => may_any r A n c false (mayR_no hno) w hI)
    clear hno hput
    go_wp2_with (refine load_rec rfl _ rfl _ rfl HO.out ?_)
    refine (HP.out _ HI.out).mono ?_
    rintro e w7 ⟨rfl, hb7⟩
    have HO7 := Lib.hid (HO.out.below hb7 HO.out.lt)
    have HI7 := Lib.hid (HI.out.below hb7)
    have HB7 := Lib.hid (HB.out.trans (hb7.mono HB.out.size))
    clear hb7 HO HI HB HP
    go_wp2_with (refine load_rec rfl _ rfl _ rfl HO7.out ?_)
    refine (HM.out _ HI7.out).mono ?_
    rintro e w8 ⟨rfl, hb8⟩
    have HB8 := Lib.hid (HB7.out.trans (hb8.mono HB7.out.size))
    clear hb8 HO7 HI7 HB7 HM
    go_wp2_with (go_at_call 10; refine (num_any _ _).mono ?_; rintro e w' ⟨rfl, rfl⟩)
    go_ret
    exact ⟨rfl, HB8.out⟩

end Go.Proofs.Ytdbcmcdmipehgaa
