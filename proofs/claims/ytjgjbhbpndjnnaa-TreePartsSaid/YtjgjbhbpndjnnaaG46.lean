/-
  Walks: what the laws lean on: item, Num, SameInts and SameAcc of like ones.
  Walks: the laws' helpers CopyAcc and SpoilInts.
  Walks: the laws' helpers CopyInts, LendInts, KeptInts; the reference's copyAcc.
-/
import Derived.Test.YtjgjbhbpndjnnaaG7
import Derived.Test.YtjgjbhbpndjnnaaG9
import Derived.Test.YtjgjbhbpndjnnaaG35
import Derived.Great.Walk
import Derived.Laws.AppendOwnNone
import Derived.Laws.Slices
namespace Go.Proofs.Ytjgjbhbpndjnnaa
open Go.RowKit

set_option maxRecDepth 100000 in
set_option maxHeartbeats 400000 in
theorem mkItem_any (s t q v : Int) (w : World) :
    Calls Try.prog 56 #[.int .i64 s, .int .i64 t, .int .i64 q, .int .i64 v] w fun e w' => e = .returned (.agg #[.int .i64 s, .int .i64 t, .int .i64 q, .int .i64 v]) ∧ Below w.heap.size w w' := by
  go_enter Try.func56, Try.ntmps56
  go_wp2
  exact bodyPost_ret (v := .agg #[.int .i64 s, .int .i64 t, .int .i64 q, .int .i64 v]) (by simp [results, Try.results56, go_sem]) rfl ⟨rfl, (Below.refl _ _).alloc (Nat.le_refl _) _⟩

set_option maxRecDepth 100000 in
set_option maxHeartbeats 400000 in
theorem num_any (n : Int) (w : World) :
    Calls Try.prog 16 #[.int .i64 n] w fun e w' => e = .returned (.int .i64 n) ∧ w = w' := by
  go_enter Try.func16, Try.ntmps16
  go_wp2
  go_ret
  exact ⟨rfl, rfl⟩

set_option maxRecDepth 100000 in
set_option maxHeartbeats 1000000 in
theorem sameInts_true (A B : Option Addr) (n c d : Nat) (xs : List Int) (w : World) (ha : Ints w A n xs) (hb : Ints w B n xs) (hn : n ≤ maxLen) :
    Calls Try.prog 51 #[.slice A n c, .slice B n d] w fun e w' => e = .returned (.bool true) ∧ ∃ k, w' = w.drewN k := by
  unfold maxLen at hn
  go_enter Try.func51, Try.ntmps51
  go_wp2
  go_loopw [5] (fun i wr => ∃ j : Nat, j ≤ n ∧ i = .int .i64 j ∧ ∃ m, wr = w.drewN m) (fun i _ => n - (intOf i).toNat)
  case atStart => exact ⟨0, Nat.zero_le _, rfl, 0, rfl⟩
  case round =>
    obtain ⟨j, hj, rfl, m, rfl⟩ := hrel
    by_cases hlt : j < n
    · obtain ⟨b1, o1, rfl, hc1⟩ := ha.at_ (k := 0) (by omega)
      obtain ⟨b2, o2, rfl, hc2⟩ := hb.at_ (k := 0) (by omega)
      have hx := hc1 j hlt
      have hy := hc2 j hlt
      clear hc1 hc2
      have hlt2 : (j : Int) < (n : Int) := by omega
      go_wp2
      go_quiet (fail)
      go_wp2
      go_roundw
      case rel => exact ⟨j + 1, by omega, by go_num, m + nq, by first | rfl | rw [World.drewN_drewN]⟩
      case measure => simp [intOf]; omega
    · go_wp2
      go_ret
      exact ⟨rfl, m, rfl⟩

set_option maxRecDepth 100000 in
set_option maxHeartbeats 1000000 in
theorem sameAcc_true (a : Ac) (A B : Option Addr) (n c d : Nat) (w : World) (ha : Ints w A n a.h) (hb : Ints w B n a.h) (hn : n ≤ maxLen) :
    Calls Try.prog 15 #[accV a A n c, accV a B n d] w fun e w' => e = .returned (.bool true) ∧ Below w.heap.size w w' := by
  have hbox : ∀ o o', Below w.heap.size w ((w.alloc o).alloc o') := fun o o' => below_alloc ((Below.refl _ _).alloc (Nat.le_refl _) o) (Nat.le_refl _) o'
  have HBOX := Lib.hid hbox; clear hbox
  go_enter Try.func15, Try.ntmps15
  go_wp2_with fail
  refine (sameInts_true A B n c d a.h _ (ha.below (HBOX.out _ _)) (hb.below (HBOX.out _ _)) hn).mono ?_
  rintro e w2 ⟨rfl, k, rfl⟩
  go_wp2
  go_ret
  exact ⟨rfl, below_drewN (HBOX.out _ _) _⟩

end Go.Proofs.Ytjgjbhbpndjnnaa

namespace Go.Proofs.Ytjgjbhbpndjnnaa
open Go.RowKit

theorem OwnI.put {w : World} {base g : Nat} {v : Value} {xs : List Int} (h : OwnI w base v xs) (hg : g < base) (i : Nat) (u : Value) : OwnI (w.setCell ⟨g, i, none⟩ u) base v xs :=
  World.ownsRow.kept h (row := some g) ⟨rfl, rfl, rfl, by simp, fun k hk hne => heap_setCell_other w _ k _ (fun e => hne (by rw [e]))⟩ (by
    cases e : v.ownBlock with
    | none => exact .inl rfl
    | some k =>
      refine .inr (fun e2 => ?_)
      obtain ⟨A, c, rfl, _, _, h3⟩ := h.form
      cases A with
      | none => simp [Value.ownBlock] at e
      | some ad =>
        simp [Value.ownBlock] at e
        have := h3 ad rfl
        injection e2 with e2
        omega)

/-- A slice of integers that may be written. -/
structure SpS (w : World) (base g n : Nat) (wr : World) : Prop where
  cells : ∃ t cs, Has wr g t cs ∧ ∀ i, i < n → ∃ z, cs[i]? = some (.int .i64 z)
  keep : Below base w wr
  far : base ≤ g

set_option maxRecDepth 100000 in
set_option maxHeartbeats 1000000 in
theorem spoil_any (A : Option Addr) (n c : Nat) (xs : List Int) (base : Nat) (w : World) (ho : OwnI w base (.slice A n c) xs) (hn : n ≤ maxLen) :
    Calls Try.prog 19 #[.slice A n c] w fun e w' => e = .returned (.tuple #[]) ∧ Below base w w' := by
  unfold maxLen at hn
  go_enter Try.func19, Try.ntmps19
  by_cases h0 : n = 0
  · subst h0
    go_wp2
    refine wp_loop_rounds 1 ?_; rw [rounds_succ]
    go_wp2
    exact Great.bodyPost_end0 rfl rfl ⟨rfl, Below.refl _ _⟩
  · have hS : ∃ g, A = some ⟨g, 0, none⟩ ∧ SpS w base g n w := by
      have hints := ho.ints
      obtain ⟨b, o, e, hc⟩ := hints.at_ (k := 0) (by omega)
      rcases ho.2 with ⟨e1, h1⟩ | ⟨g, cap, cur, e1, hg, hh, hn1, hc1, hs1, _⟩
      · injection e1 with e2 e3 e4
        omega
      · injection e1 with e2 e3 e4
        subst e2
        refine ⟨g, rfl, ⟨3, cur, hh, fun i hi => ⟨nth xs i, ?_⟩⟩, Below.refl _ _, hg⟩
        injection e with e
        injection e with e5 e6
        subst e5 e6
        have := hc i hi
        rw [Nat.zero_add] at this
        rw [← Has.cell (g := g) (w := w) hh i]; exact this
    obtain ⟨g, rfl, hS⟩ := hS
    clear ho
    have HS := Lib.hid hS; clear hS
    go_wp2_with fail
    go_loopw [2] (fun i wr => ∃ j : Nat, j ≤ n ∧ i = .int .i64 j ∧ Hid (SpS w base g n wr)) (fun i _ => n - (intOf i).toNat)
    case atStart => exact ⟨0, Nat.zero_le _, rfl, HS⟩
    case round =>
      clear HS
      obtain ⟨j, hj, rfl, HS⟩ := hrel
      by_cases hlt : j < n
      · obtain ⟨t, cs, hh, hz⟩ := HS.out.cells
        obtain ⟨z, hz1⟩ := hz j hlt
        have hcell : wr.cell? ⟨g, j, none⟩ = some (.int .i64 z) := (hh.cell j).trans hz1
        have hmark := hh.mark j
        have hjn : (j : Int) < (n : Int) := by omega
        have HZ := Lib.hid hz; clear hz
        have HH := Lib.hid hh; clear hh
        have HZ1 := Lib.hid hz1; clear hz1
        go_wp2_with fail
        go_roundw
        case rel =>
          refine ⟨j + 1, by omega, by go_num, ⟨t, _, HH.out.put j _, fun i hi => ?_⟩, HS.out.keep.setCell HS.out.far _, HS.out.far⟩
          by_cases e : j = i
          · subst e
            have hl : j < cs.size := (Array.getElem?_eq_some_iff.1 HZ1.out).1
            exact ⟨_, by rw [Array.getElem?_setIfInBounds_self_of_lt hl]⟩
          · obtain ⟨z2, hz2⟩ := HZ.out i hi
            exact ⟨z2, by rw [Array.getElem?_setIfInBounds_ne e]; exact hz2⟩
        case measure => simp [intOf]; omega
      · have hjn : j = n := by omega
        subst hjn
        go_wp2
        exact Great.bodyPost_end0 rfl rfl ⟨rfl, HS.out.keep⟩

/-- The load of a whole aggregate, the operation asked first. -/
theorem load_acG {ops : Array Oper} {rest : List Oper} {op : Oper} {p : Act} {w : World} {Q : Exit → Act → World → Prop} (x : Operand) (ho : op.op = .load 29 x) (hgd : op.guard = none)
    (g : Nat) (hx : p.eval x = .pointer (some ⟨g, 0, none⟩)) {ac : Ac} {A : Option Addr} {k c : Nat} (hc : Has w g 29 (accC ac A k c))
    (h : wpList Try.prog ops Q rest (p.put op.dst (.agg (accC ac A k c))) w) : wpList Try.prog ops Q (op :: rest) p w := load_has hgd x ho g hx hc h
/-- The aggregate that came in, and the one that is handed out, each in a variable. -/
structure CpS (w : World) (a : Ac) (A : Option Addr) (k c : Nat) (wr : World) : Prop where
  box : Has wr w.heap.size 29 (accC a A k c)
  res : Has wr (w.heap.size + 1) 29 (accC zeroAc none 0 0)
  keep : Below w.heap.size w wr
theorem CpS.below {w : World} {a : Ac} {A : Option Addr} {k c : Nat} {wr wy : World} (h : CpS w a A k c wr) (hb : Below wr.heap.size wr wy) : CpS w a A k c wy :=
  ⟨h.box.below hb h.box.lt, h.res.below hb h.res.lt, h.keep.trans (hb.mono h.keep.size)⟩

set_option maxRecDepth 100000 in
set_option maxHeartbeats 1000000 in
theorem copyacc_any (a : Ac) (A : Option Addr) (k c : Nat) (w : World) (ha : Ints w A k a.h) (hk : k * 8 ≤ 140737488351232) (hnil : A = none → c = 0) :
    Calls Try.prog 39 #[.agg (accC a A k c)] w (FoldAcc a w) := by
  have HAH := Lib.hid ha
  have hB2 : Below w.heap.size w ((w.alloc (.cells (accC a A k c) 29)).alloc (.cells (accC zeroAc none 0 0) 29)) := below_alloc ((Below.refl _ _).alloc (Nat.le_refl _) _) (Nat.le_refl _) _
  go_enter Try.func39, Try.ntmps39
  go_upto_region 1 with fail
  generalize hw0 : (w.alloc (.cells (accC a A k c) 29)).alloc (.cells #[.int .i64 0, .int .i64 0, .int .i64 0, .int .i64 0, .int .i64 0, .int .i64 0, .int .i64 0, .int .i64 0, .int .i64 0, .int .i64 0, .int .i64 0, .int .i64 0, .slice none 0 0] 29) = w1
  have HS : Hid (CpS w a A k c w1) := by
    rw [← hw0]
    exact ⟨heap_alloc2_old _ _ _, heap_alloc2_new _ _ _, hB2⟩
  clear hB2 hw0
  have hc : ∀ ob, (w1.alloc ob).cell? ⟨w.heap.size, 12, none⟩ = some (.slice A k c) := fun ob => (HS.out.box.alloc ob).cell 12
  have hm : ∀ wn : World, Below w1.heap.size (w1.alloc (.cells #[] 3)) wn → wn.frozen? ⟨w.heap.size, 12, none⟩ = false := fun wn hb => ((HS.out.box.alloc _).below hb HS.out.box.lt).mark 12
  have hsz := HS.out.res.lt
  go_wp2_with (first
    | (refine app_intsA rfl _ _ rfl rfl (own_empty w1) rfl ((HAH.out.below HS.out.keep).below ((Below.refl _ _).alloc (Nat.le_refl _) _)) hnil hk (by simp) ?_; intro A2 c2 wn hwn hbn; have hmn := hm wn hbn; clear hc hm; have HS2 := Lib.hid (HS.out.below (((Below.refl _ _).alloc (Nat.le_refl _) _).trans hbn)); have HWN := Lib.hid hwn; have hcn : wn.cell? ⟨w.heap.size, 12, none⟩ = some (.slice A k c) := HS2.out.box.cell 12; clear hwn hbn)
    | (refine load_acG _ rfl rfl _ rfl (show Has (wn.setCell ⟨w.heap.size, 12, none⟩ (.slice A2 k c2)) w.heap.size 29 (accC a A2 k c2) from HS2.out.box.put 12 _) ?_)
    | (refine wpList_store_row rfl 29 _ _ rfl (w.heap.size + 1) (accC a A2 k c2) rfl rfl 29 _ (HS2.out.res.putFar (show w.heap.size + 1 ≠ (⟨w.heap.size, 12, none⟩ : Addr).block by simp) _) Try.sizeAcc rfl (accC_one _ _ _ _) ?_))
  have hres := (HS2.out.res.putFar (show w.heap.size + 1 ≠ (⟨w.heap.size, 12, none⟩ : Addr).block by simp) (.slice A2 k c2)).row (accC a A2 k c2)
  obtain ⟨_, _, e3, h3, h4, _⟩ := HWN.out.form
  injection e3 with e4 e5 e6
  subst e4 e6
  have hfin := (HWN.out.put (show w.heap.size < w1.heap.size by omega) 12 (.slice A2 k c2)).row (HS2.out.res.putFar (show w.heap.size + 1 ≠ (⟨w.heap.size, 12, none⟩ : Addr).block by simp) (.slice A2 k c2)) (by decide) (accC a A2 k c2)
  refine bodyPost_ret (ret_row1 rfl _ _ _ 29 (accC a A2 k c2) _ rfl hres Try.underlying29 rfl (by exact Try.sizeAcc)) rfl ?_
  exact ⟨A2, k, c2, rfl, ⟨hfin.ints, by rw [e5]; exact h3, h4, fun ad e => Nat.le_trans (by omega) (hfin.new ad e), hfin.typ⟩, below_row (HS2.out.keep.setCell (Nat.le_refl _) _) (by omega) _⟩

end Go.Proofs.Ytjgjbhbpndjnnaa

namespace Go.Proofs.Ytjgjbhbpndjnnaa
open Go.RowKit

set_option maxRecDepth 100000 in
set_option maxHeartbeats 1000000 in
theorem rcopyacc_any (a : Ac) (A : Option Addr) (k c : Nat) (w : World) (ha : Ints w A k a.h) (hk : k * 8 ≤ 140737488351232) (hnil : A = none → c = 0) :
    Calls Try.prog 49 #[.agg (accC a A k c)] w (FoldAcc a w) := by
  have HAH := Lib.hid ha
  have hB2 : Below w.heap.size w ((w.alloc (.cells (accC a A k c) 29)).alloc (.cells (accC zeroAc none 0 0) 29)) := below_alloc ((Below.refl _ _).alloc (Nat.le_refl _) _) (Nat.le_refl _) _
  go_enter Try.func49, Try.ntmps49
  go_upto_region 1 with fail
  generalize hw0 : (w.alloc (.cells (accC a A k c) 29)).alloc (.cells #[.int .i64 0, .int .i64 0, .int .i64 0, .int .i64 0, .int .i64 0, .int .i64 0, .int .i64 0, .int .i64 0, .int .i64 0, .int .i64 0, .int .i64 0, .int .i64 0, .slice none 0 0] 29) = w1
  have HS : Hid (CpS w a A k c w1) := by
    rw [← hw0]
    exact ⟨heap_alloc2_old _ _ _, heap_alloc2_new _ _ _, hB2⟩
  clear hB2 hw0
  have hc : ∀ ob, (w1.alloc ob).cell? ⟨w.heap.size, 12, none⟩ = some (.slice A k c) := fun ob => (HS.out.box.alloc ob).cell 12
  have hm : ∀ wn : World, Below w1.heap.size (w1.alloc (.cells #[] 3)) wn → wn.frozen? ⟨w.heap.size, 12, none⟩ = false := fun wn hb => ((HS.out.box.alloc _).below hb HS.out.box.lt).mark 12
  have hsz := HS.out.res.lt
  go_wp2_with (first
    | (refine app_intsA rfl _ _ rfl rfl (own_empty w1) rfl ((HAH.out.below HS.out.keep).below ((Below.refl _ _).alloc (Nat.le_refl _) _)) hnil hk (by simp) ?_; intro A2 c2 wn hwn hbn; have hmn := hm wn hbn; clear hc hm; have HS2 := Lib.hid (HS.out.below (((Below.refl _ _).alloc (Nat.le_refl _) _).trans hbn)); have HWN := Lib.hid hwn; have hcn : wn.cell? ⟨w.heap.size, 12, none⟩ = some (.slice A k c) := HS2.out.box.cell 12; clear hwn hbn)
    | (refine load_acG _ rfl rfl _ rfl (show Has (wn.setCell ⟨w.heap.size, 12, none⟩ (.slice A2 k c2)) w.heap.size 29 (accC a A2 k c2) from HS2.out.box.put 12 _) ?_)
    | (refine wpList_store_row rfl 29 _ _ rfl (w.heap.size + 1) (accC a A2 k c2) rfl rfl 29 _ (HS2.out.res.putFar (show w.heap.size + 1 ≠ (⟨w.heap.size, 12, none⟩ : Addr).block by simp) _) Try.sizeAcc rfl (accC_one _ _ _ _) ?_))
  have hres := (HS2.out.res.putFar (show w.heap.size + 1 ≠ (⟨w.heap.size, 12, none⟩ : Addr).block by simp) (.slice A2 k c2)).row (accC a A2 k c2)
  obtain ⟨_, _, e3, h3, h4, _⟩ := HWN.out.form
  injection e3 with e4 e5 e6
  subst e4 e6
  have hfin := (HWN.out.put (show w.heap.size < w1.heap.size by omega) 12 (.slice A2 k c2)).row (HS2.out.res.putFar (show w.heap.size + 1 ≠ (⟨w.heap.size, 12, none⟩ : Addr).block by simp) (.slice A2 k c2)) (by decide) (accC a A2 k c2)
  refine bodyPost_ret (ret_row1 rfl _ _ _ 29 (accC a A2 k c2) _ rfl hres Try.underlying29 rfl (by exact Try.sizeAcc)) rfl ?_
  exact ⟨A2, k, c2, rfl, ⟨hfin.ints, by rw [e5]; exact h3, h4, fun ad e => Nat.le_trans (by omega) (hfin.new ad e), hfin.typ⟩, below_row (HS2.out.keep.setCell (Nat.le_refl _) _) (by omega) _⟩

set_option maxRecDepth 100000 in
set_option maxHeartbeats 1000000 in
theorem copyints_any (A : Option Addr) (n c : Nat) (xs : List Int) (w : World) (hr : Ints w A n xs) (hn : n * 8 ≤ 140737488351232) (hnil : A = none → c = 0) :
    Calls Try.prog 38 #[.slice A n c] w fun e w' => ∃ A' c', e = .returned (.slice A' n c') ∧ OwnI w' w.heap.size (.slice A' n c') xs ∧ Below w.heap.size w w' := by
  go_enter Try.func38, Try.ntmps38
  go_wp2_with (refine app_intsA rfl _ _ rfl rfl (own_empty w) rfl (hr.below ((Below.refl _ _).alloc (Nat.le_refl _) _)) hnil hn (by simp) ?_; intro A2 c2 wn hwn hbn)
  go_ret
  exact ⟨A2, c2, rfl, hwn, ((Below.refl _ _).alloc (Nat.le_refl _) _).trans hbn⟩

theorem OwnI.caps {w : World} {base : Nat} {A : Option Addr} {n c : Nat} {xs : List Int} (h : OwnI w base (.slice A n c) xs) : xs.length = n ∧ n ≤ c ∧ c ≤ maxLen := by
  obtain ⟨_, c9, e3, h3, h4, _⟩ := h.form
  injection e3 with e4 e5 e6
  omega
theorem size_intsE (w : World) : (sizeOf (Try.prog.elem 25)).run Try.prog w = .ok 1 w := by kernel_rfl
theorem elem_ints : Try.prog.underlying 25 = some (.slice (Try.prog.elem 25)) := by kernel_rfl
/-- 'xs[:u]' of integers. -/
theorem cut_toI {ops : Array Oper} {rest : List Oper} {op : Oper} {p : Act} {w : World} {Q : Exit → Act → World → Prop} (hgd : op.guard = none) (x y : Operand) (ho : op.op = .slice 25 x none (some y) none)
    {D : Option Addr} {n e u : Nat} {z : Int} (hx : p.eval x = .slice D n e) (hy : p.eval y = .int .i64 z) (hz : z = (u : Int)) (hu : u ≤ e)
    (h : wpList Try.prog ops Q rest (p.put op.dst (.slice D u e)) w) : wpList Try.prog ops Q (op :: rest) p w :=
  wpList_plain hgd fun _ hK => by
    subst hz
    have hd : D.map (·.add (0 * 1)) = D := by
      cases D with
      | none => rfl
      | some a => cases a; simp [Addr.add]
    have hs : (Instr.sliceAt 25 (.slice D n e) none (some (.int .i64 (u : Int))) none).run Try.prog w = .ok (.slice D u e) w := by
      rw [run_sliceAt_slice w _ _ _ _ _ elem_ints, run_slice_h w _ D n e elem_ints .i64 (u : Int) (by omega) (by omega), size_intsE]
      simp only [Result.andThen_ok, sliced, hd, ite_self, Int.toNat_natCast, Nat.sub_zero]
    unfold Oper.wp execOp
    simp only [ho, Option.map_some, Option.map_none, hx, hy, Sem.run_bind, hs, Result.andThen_ok]
    exact hK _ _ h
/-- 's = append(s, y, z)' in a walk: both laid into a new row first. -/
theorem app_two {ops : Array Oper} {rest : List Oper} {op : Oper} {p : Act} {w : World} {Q : Exit → Act → World → Prop} (hgd : op.guard = none) (s x : Operand)
    (ho : op.op = .call { callee := .builtin .append, args := #[s, x], argTypes := #[25, 25] })
    {base g : Nat} {v : Value} {xs : List Int} {y z : Int} (hs : p.eval s = v) (hown : OwnI w base v xs) (hx : p.eval x = .slice (some ⟨g, 0, none⟩) 2 2) (hg : Has w g 3 #[.int .i64 y, .int .i64 z])
    (hn : xs.length * 8 ≤ 140737488351232) (hbase : base ≤ w.heap.size)
    (h : ∀ A c w', OwnI w' base (.slice A (xs.length + 2) c) (xs ++ [y, z]) → Below base w w' → wpList Try.prog ops Q rest (p.put op.dst (.slice A (xs.length + 2) c)) w') : wpList Try.prog ops Q (op :: rest) p w := by
  obtain ⟨i0, hi, hz, hs0, hy0⟩ := info_parts Try.infoInt
  refine wpList_append_own w hgd s x 25 ho base 3 i0 _ 1 8 Try.underlying25 hi hz hs0 hy0 rfl (by omega) v xs.length (intL xs) hs hown ⟨g, 0, none⟩ 2 2 [.int .i64 y, .int .i64 z] hx rfl
    (fun j u hu => ?_) (fun u hu => ?_) (by unfold maxLen; omega) (by omega) hbase (fun v' w' h1 h2 _ => ?_)
  · rw [Addr.add_mid, hg.cell, Nat.zero_add]
    simpa using hu
  · simp only [List.mem_cons, List.not_mem_nil, or_false] at hu
    rcases hu with rfl | rfl <;> rfl
  · have h3 : OwnI w' base v' (xs ++ [y, z]) := by unfold OwnI; simpa [intL] using h1
    obtain ⟨A, c', rfl, _⟩ := h3.form
    have e : (xs ++ [y, z]).length = xs.length + 2 := by simp
    rw [e] at h3 ⊢
    refine h A c' w' h3 ⟨h2.os, h2.tape, h2.output, h2.size, fun k hk => h2.block k (by omega) (fun e => ?_)⟩
    have := World.ownsRow.lt hown k e.symm
    omega

set_option maxRecDepth 100000 in
set_option maxHeartbeats 1000000 in
/-- What is lent: the numbers, marked room behind them. -/
theorem lendints_any (A : Option Addr) (n c : Nat) (xs : List Int) (w : World) (hr : Ints w A n xs) (hn : n * 8 ≤ 140737488351232) (hnil : A = none → c = 0) :
    Calls Try.prog 9 #[.slice A n c] w fun e w' => ∃ A' c', e = .returned (.slice A' n c') ∧ OwnI w' w.heap.size (.slice A' (n + 2) c') (xs ++ [-7777, -8888]) ∧ Below w.heap.size w w' := by
  have HL := Lib.hid hr.1
  go_enter Try.func9, Try.ntmps9
  go_wp2_with fail
  refine (copyints_any A n c xs _ hr hn hnil).mono ?_
  rintro e w2 ⟨A2, c2, rfl, hown, hb⟩
  have HB := Lib.hid hb; clear hb
  have HO := Lib.hid hown; clear hown
  have hown2 : ∀ o, OwnI (w2.alloc o) w.heap.size (.slice A2 n c2) xs := fun o => HO.out.below ((Below.refl _ _).alloc (Nat.le_refl _) _)
  go_wp2_with (first
    | (refine app_two rfl _ _ rfl rfl (hown2 _) (g := w2.heap.size) (y := -7777) (z := -8888) rfl (Has.made _ _ _) (by rw [HL.out]; exact hn) (by have := HB.out.size; simp; omega) ?_; intro A3 c3 wn hwn hbn; have HW := Lib.hid hwn; have hc3 : n ≤ c3 := (by have := hwn.caps; have := HL.out; omega); clear hwn; have HBN := Lib.hid hbn; clear hbn)
    | (refine cut_toI rfl _ _ rfl rfl rfl rfl hc3 ?_))
  go_ret
  refine ⟨A3, c3, rfl, ?_, (below_alloc HB.out (Nat.le_refl _) _).trans HBN.out⟩
  have := HW.out
  rwa [HL.out] at this

set_option maxRecDepth 100000 in
set_option maxHeartbeats 1000000 in
theorem keptints_any (A B : Option Addr) (n c d : Nat) (xs : List Int) (base : Nat) (w : World) (hl : OwnI w base (.slice A (n + 2) c) (xs ++ [-7777, -8888])) (hx : xs.length = n) (hb : Ints w B n xs) (hn : n * 8 ≤ 140737488351232) :
    Calls Try.prog 21 #[.slice A n c, .slice B n d] w fun e w' => e = .returned (.bool true) ∧ ∃ k, w' = w.drewN k := by
  have hI := hl.ints
  obtain ⟨b, o, rfl, hc⟩ := hI.at_ (k := 0) (by omega)
  have h1 := hc n (by omega)
  have h2 := hc (n + 1) (by omega)
  have e1 : nth (xs ++ [-7777, -8888]) n = -7777 := by simp [nth, ← hx]
  have e2 : nth (xs ++ [-7777, -8888]) (n + 1) = -8888 := by simp [nth, ← hx]
  rw [e1] at h1
  rw [e2] at h2
  have hA : Ints w (some ⟨b, o, none⟩) n xs := ⟨hx, fun _ => ⟨b, o, rfl, fun k hk => by
    have := hc k (by omega)
    rw [show nth (xs ++ [-7777, -8888]) k = nth xs k by simp [nth, List.getElem?_append_left (show k < xs.length by omega)]] at this
    exact this⟩⟩
  have hcap : n + 2 ≤ c := hl.caps.2.1
  have HA := Lib.hid hA; clear hA
  have HB := Lib.hid hb; clear hb
  clear hl hI hc e1 e2 hx
  go_enter Try.func21, Try.ntmps21
  go_wp2_with (refine cut_toI rfl _ _ rfl rfl rfl (show (n : Int) + 2 = ((n + 2 : Nat) : Int) by omega) hcap ?_)
  refine (sameInts_true _ B n c d xs _ HA.out HB.out (by unfold maxLen; omega)).mono ?_
  rintro e w2 ⟨rfl, k, rfl⟩
  go_wp2_with fail
  go_ret
  exact ⟨rfl, k, rfl⟩

end Go.Proofs.Ytjgjbhbpndjnnaa
