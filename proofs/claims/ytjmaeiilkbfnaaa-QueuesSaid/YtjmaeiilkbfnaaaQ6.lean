/-
  Walks: the laws' helpers CopyAcc and SpoilInts.
  Walks: the laws' helpers CopyInts, LendInts, KeptInts; the reference's copyAcc.
  A row of aggregates that the call itself appends to.
  Rows of aggregates that the call owns, each with buckets of its own, room behind them or not; the laws' helper CopyAccs.
-/
import Derived.Test.YtjmaeiilkbfnaaaAppI
import Derived.Test.YtjmaeiilkbfnaaaRow
import Derived.Great.Walk
import Derived.Laws.AppendOwnNone
import Derived.Laws.Slices
import Derived.Test.YtjmaeiilkbfnaaaSame
import Derived.Test.YtjmaeiilkbfnaaaLaw0
import Derived.OwnWalk
namespace Go.Proofs.Ytjmaeiilkbfnaaa
open Go.RowKit

set_option maxRecDepth 100000 in
/-- 's = append(s, ys...)' in a walk, s empty, ys nil or not, as many as memory bears. -/
theorem app_intsA {ops : Array Oper} {rest : List Oper} {op : Oper} {p : Act} {w : World} {Q : Exit → Act → World → Prop} (hgd : op.guard = none) (s x : Operand)
    (ho : op.op = .call { callee := .builtin .append, args := #[s, x], argTypes := #[25, 25] })
    {base n c : Nat} {A : Option Addr} {v : Value} {ys : List Int} (hs : p.eval s = v) (hown : OwnI w base v []) (hx : p.eval x = .slice A n c) (hy : Ints w A n ys) (hnil : A = none → c = 0)
    (hn : n * 8 ≤ 140737488351232) (hbase : base ≤ w.heap.size)
    (h : ∀ A' c' w', OwnI w' base (.slice A' n c') ys → Below base w w' → wpList Try.prog ops Q rest (p.put op.dst (.slice A' n c')) w') : wpList Try.prog ops Q (op :: rest) p w := by
  obtain ⟨i0, hi, hz, hs0, hy0⟩ := info_parts Try.infoInt
  have hl := hy.1
  cases A with
  | none =>
    have hn0 : n = 0 := by
      rcases Nat.eq_zero_or_pos n with h0 | h0
      · exact h0
      · obtain ⟨b, o, e, _⟩ := hy.at_ h0
        cases e
    subst hn0
    have hc := hnil rfl
    subst hc
    obtain rfl : ys = [] := List.eq_nil_of_length_eq_zero hl
    obtain ⟨A', c', e, _⟩ := hown.form
    subst e
    exact wpList_append_own_none hgd s x 25 ho base 3 i0 1 Try.underlying25 hi _ 0 [] hs hown hx (h A' c' w hown (Below.refl _ _))
  | some ad =>
    refine wpList_append_own w hgd s x 25 ho base 3 i0 _ 1 8 Try.underlying25 hi hz hs0 hy0 rfl (by omega) v 0 [] hs hown ad n c (intL ys) hx (by simp [intL, hl])
      (fun j u hu => ?_) (fun u hu => ?_) (by unfold maxLen; omega) (by omega) hbase (fun v' w' h1 h2 _ => ?_)
    · have hj : j < n := by have := (List.getElem?_eq_some_iff.1 hu).1; simpa [intL, hl] using this
      obtain ⟨b, o, e, hc⟩ := hy.at_ (k := 0) (by omega)
      injection e with e
      subst e
      rw [Addr.add_mid, hc j hj, ← hu]
      simp [intL, nth, hl, hj]
    · obtain ⟨z, _, rfl⟩ := List.mem_map.1 hu
      rfl
    · have h3 : OwnI w' base v' ys := by unfold OwnI; rw [hl]; simpa using h1
      obtain ⟨A, c', rfl, _⟩ := h3.form
      rw [hl] at h3 ⊢
      refine h A c' w' h3 ⟨h2.os, h2.tape, h2.output, h2.size, fun k hk => h2.block k (by omega) (fun e => ?_)⟩
      have := World.ownsRow.lt hown k e.symm
      omega
theorem OwnI.put {w : World} {base g : Nat} {v : Value} {xs : List Int} (h : OwnI w base v xs) (hg : g < base) (i : Nat) (u : Value) : OwnI (w.setCell ⟨g, i, none⟩ u) base v xs :=
  World.ownsRow.kept h (row := some g) ⟨rfl, rfl, rfl, by simp, fun k hk hne => heap_setCell_other w _ k _ (fun e => hne (by rw [e]))⟩ (by
    cases e : v.ownBlock with
    | none => exact .inl rfl
    | some k =>
      refine .inr (fun e2 => ?_)
      obtain ⟨A, c, rfl, _, _, h3⟩ := h.form
      cases A with
      | none => simp [Value.ownBlock] at e
      | some ad =>
        simp [Value.ownBlock] at e
        have := h3 ad rfl
        injection e2 with e2
        omega)

/-- A slice of integers that may be written. -/
structure SpS (w : World) (base g n : Nat) (wr : World) : Prop where
  cells : ∃ t cs, Has wr g t cs ∧ ∀ i, i < n → ∃ z, cs[i]? = some (.int .i64 z)
  keep : Below base w wr
  far : base ≤ g

set_option maxRecDepth 100000 in
set_option maxHeartbeats 1000000 in
theorem spoil_any (A : Option Addr) (n c : Nat) (xs : List Int) (base : Nat) (w : World) (ho : OwnI w base (.slice A n c) xs) (hn : n ≤ maxLen) :
    Calls Try.prog 17 #[.slice A n c] w fun e w' => e = .returned (.tuple #[]) ∧ Below base w w' := by
  unfold maxLen at hn
  go_enter Try.func17, Try.ntmps17
  by_cases h0 : n = 0
  · subst h0
    go_wp2
    refine wp_loop_rounds 1 ?_; rw [rounds_succ]
    go_wp2
    exact Great.bodyPost_end0 rfl rfl ⟨rfl, Below.refl _ _⟩
  · have hS : ∃ g, A = some ⟨g, 0, none⟩ ∧ SpS w base g n w := by
      have hints := ho.ints
      obtain ⟨b, o, e, hc⟩ := hints.at_ (k := 0) (by omega)
      rcases ho.2 with ⟨e1, h1⟩ | ⟨g, cap, cur, e1, hg, hh, hn1, hc1, hs1, _⟩
      · injection e1 with e2 e3 e4
        omega
      · injection e1 with e2 e3 e4
        subst e2
        refine ⟨g, rfl, ⟨3, cur, hh, fun i hi => ⟨nth xs i, ?_⟩⟩, Below.refl _ _, hg⟩
        injection e with e
        injection e with e5 e6
        subst e5 e6
        have := hc i hi
        rw [Nat.zero_add] at this
        rw [← Has.cell (g := g) (w := w) hh i]; exact this
    obtain ⟨g, rfl, hS⟩ := hS
    clear ho
    have HS := Lib.hid hS; clear hS
    go_wp2_with fail
    go_loopw [2] (fun i wr => ∃ j : Nat, j ≤ n ∧ i = .int .i64 j ∧ Hid (SpS w base g n wr)) (fun i _ => n - (intOf i).toNat)
    case atStart => exact ⟨0, Nat.zero_le _, rfl, HS⟩
    case round =>
      clear HS
      obtain ⟨j, hj, rfl, HS⟩ := hrel
      by_cases hlt : j < n
      · obtain ⟨t, cs, hh, hz⟩ := HS.out.cells
        obtain ⟨z, hz1⟩ := hz j hlt
        have hcell : wr.cell? ⟨g, j, none⟩ = some (.int .i64 z) := (hh.cell j).trans hz1
        have hmark := hh.mark j
        have hjn : (j : Int) < (n : Int) := by omega
        have HZ := Lib.hid hz; clear hz
        have HH := Lib.hid hh; clear hh
        have HZ1 := Lib.hid hz1; clear hz1
        go_wp2_with fail
        go_roundw
        case rel =>
          refine ⟨j + 1, by omega, by go_num, ⟨t, _, HH.out.put j _, fun i hi => ?_⟩, HS.out.keep.setCell HS.out.far _, HS.out.far⟩
          by_cases e : j = i
          · subst e
            have hl : j < cs.size := (Array.getElem?_eq_some_iff.1 HZ1.out).1
            exact ⟨_, by rw [Array.getElem?_setIfInBounds_self_of_lt hl]⟩
          · obtain ⟨z2, hz2⟩ := HZ.out i hi
            exact ⟨z2, by rw [Array.getElem?_setIfInBounds_ne e]; exact hz2⟩
        case measure => simp [intOf]; omega
      · have hjn : j = n := by omega
        subst hjn
        go_wp2
        exact Great.bodyPost_end0 rfl rfl ⟨rfl, HS.out.keep⟩

/-- The load of a whole aggregate, the operation asked first. -/
theorem load_acG {ops : Array Oper} {rest : List Oper} {op : Oper} {p : Act} {w : World} {Q : Exit → Act → World → Prop} (x : Operand) (ho : op.op = .load 29 x) (hgd : op.guard = none)
    (g : Nat) (hx : p.eval x = .pointer (some ⟨g, 0, none⟩)) {ac : Ac} {A : Option Addr} {k c : Nat} (hc : Has w g 29 (accC ac A k c))
    (h : wpList Try.prog ops Q rest (p.put op.dst (.agg (accC ac A k c))) w) : wpList Try.prog ops Q (op :: rest) p w := load_has hgd x ho g hx hc h
/-- The aggregate that came in, and the one that is handed out, each in a variable. -/
structure CpS (w : World) (a : Ac) (A : Option Addr) (k c : Nat) (wr : World) : Prop where
  box : Has wr w.heap.size 29 (accC a A k c)
  res : Has wr (w.heap.size + 1) 29 (accC zeroAc none 0 0)
  keep : Below w.heap.size w wr
theorem CpS.below {w : World} {a : Ac} {A : Option Addr} {k c : Nat} {wr wy : World} (h : CpS w a A k c wr) (hb : Below wr.heap.size wr wy) : CpS w a A k c wy :=
  ⟨h.box.below hb h.box.lt, h.res.below hb h.res.lt, h.keep.trans (hb.mono h.keep.size)⟩

set_option maxRecDepth 100000 in
set_option maxHeartbeats 1000000 in
theorem copyacc_any (a : Ac) (A : Option Addr) (k c : Nat) (w : World) (ha : Ints w A k a.h) (hk : k * 8 ≤ 140737488351232) (hnil : A = none → c = 0) :
    Calls Try.prog 26 #[.agg (accC a A k c)] w (FoldAcc a w) := by
  have HAH := Lib.hid ha
  have hB2 : Below w.heap.size w ((w.alloc (.cells (accC a A k c) 29)).alloc (.cells (accC zeroAc none 0 0) 29)) := below_alloc ((Below.refl _ _).alloc (Nat.le_refl _) _) (Nat.le_refl _) _
  go_enter Try.func26, Try.ntmps26
  go_upto_region 1 with fail
  generalize hw0 : (w.alloc (.cells (accC a A k c) 29)).alloc (.cells #[.int .i64 0, .int .i64 0, .int .i64 0, .int .i64 0, .int .i64 0, .int .i64 0, .int .i64 0, .int .i64 0, .int .i64 0, .int .i64 0, .int .i64 0, .int .i64 0, .slice none 0 0] 29) = w1
  have HS : Hid (CpS w a A k c w1) := by
    rw [← hw0]
    exact ⟨heap_alloc2_old _ _ _, heap_alloc2_new _ _ _, hB2⟩
  clear hB2 hw0
  have hc : ∀ ob, (w1.alloc ob).cell? ⟨w.heap.size, 12, none⟩ = some (.slice A k c) := fun ob => (HS.out.box.alloc ob).cell 12
  have hm : ∀ wn : World, Below w1.heap.size (w1.alloc (.cells #[] 3)) wn → wn.frozen? ⟨w.heap.size, 12, none⟩ = false := fun wn hb => ((HS.out.box.alloc _).below hb HS.out.box.lt).mark 12
  have hsz := HS.out.res.lt
  go_wp2_with (first
    | (refine app_intsA rfl _ _ rfl rfl (own_empty w1) rfl ((HAH.out.below HS.out.keep).below ((Below.refl _ _).alloc (Nat.le_refl _) _)) hnil hk (by simp) ?_; intro A2 c2 wn hwn hbn; have hmn := hm wn hbn; clear hc hm; have HS2 := Lib.hid (HS.out.below (((Below.refl _ _).alloc (Nat.le_refl _) _).trans hbn)); have HWN := Lib.hid hwn; have hcn : wn.cell? ⟨w.heap.size, 12, none⟩ = some (.slice A k c) := HS2.out.box.cell 12; clear hwn hbn)
    | (refine load_acG _ rfl rfl _ rfl (show Has (wn.setCell ⟨w.heap.size, 12, none⟩ (.slice A2 k c2)) w.heap.size 29 (accC a A2 k c2) from HS2.out.box.put 12 _) ?_)
    | (refine wpList_store_row rfl 29 _ _ rfl (w.heap.size + 1) (accC a A2 k c2) rfl rfl 29 _ (HS2.out.res.putFar (show w.heap.size + 1 ≠ (⟨w.heap.size, 12, none⟩ : Addr).block by simp) _) Try.sizeAcc rfl (accC_one _ _ _ _) ?_))
  have hres := (HS2.out.res.putFar (show w.heap.size + 1 ≠ (⟨w.heap.size, 12, none⟩ : Addr).block by simp) (.slice A2 k c2)).row (accC a A2 k c2)
  obtain ⟨_, _, e3, h3, h4, _⟩ := HWN.out.form
  injection e3 with e4 e5 e6
  subst e4 e6
  have hfin := (HWN.out.put (show w.heap.size < w1.heap.size by omega) 12 (.slice A2 k c2)).row hsz (accC a A2 k c2)
  refine bodyPost_ret (ret_row1 rfl _ _ _ 29 (accC a A2 k c2) _ rfl hres Try.underlying29 rfl (by exact Try.sizeAcc)) rfl ?_
  exact ⟨A2, k, c2, rfl, ⟨hfin.ints, by rw [e5]; exact h3, h4, fun ad e => Nat.le_trans (by omega) (hfin.new ad e), hfin.typ⟩, below_row (HS2.out.keep.setCell (Nat.le_refl _) _) (by omega) _⟩

end Go.Proofs.Ytjmaeiilkbfnaaa

namespace Go.Proofs.Ytjmaeiilkbfnaaa
open Go.RowKit

set_option maxRecDepth 100000 in
set_option maxHeartbeats 1000000 in
theorem rcopyacc_any (a : Ac) (A : Option Addr) (k c : Nat) (w : World) (ha : Ints w A k a.h) (hk : k * 8 ≤ 140737488351232) (hnil : A = none → c = 0) :
    Calls Try.prog 45 #[.agg (accC a A k c)] w (FoldAcc a w) := by
  have HAH := Lib.hid ha
  have hB2 : Below w.heap.size w ((w.alloc (.cells (accC a A k c) 29)).alloc (.cells (accC zeroAc none 0 0) 29)) := below_alloc ((Below.refl _ _).alloc (Nat.le_refl _) _) (Nat.le_refl _) _
  go_enter Try.func45, Try.ntmps45
  go_upto_region 1 with fail
  generalize hw0 : (w.alloc (.cells (accC a A k c) 29)).alloc (.cells #[.int .i64 0, .int .i64 0, .int .i64 0, .int .i64 0, .int .i64 0, .int .i64 0, .int .i64 0, .int .i64 0, .int .i64 0, .int .i64 0, .int .i64 0, .int .i64 0, .slice none 0 0] 29) = w1
  have HS : Hid (CpS w a A k c w1) := by
    rw [← hw0]
    exact ⟨heap_alloc2_old _ _ _, heap_alloc2_new _ _ _, hB2⟩
  clear hB2 hw0
  have hc : ∀ ob, (w1.alloc ob).cell? ⟨w.heap.size, 12, none⟩ = some (.slice A k c) := fun ob => (HS.out.box.alloc ob).cell 12
  have hm : ∀ wn : World, Below w1.heap.size (w1.alloc (.cells #[] 3)) wn → wn.frozen? ⟨w.heap.size, 12, none⟩ = false := fun wn hb => ((HS.out.box.alloc _).below hb HS.out.box.lt).mark 12
  have hsz := HS.out.res.lt
  go_wp2_with (first
    | (refine app_intsA rfl _ _ rfl rfl (own_empty w1) rfl ((HAH.out.below HS.out.keep).below ((Below.refl _ _).alloc (Nat.le_refl _) _)) hnil hk (by simp) ?_; intro A2 c2 wn hwn hbn; have hmn := hm wn hbn; clear hc hm; have HS2 := Lib.hid (HS.out.below (((Below.refl _ _).alloc (Nat.le_refl _) _).trans hbn)); have HWN := Lib.hid hwn; have hcn : wn.cell? ⟨w.heap.size, 12, none⟩ = some (.slice A k c) := HS2.out.box.cell 12; clear hwn hbn)
    | (refine load_acG _ rfl rfl _ rfl (show Has (wn.setCell ⟨w.heap.size, 12, none⟩ (.slice A2 k c2)) w.heap.size 29 (accC a A2 k c2) from HS2.out.box.put 12 _) ?_)
    | (refine wpList_store_row rfl 29 _ _ rfl (w.heap.size + 1) (accC a A2 k c2) rfl rfl 29 _ (HS2.out.res.putFar (show w.heap.size + 1 ≠ (⟨w.heap.size, 12, none⟩ : Addr).block by simp) _) Try.sizeAcc rfl (accC_one _ _ _ _) ?_))
  have hres := (HS2.out.res.putFar (show w.heap.size + 1 ≠ (⟨w.heap.size, 12, none⟩ : Addr).block by simp) (.slice A2 k c2)).row (accC a A2 k c2)
  obtain ⟨_, _, e3, h3, h4, _⟩ := HWN.out.form
  injection e3 with e4 e5 e6
  subst e4 e6
  have hfin := (HWN.out.put (show w.heap.size < w1.heap.size by omega) 12 (.slice A2 k c2)).row hsz (accC a A2 k c2)
  refine bodyPost_ret (ret_row1 rfl _ _ _ 29 (accC a A2 k c2) _ rfl hres Try.underlying29 rfl (by exact Try.sizeAcc)) rfl ?_
  exact ⟨A2, k, c2, rfl, ⟨hfin.ints, by rw [e5]; exact h3, h4, fun ad e => Nat.le_trans (by omega) (hfin.new ad e), hfin.typ⟩, below_row (HS2.out.keep.setCell (Nat.le_refl _) _) (by omega) _⟩

set_option maxRecDepth 100000 in
set_option maxHeartbeats 1000000 in
theorem copyints_any (A : Option Addr) (n c : Nat) (xs : List Int) (w : World) (hr : Ints w A n xs) (hn : n * 8 ≤ 140737488351232) (hnil : A = none → c = 0) :
    Calls Try.prog 35 #[.slice A n c] w fun e w' => ∃ A' c', e = .returned (.slice A' n c') ∧ OwnI w' w.heap.size (.slice A' n c') xs ∧ Below w.heap.size w w' := by
  go_enter Try.func35, Try.ntmps35
  go_wp2_with (refine app_intsA rfl _ _ rfl rfl (own_empty w) rfl (hr.below ((Below.refl _ _).alloc (Nat.le_refl _) _)) hnil hn (by simp) ?_; intro A2 c2 wn hwn hbn)
  go_ret
  exact ⟨A2, c2, rfl, hwn, ((Below.refl _ _).alloc (Nat.le_refl _) _).trans hbn⟩

theorem OwnI.caps {w : World} {base : Nat} {A : Option Addr} {n c : Nat} {xs : List Int} (h : OwnI w base (.slice A n c) xs) : xs.length = n ∧ n ≤ c ∧ c ≤ maxLen := by
  obtain ⟨_, c9, e3, h3, h4, _⟩ := h.form
  injection e3 with e4 e5 e6
  omega
theorem size_intsE (w : World) : (sizeOf (Try.prog.elem 25)).run Try.prog w = .ok 1 w := by kernel_rfl
theorem elem_ints : Try.prog.underlying 25 = some (.slice (Try.prog.elem 25)) := by kernel_rfl
/-- 'xs[:u]' of integers. -/
theorem cut_toI {ops : Array Oper} {rest : List Oper} {op : Oper} {p : Act} {w : World} {Q : Exit → Act → World → Prop} (hgd : op.guard = none) (x y : Operand) (ho : op.op = .slice 25 x none (some y) none)
    {D : Option Addr} {n e u : Nat} {z : Int} (hx : p.eval x = .slice D n e) (hy : p.eval y = .int .i64 z) (hz : z = (u : Int)) (hu : u ≤ e)
    (h : wpList Try.prog ops Q rest (p.put op.dst (.slice D u e)) w) : wpList Try.prog ops Q (op :: rest) p w :=
  wpList_plain hgd fun _ hK => by
    subst hz
    have hd : D.map (·.add (0 * 1)) = D := by
      cases D with
      | none => rfl
      | some a => cases a; simp [Addr.add]
    have hs : (Instr.sliceAt 25 (.slice D n e) none (some (.int .i64 (u : Int))) none).run Try.prog w = .ok (.slice D u e) w := by
      rw [run_sliceAt_slice w _ _ _ _ _ elem_ints, run_slice_h w _ D n e elem_ints .i64 (u : Int) (by omega) (by omega), size_intsE]
      simp only [Result.andThen_ok, sliced, hd, ite_self, Int.toNat_natCast, Nat.sub_zero]
    unfold Oper.wp execOp
    simp only [ho, Option.map_some, Option.map_none, hx, hy, Sem.run_bind, hs, Result.andThen_ok]
    exact hK _ _ h
/-- 's = append(s, y, z)' in a walk: both laid into a new row first. -/
theorem app_two {ops : Array Oper} {rest : List Oper} {op : Oper} {p : Act} {w : World} {Q : Exit → Act → World → Prop} (hgd : op.guard = none) (s x : Operand)
    (ho : op.op = .call { callee := .builtin .append, args := #[s, x], argTypes := #[25, 25] })
    {base g : Nat} {v : Value} {xs : List Int} {y z : Int} (hs : p.eval s = v) (hown : OwnI w base v xs) (hx : p.eval x = .slice (some ⟨g, 0, none⟩) 2 2) (hg : Has w g 3 #[.int .i64 y, .int .i64 z])
    (hn : xs.length * 8 ≤ 140737488351232) (hbase : base ≤ w.heap.size)
    (h : ∀ A c w', OwnI w' base (.slice A (xs.length + 2) c) (xs ++ [y, z]) → Below base w w' → wpList Try.prog ops Q rest (p.put op.dst (.slice A (xs.length + 2) c)) w') : wpList Try.prog ops Q (op :: rest) p w := by
  obtain ⟨i0, hi, hz, hs0, hy0⟩ := info_parts Try.infoInt
  refine wpList_append_own w hgd s x 25 ho base 3 i0 _ 1 8 Try.underlying25 hi hz hs0 hy0 rfl (by omega) v xs.length (intL xs) hs hown ⟨g, 0, none⟩ 2 2 [.int .i64 y, .int .i64 z] hx rfl
    (fun j u hu => ?_) (fun u hu => ?_) (by unfold maxLen; omega) (by omega) hbase (fun v' w' h1 h2 _ => ?_)
  · rw [Addr.add_mid, hg.cell, Nat.zero_add]
    simpa using hu
  · simp only [List.mem_cons, List.not_mem_nil, or_false] at hu
    rcases hu with rfl | rfl <;> rfl
  · have h3 : OwnI w' base v' (xs ++ [y, z]) := by unfold OwnI; simpa [intL] using h1
    obtain ⟨A, c', rfl, _⟩ := h3.form
    have e : (xs ++ [y, z]).length = xs.length + 2 := by simp
    rw [e] at h3 ⊢
    refine h A c' w' h3 ⟨h2.os, h2.tape, h2.output, h2.size, fun k hk => h2.block k (by omega) (fun e => ?_)⟩
    have := World.ownsRow.lt hown k e.symm
    omega

set_option maxRecDepth 100000 in
set_option maxHeartbeats 1000000 in
/-- What is lent: the numbers, marked room behind them. -/
theorem lendints_any (A : Option Addr) (n c : Nat) (xs : List Int) (w : World) (hr : Ints w A n xs) (hn : n * 8 ≤ 140737488351232) (hnil : A = none → c = 0) :
    Calls Try.prog 7 #[.slice A n c] w fun e w' => ∃ A' c', e = .returned (.slice A' n c') ∧ OwnI w' w.heap.size (.slice A' (n + 2) c') (xs ++ [-7777, -8888]) ∧ Below w.heap.size w w' := by
  have HL := Lib.hid hr.1
  go_enter Try.func7, Try.ntmps7
  go_wp2_with fail
  refine (copyints_any A n c xs _ hr hn hnil).mono ?_
  rintro e w2 ⟨A2, c2, rfl, hown, hb⟩
  have HB := Lib.hid hb; clear hb
  have HO := Lib.hid hown; clear hown
  have hown2 : ∀ o, OwnI (w2.alloc o) w.heap.size (.slice A2 n c2) xs := fun o => HO.out.below ((Below.refl _ _).alloc (Nat.le_refl _) _)
  go_wp2_with (first
    | (refine app_two rfl _ _ rfl rfl (hown2 _) (g := w2.heap.size) (y := -7777) (z := -8888) rfl (Has.made _ _ _) (by rw [HL.out]; exact hn) (by have := HB.out.size; simp; omega) ?_; intro A3 c3 wn hwn hbn; have HW := Lib.hid hwn; have hc3 : n ≤ c3 := (by have := hwn.caps; have := HL.out; omega); clear hwn; have HBN := Lib.hid hbn; clear hbn)
    | (refine cut_toI rfl _ _ rfl rfl rfl rfl hc3 ?_))
  go_ret
  refine ⟨A3, c3, rfl, ?_, (below_alloc HB.out (Nat.le_refl _) _).trans HBN.out⟩
  have := HW.out
  rwa [HL.out] at this

set_option maxRecDepth 100000 in
set_option maxHeartbeats 1000000 in
theorem keptints_any (A B : Option Addr) (n c d : Nat) (xs : List Int) (base : Nat) (w : World) (hl : OwnI w base (.slice A (n + 2) c) (xs ++ [-7777, -8888])) (hx : xs.length = n) (hb : Ints w B n xs) (hn : n * 8 ≤ 140737488351232) :
    Calls Try.prog 19 #[.slice A n c, .slice B n d] w fun e w' => e = .returned (.bool true) ∧ ∃ k, w' = w.drewN k := by
  have hI := hl.ints
  obtain ⟨b, o, rfl, hc⟩ := hI.at_ (k := 0) (by omega)
  have h1 := hc n (by omega)
  have h2 := hc (n + 1) (by omega)
  have e1 : nth (xs ++ [-7777, -8888]) n = -7777 := by simp [nth, ← hx]
  have e2 : nth (xs ++ [-7777, -8888]) (n + 1) = -8888 := by simp [nth, ← hx]
  rw [e1] at h1
  rw [e2] at h2
  have hA : Ints w (some ⟨b, o, none⟩) n xs := ⟨hx, fun _ => ⟨b, o, rfl, fun k hk => by
    have := hc k (by omega)
    rw [show nth (xs ++ [-7777, -8888]) k = nth xs k by simp [nth, List.getElem?_append_left (show k < xs.length by omega)]] at this
    exact this⟩⟩
  have hcap : n + 2 ≤ c := hl.caps.2.1
  have HA := Lib.hid hA; clear hA
  have HB := Lib.hid hb; clear hb
  clear hl hI hc e1 e2 hx
  go_enter Try.func19, Try.ntmps19
  go_wp2_with (refine cut_toI rfl _ _ rfl rfl rfl (show (n : Int) + 2 = ((n + 2 : Nat) : Int) by omega) hcap ?_)
  refine (sameInts_true _ B n c d xs _ HA.out HB.out (by unfold maxLen; omega)).mono ?_
  rintro e w2 ⟨rfl, k, rfl⟩
  go_wp2_with fail
  go_ret
  exact ⟨rfl, k, rfl⟩

end Go.Proofs.Ytjmaeiilkbfnaaa

namespace Go.Proofs.Ytjmaeiilkbfnaaa
open Go.RowKit

/-- The cells of a row: each aggregate with the block of its buckets. -/
def rowC (ps : List (Ac × Nat)) : List Value := ps.flatMap fun p => (accC p.1 (some ⟨p.2, 0, none⟩) p.1.h.length p.1.h.length).toList
theorem rowC_len (ps : List (Ac × Nat)) : (rowC ps).length = ps.length * 13 := by
  induction ps with
  | nil => rfl
  | cons p r ih =>
    have e : rowC (p :: r) = (accC p.1 (some ⟨p.2, 0, none⟩) p.1.h.length p.1.h.length).toList ++ rowC r := rfl
    rw [e, List.length_append, ih, accC_len, List.length_cons]; omega
theorem rowC_snoc (ps : List (Ac × Nat)) (p : Ac × Nat) : rowC (ps ++ [p]) = rowC ps ++ (accC p.1 (some ⟨p.2, 0, none⟩) p.1.h.length p.1.h.length).toList := by
  simp [rowC]
theorem rowC_at (ps : List (Ac × Nat)) {i j : Nat} (hi : i < ps.length) (hj : j < 13) : (rowC ps)[i * 13 + j]? = (accC (ps[i]).1 (some ⟨(ps[i]).2, 0, none⟩) (ps[i]).1.h.length (ps[i]).1.h.length).toList[j]? := by
  induction ps generalizing i with
  | nil => simp at hi
  | cons p r ih =>
    have e : rowC (p :: r) = (accC p.1 (some ⟨p.2, 0, none⟩) p.1.h.length p.1.h.length).toList ++ rowC r := rfl
    rw [e]
    cases i with
    | zero => rw [List.getElem?_append_left (by rw [accC_len]; omega)]; simp
    | succ i =>
      rw [List.getElem?_append_right (by rw [accC_len]; omega), accC_len, show (i + 1) * 13 + j - 13 = i * 13 + j by omega, ih (by simpa using hi)]
      simp
/-- v is a row that the call owns, from block base on, with these aggregates. -/
structure Own (w : World) (base : Nat) (v : Value) (ps : List (Ac × Nat)) : Prop where
  row : w.ownsRow base 29 13 v ps.length (rowC ps)
  hist : ∀ p, p ∈ ps → Has w p.2 3 (ints p.1.h)
theorem Own.nil (w : World) (base : Nat) : Own w base (.slice none 0 0) [] := ⟨World.ownsRow_nil _ _ _ _, fun p hp => by cases hp⟩
theorem Own.below {w w' : World} {base : Nat} {v : Value} {ps : List (Ac × Nat)} (h : Own w base v ps) (hb : Below w.heap.size w w') : Own w' base v ps :=
  ⟨h.row.kept (row := none) ⟨hb.os, hb.tape, hb.output, hb.size, fun k hk _ => hb.block k hk⟩ (by
    cases e : v.ownBlock with
    | none => exact .inl rfl
    | some k => exact .inr (by simp)), fun p hp => has_below (h.hist p hp) hb⟩
/-- Its shape: a slice value. -/
theorem Own.form {w : World} {base : Nat} {v : Value} {ps : List (Ac × Nat)} (h : Own w base v ps) : ∃ A c, v = .slice A ps.length c ∧ (∀ ad, A = some ad → base ≤ ad.block) := by
  rcases h.row.2 with ⟨e, h0⟩ | ⟨g, cap, cur, e, hg, _⟩
  · exact ⟨none, 0, by rw [e, h0], fun ad h => by cases h⟩
  · exact ⟨some ⟨g, 0, none⟩, cap, e, fun ad h => by injection h with h; subst h; exact hg⟩
theorem Own.accs {w : World} {base : Nat} {A : Option Addr} {n c : Nat} {ps : List (Ac × Nat)} (h : Own w base (.slice A n c) ps) (hl : ∀ p, p ∈ ps → p.1.h.length ≤ maxLen) : Accs w A n (ps.map (·.1)) := by
  rcases h.row.2 with ⟨e, h0⟩ | ⟨g, cap, cur, e, hg, hh, hn, hc, hs, ht⟩
  · injection e with e1 e2 e3
    have : ps = [] := List.eq_nil_of_length_eq_zero h0
    subst this; subst e1; subst e2
    exact Accs.nil _ _
  · injection e with e1 e2 e3
    subst e1; subst e2; subst e3
    refine ⟨by simp, fun hpos => ⟨g, 0, rfl, fun i hi => ?_⟩⟩
    have hp : ps[i] ∈ ps := List.getElem_mem hi
    have en : nthA (ps.map (·.1)) i = (ps[i]).1 := by simp [nthA, hi]
    refine ⟨some ⟨(ps[i]).2, 0, none⟩, (ps[i]).1.h.length, (ps[i]).1.h.length, ?_, ?_, Nat.le_refl _, hl _ hp⟩
    · rw [en]
      intro j v hv
      have hj : j < 13 := by have := (List.getElem?_eq_some_iff.1 hv).1; rwa [accC_len] at this
      rw [show 0 + i * 13 + j = i * 13 + j by omega, h.row.cellAt _ (by omega), rowC_at _ hi hj]
      exact hv
    · rw [en]
      exact ints_of_has (h.hist _ hp) rfl

theorem Try.infoAcc : (Try.prog.info? 29).map (fun i => (i.zero, i.size, i.bytes)) = some (some (.agg (accC zeroAc none 0 0)), 13, 120) := by kernel_rfl

/-- 's = append(s, a)' in a walk, a laid into a new row of one first. -/
theorem app_acc {ops : Array Oper} {rest : List Oper} {op : Oper} {p : Act} {w : World} {Q : Exit → Act → World → Prop} (hgd : op.guard = none) (s x : Operand)
    (ho : op.op = .call { callee := .builtin .append, args := #[s, x], argTypes := #[24, 24] })
    {base g y : Nat} {v : Value} {ps : List (Ac × Nat)} {a : Ac} (hs : p.eval s = v) (hown : Own w base v ps) (hx : p.eval x = .slice (some ⟨g, 0, none⟩) 1 1) (hg : Has w g 29 (accC a (some ⟨y, 0, none⟩) a.h.length a.h.length)) (hh : Has w y 3 (ints a.h))
    (hn : ps.length ≤ 8192) (hbase : base ≤ w.heap.size)
    (h : ∀ v' w', Own w' base v' (ps ++ [(a, y)]) → Below base w w' → wpList Try.prog ops Q rest (p.put op.dst v') w') : wpList Try.prog ops Q (op :: rest) p w := by
  obtain ⟨i0, hi, hz, hs0, hy0⟩ := info_parts Try.infoAcc
  refine wpList_append_own w hgd s x 24 ho base 29 i0 _ 13 120 Try.underlying24 hi hz hs0 hy0 rfl (by omega) v ps.length (rowC ps) hs hown.row ⟨g, 0, none⟩ 1 1 (accC a (some ⟨y, 0, none⟩) a.h.length a.h.length).toList hx rfl
    (fun j u hu => ?_) (fun u hu => ?_) (by unfold maxLen; omega) (by omega) hbase (fun v' w' h1 h2 _ => ?_)
  · rw [Addr.add_mid, hg.cell]
    simpa using hu
  · have := accC_one a (some ⟨y, 0, none⟩) a.h.length a.h.length
    rw [Array.all_eq_true_iff_forall_mem] at this
    exact this u (by simpa using hu)
  · have hne : ∀ z xs, Has w z 3 xs → some z ≠ v.ownBlock := fun z xs hz e => by
      rcases hown.row.2 with ⟨ev, _⟩ | ⟨g', cap, cur, ev, _, hh', _⟩
      · rw [ev] at e; cases e
      · rw [ev] at e
        injection e with e
        have h2 : Has w z 29 cur := by rw [e]; exact hh'
        exact has_types hz h2 (by decide)
    refine h v' w' ⟨by rw [rowC_snoc, List.length_append]; exact h1, fun q hq => ?_⟩ ⟨h2.os, h2.tape, h2.output, h2.size, fun k hk => h2.block k (by omega) (fun e => ?_)⟩
    · rcases List.mem_append.1 hq with hq | hq
      · exact (h2.block _ (hown.hist q hq).lt (hne _ _ (hown.hist q hq))).trans (hown.hist q hq)
      · obtain rfl : q = (a, y) := by simpa using hq
        exact (h2.block _ hh.lt (hne _ _ hh)).trans hh
    · have := hown.row.lt k e.symm
      omega

theorem below_cells {B : Nat} {a : World} {g : Nat} (hg : B ≤ g) (cs : List Value) : ∀ (o : Nat) (w : World), Below B a w → Below B a (w.setCells g o cs) := by
  induction cs with
  | nil => exact fun _ _ h => h
  | cons v r ih => exact fun o _ h => ih (o + 1) _ (h.setCell hg v)
theorem accC_some (a : Ac) (A : Option Addr) (k c : Nat) {t : Nat} (ht : t < 13) : ((accC a A k c)[t]?).isSome = true := by
  rw [Array.getElem?_eq_getElem (show t < (accC a A k c).size from ht)]; rfl
theorem four_cells (a : Ac) (A : Option Addr) (k c : Nat) {j t : Nat} (hj : j < 4) (ht : t < 13) : (accC a A k c ++ accC a A k c ++ accC a A k c ++ accC a A k c)[j * 13 + t]? = (accC a A k c)[t]? := by
  have hs : (accC a A k c).size = 13 := rfl
  generalize accC a A k c = X at hs ⊢
  have hss : (X ++ X).size = 26 := by rw [Array.size_append, hs]
  have hsss : (X ++ X ++ X).size = 39 := by rw [Array.size_append, hss, hs]
  have h4 : j = 0 ∨ j = 1 ∨ j = 2 ∨ j = 3 := by omega
  rcases h4 with rfl | rfl | rfl | rfl
  · rw [Array.getElem?_append_left (by omega), Array.getElem?_append_left (by omega), Array.getElem?_append_left (by omega)]; simp
  · rw [Array.getElem?_append_left (by omega), Array.getElem?_append_left (by omega), Array.getElem?_append_right (by omega), hs, show 1 * 13 + t - 13 = t by omega]
  · rw [Array.getElem?_append_left (by omega), Array.getElem?_append_right (by omega), hss, show 2 * 13 + t - 26 = t by omega]
  · rw [Array.getElem?_append_right (by omega), hsss, show 3 * 13 + t - 39 = t by omega]
theorem four_at (a b : Ac) {i j : Nat} (hi : i < 4) (hj : j < 4) : nthA ([a, a, a, a].set i b) j = if i = j then b else a := by
  have h4 : j = 0 ∨ j = 1 ∨ j = 2 ∨ j = 3 := by omega
  have h5 : i = 0 ∨ i = 1 ∨ i = 2 ∨ i = 3 := by omega
  rcases h4 with rfl | rfl | rfl | rfl <;> rcases h5 with rfl | rfl | rfl | rfl <;> rfl

/-- Four aggregates in a new row, all a, the one at place i then set to b. -/
theorem accs_four {w : World} {g i : Nat} {a b : Ac} {A B : Option Addr} {k c l d : Nat} (h : Has w g 29 (accC a A k c ++ accC a A k c ++ accC a A k c ++ accC a A k c)) (hi : i < 4)
    (ha : ∀ w', Below g w w' → Ints w' A k a.h) (hb : ∀ w', Below g w w' → Ints w' B l b.h) (h1 : k ≤ c ∧ c ≤ maxLen) (h2 : l ≤ d ∧ d ≤ maxLen) :
    Accs (w.setCells g (i * 13) (accC b B l d).toList) (some ⟨g, 0, none⟩) 4 ([a, a, a, a].set i b) := by
  have hbel : Below g w (w.setCells g (i * 13) (accC b B l d).toList) := below_cells (Nat.le_refl _) _ _ _ (Below.refl _ _)
  have hcell : ∀ j t, j < 4 → t < 13 → w.cell? ⟨g, j * 13 + t, none⟩ = (accC a A k c)[t]? := fun j t hj ht => by rw [h.cell, four_cells a A k c hj ht]
  refine ⟨by simp, fun _ => ⟨g, 0, rfl, fun j hj => ?_⟩⟩
  rw [four_at a b hi hj]
  by_cases e : i = j
  · subst e
    rw [if_pos rfl]
    refine ⟨B, l, d, fun t v hv => ?_, hb _ hbel, h2⟩
    have ht : t < 13 := by have := (List.getElem?_eq_some_iff.1 hv).1; rwa [accC_len] at this
    have h0 := World.cell?_setCells_in g (accC b B l d).toList (i * 13) w (fun t ht => by
      rw [accC_len] at ht
      rw [hcell i t hi ht]
      exact accC_some _ _ _ _ ht) t (by rw [accC_len]; exact ht)
    rw [show 0 + i * 13 + t = i * 13 + t by omega, h0, ← hv, List.getElem?_eq_getElem]
  · rw [if_neg e]
    refine ⟨A, k, c, fun t v hv => ?_, ha _ hbel, h1⟩
    have ht : t < 13 := by have := (List.getElem?_eq_some_iff.1 hv).1; rwa [accC_len] at this
    rw [show 0 + j * 13 + t = j * 13 + t by omega, World.cell?_setCells_out g _ _ _ _ (fun _ _ => by rw [accC_len]; simp only; omega), hcell j t hj ht]
    simpa using hv
theorem there_row {w : World} {g n : Nat} {t : TypeId} {cs : Array Value} (h : Has w g t cs) {o : Nat} (hn : o + n ≤ cs.size) : w.there g o n := fun j hj => ⟨by rw [h.cell]; simp; omega, h.mark _⟩

end Go.Proofs.Ytjmaeiilkbfnaaa

namespace Go.Proofs.Ytjmaeiilkbfnaaa
open Go.RowKit

/-- The call hands out this aggregate, its buckets its own. -/
def CopyOut (a : Ac) (w : World) (e : Ending) (w' : World) : Prop :=
  ∃ A n c, e = .returned (accV a A n c) ∧ OwnI w' w.heap.size (.slice A n c) a.h ∧ Below w.heap.size w w'

set_option maxRecDepth 100000 in
set_option maxHeartbeats 1000000 in
theorem copyown_any (a : Ac) (A : Option Addr) (k c : Nat) (w : World) (ha : Ints w A k a.h) (hk : k * 8 ≤ 140737488351232) (hnil : A = none → c = 0) :
    Calls Try.prog 26 #[.agg (accC a A k c)] w (CopyOut a w) := by
  have HAH := Lib.hid ha
  have hB2 : Below w.heap.size w ((w.alloc (.cells (accC a A k c) 29)).alloc (.cells (accC zeroAc none 0 0) 29)) := below_alloc ((Below.refl _ _).alloc (Nat.le_refl _) _) (Nat.le_refl _) _
  go_enter Try.func26, Try.ntmps26
  go_upto_region 1 with fail
  generalize hw0 : (w.alloc (.cells (accC a A k c) 29)).alloc (.cells #[.int .i64 0, .int .i64 0, .int .i64 0, .int .i64 0, .int .i64 0, .int .i64 0, .int .i64 0, .int .i64 0, .int .i64 0, .int .i64 0, .int .i64 0, .int .i64 0, .slice none 0 0] 29) = w1
  have HS : Hid (CpS w a A k c w1) := by
    rw [← hw0]
    exact ⟨heap_alloc2_old _ _ _, heap_alloc2_new _ _ _, hB2⟩
  clear hB2 hw0
  have hc : ∀ ob, (w1.alloc ob).cell? ⟨w.heap.size, 12, none⟩ = some (.slice A k c) := fun ob => (HS.out.box.alloc ob).cell 12
  have hm : ∀ wn : World, Below w1.heap.size (w1.alloc (.cells #[] 3)) wn → wn.frozen? ⟨w.heap.size, 12, none⟩ = false := fun wn hb => ((HS.out.box.alloc _).below hb HS.out.box.lt).mark 12
  have hsz := HS.out.res.lt
  go_wp2_with (first
    | (refine app_intsA rfl _ _ rfl rfl (own_empty w1) rfl ((HAH.out.below HS.out.keep).below ((Below.refl _ _).alloc (Nat.le_refl _) _)) hnil hk (by simp) ?_; intro A2 c2 wn hwn hbn; have hmn := hm wn hbn; clear hc hm; have HS2 := Lib.hid (HS.out.below (((Below.refl _ _).alloc (Nat.le_refl _) _).trans hbn)); have HWN := Lib.hid hwn; have hcn : wn.cell? ⟨w.heap.size, 12, none⟩ = some (.slice A k c) := HS2.out.box.cell 12; clear hwn hbn)
    | (refine load_acG _ rfl rfl _ rfl (show Has (wn.setCell ⟨w.heap.size, 12, none⟩ (.slice A2 k c2)) w.heap.size 29 (accC a A2 k c2) from HS2.out.box.put 12 _) ?_)
    | (refine wpList_store_row rfl 29 _ _ rfl (w.heap.size + 1) (accC a A2 k c2) rfl rfl 29 _ (HS2.out.res.putFar (show w.heap.size + 1 ≠ (⟨w.heap.size, 12, none⟩ : Addr).block by simp) _) Try.sizeAcc rfl (accC_one _ _ _ _) ?_))
  have hres := (HS2.out.res.putFar (show w.heap.size + 1 ≠ (⟨w.heap.size, 12, none⟩ : Addr).block by simp) (.slice A2 k c2)).row (accC a A2 k c2)
  have hfin := (HWN.out.put (show w.heap.size < w1.heap.size by omega) 12 (.slice A2 k c2)).row hsz (accC a A2 k c2)
  refine bodyPost_ret (ret_row1 rfl _ _ _ 29 (accC a A2 k c2) _ rfl hres Try.underlying29 rfl (by exact Try.sizeAcc)) rfl ?_
  exact ⟨A2, k, c2, rfl, hfin.mono (by omega), below_row (HS2.out.keep.setCell (Nat.le_refl _) _) (by omega) _⟩

set_option maxRecDepth 100000 in
set_option maxHeartbeats 1000000 in
theorem rcopyown_any (a : Ac) (A : Option Addr) (k c : Nat) (w : World) (ha : Ints w A k a.h) (hk : k * 8 ≤ 140737488351232) (hnil : A = none → c = 0) :
    Calls Try.prog 45 #[.agg (accC a A k c)] w (CopyOut a w) := by
  have HAH := Lib.hid ha
  have hB2 : Below w.heap.size w ((w.alloc (.cells (accC a A k c) 29)).alloc (.cells (accC zeroAc none 0 0) 29)) := below_alloc ((Below.refl _ _).alloc (Nat.le_refl _) _) (Nat.le_refl _) _
  go_enter Try.func45, Try.ntmps45
  go_upto_region 1 with fail
  generalize hw0 : (w.alloc (.cells (accC a A k c) 29)).alloc (.cells #[.int .i64 0, .int .i64 0, .int .i64 0, .int .i64 0, .int .i64 0, .int .i64 0, .int .i64 0, .int .i64 0, .int .i64 0, .int .i64 0, .int .i64 0, .int .i64 0, .slice none 0 0] 29) = w1
  have HS : Hid (CpS w a A k c w1) := by
    rw [← hw0]
    exact ⟨heap_alloc2_old _ _ _, heap_alloc2_new _ _ _, hB2⟩
  clear hB2 hw0
  have hc : ∀ ob, (w1.alloc ob).cell? ⟨w.heap.size, 12, none⟩ = some (.slice A k c) := fun ob => (HS.out.box.alloc ob).cell 12
  have hm : ∀ wn : World, Below w1.heap.size (w1.alloc (.cells #[] 3)) wn → wn.frozen? ⟨w.heap.size, 12, none⟩ = false := fun wn hb => ((HS.out.box.alloc _).below hb HS.out.box.lt).mark 12
  have hsz := HS.out.res.lt
  go_wp2_with (first
    | (refine app_intsA rfl _ _ rfl rfl (own_empty w1) rfl ((HAH.out.below HS.out.keep).below ((Below.refl _ _).alloc (Nat.le_refl _) _)) hnil hk (by simp) ?_; intro A2 c2 wn hwn hbn; have hmn := hm wn hbn; clear hc hm; have HS2 := Lib.hid (HS.out.below (((Below.refl _ _).alloc (Nat.le_refl _) _).trans hbn)); have HWN := Lib.hid hwn; have hcn : wn.cell? ⟨w.heap.size, 12, none⟩ = some (.slice A k c) := HS2.out.box.cell 12; clear hwn hbn)
    | (refine load_acG _ rfl rfl _ rfl (show Has (wn.setCell ⟨w.heap.size, 12, none⟩ (.slice A2 k c2)) w.heap.size 29 (accC a A2 k c2) from HS2.out.box.put 12 _) ?_)
    | (refine wpList_store_row rfl 29 _ _ rfl (w.heap.size + 1) (accC a A2 k c2) rfl rfl 29 _ (HS2.out.res.putFar (show w.heap.size + 1 ≠ (⟨w.heap.size, 12, none⟩ : Addr).block by simp) _) Try.sizeAcc rfl (accC_one _ _ _ _) ?_))
  have hres := (HS2.out.res.putFar (show w.heap.size + 1 ≠ (⟨w.heap.size, 12, none⟩ : Addr).block by simp) (.slice A2 k c2)).row (accC a A2 k c2)
  have hfin := (HWN.out.put (show w.heap.size < w1.heap.size by omega) 12 (.slice A2 k c2)).row hsz (accC a A2 k c2)
  refine bodyPost_ret (ret_row1 rfl _ _ _ 29 (accC a A2 k c2) _ rfl hres Try.underlying29 rfl (by exact Try.sizeAcc)) rfl ?_
  exact ⟨A2, k, c2, rfl, hfin.mono (by omega), below_row (HS2.out.keep.setCell (Nat.le_refl _) _) (by omega) _⟩

structure Rw where
  a : Ac
  A : Option Addr
  k : Nat
  c : Nat
def rowG (rs : List Rw) : List Value := rs.flatMap fun r => (accC r.a r.A r.k r.c).toList
theorem rowG_len (rs : List Rw) : (rowG rs).length = rs.length * 13 := by
  induction rs with
  | nil => rfl
  | cons p r ih =>
    have e : rowG (p :: r) = (accC p.a p.A p.k p.c).toList ++ rowG r := rfl
    rw [e, List.length_append, ih, accC_len, List.length_cons]; omega
theorem rowG_snoc (rs : List Rw) (r : Rw) : rowG (rs ++ [r]) = rowG rs ++ (accC r.a r.A r.k r.c).toList := by simp [rowG]
theorem rowG_at (rs : List Rw) {i j : Nat} (hi : i < rs.length) (hj : j < 13) : (rowG rs)[i * 13 + j]? = (accC (rs[i]).a (rs[i]).A (rs[i]).k (rs[i]).c).toList[j]? := by
  induction rs generalizing i with
  | nil => simp at hi
  | cons p r ih =>
    have e : rowG (p :: r) = (accC p.a p.A p.k p.c).toList ++ rowG r := rfl
    rw [e]
    cases i with
    | zero => rw [List.getElem?_append_left (by rw [accC_len]; omega)]; simp
    | succ i =>
      rw [List.getElem?_append_right (by rw [accC_len]; omega), accC_len, show (i + 1) * 13 + j - 13 = i * 13 + j by omega, ih (by simpa using hi)]
      simp
structure OwnG (w : World) (base : Nat) (v : Value) (rs : List Rw) : Prop where
  row : w.ownsRow base 29 13 v rs.length (rowG rs)
  hist : ∀ r, r ∈ rs → OwnI w 0 (.slice r.A r.k r.c) r.a.h
theorem OwnG.nil (w : World) (base : Nat) : OwnG w base (.slice none 0 0) [] := ⟨World.ownsRow_nil _ _ _ _, fun p hp => by cases hp⟩
theorem OwnG.below {w w' : World} {base : Nat} {v : Value} {rs : List Rw} (h : OwnG w base v rs) (hb : Below w.heap.size w w') : OwnG w' base v rs :=
  ⟨h.row.kept (row := none) ⟨hb.os, hb.tape, hb.output, hb.size, fun k hk _ => hb.block k hk⟩ (by
    cases e : v.ownBlock with
    | none => exact .inl rfl
    | some k => exact .inr (by simp)), fun p hp => (h.hist p hp).below hb⟩
theorem OwnG.form {w : World} {base : Nat} {v : Value} {rs : List Rw} (h : OwnG w base v rs) : ∃ A c, v = .slice A rs.length c ∧ (∀ ad, A = some ad → base ≤ ad.block) := by
  rcases h.row.2 with ⟨e, h0⟩ | ⟨g, cap, cur, e, hg, _⟩
  · exact ⟨none, 0, by rw [e, h0], fun ad h => by cases h⟩
  · exact ⟨some ⟨g, 0, none⟩, cap, e, fun ad h => by injection h with h; subst h; exact hg⟩
theorem OwnG.accs {w : World} {base : Nat} {A : Option Addr} {n c : Nat} {rs : List Rw} (h : OwnG w base (.slice A n c) rs) : Accs w A n (rs.map (·.a)) := by
  rcases h.row.2 with ⟨e, h0⟩ | ⟨g, cap, cur, e, hg, hh, hn, hc, hs, ht⟩
  · injection e with e1 e2 e3
    have : rs = [] := List.eq_nil_of_length_eq_zero h0
    subst this; subst e1; subst e2
    exact Accs.nil _ _
  · injection e with e1 e2 e3
    subst e1; subst e2; subst e3
    refine ⟨by simp, fun hpos => ⟨g, 0, rfl, fun i hi => ?_⟩⟩
    have hp : rs[i] ∈ rs := List.getElem_mem hi
    have en : nthA (rs.map (·.a)) i = (rs[i]).a := by simp [nthA, hi]
    have ho := h.hist _ hp
    refine ⟨(rs[i]).A, (rs[i]).k, (rs[i]).c, ?_, ?_, ho.caps.2.1, ho.caps.2.2⟩
    · rw [en]
      intro j v hv
      have hj : j < 13 := by have := (List.getElem?_eq_some_iff.1 hv).1; rwa [accC_len] at this
      rw [show 0 + i * 13 + j = i * 13 + j by omega, h.row.cellAt _ (by omega), rowG_at _ hi hj]
      exact hv
    · rw [en]
      exact ho.ints

/-- 's = append(s, a)' in a walk, a laid into a new row of one first, as many as memory bears. -/
theorem app_accG {ops : Array Oper} {rest : List Oper} {op : Oper} {p : Act} {w : World} {Q : Exit → Act → World → Prop} (hgd : op.guard = none) (s x : Operand)
    (ho : op.op = .call { callee := .builtin .append, args := #[s, x], argTypes := #[24, 24] })
    {base g : Nat} {v : Value} {rs : List Rw} {r : Rw} (hs : p.eval s = v) (hown : OwnG w base v rs) (hx : p.eval x = .slice (some ⟨g, 0, none⟩) 1 1) (hg : Has w g 29 (accC r.a r.A r.k r.c)) (hh : OwnI w 0 (.slice r.A r.k r.c) r.a.h)
    (hn : rs.length * 120 ≤ 140737488351232) (hbase : base ≤ w.heap.size)
    (h : ∀ v' w', OwnG w' base v' (rs ++ [r]) → Below base w w' → wpList Try.prog ops Q rest (p.put op.dst v') w') : wpList Try.prog ops Q (op :: rest) p w := by
  obtain ⟨i0, hi, hz, hs0, hy0⟩ := info_parts Try.infoAcc
  refine wpList_append_own w hgd s x 24 ho base 29 i0 _ 13 120 Try.underlying24 hi hz hs0 hy0 rfl (by omega) v rs.length (rowG rs) hs hown.row ⟨g, 0, none⟩ 1 1 (accC r.a r.A r.k r.c).toList hx rfl
    (fun j u hu => ?_) (fun u hu => ?_) (by unfold maxLen; omega) (by omega) hbase (fun v' w' h1 h2 _ => ?_)
  · rw [Addr.add_mid, hg.cell]
    simpa using hu
  · have := accC_one r.a r.A r.k r.c
    rw [Array.all_eq_true_iff_forall_mem] at this
    exact this u (by simpa using hu)
  · have hkeep : ∀ z : Rw, OwnI w 0 (.slice z.A z.k z.c) z.a.h → OwnI w' 0 (.slice z.A z.k z.c) z.a.h := fun z hz => by
      refine ⟨hz.1, ?_⟩
      rcases hz.2 with h0 | ⟨gz, cap, cur, e, hgz, hhz, rz⟩
      · exact .inl h0
      · refine .inr ⟨gz, cap, cur, e, hgz, ?_, rz⟩
        have hlt : gz < w.heap.size := Has.lt hhz
        refine (h2.block _ hlt (fun e2 => ?_)).trans hhz
        rcases hown.row.2 with ⟨ev, _⟩ | ⟨g', cap', cur', ev, _, hh', _⟩
        · rw [ev] at e2; cases e2
        · rw [ev] at e2
          injection e2 with e2
          have h3 : Has w gz 29 cur' := by rw [e2]; exact hh'
          exact has_types (show Has w gz 3 cur from hhz) h3 (by decide)
    refine h v' w' ⟨by rw [rowG_snoc, List.length_append]; exact h1, fun q hq => ?_⟩ ⟨h2.os, h2.tape, h2.output, h2.size, fun k hk => h2.block k (by omega) (fun e => ?_)⟩
    · rcases List.mem_append.1 hq with hq | hq
      · exact hkeep q (hown.hist q hq)
      · obtain rfl : q = r := by simpa using hq
        exact hkeep q hh
    · have := hown.row.lt k e.symm
      omega

end Go.Proofs.Ytjmaeiilkbfnaaa
