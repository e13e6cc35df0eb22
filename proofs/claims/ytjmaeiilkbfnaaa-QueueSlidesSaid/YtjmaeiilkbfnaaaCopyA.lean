/-
  Walks: the laws' helpers CopyAcc and SpoilInts.
-/
import Derived.Test.YtjmaeiilkbfnaaaAppI
import Derived.Test.YtjmaeiilkbfnaaaRow
import Derived.Great.Walk
import Derived.Laws.AppendOwnNone
namespace Go.Proofs.Ytjmaeiilkbfnaaa
open Go.RowKit

set_option maxRecDepth 100000 in
/-- 's = append(s, ys...)' in a walk, s empty, ys nil or not, as many as memory bears. -/
theorem app_intsA {ops : Array Oper} {rest : List Oper} {op : Oper} {p : Act} {w : World} {Q : Exit → Act → World → Prop} (hgd : op.guard = none) (s x : Operand)
    (ho : op.op = .call { callee := .builtin .append, args := #[s, x], argTypes := #[25, 25] })
    {base n c : Nat} {A : Option Addr} {v : Value} {ys : List Int} (hs : p.eval s = v) (hown : OwnI w base v []) (hx : p.eval x = .slice A n c) (hy : Ints w A n ys) (hnil : A = none → c = 0)
    (hn : n * 8 ≤ 140737488351232) (hbase : base ≤ w.heap.size)
    (h : ∀ A' c' w', OwnI w' base (.slice A' n c') ys → Below base w w' → wpList Try.prog ops Q rest (p.put op.dst (.slice A' n c')) w') : wpList Try.prog ops Q (op :: rest) p w := by
  obtain ⟨i0, hi, hz, hs0, hy0⟩ := info_parts Try.infoInt
  have hl := hy.1
  cases A with
  | none =>
    have hn0 : n = 0 := by
      rcases Nat.eq_zero_or_pos n with h0 | h0
      · exact h0
      · obtain ⟨b, o, e, _⟩ := hy.at_ h0
        cases e
    subst hn0
    have hc := hnil rfl
    subst hc
    obtain rfl : ys = [] := List.eq_nil_of_length_eq_zero hl
    obtain ⟨A', c', e, _⟩ := hown.form
    subst e
    exact wpList_append_own_none hgd s x 25 ho base 3 i0 1 Try.underlying25 hi _ 0 [] hs hown hx (h A' c' w hown (Below.refl _ _))
  | some ad =>
    refine wpList_append_own w hgd s x 25 ho base 3 i0 _ 1 8 Try.underlying25 hi hz hs0 hy0 rfl (by omega) v 0 [] hs hown ad n c (intL ys) hx (by simp [intL, hl])
      (fun j u hu => ?_) (fun u hu => ?_) (by unfold maxLen; omega) (by omega) hbase (fun v' w' h1 h2 _ => ?_)
    · have hj : j < n := by have := (List.getElem?_eq_some_iff.1 hu).1; simpa [intL, hl] using this
      obtain ⟨b, o, e, hc⟩ := hy.at_ (k := 0) (by omega)
      injection e with e
      subst e
      rw [Addr.add_mid, hc j hj, ← hu]
      simp [intL, nth, hl, hj]
    · obtain ⟨z, _, rfl⟩ := List.mem_map.1 hu
      rfl
    · have h3 : OwnI w' base v' ys := by unfold OwnI; rw [hl]; simpa using h1
      obtain ⟨A, c', rfl, _⟩ := h3.form
      rw [hl] at h3 ⊢
      refine h A c' w' h3 ⟨h2.os, h2.tape, h2.output, h2.size, fun k hk => h2.block k (by omega) (fun e => ?_)⟩
      have := World.ownsRow.lt hown k e.symm
      omega
theorem OwnI.put {w : World} {base g : Nat} {v : Value} {xs : List Int} (h : OwnI w base v xs) (hg : g < base) (i : Nat) (u : Value) : OwnI (w.setCell ⟨g, i, none⟩ u) base v xs :=
  World.ownsRow.kept h (row := some g) ⟨rfl, rfl, rfl, by simp, fun k hk hne => heap_setCell_other w _ k _ (fun e => hne (by rw [e]))⟩ (by
    cases e : v.ownBlock with
    | none => exact .inl rfl
    | some k =>
      refine .inr (fun e2 => ?_)
      obtain ⟨A, c, rfl, _, _, h3⟩ := h.form
      cases A with
      | none => simp [Value.ownBlock] at e
      | some ad =>
        simp [Value.ownBlock] at e
        have := h3 ad rfl
        injection e2 with e2
        omega)

/-- A slice of integers that may be written. -/
structure SpS (w : World) (base g n : Nat) (wr : World) : Prop where
  cells : ∃ t cs, Has wr g t cs ∧ ∀ i, i < n → ∃ z, cs[i]? = some (.int .i64 z)
  keep : Below base w wr
  far : base ≤ g

set_option maxRecDepth 100000 in
set_option maxHeartbeats 1000000 in
theorem spoil_any (A : Option Addr) (n c : Nat) (xs : List Int) (base : Nat) (w : World) (ho : OwnI w base (.slice A n c) xs) (hn : n ≤ maxLen) :
    Calls Try.prog 17 #[.slice A n c] w fun e w' => e = .returned (.tuple #[]) ∧ Below base w w' := by
  unfold maxLen at hn
  go_enter Try.func17, Try.ntmps17
  by_cases h0 : n = 0
  · subst h0
    go_wp2
    refine wp_loop_rounds 1 ?_; rw [rounds_succ]
    go_wp2
    exact Great.bodyPost_end0 rfl rfl ⟨rfl, Below.refl _ _⟩
  · have hS : ∃ g, A = some ⟨g, 0, none⟩ ∧ SpS w base g n w := by
      have hints := ho.ints
      obtain ⟨b, o, e, hc⟩ := hints.at_ (k := 0) (by omega)
      rcases ho.2 with ⟨e1, h1⟩ | ⟨g, cap, cur, e1, hg, hh, hn1, hc1, hs1, _⟩
      · injection e1 with e2 e3 e4
        omega
      · injection e1 with e2 e3 e4
        subst e2
        refine ⟨g, rfl, ⟨3, cur, hh, fun i hi => ⟨nth xs i, ?_⟩⟩, Below.refl _ _, hg⟩
        injection e with e
        injection e with e5 e6
        subst e5 e6
        have := hc i hi
        rw [Nat.zero_add] at this
        rw [← Has.cell (g := g) (w := w) hh i]; exact this
    obtain ⟨g, rfl, hS⟩ := hS
    clear ho
    have HS := Lib.hid hS; clear hS
    go_wp2_with fail
    go_loopw [2] (fun i wr => ∃ j : Nat, j ≤ n ∧ i = .int .i64 j ∧ Hid (SpS w base g n wr)) (fun i _ => n - (intOf i).toNat)
    case atStart => exact ⟨0, Nat.zero_le _, rfl, HS⟩
    case round =>
      clear HS
      obtain ⟨j, hj, rfl, HS⟩ := hrel
      by_cases hlt : j < n
      · obtain ⟨t, cs, hh, hz⟩ := HS.out.cells
        obtain ⟨z, hz1⟩ := hz j hlt
        have hcell : wr.cell? ⟨g, j, none⟩ = some (.int .i64 z) := (hh.cell j).trans hz1
        have hmark := hh.mark j
        have hjn : (j : Int) < (n : Int) := by omega
        have HZ := Lib.hid hz; clear hz
        have HH := Lib.hid hh; clear hh
        have HZ1 := Lib.hid hz1; clear hz1
        go_wp2_with fail
        go_roundw
        case rel =>
          refine ⟨j + 1, by omega, by go_num, ⟨t, _, HH.out.put j _, fun i hi => ?_⟩, HS.out.keep.setCell HS.out.far _, HS.out.far⟩
          by_cases e : j = i
          · subst e
            have hl : j < cs.size := (Array.getElem?_eq_some_iff.1 HZ1.out).1
            exact ⟨_, by rw [Array.getElem?_setIfInBounds_self_of_lt hl]⟩
          · obtain ⟨z2, hz2⟩ := HZ.out i hi
            exact ⟨z2, by rw [Array.getElem?_setIfInBounds_ne e]; exact hz2⟩
        case measure => simp [intOf]; omega
      · have hjn : j = n := by omega
        subst hjn
        go_wp2
        exact Great.bodyPost_end0 rfl rfl ⟨rfl, HS.out.keep⟩

/-- The load of a whole aggregate, the operation asked first. -/
theorem load_acG {ops : Array Oper} {rest : List Oper} {op : Oper} {p : Act} {w : World} {Q : Exit → Act → World → Prop} (x : Operand) (ho : op.op = .load 29 x) (hgd : op.guard = none)
    (g : Nat) (hx : p.eval x = .pointer (some ⟨g, 0, none⟩)) {ac : Ac} {A : Option Addr} {k c : Nat} (hc : Has w g 29 (accC ac A k c))
    (h : wpList Try.prog ops Q rest (p.put op.dst (.agg (accC ac A k c))) w) : wpList Try.prog ops Q (op :: rest) p w := load_has hgd x ho g hx hc h
/-- The aggregate that came in, and the one that is handed out, each in a variable. -/
structure CpS (w : World) (a : Ac) (A : Option Addr) (k c : Nat) (wr : World) : Prop where
  box : Has wr w.heap.size 29 (accC a A k c)
  res : Has wr (w.heap.size + 1) 29 (accC zeroAc none 0 0)
  keep : Below w.heap.size w wr
theorem CpS.below {w : World} {a : Ac} {A : Option Addr} {k c : Nat} {wr wy : World} (h : CpS w a A k c wr) (hb : Below wr.heap.size wr wy) : CpS w a A k c wy :=
  ⟨h.box.below hb h.box.lt, h.res.below hb h.res.lt, h.keep.trans (hb.mono h.keep.size)⟩

set_option maxRecDepth 100000 in
set_option maxHeartbeats 1000000 in
theorem copyacc_any (a : Ac) (A : Option Addr) (k c : Nat) (w : World) (ha : Ints w A k a.h) (hk : k * 8 ≤ 140737488351232) (hnil : A = none → c = 0) :
    Calls Try.prog 26 #[.agg (accC a A k c)] w (FoldAcc a w) := by
  have HAH := Lib.hid ha
  have hB2 : Below w.heap.size w ((w.alloc (.cells (accC a A k c) 29)).alloc (.cells (accC zeroAc none 0 0) 29)) := below_alloc ((Below.refl _ _).alloc (Nat.le_refl _) _) (Nat.le_refl _) _
  go_enter Try.func26, Try.ntmps26
  go_upto_region 1 with fail
  generalize hw0 : (w.alloc (.cells (accC a A k c) 29)).alloc (.cells #[.int .i64 0, .int .i64 0, .int .i64 0, .int .i64 0, .int .i64 0, .int .i64 0, .int .i64 0, .int .i64 0, .int .i64 0, .int .i64 0, .int .i64 0, .int .i64 0, .slice none 0 0] 29) = w1
  have HS : Hid (CpS w a A k c w1) := by
    rw [← hw0]
    exact ⟨heap_alloc2_old _ _ _, heap_alloc2_new _ _ _, hB2⟩
  clear hB2 hw0
  have hc : ∀ ob, (w1.alloc ob).cell? ⟨w.heap.size, 12, none⟩ = some (.slice A k c) := fun ob => (HS.out.box.alloc ob).cell 12
  have hm : ∀ wn : World, Below w1.heap.size (w1.alloc (.cells #[] 3)) wn → wn.frozen? ⟨w.heap.size, 12, none⟩ = false := fun wn hb => ((HS.out.box.alloc _).below hb HS.out.box.lt).mark 12
  have hsz := HS.out.res.lt
  go_wp2_with (first
    | (refine app_intsA rfl _ _ rfl rfl (own_empty w1) rfl ((HAH.out.below HS.out.keep).below ((Below.refl _ _).alloc (Nat.le_refl _) _)) hnil hk (by simp) ?_; intro A2 c2 wn hwn hbn; have hmn := hm wn hbn; clear hc hm; have HS2 := Lib.hid (HS.out.below (((Below.refl _ _).alloc (Nat.le_refl _) _).trans hbn)); have HWN := Lib.hid hwn; have hcn : wn.cell? ⟨w.heap.size, 12, none⟩ = some (.slice A k c) := HS2.out.box.cell 12; clear hwn hbn)
    | (refine load_acG _ rfl rfl _ rfl (show Has (wn.setCell ⟨w.heap.size, 12, none⟩ (.slice A2 k c2)) w.heap.size 29 (accC a A2 k c2) from HS2.out.box.put 12 _) ?_)
    | (refine wpList_store_row rfl 29 _ _ rfl (w.heap.size + 1) (accC a A2 k c2) rfl rfl 29 _ (HS2.out.res.putFar (show w.heap.size + 1 ≠ (⟨w.heap.size, 12, none⟩ : Addr).block by simp) _) Try.sizeAcc rfl (accC_one _ _ _ _) ?_))
  have hres := (HS2.out.res.putFar (show w.heap.size + 1 ≠ (⟨w.heap.size, 12, none⟩ : Addr).block by simp) (.slice A2 k c2)).row (accC a A2 k c2)
  obtain ⟨_, _, e3, h3, h4, _⟩ := HWN.out.form
  injection e3 with e4 e5 e6
  subst e4 e6
  have hfin := (HWN.out.put (show w.heap.size < w1.heap.size by omega) 12 (.slice A2 k c2)).row hsz (accC a A2 k c2)
  refine bodyPost_ret (ret_row1 rfl _ _ _ 29 (accC a A2 k c2) _ rfl hres Try.underlying29 rfl (by exact Try.sizeAcc)) rfl ?_
  exact ⟨A2, k, c2, rfl, ⟨hfin.ints, by rw [e5]; exact h3, h4, fun ad e => Nat.le_trans (by omega) (hfin.new ad e)⟩, below_row (HS2.out.keep.setCell (Nat.le_refl _) _) (by omega) _⟩

end Go.Proofs.Ytjmaeiilkbfnaaa
