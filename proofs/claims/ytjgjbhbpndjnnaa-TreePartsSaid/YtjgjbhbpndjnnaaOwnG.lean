/-
  Rows of aggregates that the call owns, each with buckets of its own, room behind them or not; the laws' helper CopyAccs.
-/
import Derived.Test.YtjgjbhbpndjnnaaG46
import Derived.Test.YtjgjbhbpndjnnaaG24
namespace Go.Proofs.Ytjgjbhbpndjnnaa
open Go.RowKit

/-- The call hands out this aggregate, its buckets its own. -/
def CopyOut (a : Ac) (w : World) (e : Ending) (w' : World) : Prop :=
  ∃ A n c, e = .returned (accV a A n c) ∧ OwnI w' w.heap.size (.slice A n c) a.h ∧ Below w.heap.size w w'

set_option maxRecDepth 100000 in
set_option maxHeartbeats 1000000 in
theorem copyown_any (a : Ac) (A : Option Addr) (k c : Nat) (w : World) (ha : Ints w A k a.h) (hk : k * 8 ≤ 140737488351232) (hnil : A = none → c = 0) :
    Calls Try.prog 39 #[.agg (accC a A k c)] w (CopyOut a w) := by
  have HAH := Lib.hid ha
  have hB2 : Below w.heap.size w ((w.alloc (.cells (accC a A k c) 29)).alloc (.cells (accC zeroAc none 0 0) 29)) := below_alloc ((Below.refl _ _).alloc (Nat.le_refl _) _) (Nat.le_refl _) _
  go_enter Try.func39, Try.ntmps39
  go_upto_region 1 with fail
  generalize hw0 : (w.alloc (.cells (accC a A k c) 29)).alloc (.cells #[.int .i64 0, .int .i64 0, .int .i64 0, .int .i64 0, .int .i64 0, .int .i64 0, .int .i64 0, .int .i64 0, .int .i64 0, .int .i64 0, .int .i64 0, .int .i64 0, .slice none 0 0] 29) = w1
  have HS : Hid (CpS w a A k c w1) := by
    rw [← hw0]
    exact ⟨heap_alloc2_old _ _ _, heap_alloc2_new _ _ _, hB2⟩
  clear hB2 hw0
  have hc : ∀ ob, (w1.alloc ob).cell? ⟨w.heap.size, 12, none⟩ = some (.slice A k c) := fun ob => (HS.out.box.alloc ob).cell 12
  have hm : ∀ wn : World, Below w1.heap.size (w1.alloc (.cells #[] 3)) wn → wn.frozen? ⟨w.heap.size, 12, none⟩ = false := fun wn hb => ((HS.out.box.alloc _).below hb HS.out.box.lt).mark 12
  have hsz := HS.out.res.lt
  go_wp2_with (first
    | (refine app_intsA rfl _ _ rfl rfl (own_empty w1) rfl ((HAH.out.below HS.out.keep).below ((Below.refl _ _).alloc (Nat.le_refl _) _)) hnil hk (by simp) ?_; intro A2 c2 wn hwn hbn; have hmn := hm wn hbn; clear hc hm; have HS2 := Lib.hid (HS.out.below (((Below.refl _ _).alloc (Nat.le_refl _) _).trans hbn)); have HWN := Lib.hid hwn; have hcn : wn.cell? ⟨w.heap.size, 12, none⟩ = some (.slice A k c) := HS2.out.box.cell 12; clear hwn hbn)
    | (refine load_acG _ rfl rfl _ rfl (show Has (wn.setCell ⟨w.heap.size, 12, none⟩ (.slice A2 k c2)) w.heap.size 29 (accC a A2 k c2) from HS2.out.box.put 12 _) ?_)
    | (refine wpList_store_row rfl 29 _ _ rfl (w.heap.size + 1) (accC a A2 k c2) rfl rfl 29 _ (HS2.out.res.putFar (show w.heap.size + 1 ≠ (⟨w.heap.size, 12, none⟩ : Addr).block by simp) _) Try.sizeAcc rfl (accC_one _ _ _ _) ?_))
  have hres := (HS2.out.res.putFar (show w.heap.size + 1 ≠ (⟨w.heap.size, 12, none⟩ : Addr).block by simp) (.slice A2 k c2)).row (accC a A2 k c2)
  have hfin := (HWN.out.put (show w.heap.size < w1.heap.size by omega) 12 (.slice A2 k c2)).row (HS2.out.res.putFar (show w.heap.size + 1 ≠ (⟨w.heap.size, 12, none⟩ : Addr).block by simp) (.slice A2 k c2)) (by decide) (accC a A2 k c2)
  refine bodyPost_ret (ret_row1 rfl _ _ _ 29 (accC a A2 k c2) _ rfl hres Try.underlying29 rfl (by exact Try.sizeAcc)) rfl ?_
  exact ⟨A2, k, c2, rfl, hfin.mono (by omega), below_row (HS2.out.keep.setCell (Nat.le_refl _) _) (by omega) _⟩

set_option maxRecDepth 100000 in
set_option maxHeartbeats 1000000 in
theorem rcopyown_any (a : Ac) (A : Option Addr) (k c : Nat) (w : World) (ha : Ints w A k a.h) (hk : k * 8 ≤ 140737488351232) (hnil : A = none → c = 0) :
    Calls Try.prog 49 #[.agg (accC a A k c)] w (CopyOut a w) := by
  have HAH := Lib.hid ha
  have hB2 : Below w.heap.size w ((w.alloc (.cells (accC a A k c) 29)).alloc (.cells (accC zeroAc none 0 0) 29)) := below_alloc ((Below.refl _ _).alloc (Nat.le_refl _) _) (Nat.le_refl _) _
  go_enter Try.func49, Try.ntmps49
  go_upto_region 1 with fail
  generalize hw0 : (w.alloc (.cells (accC a A k c) 29)).alloc (.cells #[.int .i64 0, .int .i64 0, .int .i64 0, .int .i64 0, .int .i64 0, .int .i64 0, .int .i64 0, .int .i64 0, .int .i64 0, .int .i64 0, .int .i64 0, .int .i64 0, .slice none 0 0] 29) = w1
  have HS : Hid (CpS w a A k c w1) := by
    rw [← hw0]
    exact ⟨heap_alloc2_old _ _ _, heap_alloc2_new _ _ _, hB2⟩
  clear hB2 hw0
  have hc : ∀ ob, (w1.alloc ob).cell? ⟨w.heap.size, 12, none⟩ = some (.slice A k c) := fun ob => (HS.out.box.alloc ob).cell 12
  have hm : ∀ wn : World, Below w1.heap.size (w1.alloc (.cells #[] 3)) wn → wn.frozen? ⟨w.heap.size, 12, none⟩ = false := fun wn hb => ((HS.out.box.alloc _).below hb HS.out.box.lt).mark 12
  have hsz := HS.out.res.lt
  go_wp2_with (first
    | (refine app_intsA rfl _ _ rfl rfl (own_empty w1) rfl ((HAH.out.below HS.out.keep).below ((Below.refl _ _).alloc (Nat.le_refl _) _)) hnil hk (by simp) ?_; intro A2 c2 wn hwn hbn; have hmn := hm wn hbn; clear hc hm; have HS2 := Lib.hid (HS.out.below (((Below.refl _ _).alloc (Nat.le_refl _) _).trans hbn)); have HWN := Lib.hid hwn; have hcn : wn.cell? ⟨w.heap.size, 12, none⟩ = some (.slice A k c) := HS2.out.box.cell 12; clear hwn hbn)
    | (refine load_acG _ rfl rfl _ rfl (show Has (wn.setCell ⟨w.heap.size, 12, none⟩ (.slice A2 k c2)) w.heap.size 29 (accC a A2 k c2) from HS2.out.box.put 12 _) ?_)
    | (refine wpList_store_row rfl 29 _ _ rfl (w.heap.size + 1) (accC a A2 k c2) rfl rfl 29 _ (HS2.out.res.putFar (show w.heap.size + 1 ≠ (⟨w.heap.size, 12, none⟩ : Addr).block by simp) _) Try.sizeAcc rfl (accC_one _ _ _ _) ?_))
  have hres := (HS2.out.res.putFar (show w.heap.size + 1 ≠ (⟨w.heap.size, 12, none⟩ : Addr).block by simp) (.slice A2 k c2)).row (accC a A2 k c2)
  have hfin := (HWN.out.put (show w.heap.size < w1.heap.size by omega) 12 (.slice A2 k c2)).row (HS2.out.res.putFar (show w.heap.size + 1 ≠ (⟨w.heap.size, 12, none⟩ : Addr).block by simp) (.slice A2 k c2)) (by decide) (accC a A2 k c2)
  refine bodyPost_ret (ret_row1 rfl _ _ _ 29 (accC a A2 k c2) _ rfl hres Try.underlying29 rfl (by exact Try.sizeAcc)) rfl ?_
  exact ⟨A2, k, c2, rfl, hfin.mono (by omega), below_row (HS2.out.keep.setCell (Nat.le_refl _) _) (by omega) _⟩

structure Rw where
  a : Ac
  A : Option Addr
  k : Nat
  c : Nat
def rowG (rs : List Rw) : List Value := rs.flatMap fun r => (accC r.a r.A r.k r.c).toList
theorem rowG_len (rs : List Rw) : (rowG rs).length = rs.length * 13 := by
  induction rs with
  | nil => rfl
  | cons p r ih =>
    have e : rowG (p :: r) = (accC p.a p.A p.k p.c).toList ++ rowG r := rfl
    rw [e, List.length_append, ih, accC_len, List.length_cons]; omega
theorem rowG_snoc (rs : List Rw) (r : Rw) : rowG (rs ++ [r]) = rowG rs ++ (accC r.a r.A r.k r.c).toList := by simp [rowG]
theorem rowG_at (rs : List Rw) {i j : Nat} (hi : i < rs.length) (hj : j < 13) : (rowG rs)[i * 13 + j]? = (accC (rs[i]).a (rs[i]).A (rs[i]).k (rs[i]).c).toList[j]? := by
  induction rs generalizing i with
  | nil => simp at hi
  | cons p r ih =>
    have e : rowG (p :: r) = (accC p.a p.A p.k p.c).toList ++ rowG r := rfl
    rw [e]
    cases i with
    | zero => rw [List.getElem?_append_left (by rw [accC_len]; omega)]; simp
    | succ i =>
      rw [List.getElem?_append_right (by rw [accC_len]; omega), accC_len, show (i + 1) * 13 + j - 13 = i * 13 + j by omega, ih (by simpa using hi)]
      simp
structure OwnG (w : World) (base : Nat) (v : Value) (rs : List Rw) : Prop where
  row : w.ownsRow base 29 13 v rs.length (rowG rs)
  hist : ∀ r, r ∈ rs → OwnI w 0 (.slice r.A r.k r.c) r.a.h
theorem OwnG.nil (w : World) (base : Nat) : OwnG w base (.slice none 0 0) [] := ⟨World.ownsRow_nil _ _ _ _, fun p hp => by cases hp⟩
theorem OwnG.below {w w' : World} {base : Nat} {v : Value} {rs : List Rw} (h : OwnG w base v rs) (hb : Below w.heap.size w w') : OwnG w' base v rs :=
  ⟨h.row.kept (row := none) ⟨hb.os, hb.tape, hb.output, hb.size, fun k hk _ => hb.block k hk⟩ (by
    cases e : v.ownBlock with
    | none => exact .inl rfl
    | some k => exact .inr (by simp)), fun p hp => (h.hist p hp).below hb⟩
theorem OwnG.form {w : World} {base : Nat} {v : Value} {rs : List Rw} (h : OwnG w base v rs) : ∃ A c, v = .slice A rs.length c ∧ (∀ ad, A = some ad → base ≤ ad.block) := by
  rcases h.row.2 with ⟨e, h0⟩ | ⟨g, cap, cur, e, hg, _⟩
  · exact ⟨none, 0, by rw [e, h0], fun ad h => by cases h⟩
  · exact ⟨some ⟨g, 0, none⟩, cap, e, fun ad h => by injection h with h; subst h; exact hg⟩
theorem OwnG.accs {w : World} {base : Nat} {A : Option Addr} {n c : Nat} {rs : List Rw} (h : OwnG w base (.slice A n c) rs) : Accs w A n (rs.map (·.a)) := by
  rcases h.row.2 with ⟨e, h0⟩ | ⟨g, cap, cur, e, hg, hh, hn, hc, hs, ht⟩
  · injection e with e1 e2 e3
    have : rs = [] := List.eq_nil_of_length_eq_zero h0
    subst this; subst e1; subst e2
    exact Accs.nil _ _
  · injection e with e1 e2 e3
    subst e1; subst e2; subst e3
    refine ⟨by simp, fun hpos => ⟨g, 0, rfl, fun i hi => ?_⟩⟩
    have hp : rs[i] ∈ rs := List.getElem_mem hi
    have en : nthA (rs.map (·.a)) i = (rs[i]).a := by simp [nthA, hi]
    have ho := h.hist _ hp
    refine ⟨(rs[i]).A, (rs[i]).k, (rs[i]).c, ?_, ?_, ho.caps.2.1, ho.caps.2.2⟩
    · rw [en]
      intro j v hv
      have hj : j < 13 := by have := (List.getElem?_eq_some_iff.1 hv).1; rwa [accC_len] at this
      rw [show 0 + i * 13 + j = i * 13 + j by omega, h.row.cellAt _ (by omega), rowG_at _ hi hj]
      exact hv
    · rw [en]
      exact ho.ints

/-- 's = append(s, a)' in a walk, a laid into a new row of one first, as many as memory bears. -/
theorem app_accG {ops : Array Oper} {rest : List Oper} {op : Oper} {p : Act} {w : World} {Q : Exit → Act → World → Prop} (hgd : op.guard = none) (s x : Operand)
    (ho : op.op = .call { callee := .builtin .append, args := #[s, x], argTypes := #[24, 24] })
    {base g : Nat} {v : Value} {rs : List Rw} {r : Rw} (hs : p.eval s = v) (hown : OwnG w base v rs) (hx : p.eval x = .slice (some ⟨g, 0, none⟩) 1 1) (hg : Has w g 29 (accC r.a r.A r.k r.c)) (hh : OwnI w 0 (.slice r.A r.k r.c) r.a.h)
    (hn : rs.length * 120 ≤ 140737488351232) (hbase : base ≤ w.heap.size)
    (h : ∀ v' w', OwnG w' base v' (rs ++ [r]) → Below base w w' → wpList Try.prog ops Q rest (p.put op.dst v') w') : wpList Try.prog ops Q (op :: rest) p w := by
  obtain ⟨i0, hi, hz, hs0, hy0⟩ := info_parts Try.infoAcc
  refine wpList_append_own w hgd s x 24 ho base 29 i0 _ 13 120 Try.underlying24 hi hz hs0 hy0 rfl (by omega) v rs.length (rowG rs) hs hown.row ⟨g, 0, none⟩ 1 1 (accC r.a r.A r.k r.c).toList hx rfl
    (fun j u hu => ?_) (fun u hu => ?_) (by unfold maxLen; omega) (by omega) hbase (fun v' w' h1 h2 _ => ?_)
  · rw [Addr.add_mid, hg.cell]
    simpa using hu
  · have := accC_one r.a r.A r.k r.c
    rw [Array.all_eq_true_iff_forall_mem] at this
    exact this u (by simpa using hu)
  · have hkeep : ∀ z : Rw, OwnI w 0 (.slice z.A z.k z.c) z.a.h → OwnI w' 0 (.slice z.A z.k z.c) z.a.h := fun z hz => by
      refine ⟨hz.1, ?_⟩
      rcases hz.2 with h0 | ⟨gz, cap, cur, e, hgz, hhz, rz⟩
      · exact .inl h0
      · refine .inr ⟨gz, cap, cur, e, hgz, ?_, rz⟩
        have hlt : gz < w.heap.size := Has.lt hhz
        refine (h2.block _ hlt (fun e2 => ?_)).trans hhz
        rcases hown.row.2 with ⟨ev, _⟩ | ⟨g', cap', cur', ev, _, hh', _⟩
        · rw [ev] at e2; cases e2
        · rw [ev] at e2
          injection e2 with e2
          have h3 : Has w gz 29 cur' := by rw [e2]; exact hh'
          exact has_types (show Has w gz 3 cur from hhz) h3 (by decide)
    refine h v' w' ⟨by rw [rowG_snoc, List.length_append]; exact h1, fun q hq => ?_⟩ ⟨h2.os, h2.tape, h2.output, h2.size, fun k hk => h2.block k (by omega) (fun e => ?_)⟩
    · rcases List.mem_append.1 hq with hq | hq
      · exact hkeep q (hown.hist q hq)
      · obtain rfl : q = r := by simpa using hq
        exact hkeep q hh
    · have := hown.row.lt k e.symm
      omega

end Go.Proofs.Ytjgjbhbpndjnnaa
