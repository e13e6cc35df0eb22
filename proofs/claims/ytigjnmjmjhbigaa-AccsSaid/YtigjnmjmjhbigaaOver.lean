/-
  Walk: LowOver: sums up to MaxSum are told, sums beyond it are over.
-/
import Derived.Test.YtigjnmjmjhbigaaAwake2
namespace Go.Proofs.Ytigjnmjmjhbigaa
open Go.RowKit

set_option maxRecDepth 100000 in
set_option maxHeartbeats 1000000 in
theorem sameOut_true (v : Int) (o : Bool) (hs : List Int) (A B : Option Addr) (n c d : Nat) (w : World) (ha : Ints w A n hs) (hb : Ints w B n hs) (hn : n ≤ maxLen) :
    Calls Try.prog 30 #[.agg #[.int .i64 v, .bool o, .slice A n c], .agg #[.int .i64 v, .bool o, .slice B n d]] w fun e w' => e = .returned (.bool true) ∧ Below w.heap.size w w' := by
  have hbox : ∀ o o', Below w.heap.size w ((w.alloc o).alloc o') := fun o o' => below_alloc ((Below.refl _ _).alloc (Nat.le_refl _) o) (Nat.le_refl _) o'
  have HBOX := Lib.hid hbox; clear hbox
  cases o
  all_goals
    go_enter Try.func30, Try.ntmps30
    go_wp2_with fail
    refine (sameInts_true A B n c d hs _ (ha.below (HBOX.out _ _)) (hb.below (HBOX.out _ _)) hn).mono ?_
    rintro e w2 ⟨rfl, k, rfl⟩
    go_wp2
    go_ret
    exact ⟨rfl, below_drewN (HBOX.out _ _) _⟩

def overA (k v : Int) : Ac := ⟨k, k * v, v, v, ⟨0, 1, 1, v⟩, ⟨0, 2, 2, v⟩, [k]⟩
theorem over_ask {k v : Int} (q : Qu) (hq : q.bs = [] ∧ q.rank = 0 ∧ q.agg ≠ 7) (h1 : 1 ≤ k) (h2 : k ≤ 2000) (h3 : -1099511627776 ≤ v) (h4 : v ≤ 1099511627776) : askB q (overA k v) = true := by
  have h0 : ¬ k = 0 := by omega
  have hi : itemB ⟨0, 1, 1, v⟩ = true := itemB_iff.2 (by simp only; omega)
  have hj : itemB ⟨0, 2, 2, v⟩ = true := itemB_iff.2 (by simp only; omega)
  have e1 : wi (overA k v).n 0 8192 = true := wi_mk (by simp only [overA]; omega)
  have e2 : histB (overA k v) 1 = true := decide_eq_true ⟨rfl, fun i hi => by
    obtain rfl : i = 0 := by simp [overA] at hi; exact hi
    simp only [overA, nth_cons_zero]; omega, by simp [overA, isum]⟩
  have e3 : endsB (overA k v) = true := decide_eq_true ⟨hi, hj, rfl, by simp [overA, beforeB]⟩
  have e4 : valsB (overA k v) = true := decide_eq_true (by simp only [overA]; omega)
  have e5 : accB (overA k v) [] = true := by
    unfold accB fitB
    rw [show boundsB [] = true by decide]
    have hn : ¬ (overA k v).n = 0 := h0
    have hl : (([] : List Int).length : Int) + 1 = 1 := rfl
    rw [hl, e1, e2, if_neg hn, e3, e4]
    rfl
  obtain ⟨q1, q2, q3⟩ := hq
  have e6 : wi q.rank 0 1000 = true := by rw [q2]; decide
  have e7 : decide (0 < (overA k v).n) = true := decide_eq_true (by simp only [overA]; omega)
  have e8 : decide (q.agg ≠ 7) = true := decide_eq_true q3
  unfold askB
  rw [q1, e5, e6, e7, e8]
  rfl

theorem over_sum (K V : Int) (gs : Nat) (ok1 : askB ⟨0, 1, 0, 0, [], 0⟩ (overA K V) = true) : ∃ (T : Int) (O : Bool), Hid (-1125899906842624 ≤ K * V ∧ K * V ≤ 1125899906842624 → T = K * V ∧ O = false) ∧ Hid (¬ (-1125899906842624 ≤ K * V ∧ K * V ≤ 1125899906842624) → T = 0 ∧ O = true) ∧
    ∀ W, Vg W (gs + 1) (overA K V) (some ⟨gs, 0, none⟩) 1 1 → Calls Try.prog 29 #[.agg (quC ⟨0, 1, 0, 0, [], 0⟩ none 0 0), .agg (accC (overA K V) (some ⟨gs, 0, none⟩) 1 1)] W (OkOut T O [] W) := by
  refine ⟨(if wi (overA K V).s (-1125899906842624) 1125899906842624 then (overA K V).s else 0), !wi (overA K V).s (-1125899906842624) 1125899906842624, fun h => ?_, fun h => ?_, fun W VA => value_sum ⟨0, 1, 0, 0, [], 0⟩ none 0 0 (overA K V) _ 1 1 _ Ints.nil (Nat.zero_le _) VA.hist (by unfold maxLen; omega) ok1 rfl⟩
  · have e : wi (K * V) (-1125899906842624) 1125899906842624 = true := wi_mk h
    simp [e, overA]
  · have e : wi (K * V) (-1125899906842624) 1125899906842624 = false := wi_false h
    simp [e, overA]

/-- The store of what is told into a variable. -/
theorem store_hasO {ops : Array Oper} {rest : List Oper} {op : Oper} {a : Act} {w : World} {Q : Exit → Act → World → Prop} (hgd : op.guard = none) (x y : Operand) (ho : op.op = .store 49 x y)
    (g : Nat) {old : Array Value} {v : Int} {o : Bool} {A : Option Addr} {n c : Nat} (hx : a.eval x = .pointer (some ⟨g, 0, none⟩)) (hy : a.eval y = .agg (outC v o A n c)) (hg : Has w g 49 old) (hold : old.size = 3)
    (h : wpList Try.prog ops Q rest (a.put op.dst undef) (w.setRow g (outC v o A n c))) : wpList Try.prog ops Q (op :: rest) a w :=
  wpList_store_row hgd 49 x y ho g _ hx hy 49 old hg Try.sizeOut hold (outC_one _ _ _ _ _) h

set_option maxRecDepth 100000 in
set_option maxHeartbeats 20000000 in
theorem over_any (a0 a1 : Int) (w0 : (Lit.int .i64 a0).wf = true) (w1 : (Lit.int .i64 a1).wf = true) (w : World) :
    Calls Try.prog 5 #[.int .i64 a0, .int .i64 a1] w fun e w' => e = .returned (.bool true) ∧ Below w.heap.size w w' := by
  have b0 := bounds_i64 w0
  have b1 := bounds_i64 w1
  go_enter Try.func5, Try.ntmps5
  go_wp2_with fail
  refine (awake2_any _).mono ?_
  rintro e wa ⟨rfl, hB0⟩
  go_upto_region 5 with fail
  obtain ⟨K, hK1, hK2, eK⟩ : ∃ K : Int, 1 ≤ K ∧ K ≤ 2000 ∧ wrap64 (1 + wrap64 ((IntKind.u64.wrap a0).tmod 2000)) = K := by
    have h : 0 ≤ IntKind.u64.wrap a0 := by simp [IntKind.wrap, IntKind.bits, IntKind.signed]; omega
    have e : (IntKind.u64.wrap a0).tmod 2000 = IntKind.u64.wrap a0 % 2000 := Int.tmod_eq_emod_of_nonneg h
    rw [e, IntWalk.wrap64_in (IntKind.u64.wrap a0 % 2000) ⟨by omega, by omega⟩, IntWalk.wrap64_in _ ⟨by omega, by omega⟩]
    exact ⟨_, by omega, by omega, rfl⟩
  rw [eK]
  clear eK
  generalize wrap64 ((IntKind.u64.wrap a0).tmod 2000) = junk
  generalize (IntKind.u64.wrap a0).tmod 2000 = junk2
  obtain ⟨V, hV1, hV2, eV⟩ : ∃ V : Int, -1099511627776 ≤ V ∧ V ≤ 1099511627776 ∧ a1.tmod 1099511627777 = V := by
    have h1 := Int.tmod_lt_of_pos a1 (show (0 : Int) < 1099511627777 by decide)
    have h2 := Int.lt_tmod_of_pos a1 (show (0 : Int) < 1099511627777 by decide)
    exact ⟨_, by omega, by omega, rfl⟩
  rw [eV]
  clear eV
  have pm : -2199023255552000 ≤ K * V ∧ K * V ≤ 2199023255552000 := by
    have p1 := Int.mul_le_mul_of_nonneg_left hV2 (show 0 ≤ K by omega)
    have p2 := Int.mul_le_mul_of_nonneg_left hV1 (show 0 ≤ K by omega)
    omega
  obtain ⟨pm1, pm2⟩ := pm
  go_wp2_with fail
  refine (mkItem2_any _ _ _ _ _).mono ?_
  rintro e wb ⟨rfl, hb1⟩
  replace hB0 := hB0.trans (hb1.mono hB0.size)
  clear hb1
  go_wp2_with fail
  refine (mkItem2_any _ _ _ _ _).mono ?_
  rintro e wc ⟨rfl, hb1⟩
  replace hB0 := hB0.trans (hb1.mono hB0.size)
  clear hb1
  have hS : Has (wc.alloc (.cells #[.int .i64 K] 3)) wc.heap.size 3 (ints [K]) := Has.made _ _ _
  go_upto_region 6 with (refine store_new rfl _ _ rfl (ac := overA K V) (A := some ⟨wc.heap.size, 0, none⟩) (k := 1) (c := 1) (by simp [go_sem]) rfl rfl ?_; intro wn hbn hvn)
  rw [show (wc.alloc (.cells #[.int .i64 K] 3)).heap.size = wc.heap.size + 1 from by simp] at hvn
  have VA : Vg wn (wc.heap.size + 1) (overA K V) (some ⟨wc.heap.size, 0, none⟩) 1 1 := ⟨hvn, ints_of_has (xs := [K]) (has_below hS hbn) rfl, Nat.le_refl _, by unfold maxLen; omega⟩
  replace hB0 := (below_alloc hB0 (Nat.le_refl _) (.cells #[.int .i64 K] 3)).trans (hbn.mono (by have := hB0.size; simp; omega))
  clear hbn hvn hS
  generalize wc.heap.size = gs at VA ⊢
  have ok1 := over_ask ⟨0, 1, 0, 0, [], 0⟩ ⟨rfl, rfl, by decide⟩ hK1 hK2 hV1 hV2
  have ok2 := over_ask ⟨0, 0, 0, 0, [], 0⟩ ⟨rfl, rfl, by decide⟩ hK1 hK2 hV1 hV2
  go_wp2_with (refine load_has rfl _ rfl _ rfl VA.cells ?_)
  obtain ⟨T, O, hT1, hT2, hC0⟩ := over_sum K V gs ok1
  have hC := hC0 wn VA
  clear hC0
  have hC2 : ∀ W, Vg W (gs + 1) (overA K V) (some ⟨gs, 0, none⟩) 1 1 → Calls Try.prog 29 #[.agg (quC ⟨0, 0, 0, 0, [], 0⟩ none 0 0), .agg (accC (overA K V) (some ⟨gs, 0, none⟩) 1 1)] W (OkOut K false [] W) := fun W hW => value_count ⟨0, 0, 0, 0, [], 0⟩ none 0 0 (overA K V) _ 1 1 W Ints.nil (Nat.zero_le _) hW.hist (by unfold maxLen; omega) ok2 rfl
  have HC2 := Lib.hid hC2; clear hC2 ok1 ok2
  refine hC.mono ?_
  clear hC
  rintro e wf ⟨AX, nX, cX, rfl, hIX, hcap, hmost, hnew, hb2⟩
  clear hcap hmost hnew
  replace VA := VA.below hb2
  replace hB0 := hB0.trans (hb2.mono hB0.size)
  clear hb2
  go_upto_region 7 with (refine store_newO rfl _ _ rfl rfl rfl rfl ?_; intro wn hbn hvn)
  have VX : Vo wn wf.heap.size _ _ _ AX nX cX := ⟨hvn, hIX.below hbn⟩
  replace VA := VA.below hbn
  replace hB0 := hB0.trans (hbn.mono hB0.size)
  clear hbn hvn hIX
  generalize wf.heap.size = gX at VX ⊢
  go_wp2_with (refine load_has rfl _ rfl _ rfl VA.cells ?_)
  refine (HC2.out _ VA).mono ?_
  rintro e wf ⟨AY, nY, cY, rfl, hIY, hcap, hmost, hnew, hb2⟩
  clear hcap hmost hnew VA HC2
  replace VX := VX.below hb2
  replace hB0 := hB0.trans (hb2.mono hB0.size)
  clear hb2
  go_upto_region 8 with (refine store_newO rfl _ _ rfl rfl rfl rfl ?_; intro wn hbn hvn)
  have VY : Vo wn wf.heap.size _ _ _ AY nY cY := ⟨hvn, hIY.below hbn⟩
  replace VX := VX.below hbn
  replace hB0 := hB0.trans (hbn.mono hB0.size)
  clear hbn hvn hIY
  generalize wf.heap.size = gY at VY ⊢
  obtain rfl : nX = 0 := VX.hist.1.symm
  obtain rfl : nY = 0 := VY.hist.1.symm
  have hX1 := VX.cells.lt
  have hY1 := VY.cells.lt
  have hB1 := hB0.size
  by_cases h1 : K * V ≤ 1125899906842624
  · by_cases h2 : -1125899906842624 ≤ K * V
    · obtain ⟨rfl, rfl⟩ := hT1.out ⟨h2, h1⟩
      go_upto_region 12 with (refine store_newO rfl _ _ rfl (v := K * V) (o := false) (A := none) (n := 0) (c := 0) rfl rfl rfl ?_; intro wz hbz hvz)
      replace VX := VX.below hbz
      replace VY := VY.below hbz
      replace hB0 := hB0.trans (hbz.mono hB0.size)
      clear hbz
      go_wp2_with (first | (go_at_call 19; refine (num_any _ _).mono ?_; rintro e w' ⟨rfl, rfl⟩) | (refine load_outG rfl _ rfl _ rfl VX.cells ?_) | (refine load_outG rfl _ rfl _ rfl hvz ?_))
      refine (sameOut_true (K * V) false [] AX none 0 cX 0 _ Ints.nil Ints.nil (Nat.zero_le _)).mono ?_
      rintro e wu ⟨rfl, hbu⟩
      replace VY := VY.below hbu
      replace hB0 := hB0.trans (hbu.mono hB0.size)
      clear hbu
      go_wp2_with (first | (go_at_call 19; refine (num_any _ _).mono ?_; rintro e w' ⟨rfl, rfl⟩) | (refine load_outG rfl _ rfl _ rfl VY.cells ?_))
      refine (sameOut_true K false [] AY none 0 cY 0 _ Ints.nil Ints.nil (Nat.zero_le _)).mono ?_
      rintro e wv ⟨rfl, hbu⟩
      replace hB0 := hB0.trans (hbu.mono hB0.size)
      go_wp2
      go_ret
      exact ⟨rfl, hB0⟩
    · obtain ⟨rfl, rfl⟩ := hT2.out (fun h => h2 h.1)
      go_upto_region 11 with (refine store_newO rfl _ _ rfl (v := K * V) (o := false) (A := none) (n := 0) (c := 0) rfl rfl rfl ?_; intro wz hbz hvz)
      replace VX := VX.below hbz
      replace VY := VY.below hbz
      replace hB0 := hB0.trans (hbz.mono hB0.size)
      have hgz : w.heap.size ≤ wn.heap.size := by omega
      have hxz : gX < wn.heap.size := hX1
      have hyz : gY < wn.heap.size := hY1
      clear hbz
      go_upto_region 12 with (refine store_hasO rfl _ _ rfl wn.heap.size (v := 0) (o := true) (A := none) (n := 0) (c := 0) rfl rfl hvz rfl ?_)
      have hvq := hvz.row (outC 0 true none 0 0)
      have VX2 := VX.cells.rowFar (show gX ≠ wn.heap.size by omega) (outC 0 true none 0 0)
      have VY2 := VY.cells.rowFar (show gY ≠ wn.heap.size by omega) (outC 0 true none 0 0)
      replace hB0 := below_row hB0 hgz (outC 0 true none 0 0)
      clear VX VY hvz
      generalize wz.setRow wn.heap.size (outC 0 true none 0 0) = wq at hvq VX2 VY2 hB0 ⊢
      go_wp2_with (first | (go_at_call 19; refine (num_any _ _).mono ?_; rintro e w' ⟨rfl, rfl⟩) | (refine load_outG rfl _ rfl _ rfl VX2 ?_) | (refine load_outG rfl _ rfl _ rfl hvq ?_))
      refine (sameOut_true 0 true [] AX none 0 cX 0 _ Ints.nil Ints.nil (Nat.zero_le _)).mono ?_
      rintro e wu ⟨rfl, hbu⟩
      replace VY2 := has_below VY2 hbu
      replace hB0 := hB0.trans (hbu.mono hB0.size)
      clear hbu
      go_wp2_with (first | (go_at_call 19; refine (num_any _ _).mono ?_; rintro e w' ⟨rfl, rfl⟩) | (refine load_outG rfl _ rfl _ rfl VY2 ?_))
      refine (sameOut_true K false [] AY none 0 cY 0 _ Ints.nil Ints.nil (Nat.zero_le _)).mono ?_
      rintro e wv ⟨rfl, hbu⟩
      replace hB0 := hB0.trans (hbu.mono hB0.size)
      go_wp2
      go_ret
      exact ⟨rfl, hB0⟩
  · obtain ⟨rfl, rfl⟩ := hT2.out (fun h => h1 h.2)
    go_upto_region 11 with (refine store_newO rfl _ _ rfl (v := K * V) (o := false) (A := none) (n := 0) (c := 0) rfl rfl rfl ?_; intro wz hbz hvz)
    replace VX := VX.below hbz
    replace VY := VY.below hbz
    replace hB0 := hB0.trans (hbz.mono hB0.size)
    have hgz : w.heap.size ≤ wn.heap.size := by omega
    have hxz : gX < wn.heap.size := hX1
    have hyz : gY < wn.heap.size := hY1
    clear hbz
    go_upto_region 12 with (refine store_hasO rfl _ _ rfl wn.heap.size (v := 0) (o := true) (A := none) (n := 0) (c := 0) rfl rfl hvz rfl ?_)
    have hvq := hvz.row (outC 0 true none 0 0)
    have VX2 := VX.cells.rowFar (show gX ≠ wn.heap.size by omega) (outC 0 true none 0 0)
    have VY2 := VY.cells.rowFar (show gY ≠ wn.heap.size by omega) (outC 0 true none 0 0)
    replace hB0 := below_row hB0 hgz (outC 0 true none 0 0)
    clear VX VY hvz
    generalize wz.setRow wn.heap.size (outC 0 true none 0 0) = wq at hvq VX2 VY2 hB0 ⊢
    go_wp2_with (first | (go_at_call 19; refine (num_any _ _).mono ?_; rintro e w' ⟨rfl, rfl⟩) | (refine load_outG rfl _ rfl _ rfl VX2 ?_) | (refine load_outG rfl _ rfl _ rfl hvq ?_))
    refine (sameOut_true 0 true [] AX none 0 cX 0 _ Ints.nil Ints.nil (Nat.zero_le _)).mono ?_
    rintro e wu ⟨rfl, hbu⟩
    replace VY2 := has_below VY2 hbu
    replace hB0 := hB0.trans (hbu.mono hB0.size)
    clear hbu
    go_wp2_with (first | (go_at_call 19; refine (num_any _ _).mono ?_; rintro e w' ⟨rfl, rfl⟩) | (refine load_outG rfl _ rfl _ rfl VY2 ?_))
    refine (sameOut_true K false [] AY none 0 cY 0 _ Ints.nil Ints.nil (Nat.zero_le _)).mono ?_
    rintro e wv ⟨rfl, hbu⟩
    replace hB0 := hB0.trans (hbu.mono hB0.size)
    go_wp2
    go_ret
    exact ⟨rfl, hB0⟩

end Go.Proofs.Ytigjnmjmjhbigaa
