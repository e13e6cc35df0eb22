/-
  Walk: LowForms: queries, aggregates of which nothing is told.
-/
import Derived.Test.YtdnlkimibdojmaaOver
import Derived.Test.YtdnlkimibdojmaaFormsP
import Derived.Test.YtdnlkimibdojmaaMask
import Derived.Deep.DeepCutAuto
import Derived.Deep.CutBlock
namespace Go.Proofs.Ytdnlkimibdojmaa
open Go.RowKit

theorem quC_one (q : Qu) (B : Option Addr) (m d : Nat) : (quC q B m d).all (·.oneCell') = true := by simp [quC, Value.oneCell']
@[go_sem] theorem quC_0 (q : Qu) (B : Option Addr) (m d : Nat) : (quC q B m d)[0]? = some (.int .i64 q.kind) := rfl
@[go_sem] theorem quC_1 (q : Qu) (B : Option Addr) (m d : Nat) : (quC q B m d)[1]? = some (.int .i64 q.agg) := rfl
@[go_sem] theorem quC_2 (q : Qu) (B : Option Addr) (m d : Nat) : (quC q B m d)[2]? = some (.int .i64 q.size) := rfl
@[go_sem] theorem quC_3 (q : Qu) (B : Option Addr) (m d : Nat) : (quC q B m d)[3]? = some (.int .i64 q.slide) := rfl
@[go_sem] theorem quC_4 (q : Qu) (B : Option Addr) (m d : Nat) : (quC q B m d)[4]? = some (.slice B m d) := rfl
@[go_sem] theorem quC_5 (q : Qu) (B : Option Addr) (m d : Nat) : (quC q B m d)[5]? = some (.int .i64 q.rank) := rfl
/-- A query into a variable that was made last. -/
theorem store_newQ {ops : Array Oper} {rest : List Oper} {op : Oper} {a : Act} {w : World} {Q : Exit → Act → World → Prop} (hgd : op.guard = none) (x y : Operand) (ho : op.op = .store 53 x y)
    {old : Array Value} {q : Qu} {B : Option Addr} {m d : Nat} (hx : a.eval x = .pointer (some ⟨w.heap.size, 0, none⟩)) (hy : a.eval y = .agg (quC q B m d)) (hold : old.size = 6)
    (h : ∀ w', Below w.heap.size w w' → Has w' w.heap.size 53 (quC q B m d) → wpList Try.prog ops Q rest (a.put op.dst undef) w') : wpList Try.prog ops Q (op :: rest) a (w.alloc (.cells old 53)) :=
  wpList_store_row hgd 53 x y ho w.heap.size _ hx hy 53 old (Has.made _ _ _) Try.sizeQuery hold (quC_one _ _ _ _) (by rw [World.setRow_alloc_new]; exact h _ ((Below.refl _ _).alloc (Nat.le_refl _) _) (Has.made _ _ _))
theorem load_hasQ {ops : Array Oper} {rest : List Oper} {op : Oper} {a : Act} {w : World} {Q : Exit → Act → World → Prop} (hgd : op.guard = none) (x : Operand) (ho : op.op = .load 53 x)
    (g : Nat) (hx : a.eval x = .pointer (some ⟨g, 0, none⟩)) {q : Qu} {B : Option Addr} {m d : Nat} (hc : Has w g 53 (quC q B m d))
    (h : wpList Try.prog ops Q rest (a.put op.dst (.agg (quC q B m d))) w) : wpList Try.prog ops Q (op :: rest) a w :=
  wpList_load_row hgd 53 x ho g hx 53 _ (0, 0) _ hc Try.underlying53 rfl Try.sizeQuery h

def lfQ : Qu := ⟨0, 7, 0, 0, [0, 5], 500⟩
def lfX : List It := [⟨0, 1, 1, 3⟩]
def lfA : Ac := ⟨1, 3, 3, 3, ⟨0, 1, 1, 3⟩, ⟨0, 1, 1, 3⟩, [0, 1, 0]⟩
def lfN : Ac := ⟨1, 3, 3, 3, ⟨0, 1, 1, 3⟩, ⟨0, 1, 1, 3⟩, [1]⟩
theorem lfA_is : foldA [0, 5] lfX = lfA := by rfl
theorem lfN_is : foldA [] lfX = lfN := by rfl
theorem lfX_ok : ∀ i, i < 1 → itemB (nthI lfX i) = true := by decide
theorem Ints.put {w : World} {A : Option Addr} {n : Nat} {xs : List Int} (h : Ints w A n xs) {g : Nat} (hg : ∀ ad, A = some ad → ad.block ≠ g) (i : Nat) (v : Value) : Ints (w.setCell ⟨g, i, none⟩ v) A n xs :=
  ⟨h.1, fun hn => by
    obtain ⟨b, o, e, hc⟩ := h.2 hn
    refine ⟨b, o, e, fun k hk => ?_⟩
    rw [← hc k hk]
    unfold World.cell?
    rw [heap_setCell_other w ⟨g, i, none⟩ b v (hg _ e)]⟩
/-- What stands behind the switch: a query and an aggregate of which nothing is told. -/
def LfS (w : World) (gq ga : Nat) (wx : World) : Prop :=
  ∃ (q : Qu) (B : Option Addr) (m d : Nat) (a : Ac) (A : Option Addr) (n c : Nat), Has wx gq 53 (quC q B m d) ∧ Ints wx B m q.bs ∧ m ≤ maxLen ∧ Has wx ga 29 (accC a A n c) ∧ Ints wx A n a.h ∧ n ≤ maxLen ∧ (wi q.agg 0 7 && askB q a) = false ∧ Below w.heap.size w wx
structure LfB (w : World) (gb gq ga : Nat) (A : Option Addr) (n c : Nat) (wx : World) : Prop where
  q : Has wx gq 53 (quC lfQ (some ⟨gb, 0, none⟩) 2 2)
  b : Has wx gb 3 (ints [0, 5])
  a : Vg wx ga lfA A n c
  keep : Below w.heap.size w wx
  aq : ∀ ad, A = some ad → ad.block ≠ gq
  aa : ∀ ad, A = some ad → ad.block ≠ ga
  q0 : w.heap.size ≤ gq
  a0 : w.heap.size ≤ ga
section
variable {w wx : World} {gb gq ga : Nat} {A : Option Addr} {n c : Nat} (S : LfB w gb gq ga A n c wx)
include S
theorem LfB.qa : gq ≠ ga := fun e => has_types (e ▸ S.q) S.a.cells (by decide)
theorem LfB.qb : gq ≠ gb := fun e => has_types (e ▸ S.q) S.b (by decide)
theorem LfB.ab : ga ≠ gb := fun e => has_types (e ▸ S.a.cells) S.b (by decide)
theorem LfB.lenA : n ≤ maxLen := by have := S.a.cap; have := S.a.most; omega
theorem lf_putQ (q' : Qu) (i : Nat) (v : Value) (e : (quC lfQ (some ⟨gb, 0, none⟩) 2 2).setIfInBounds i v = quC q' (some ⟨gb, 0, none⟩) 2 2) (hb : q'.bs = [0, 5]) (hf : (wi q'.agg 0 7 && askB q' lfA) = false) : LfS w gq ga (wx.setCell ⟨gq, i, none⟩ v) :=
  ⟨q', some ⟨gb, 0, none⟩, 2, 2, lfA, A, n, c, e ▸ S.q.put i v, by rw [hb]; exact ints_of_has (S.b.putFar (Ne.symm S.qb) v) rfl, by unfold maxLen; omega, S.a.cells.putFar (Ne.symm S.qa) v, S.a.hist.put S.aq i v, S.lenA, hf, S.keep.setCell S.q0 v⟩
theorem lf_putA (a' : Ac) (i : Nat) (v : Value) (e : (accC lfA A n c).setIfInBounds i v = accC a' A n c) (hh : a'.h = lfA.h) (hf : (wi lfQ.agg 0 7 && askB lfQ a') = false) : LfS w gq ga (wx.setCell ⟨ga, i, none⟩ v) :=
  ⟨lfQ, some ⟨gb, 0, none⟩, 2, 2, a', A, n, c, S.q.putFar S.qa v, ints_of_has (xs := [0, 5]) (S.b.putFar (Ne.symm S.ab) v) rfl, by unfold maxLen; omega, e ▸ S.a.cells.put i v, by rw [hh]; exact S.a.hist.put S.aa i v, S.lenA, hf, S.keep.setCell S.a0 v⟩
theorem lf_row (a' : Ac) (A' : Option Addr) (n' c' : Nat) {wy : World} (hb : Below wx.heap.size wx wy) (hI : AccIn wy wx.heap.size a' A' n' c') (hf : (wi lfQ.agg 0 7 && askB lfQ a') = false) : LfS w gq ga (wy.setRow ga (accC a' A' n' c')) :=
  have hl := S.a.cells.lt
  ⟨lfQ, some ⟨gb, 0, none⟩, 2, 2, a', A', n', c', (has_below S.q hb).rowFar S.qa _, ints_of_has (xs := [0, 5]) ((has_below S.b hb).rowFar (Ne.symm S.ab) _) rfl, by unfold maxLen; omega, (has_below S.a.cells hb).row _, hI.hist.row (fun ad e => by have := hI.new ad e; omega) _, by have := hI.cap; have := hI.most; omega, hf, below_row (S.keep.trans (hb.mono S.keep.size)) S.a0 _⟩
theorem lf_bounds (x : Int) (hf : (wi lfQ.agg 0 7 && askB { lfQ with bs := [x] } lfA) = false) : LfS w gq ga ((wx.alloc (.cells #[.int .i64 x] 3)).setCell ⟨gq, 4, none⟩ (.slice (some ⟨wx.heap.size, 0, none⟩) 1 1)) :=
  have hl := S.q.lt
  ⟨{ lfQ with bs := [x] }, some ⟨wx.heap.size, 0, none⟩, 1, 1, lfA, A, n, c, (S.q.alloc _).put 4 _, ints_of_has (xs := [x]) ((Has.made wx 3 #[.int .i64 x]).putFar (show wx.heap.size ≠ gq by omega) _) rfl, by unfold maxLen; omega, (S.a.cells.alloc _).putFar (Ne.symm S.qa) _, (S.a.hist.below ((Below.refl _ _).alloc (Nat.le_refl _) _)).put S.aq _ _, S.lenA, hf, (below_alloc S.keep (Nat.le_refl _) _).setCell S.q0 _⟩
end
theorem wi_no {n lo hi : Int} {b : Bool} (h : ¬ (lo ≤ n ∧ n ≤ hi)) : (wi n lo hi && b) = false := by rw [wi_false h]; rfl
theorem ask_no_rank {q : Qu} {a : Ac} {b : Bool} (h : ¬ (0 ≤ q.rank ∧ q.rank ≤ 1000)) : (b && askB q a) = false := by unfold askB; rw [wi_false h]; simp
theorem ask_no_acc {q : Qu} {a : Ac} {b : Bool} (h : fitB a (q.bs.length + 1) = false) : (b && askB q a) = false := by unfold askB accB; rw [h]; simp

set_option maxRecDepth 100000 in
set_option maxHeartbeats 20000000 in
theorem lforms_any (a0 a1 : Int) (w0 : (Lit.int .i64 a0).wf = true) (w1 : (Lit.int .i64 a1).wf = true) (w : World) :
    Calls Try.prog 13 #[.int .i64 a0, .int .i64 a1] w fun e w' => e = .returned (.bool true) ∧ Below w.heap.size w w' := by
  have b0 := bounds_i64 w0
  have b1 := bounds_i64 w1
  go_enter Try.func13, Try.ntmps13
  go_wp2_with fail
  refine (awake2_any _).mono ?_
  rintro e w1 ⟨rfl, hB0⟩
  obtain ⟨d, hd5, hd3, hd4⟩ : ∃ d : Int, bits .and .i64 a1 1023 = d ∧ 0 ≤ d ∧ d ≤ 1023 := ⟨a1 % 1024, mask1023 a1, by omega, by omega⟩
  have hbb : Has (w1.alloc (.cells #[.int .i64 0, .int .i64 5] 3)) w1.heap.size 3 (ints [0, 5]) := Has.made _ _ _
  go_upto_region 6 with (refine store_newQ rfl _ _ rfl (q := lfQ) (B := some ⟨w1.heap.size, 0, none⟩) (m := 2) (d := 2) (by simp [go_sem]) rfl rfl ?_; intro wn hbn hq)
  rw [show (w1.alloc (.cells #[.int .i64 0, .int .i64 5] 3)).heap.size = w1.heap.size + 1 from by simp] at hq
  have hq0 : w.heap.size ≤ w1.heap.size + 1 := by have := hB0.size; omega
  replace hB0 := (below_alloc hB0 (Nat.le_refl _) (.cells #[.int .i64 0, .int .i64 5] 3)).trans (hbn.mono (by have := hB0.size; simp; omega))
  replace hbb := has_below hbb hbn
  clear hbn
  generalize w1.heap.size = gb at hbb hq hq0 ⊢

  go_wp2_with fail
  refine (mkItem2_any _ _ _ _ _).mono ?_
  rintro e wa ⟨rfl, hb1⟩
  replace hbb := has_below hbb hb1
  replace hq := has_below hq hb1
  replace hB0 := hB0.trans (hb1.mono hB0.size)
  clear hb1
  go_wp2_with fail
  have hX := items_has (xs := lfX) (Has.made wa 23 #[.int .i64 0, .int .i64 1, .int .i64 1, .int .i64 3]) rfl
  have hbn : Below wa.heap.size wa (wa.alloc (.cells #[.int .i64 0, .int .i64 1, .int .i64 1, .int .i64 3] 23)) := (Below.refl _ _).alloc (Nat.le_refl _) _
  have hqa : gb + 1 < wa.heap.size := hq.lt
  replace hbb := has_below hbb hbn
  replace hq := has_below hq hbn
  replace hB0 := hB0.trans (hbn.mono hB0.size)
  clear hbn
  refine (lfold_any _ 1 1 lfX _ 2 2 [0, 5] _ hX (ints_of_has hbb rfl) (by decide) lfX_ok (by omega)).mono ?_
  rw [lfA_is]
  rintro e wf ⟨AA, nA, cA, rfl, hin, hb2⟩
  have hqA : ∀ ad, AA = some ad → ad.block ≠ gb + 1 := fun ad e => by have := hin.new ad e; simp at this; omega
  clear hX hqa
  replace hbb := has_below hbb hb2
  replace hq := has_below hq hb2
  replace hB0 := hB0.trans (hb2.mono hB0.size)
  clear hb2
  have haA : ∀ ad, AA = some ad → ad.block ≠ wf.heap.size := fun ad e => by
    obtain ⟨b, o, e2, hc⟩ := hin.hist.at_ (k := 0) (by have := hin.hist.1; simp [lfA] at this; omega)
    rw [e2] at e
    obtain rfl := Option.some.inj e
    have hlt := block_lt_of_cell (hc 0 (by have := hin.hist.1; simp [lfA] at this; omega))
    simp only at hlt ⊢
    omega
  have ha0 : w.heap.size ≤ wf.heap.size := hB0.size
  have hIA := hin.hist
  have hCA := hin.cap
  have hMA := hin.most
  clear hin
  go_upto_region 7 with (refine store_new rfl _ _ rfl rfl rfl rfl ?_; intro wn hbn hvn)
  replace hbb := has_below hbb hbn
  replace hq := has_below hq hbn
  replace hIA := hIA.below hbn
  replace hB0 := hB0.trans (hbn.mono hB0.size)
  clear hbn
  generalize wf.heap.size = ga at hvn haA ha0 ⊢
  have VA : Vg wn ga lfA AA nA cA := ⟨hvn, hIA, hCA, hMA⟩
  clear hvn hIA hCA hMA
  go_wp2_with (first | (refine load_hasQ rfl _ rfl _ rfl hq ?_) | (refine load_has rfl _ rfl _ rfl VA.cells ?_))
  refine (value_rank lfQ _ 2 2 lfA AA nA cA _ (ints_of_has hbb rfl) (by unfold maxLen; omega) VA.hist (by have := VA.cap; have := VA.most; omega) (by decide) rfl).mono ?_
  rintro e wf ⟨AX, nX, cX, rfl, hIX, hcap, hmost, hnew, hb2⟩
  clear hcap hmost hnew hIX
  replace hbb := has_below hbb hb2
  replace hq := has_below hq hb2
  replace VA := VA.below hb2
  replace hB0 := hB0.trans (hb2.mono hB0.size)
  clear hb2
  go_upto_region 8 with (refine store_newO rfl _ _ rfl rfl rfl rfl ?_; intro wn hbn hvn)
  replace hbb := has_below hbb hbn
  replace hq := has_below hq hbn
  replace VA := VA.below hbn
  replace hB0 := hB0.trans (hbn.mono hB0.size)
  clear hbn
  generalize wf.heap.size = gX at hvn ⊢
  clear hvn
  go_upto_block 0 with fail
  obtain ⟨k, hk, ek⟩ : ∃ k : Nat, k < 8 ∧ (IntKind.u64.wrap a0).tmod 8 = k := by
    have h : 0 ≤ IntKind.u64.wrap a0 := by simp [IntKind.wrap, IntKind.bits, IntKind.signed]; omega
    have e : (IntKind.u64.wrap a0).tmod 8 = IntKind.u64.wrap a0 % 8 := Int.tmod_eq_emod_of_nonneg h
    exact ⟨(IntKind.u64.wrap a0 % 8).toNat, by omega, by omega⟩
  rw [ek]
  clear ek
  go_cut [] (fun wx => Hid (LfS w (gb + 1) ga wx))
  case first =>
    have S : LfB w gb (gb + 1) ga AA nA cA wn := ⟨hq, hbb, VA, hB0, hqA, haA, hq0, ha0⟩
    have cQ : ∀ i, wn.cell? ⟨gb + 1, i, none⟩ = (quC lfQ (some ⟨gb, 0, none⟩) 2 2)[i]? := fun i => hq.cell i
    have mQ : ∀ i, wn.frozen? ⟨gb + 1, i, none⟩ = false := fun i => hq.mark i
    have cQa : ∀ o i, (wn.alloc o).cell? ⟨gb + 1, i, none⟩ = (quC lfQ (some ⟨gb, 0, none⟩) 2 2)[i]? := fun o i => (hq.alloc o).cell i
    have mQa : ∀ o i, (wn.alloc o).frozen? ⟨gb + 1, i, none⟩ = false := fun o i => (hq.alloc o).mark i
    have cA : ∀ i, wn.cell? ⟨ga, i, none⟩ = (accC lfA AA nA cA)[i]? := fun i => VA.cells.cell i
    have mA : ∀ i, wn.frozen? ⟨ga, i, none⟩ = false := fun i => VA.cells.mark i
    clear hq hbb VA hB0 hqA haA hq0 ha0
    have hk8 : k = 0 ∨ k = 1 ∨ k = 2 ∨ k = 3 ∨ k = 4 ∨ k = 5 ∨ k = 6 ∨ k = 7 := by omega
    clear hk
    rcases hk8 with rfl | rfl | rfl | rfl | rfl | rfl | rfl | rfl
    · go_wp2_with fail
      go_meet
      case rel => exact lf_putQ S { lfQ with agg := 7 + (1 + d) } 1 _ rfl rfl (wi_no (by simp only; omega))
    · go_wp2_with fail
      go_meet
      case rel => exact lf_putQ S { lfQ with agg := -(1 + d) } 1 _ rfl rfl (wi_no (by simp only; omega))
    · go_wp2_with fail
      go_meet
      case rel => exact lf_putQ S { lfQ with rank := 1000 + (1 + d) } 5 _ rfl rfl (ask_no_rank (by simp only; omega))
    · go_wp2_with fail
      go_meet
      case rel => exact lf_putQ S { lfQ with rank := -(1 + d) } 5 _ rfl rfl (ask_no_rank (by simp only; omega))
    · go_wp2_with fail
      refine (lfold_any none 0 0 [] _ 2 2 [0, 5] _ (Items.nil _ _) (ints_of_has S.b rfl) (by decide) (fun i hi => absurd hi (Nat.not_lt_zero _)) (by omega)).mono ?_
      rintro e wf ⟨AN, nN, cN, rfl, hin, hb2⟩
      have HS := Lib.hid (lf_row S _ _ _ _ hb2 hin (by decide))
      have HA2 := has_below S.a.cells hb2
      clear cQ mQ cA mA cQa mQa
      go_wp2_with (refine store_has rfl _ _ rfl ga rfl rfl HA2 rfl ?_)
      go_meet
      case rel => exact HS
    · go_wp2_with fail
      go_meet
      case rel => exact lf_bounds S 0 (by decide)
    · go_wp2_with fail
      have hq6 : Has (wn.setCell ⟨gb + 1, 4, none⟩ (.slice none 0 0)) (gb + 1) 53 (quC { lfQ with bs := [] } none 0 0) := S.q.put 4 _
      have ha6 := S.a.cells.putFar (p := ⟨gb + 1, 4, none⟩) (show ga ≠ gb + 1 from Ne.symm S.qa) (.slice none 0 0)
      have hB6 := S.keep.setCell (p := ⟨gb + 1, 4, none⟩) (show w.heap.size ≤ gb + 1 from S.q0) (.slice none 0 0)
      have hga := S.a0
      have hqa := S.qa
      clear cQ mQ cA mA cQa mQa S
      generalize wn.setCell ⟨gb + 1, 4, none⟩ (.slice none 0 0) = wz at hq6 ha6 hB6 ⊢
      refine (mkItem2_any _ _ _ _ _).mono ?_
      rintro e wa ⟨rfl, hb1⟩
      replace hq6 := has_below hq6 hb1
      replace ha6 := has_below ha6 hb1
      replace hB6 := hB6.trans (hb1.mono hB6.size)
      clear hb1
      go_wp2_with fail
      have hX := items_has (xs := lfX) (Has.made wa 23 #[.int .i64 0, .int .i64 1, .int .i64 1, .int .i64 3]) rfl
      have hbn : Below wa.heap.size wa (wa.alloc (.cells #[.int .i64 0, .int .i64 1, .int .i64 1, .int .i64 3] 23)) := (Below.refl _ _).alloc (Nat.le_refl _) _
      replace hq6 := has_below hq6 hbn
      replace ha6 := has_below ha6 hbn
      replace hB6 := hB6.trans (hbn.mono hB6.size)
      clear hbn
      have hgl : ga < (wa.alloc (.cells #[.int .i64 0, .int .i64 1, .int .i64 1, .int .i64 3] 23)).heap.size := ha6.lt
      refine (lfold_any _ 1 1 lfX none 0 0 [] _ hX Ints.nil (by decide) lfX_ok (by omega)).mono ?_
      rw [lfN_is]
      rintro e wf ⟨AN, nN, cN, rfl, hin, hb2⟩
      replace hq6 := has_below hq6 hb2
      replace ha6 := has_below ha6 hb2
      replace hB6 := hB6.trans (hb2.mono hB6.size)
      clear hb2 hX
      have HS : Hid (LfS w (gb + 1) ga (wf.setRow ga (accC lfN AN nN cN))) := ⟨{ lfQ with bs := [] }, none, 0, 0, lfN, AN, nN, cN, hq6.rowFar hqa _, Ints.nil, Nat.zero_le _, ha6.row _, hin.hist.row (fun ad e => by have := hin.new ad e; omega) _, by have := hin.cap; have := hin.most; omega, by decide, below_row hB6 hga _⟩
      go_wp2_with (refine store_has rfl _ _ rfl ga rfl rfl ha6 rfl ?_)
      go_meet
      case rel => exact HS
    · go_wp2_with fail
      go_meet
      case rel => exact lf_putA S { lfA with s := 3 + (1 + d) } 1 _ rfl rfl (ask_no_acc (fit_no_v (by simp [lfA]) (decide_eq_false fun k => by simp only [lfA] at k; omega)))
  case rest =>
    clear VA hB0 hq hbb
    have ⟨q', B, m, dd, a', A, n, c, hQ, hI, hm, hA, hH, hn, hno, hB0⟩ := hcut.out
    clear hcut
    go_wp2_with (first | (refine load_hasQ rfl _ rfl _ rfl hQ ?_) | (refine load_has rfl _ rfl _ rfl hA ?_))
    refine (value_bad q' B m dd a' A n c _ hI hm hH hn hno).mono ?_
    rintro e wf ⟨rfl, hb2⟩
    clear hQ hI hA hH
    replace hB0 := hB0.trans (hb2.mono hB0.size)
    clear hb2
    go_upto_region 26 with (refine store_newO rfl _ _ rfl (v := 0) (o := false) (A := none) (n := 0) (c := 0) rfl rfl rfl ?_; intro wy hby hvy)
    replace hB0 := hB0.trans (hby.mono hB0.size)
    clear hby
    go_wp2_with (first | (go_at_call 22; refine (num_any _ _).mono ?_; rintro e w' ⟨rfl, rfl⟩) | (refine load_outG rfl _ rfl _ rfl hvy ?_))
    refine (sameOut_true 0 false [] none none 0 0 0 _ Ints.nil Ints.nil (Nat.zero_le _)).mono ?_
    rintro e wu ⟨rfl, hbu⟩
    replace hB0 := hB0.trans (hbu.mono hB0.size)
    go_wp2_with (go_at_call 22; refine (num_any _ _).mono ?_; rintro e w' ⟨rfl, rfl⟩)
    go_ret
    exact ⟨rfl, hB0⟩

end Go.Proofs.Ytdnlkimibdojmaa
