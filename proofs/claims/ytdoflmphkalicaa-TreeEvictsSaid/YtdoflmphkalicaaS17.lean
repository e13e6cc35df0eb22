/-
  Walks: slices.Values of items: the closure goes over them in their row.
  Walks: slices.AppendSeq and slices.Collect of what slices.Values goes over.
-/
import Derived.Test.YtdoflmphkalicaaS11
import Derived.Test.YtdoflmphkalicaaOpenIt
import Derived.RangeFuncNested
import Derived.RangeFuncBound
import Derived.RangeFuncCalls
import Derived.RangeFuncLeaves
import Derived.RangeFuncBox
import Derived.Shelf.Abstract
import Derived.WalkKit
import Derived.OwnWalkIn
import Derived.TacticsInMore
import Derived.LoopNIn
import Derived.LoopIn
import Derived.Maps.AppendAt
namespace Go.Proofs.Ytdoflmphkalicaa
open Go.RowKit Go.Shelf

attribute [local go_sem] Oper.semAt_some

abbrev encIt (x : It) : Array Value := #[.agg #[.int .i64 x.s, .int .i64 x.t, .int .i64 x.q, .int .i64 x.v]]
set_option maxRecDepth 100000 in
set_option maxHeartbeats 2000000 in
theorem vals1_in (F : Fence) (n : Nat) (hf : F.fn 88) (hro : F.round = none) (hn : 1 ≤ n) (l Bs n0 b off len cap : Nat) (zs : List It) (hl : zs.length = len) (hreach : len ≤ 17592186044416) (hb : b < n0) (J Jx : List It → World → Prop)
    (hY : ∀ pre x W, J pre W → pre.length < len → YieldAt F (n - 1) Try.prog l (encIt x) W fun e W' =>
      (e = .returned (.bool true) ∧ J (pre ++ [x]) W' ∧ Below n0 W W') ∨ (e = .returned (.bool false) ∧ Jx (pre ++ [x]) W'))
    (W : World) (hn0 : n0 ≤ W.heap.size) (hJ : AbidesFrom W.heap.size J) (hBs : W.cell? ⟨Bs, 0, none⟩ = some (.slice (some ⟨b, off, none⟩) len cap)) (hc : ∀ k, k < len → W.rangeAt b (off + k * 4) (itemL (nthI zs k))) (h0 : J [] W) :
    CallsIn F n Try.prog 88 #[.func (.yield l) #[] #[], .pointer (some ⟨Bs, 0, none⟩)] W fun e W' => (∃ v, e = .returned v) ∧
      (J zs W' ∨ (∃ pre, pre <+: zs ∧ Jx pre W')) := by
  refine callsIn_of_wp Try.func88 rfl hf ?_ hro
  simp only [Try.ntmps88, List.size_toArray, List.length_cons, List.length_nil, Nat.reduceAdd, Nat.reduceSub, Array.replicate_succ, Array.replicate_zero, List.push_toArray, List.append_toArray, List.nil_append, List.cons_append]
  gi_wp2
  gi_loopw [7] (fun i wr => ∃ k : Nat, k ≤ len ∧ i = .int .i64 k ∧ J (zs.take k) wr ∧ Below n0 W wr)
    (fun i _ => len - (intOf i).toNat)
  case atStart => exact ⟨0, Nat.zero_le _, rfl, h0, Below.refl _ _⟩
  case round =>
    obtain ⟨k, hk, rfl, hJs, hnx⟩ := hrel
    by_cases hlt : k < len
    · have hcx : ∀ j v, (itemL (nthI zs k))[j]? = some v → wr.cell? ⟨b, off + k * 4 + j, none⟩ = some v := fun j v h => (hnx.cell (p := ⟨b, off + k * 4 + j, none⟩) hb).trans (hc k hlt j v h)
      have hc0 : wr.cell? ⟨b, off + k * 4, none⟩ = some (.int .i64 (nthI zs k).s) := hcx 0 _ rfl
      have hc1 : wr.cell? ⟨b, off + k * 4 + 1, none⟩ = some (.int .i64 (nthI zs k).t) := hcx 1 _ rfl
      have hc2 : wr.cell? ⟨b, off + k * 4 + 2, none⟩ = some (.int .i64 (nthI zs k).q) := hcx 2 _ rfl
      have hc3 : wr.cell? ⟨b, off + k * 4 + 3, none⟩ = some (.int .i64 (nthI zs k).v) := hcx 3 _ rfl
      clear hcx
      have hlen : (zs.take k).length = k := by rw [List.length_take]; omega
      have hsn : zs.take k ++ [nthI zs k] = zs.take (k + 1) := by
        rw [List.take_add_one, List.getElem?_eq_getElem (by omega)]
        simp [nthI, List.getElem?_eq_getElem (show k < zs.length by omega)]
      have hgr : wr.grownBy (wr.alloc (.cells #[.int .i64 (nthI zs k).s, .int .i64 (nthI zs k).t, .int .i64 (nthI zs k).q, .int .i64 (nthI zs k).v] 47)) none := World.grownBy_alloc wr _ none
      obtain ⟨fn, tmps, assign, body, hy, hR⟩ := hY (zs.take k) (nthI zs k) _ (hJ _ _ _ none hJs hgr (fun r e => by cases e)) (by rw [hlen]; exact hlt)
      have hbl : Below n0 wr (wr.alloc (.cells #[.int .i64 (nthI zs k).s, .int .i64 (nthI zs k).t, .int .i64 (nthI zs k).q, .int .i64 (nthI zs k).v] 47)) := (Below.refl _ _).alloc (Nat.le_trans hn0 hnx.size) _
      rw [hsn] at hR
      dsimp only [encIt] at hy
      clear hlen hgr
      gi_wp2
      refine hR.mono ?_
      rintro e W3 (⟨rfl, hJ3, hk3⟩ | ⟨rfl, hJx3⟩)
      · gi_wp2
        go_roundw
        case rel => exact ⟨k + 1, by omega, by simp, hJ3, (hnx.trans hbl).trans hk3⟩
        case measure => simp [intOf]; omega
      · gi_wp2
        refine bodyPost_ret (results_none rfl _ _ _) rfl ?_
        exact ⟨⟨_, rfl⟩, .inr ⟨_, List.take_prefix _ _, hJx3⟩⟩
    · obtain rfl : k = len := by omega
      rw [List.take_of_length_le (by omega)] at hJs
      gi_wp2
      go_end0
      exact ⟨⟨_, rfl⟩, .inl hJs⟩
set_option maxRecDepth 100000 in
set_option maxHeartbeats 1000000 in
theorem vals1_nil (F : Fence) (n : Nat) (hf : F.fn 88) (hro : F.round = none) (l Bs cap : Nat) (A : Option Addr) (J : List It → World → Prop) (W : World) (hBs : W.cell? ⟨Bs, 0, none⟩ = some (.slice A 0 cap)) (h0 : J [] W) :
    CallsIn F n Try.prog 88 #[.func (.yield l) #[] #[], .pointer (some ⟨Bs, 0, none⟩)] W fun e W' => (∃ v, e = .returned v) ∧ J [] W' := by
  refine callsIn_of_wp Try.func88 rfl hf ?_ hro
  simp only [Try.ntmps88, List.size_toArray, List.length_cons, List.length_nil, Nat.reduceAdd, Nat.reduceSub, Array.replicate_succ, Array.replicate_zero, List.push_toArray, List.append_toArray, List.nil_append, List.cons_append]
  gi_wp2
  gi_loopw [7] (fun i wr => i = .int .i64 0 ∧ J [] wr) (fun _ _ => 0)
  case atStart => exact ⟨rfl, h0⟩
  case round =>
    obtain ⟨rfl, hJs⟩ := hrel
    gi_wp2
    go_end0
    exact ⟨⟨_, rfl⟩, hJs⟩
theorem vals_in (F : Fence) (n : Nat) (hf : F.fn 73) (hro : F.round = none) (a : Option Addr) (len cap : Nat) (w : World) :
    CallsIn F n Try.prog 73 #[.slice a len cap] w fun e w' => e = .returned (.func (.func 88) #[] #[.pointer (some ⟨w.heap.size, 0, none⟩)]) ∧ w' = w.alloc (.cells #[.slice a len cap] 36) := by
  refine callsIn_of_wp Try.func73 rfl hf ?_ hro
  simp only [Try.ntmps73, List.size_toArray, List.length_cons, List.length_nil, Nat.reduceAdd, Nat.reduceSub, Array.replicate_succ, Array.replicate_zero, List.push_toArray, List.append_toArray, List.nil_append, List.cons_append]
  gi_wp2
  go_ret
  exact ⟨rfl, rfl⟩
/-- slices.Values of a row of items hands back what goes over them, in their row. -/
theorem vals_stops (F : Fence) (n : Nat) (hf : F.fn 88) (hro : F.round = none) (hn : 1 ≤ n) (Bs : Nat) (A : Option Addr) (len cap : Nat) (zs : List It) (hreach : len ≤ 17592186044416) (w : World) (hc : w.cell? ⟨Bs, 0, none⟩ = some (.slice A len cap)) (hI : Items w A len zs) :
    SeqStopsK F n Try.prog 88 #[.pointer (some ⟨Bs, 0, none⟩)] encIt (Below w.heap.size) (fun ys => ys = zs) (fun pre => pre <+: zs) len w := fun l J Jx W hW hJ _ hY h0 => by
  have hBs : Bs < w.heap.size := block_lt_of_cell hc
  have hc' := (hW.cell (p := ⟨Bs, 0, none⟩) hBs).trans hc
  have hI2 := hI.below hW
  by_cases h0n : len = 0
  · subst h0n
    obtain rfl : zs = [] := List.length_eq_zero_iff.1 hI.1
    exact (vals1_nil F n hf hro l Bs cap A J W hc' h0).mono fun e W' ⟨he, hj⟩ => ⟨he, .inl ⟨_, rfl, hj⟩⟩
  · obtain ⟨b, off, rfl, hcs⟩ := hI.2 (by omega)
    have hb : b < w.heap.size := by
      have := hcs 0 (by omega) 0 _ rfl
      exact block_lt_of_cell this
    obtain ⟨b2, off2, e2, hcs2⟩ := hI2.2 (by omega)
    injection e2 with e3
    injection e3 with e4 e5
    subst e4
    subst e5
    refine (vals1_in F n hf hro hn l Bs w.heap.size b off len cap zs hI.1 hreach hb J Jx hY W hW.size hJ hc' (fun k hk => hcs2 k hk) h0).mono ?_
    rintro e W' ⟨he, hj | ⟨pre, hp, hj⟩⟩
    · exact ⟨he, .inl ⟨_, rfl, hj⟩⟩
    · exact ⟨he, .inr ⟨_, hp, hj⟩⟩

end Go.Proofs.Ytdoflmphkalicaa

namespace Go.Proofs.Ytdoflmphkalicaa
open Go.RowKit Go.Shelf

attribute [local go_sem] Oper.semAt_some

set_option maxRecDepth 100000 in
set_option maxHeartbeats 4000000 in
theorem appseq_in (F : Fence) (n : Nat) (h1f : F.fn 96) (h2f : F.fn 88) (hro : F.round = none) (hn : 3 ≤ n) (Bs : Nat) (A : Option Addr) (len cap : Nat) (zs : List It) (hl8 : len ≤ 8192) (w : World) (hc : w.cell? ⟨Bs, 0, none⟩ = some (.slice A len cap)) (hI : Items w A len zs) :
    CallsIn F n Try.prog 96 #[.slice none 0 0, .func (.func 88) #[] #[.pointer (some ⟨Bs, 0, none⟩)]] w fun e w' => ∃ v, e = .returned v ∧ OwnIt w' w.heap.size v zs ∧ Below w.heap.size w w' := by
  have h1 : 1 ≤ n := by omega
  obtain ⟨i0, hi, hz, hs0, hy0⟩ := info_parts Try.infoItem
  have hseq := vals_stops F (n - 1) h2f hro (by omega) Bs A len cap zs (by omega) w hc hI
  refine callsIn_of_wp_marks Try.func96 rfl h1f ?_ hro
  simp only [Try.ntmps96, List.size_toArray, List.length_cons, List.length_nil, Nat.reduceAdd, Nat.reduceSub, Array.replicate_succ, Array.replicate_zero, List.push_toArray, List.append_toArray, List.nil_append, List.cons_append]
  gi_wp2
  have hbx := Boxed.new w 36 (.slice none 0 0)
  have hB1 : Below w.heap.size w (w.alloc (.cells #[.slice none 0 0] 36)) := (Below.refl _ _).alloc (Nat.le_refl _) _
  refine wpIn_rangeFunc_ownH hro h1 (gf := 88) (lb := #[.pointer (some ⟨Bs, 0, none⟩)]) rfl h2f (enters_of Try.func88 (by kernel_rfl) rfl) hseq belowK_t (belowK_b (by simp)) hB1 (fun _ => rfl)
    (fun pre W => (∃ v, Boxed W w.heap.size 36 v ∧ W.ownsRow w.heap.size 47 4 v pre.length (pre.flatMap itemL) ∧ True) ∧ Below w.heap.size w W)
    (fun _ _ _ => False)
    (OwnFrom.and (Own.from (holdsRow_own w.heap.size w.heap.size 36 47 4 (fun (pre : List It) => pre.length) (fun (pre : List It) => pre.flatMap itemL) (fun _ _ => True)) _) (ownFrom_below (Nat.le_refl _) (by simp)))
    (fun _ _ _ _ _ hs _ _ => hs)
    ⟨⟨_, hbx, World.ownsRow_nil _ _ _ _, trivial⟩, hB1⟩
    (fun x a' W => ∃ Bx, w.heap.size < Bx ∧ Has W Bx 47 (itemL x).toArray ∧ a' = { tmps := #[.slice none 0 0, .func (.func 88) #[] #[.pointer (some ⟨Bs, 0, none⟩)], .pointer (some ⟨w.heap.size, 0, none⟩), undef, .slice none 0 0, .pointer (some ⟨Bx, 0, none⟩), .func (.func 88) #[] #[.pointer (some ⟨Bs, 0, none⟩)], .agg #[.int .i64 x.s, .int .i64 x.t, .int .i64 x.q, .int .i64 x.v], undef, undef, undef, undef, undef], defers := [] })
    ?hAx ?assign ?body ?done ?stop
  case hAx =>
    rintro x a' s W W' row ⟨Bx, h1, h2, h3⟩ hg hr
    refine ⟨Bx, h1, (hg.block Bx h2.lt (fun e => ?_)).trans h2, h3⟩
    obtain ⟨_, o, ho, hc⟩ := hr Bx e.symm
    rw [show W.heap[Bx]? = _ from h2] at ho
    cases ho
    cases hc
  case assign =>
    rintro l pre x W K ⟨⟨v, hv, hrow, _⟩, hB⟩ hK
    gi_wp2
    exact hK _ _ ((KeepsOthers.alloc _ _).from _) ((Below.refl _ W).alloc hB.size _) ⟨⟨v, hv.alloc _, hrow.alloc _, trivial⟩, hB.trans ((Below.refl _ W).alloc hB.size _)⟩ ⟨W.heap.size, hv.lt, Has.made _ _ _, rfl⟩
  case body =>
    rintro l pre x a' W hl ⟨r, hr⟩ ⟨⟨v, hv, hrow, _⟩, hB⟩ ⟨Bx, hBx, hX, rfl⟩ hlt
    have hcv := hv.cell
    have hx : ∀ i, W.cell? ⟨Bx, i, none⟩ = (itemL x).toArray[i]? := hX.cell
    have hx0 : W.cell? ⟨Bx, 0, none⟩ = some (.int .i64 x.s) := hx 0
    have hx1 : W.cell? ⟨Bx, 1, none⟩ = some (.int .i64 x.t) := hx 1
    have hx2 : W.cell? ⟨Bx, 2, none⟩ = some (.int .i64 x.q) := hx 2
    have hx3 : W.cell? ⟨Bx, 3, none⟩ = some (.int .i64 x.v) := hx 3
    clear hx
    have hle : w.heap.size ≤ w.heap.size := Nat.le_refl _
    gi_wp2_with (first
      | (gi_at_builtin
         refine wpListIn_append_own _ rfl _ _ 36 rfl w.heap.size 47 i0 _ 4 32 Try.underlying36 hi hz hs0 hy0 rfl (by decide) _ _ _ rfl (hrow.alloc _) ⟨W.heap.size, 0, none⟩ 1 1 (itemL x) rfl rfl
           (fun j u hu => by
             rw [Addr.add_mid, Nat.zero_add]
             exact ((Has.made W _ _).cell j).trans ((show (itemL x).toArray[j]? = (itemL x)[j]? from List.getElem?_toArray).trans hu))
           (fun u hu => by simp only [itemL, List.mem_cons, List.not_mem_nil, or_false] at hu; rcases hu with rfl | rfl | rfl | rfl <;> rfl) (by unfold maxLen; omega) (by omega) (by have := hB.size; simp; omega) ?_
         intro v' w1 hown' hgrow _
         obtain ⟨g', cap', rfl⟩ := ownsRow_succ hown'
         obtain ⟨hv1, hv2, hr2, hk2, hb2⟩ := hv.appended (by decide) hrow hB.size hle hown' hgrow
         have hc1 := hv1.cell
         have hf1 := hv1.frozen)
      | gi_in)
    exact ⟨hk2.from _, hb2, ⟨_, hv2, by simpa [List.flatMap_append] using hr2, trivial⟩, hB.trans hb2⟩
  case done =>
    rintro D ys W hD rfl ⟨⟨v, hv, hrow, _⟩, hB⟩ hK
    have hcv := hv.cell
    have hsh : ∃ A2 n2 c2, v = .slice A2 n2 c2 := by
      obtain ⟨A2, c2, e, _⟩ := OwnIt.form (show OwnIt W w.heap.size v ys from hrow)
      exact ⟨A2, _, c2, e⟩
    obtain ⟨A2, n2, c2, rfl⟩ := hsh
    gi_wp2
    refine ⟨by simp, .inl ⟨_, _, rfl, run_takeDeferred hK, ?_⟩⟩
    refine ⟨_, results_tmp rfl _ _ _, ⟨.slice A2 n2 c2, rfl, (show OwnIt (W.putObj D (.deferred none)) w.heap.size (.slice A2 n2 c2) ys from ownsRow_putObj hrow _ hK rfl), ?_⟩⟩
    exact hB.trans (belowK_b (w := w) (Nat.le_refl _) W D _ _ (by simp at hD; omega) hK rfl rfl)
  case stop =>
    rintro D c pre W _ _ h _
    exact h.elim

set_option maxRecDepth 100000 in
set_option maxHeartbeats 1000000 in
theorem collect_in (F : Fence) (n : Nat) (h0f : F.fn 86) (h1f : F.fn 96) (h2f : F.fn 88) (hro : F.round = none) (hn : 4 ≤ n) (Bs : Nat) (A : Option Addr) (len cap : Nat) (zs : List It) (hl8 : len ≤ 8192) (w : World) (hc : w.cell? ⟨Bs, 0, none⟩ = some (.slice A len cap)) (hI : Items w A len zs) :
    CallsIn F n Try.prog 86 #[.func (.func 88) #[] #[.pointer (some ⟨Bs, 0, none⟩)]] w fun e w' => ∃ v, e = .returned v ∧ OwnIt w' w.heap.size v zs ∧ Below w.heap.size w w' := by
  have h1 : 1 ≤ n := by omega
  have HA := Lib.hid (appseq_in F (n - 1) h1f h2f hro (by omega) Bs A len cap zs hl8 w hc hI)
  clear hc hI
  refine callsIn_of_wp Try.func86 rfl h0f ?_ hro
  simp only [Try.ntmps86, List.size_toArray, List.length_cons, List.length_nil, Nat.reduceAdd, Nat.reduceSub, Array.replicate_succ, Array.replicate_zero, List.push_toArray, List.append_toArray, List.nil_append, List.cons_append]
  gi_wp2_with (gi_at_call 96; refine HA.out.mono ?_; clear HA; rintro e w1 ⟨v, rfl, h1, h2⟩)
  go_ret
  exact ⟨v, rfl, h1, h2⟩
theorem collect_any (Bs : Nat) (A : Option Addr) (len cap : Nat) (zs : List It) (hl8 : len ≤ 8192) (w : World) (hc : w.cell? ⟨Bs, 0, none⟩ = some (.slice A len cap)) (hI : Items w A len zs) :
    Calls Try.prog 86 #[.func (.func 88) #[] #[.pointer (some ⟨Bs, 0, none⟩)]] w fun e w' => ∃ v, e = .returned v ∧ OwnIt w' w.heap.size v zs ∧ Below w.heap.size w w' :=
  (callsIn_wide (n := 5)).1 (collect_in _ 5 trivial trivial trivial rfl (by omega) Bs A len cap zs hl8 w hc hI)
theorem tvals_any (a : Option Addr) (len cap : Nat) (w : World) :
    Calls Try.prog 73 #[.slice a len cap] w fun e w' => e = .returned (.func (.func 88) #[] #[.pointer (some ⟨w.heap.size, 0, none⟩)]) ∧ w' = w.alloc (.cells #[.slice a len cap] 36) :=
  (callsIn_wide (n := 5)).1 (vals_in _ 5 trivial rfl a len cap w)

end Go.Proofs.Ytdoflmphkalicaa
