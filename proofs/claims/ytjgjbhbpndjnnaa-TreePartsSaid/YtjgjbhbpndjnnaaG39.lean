/-
  What an argument that came in looks like: a slice of items. No program's own steps here.
  Walks: slices.Values of items: the closure goes over them in their row.
-/
import Derived.Test.YtjgjbhbpndjnnaaG14
import Derived.Test.YtjgjbhbpndjnnaaG9
import Derived.Test.YtjgjbhbpndjnnaaG25
import Derived.RangeFuncNested
import Derived.RangeFuncBound
import Derived.RangeFuncCalls
import Derived.RangeFuncLeaves
import Derived.RangeFuncBox
import Derived.Shelf.Abstract
import Derived.WalkKit
import Derived.OwnWalkIn
import Derived.TacticsInMore
import Derived.LoopNIn
import Derived.LoopIn
namespace Go.Proofs.Ytjgjbhbpndjnnaa
open Go.ChangeShapes Go.WideShapes Go.ChangeAt Go.RowKit Go.Joins Go.Deep

set_option maxRecDepth 100000 in
theorem cellsItemT : Try.prog.cellsOf 23 = 4 := by kernel_rfl
set_option maxRecDepth 100000 in
theorem cellsIntT : Try.prog.cellsOf 3 = 1 := by kernel_rfl
section
variable {H : Type} {enc : TypeId × Value → H} {W : World} {base : Nat} {sp : Nat → Bool} {held : Bool}
set_option maxRecDepth 100000 in
theorem intT_cell {n : Nat} {c : Value} {y : DataW H × List MemPlace} (h : DataW.trod enc Try.prog W base sp held n 3 [c] = some y) : ∃ a : Int, c = .int .i64 a := by
  obtain ⟨a, e, _, _⟩ := DataW.trod_int Try.underlying3 h
  simp only [List.cons.injEq, and_true] at e
  exact ⟨a, e⟩
set_option maxRecDepth 100000 in
theorem itT_cells {n : Nat} {c0 c1 c2 c3 : Value} {y : DataW H × List MemPlace} (h : DataW.trod enc Try.prog W base sp held n 23 [c0, c1, c2, c3] = some y) : ∃ x : It, [c0, c1, c2, c3] = itemL x := by
  obtain ⟨xs, n', _, _, _, hxl, hg⟩ := DataW.trod_struct Try.underlying23 h
  match xs, hxl with
  | [y0, y1, y2, y3], _ =>
    have g0 : DataW.trod enc Try.prog W base sp held n' 3 ((List.drop 0 [c0, c1, c2, c3]).take (Try.prog.cellsOf 3)) = ([y0, y1, y2, y3] : List (DataW H × List MemPlace))[0]? := hg 0 _ rfl
    have g1 : DataW.trod enc Try.prog W base sp held n' 3 ((List.drop 1 [c0, c1, c2, c3]).take (Try.prog.cellsOf 3)) = ([y0, y1, y2, y3] : List (DataW H × List MemPlace))[1]? := hg 1 _ rfl
    have g2 : DataW.trod enc Try.prog W base sp held n' 3 ((List.drop 2 [c0, c1, c2, c3]).take (Try.prog.cellsOf 3)) = ([y0, y1, y2, y3] : List (DataW H × List MemPlace))[2]? := hg 2 _ rfl
    have g3 : DataW.trod enc Try.prog W base sp held n' 3 ((List.drop 3 [c0, c1, c2, c3]).take (Try.prog.cellsOf 3)) = ([y0, y1, y2, y3] : List (DataW H × List MemPlace))[3]? := hg 3 _ rfl
    rw [cellsIntT] at g0 g1 g2 g3
    obtain ⟨a0, rfl⟩ := intT_cell (by simpa using g0)
    obtain ⟨a1, rfl⟩ := intT_cell (by simpa using g1)
    obtain ⟨a2, rfl⟩ := intT_cell (by simpa using g2)
    obtain ⟨a3, rfl⟩ := intT_cell (by simpa using g3)
    exact ⟨⟨a0, a1, a2, a3⟩, rfl⟩
set_option maxRecDepth 100000 in
/-- A slice of items that came in. -/
theorem open_itemsT {d : DataW H} {p : List MemPlace} {A : Option Addr} {len cap : Nat} (h : DataW.Trod enc Try.prog W base sp held 52 (.slice A len cap) d p) (hsp : ∀ b, sp b = true) :
    ∃ xs : List It, Items W A len xs ∧ (A = none → cap = 0 ∧ len = 0) ∧ len ≤ cap ∧ cap ≤ maxLen := by
  obtain ⟨fuel, hf⟩ := h
  rcases Deep.open_slice Try.underlying52 hf with ⟨hcs, _⟩ | ⟨x, l, cp, m, n, D, Pl, hcs, _, hl, hm, hmm, _, hi⟩
  · simp only [Value.cells, List.cons.injEq, and_true] at hcs
    injection hcs with e1 e2 e3
    subst e1; subst e2; subst e3
    exact ⟨[], Items.nil _ _, fun _ => ⟨rfl, rfl⟩, Nat.le_refl _, by unfold maxLen; omega⟩
  · simp only [Value.cells, List.cons.injEq, and_true] at hcs
    injection hcs with e1 e2 e3
    subst e1; subst e2; subst e3
    rw [if_pos (hsp _)] at hmm
    subst hmm
    have four : ∀ (cs : List Value), cs.length = 4 → ∀ {n y}, DataW.trod enc Try.prog W base sp held n 23 cs = some y → ∃ q : It, cs = itemL q := by
      intro cs hlen n y hf
      match cs, hlen with
      | [c0, c1, c2, c3], _ => exact itT_cells hf
    have hsp0 : 0 < len → x.spot = none := fun h0 => by
      obtain ⟨cs', h1, h2⟩ := hi 0 (by omega)
      rw [cellsItemT] at h1
      obtain ⟨_, hlen, hcell⟩ := World.cells?_some h1
      obtain ⟨q, e⟩ := four _ hlen h2
      subst e
      have h3 := hcell 0 (by omega)
      have hsome : (itemL q)[0]? = some (.int .i64 q.s) := rfl
      rw [hsome] at h3
      have h4 := spot_G h3
      simpa [Addr.add] using h4
    have each : ∀ i, i < len → ∃ q : It, W.rangeAt x.block (x.off + i * 4) (itemL q) := by
      intro i hil
      obtain ⟨cs', h1, h2⟩ := hi i (by omega)
      rw [cellsItemT] at h1
      obtain ⟨_, hlen, hcell⟩ := World.cells?_some h1
      obtain ⟨q, e⟩ := four _ hlen h2
      subst e
      have hs : ∀ j, j < 4 → (x.add (i * 4)).add j = ⟨x.block, x.off + i * 4 + j, none⟩ := by
        have hsn := hsp0 (by omega)
        obtain ⟨b, o, s⟩ := x
        simp only at hsn
        subst hsn
        exact fun j _ => by rw [Addr.add_mid, Addr.add_mid]
      refine ⟨q, fun j v hv => ?_⟩
      have hj : j < 4 := (List.getElem?_eq_some_iff.1 hv).1
      rw [← hs j hj, hcell j hj]
      exact hv
    haveI : Inhabited It := ⟨zeroIt⟩
    obtain ⟨q, hq⟩ := choose_lt each
    refine ⟨(List.range len).map q, ⟨by simp, fun hn => ?_⟩, fun e => (by cases e), hl, hm⟩
    have hs := hsp0 hn
    obtain ⟨b, o, s⟩ := x
    simp only at hs
    subst hs
    refine ⟨b, o, rfl, fun i hlt => ?_⟩
    have e : nthI ((List.range len).map q) i = q i := by simp [nthI, hlt]
    rw [e]
    exact hq i hlt
end

end Go.Proofs.Ytjgjbhbpndjnnaa

namespace Go.Proofs.Ytjgjbhbpndjnnaa
open Go.RowKit Go.Shelf

attribute [local go_sem] Oper.semAt_some

abbrev encIt (x : It) : Array Value := #[.agg #[.int .i64 x.s, .int .i64 x.t, .int .i64 x.q, .int .i64 x.v]]
set_option maxRecDepth 100000 in
set_option maxHeartbeats 2000000 in
theorem vals1_in (F : Fence) (n : Nat) (hf : F.fn 92) (hro : F.round = none) (hn : 1 ≤ n) (l Bs n0 b off len cap : Nat) (zs : List It) (hl : zs.length = len) (hreach : len ≤ 17592186044416) (hb : b < n0) (J Jx : List It → World → Prop)
    (hY : ∀ pre x W, J pre W → pre.length < len → YieldAt F (n - 1) Try.prog l (encIt x) W fun e W' =>
      (e = .returned (.bool true) ∧ J (pre ++ [x]) W' ∧ Below n0 W W') ∨ (e = .returned (.bool false) ∧ Jx (pre ++ [x]) W'))
    (W : World) (hn0 : n0 ≤ W.heap.size) (hJ : AbidesFrom W.heap.size J) (hBs : W.cell? ⟨Bs, 0, none⟩ = some (.slice (some ⟨b, off, none⟩) len cap)) (hc : ∀ k, k < len → W.rangeAt b (off + k * 4) (itemL (nthI zs k))) (h0 : J [] W) :
    CallsIn F n Try.prog 92 #[.func (.yield l) #[] #[], .pointer (some ⟨Bs, 0, none⟩)] W fun e W' => (∃ v, e = .returned v) ∧
      (J zs W' ∨ (∃ pre, pre <+: zs ∧ Jx pre W')) := by
  refine callsIn_of_wp Try.func92 rfl hf ?_ hro
  simp only [Try.ntmps92, List.size_toArray, List.length_cons, List.length_nil, Nat.reduceAdd, Nat.reduceSub, Array.replicate_succ, Array.replicate_zero, List.push_toArray, List.append_toArray, List.nil_append, List.cons_append]
  gi_wp2
  gi_loopw [7] (fun i wr => ∃ k : Nat, k ≤ len ∧ i = .int .i64 k ∧ J (zs.take k) wr ∧ Below n0 W wr)
    (fun i _ => len - (intOf i).toNat)
  case atStart => exact ⟨0, Nat.zero_le _, rfl, h0, Below.refl _ _⟩
  case round =>
    obtain ⟨k, hk, rfl, hJs, hnx⟩ := hrel
    by_cases hlt : k < len
    · have hcx : ∀ j v, (itemL (nthI zs k))[j]? = some v → wr.cell? ⟨b, off + k * 4 + j, none⟩ = some v := fun j v h => (hnx.cell (p := ⟨b, off + k * 4 + j, none⟩) hb).trans (hc k hlt j v h)
      have hc0 : wr.cell? ⟨b, off + k * 4, none⟩ = some (.int .i64 (nthI zs k).s) := hcx 0 _ rfl
      have hc1 : wr.cell? ⟨b, off + k * 4 + 1, none⟩ = some (.int .i64 (nthI zs k).t) := hcx 1 _ rfl
      have hc2 : wr.cell? ⟨b, off + k * 4 + 2, none⟩ = some (.int .i64 (nthI zs k).q) := hcx 2 _ rfl
      have hc3 : wr.cell? ⟨b, off + k * 4 + 3, none⟩ = some (.int .i64 (nthI zs k).v) := hcx 3 _ rfl
      clear hcx
      have hlen : (zs.take k).length = k := by rw [List.length_take]; omega
      have hsn : zs.take k ++ [nthI zs k] = zs.take (k + 1) := by
        rw [List.take_add_one, List.getElem?_eq_getElem (by omega)]
        simp [nthI, List.getElem?_eq_getElem (show k < zs.length by omega)]
      have hgr : wr.grownBy (wr.alloc (.cells #[.int .i64 (nthI zs k).s, .int .i64 (nthI zs k).t, .int .i64 (nthI zs k).q, .int .i64 (nthI zs k).v] 23)) none := World.grownBy_alloc wr _ none
      obtain ⟨fn, tmps, assign, body, hy, hR⟩ := hY (zs.take k) (nthI zs k) _ (hJ _ _ _ none hJs hgr (fun r e => by cases e)) (by rw [hlen]; exact hlt)
      have hbl : Below n0 wr (wr.alloc (.cells #[.int .i64 (nthI zs k).s, .int .i64 (nthI zs k).t, .int .i64 (nthI zs k).q, .int .i64 (nthI zs k).v] 23)) := (Below.refl _ _).alloc (Nat.le_trans hn0 hnx.size) _
      rw [hsn] at hR
      dsimp only [encIt] at hy
      clear hlen hgr
      gi_wp2
      refine hR.mono ?_
      rintro e W3 (⟨rfl, hJ3, hk3⟩ | ⟨rfl, hJx3⟩)
      · gi_wp2
        go_roundw
        case rel => exact ⟨k + 1, by omega, by simp, hJ3, (hnx.trans hbl).trans hk3⟩
        case measure => simp [intOf]; omega
      · gi_wp2
        refine bodyPost_ret (results_none rfl _ _ _) rfl ?_
        exact ⟨⟨_, rfl⟩, .inr ⟨_, List.take_prefix _ _, hJx3⟩⟩
    · obtain rfl : k = len := by omega
      rw [List.take_of_length_le (by omega)] at hJs
      gi_wp2
      go_end0
      exact ⟨⟨_, rfl⟩, .inl hJs⟩
set_option maxRecDepth 100000 in
set_option maxHeartbeats 1000000 in
theorem vals1_nil (F : Fence) (n : Nat) (hf : F.fn 92) (hro : F.round = none) (l Bs cap : Nat) (A : Option Addr) (J : List It → World → Prop) (W : World) (hBs : W.cell? ⟨Bs, 0, none⟩ = some (.slice A 0 cap)) (h0 : J [] W) :
    CallsIn F n Try.prog 92 #[.func (.yield l) #[] #[], .pointer (some ⟨Bs, 0, none⟩)] W fun e W' => (∃ v, e = .returned v) ∧ J [] W' := by
  refine callsIn_of_wp Try.func92 rfl hf ?_ hro
  simp only [Try.ntmps92, List.size_toArray, List.length_cons, List.length_nil, Nat.reduceAdd, Nat.reduceSub, Array.replicate_succ, Array.replicate_zero, List.push_toArray, List.append_toArray, List.nil_append, List.cons_append]
  gi_wp2
  gi_loopw [7] (fun i wr => i = .int .i64 0 ∧ J [] wr) (fun _ _ => 0)
  case atStart => exact ⟨rfl, h0⟩
  case round =>
    obtain ⟨rfl, hJs⟩ := hrel
    gi_wp2
    go_end0
    exact ⟨⟨_, rfl⟩, hJs⟩
theorem vals_in (F : Fence) (n : Nat) (hf : F.fn 79) (hro : F.round = none) (a : Option Addr) (len cap : Nat) (w : World) :
    CallsIn F n Try.prog 79 #[.slice a len cap] w fun e w' => e = .returned (.func (.func 92) #[] #[.pointer (some ⟨w.heap.size, 0, none⟩)]) ∧ w' = w.alloc (.cells #[.slice a len cap] 52) := by
  refine callsIn_of_wp Try.func79 rfl hf ?_ hro
  simp only [Try.ntmps79, List.size_toArray, List.length_cons, List.length_nil, Nat.reduceAdd, Nat.reduceSub, Array.replicate_succ, Array.replicate_zero, List.push_toArray, List.append_toArray, List.nil_append, List.cons_append]
  gi_wp2
  go_ret
  exact ⟨rfl, rfl⟩
/-- slices.Values of a row of items hands back what goes over them, in their row. -/
theorem vals_stops (F : Fence) (n : Nat) (hf : F.fn 92) (hro : F.round = none) (hn : 1 ≤ n) (Bs : Nat) (A : Option Addr) (len cap : Nat) (zs : List It) (hreach : len ≤ 17592186044416) (w : World) (hc : w.cell? ⟨Bs, 0, none⟩ = some (.slice A len cap)) (hI : Items w A len zs) :
    SeqStopsK F n Try.prog 92 #[.pointer (some ⟨Bs, 0, none⟩)] encIt (Below w.heap.size) (fun ys => ys = zs) (fun pre => pre <+: zs) len w := fun l J Jx W hW hJ _ hY h0 => by
  have hBs : Bs < w.heap.size := block_lt_of_cell hc
  have hc' := (hW.cell (p := ⟨Bs, 0, none⟩) hBs).trans hc
  have hI2 := hI.below hW
  by_cases h0n : len = 0
  · subst h0n
    obtain rfl : zs = [] := List.length_eq_zero_iff.1 hI.1
    exact (vals1_nil F n hf hro l Bs cap A J W hc' h0).mono fun e W' ⟨he, hj⟩ => ⟨he, .inl ⟨_, rfl, hj⟩⟩
  · obtain ⟨b, off, rfl, hcs⟩ := hI.2 (by omega)
    have hb : b < w.heap.size := by
      have := hcs 0 (by omega) 0 _ rfl
      exact block_lt_of_cell this
    obtain ⟨b2, off2, e2, hcs2⟩ := hI2.2 (by omega)
    injection e2 with e3
    injection e3 with e4 e5
    subst e4
    subst e5
    refine (vals1_in F n hf hro hn l Bs w.heap.size b off len cap zs hI.1 hreach hb J Jx hY W hW.size hJ hc' (fun k hk => hcs2 k hk) h0).mono ?_
    rintro e W' ⟨he, hj | ⟨pre, hp, hj⟩⟩
    · exact ⟨he, .inl ⟨_, rfl, hj⟩⟩
    · exact ⟨he, .inr ⟨_, hp, hj⟩⟩

end Go.Proofs.Ytjgjbhbpndjnnaa
