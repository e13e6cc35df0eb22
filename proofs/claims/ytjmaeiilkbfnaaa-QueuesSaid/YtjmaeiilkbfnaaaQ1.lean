/-
  A cell that stands in memory is no named spot. (Out of XOpen.)
  What an argument that came in looks like: an int and a slice of ints in a struct's fields. No program's own steps here.
  What an argument that came in looks like: a slice of integers, an item. No program's own steps here.
  What an argument that came in looks like: an aggregate. No program's own steps here.
  Walks: the laws' helpers CopyAccs and SameAccs; the reference's One where it refuses.
  What an argument that came in looks like: a slice of aggregates. No program's own steps here.
-/
import Derived.Test.YtjmaeiilkbfnaaaProg
import Derived.Test.YtjmaeiilkbfnaaaMem
import Derived.ProofKit
import Derived.OpenShut
import Derived.ChangeOld
import Derived.Lib.SmallJoins
import Derived.SizedLaws
import Derived.Test.YtjmaeiilkbfnaaaOne
import Derived.Test.YtjmaeiilkbfnaaaQ6
import Derived.Test.YtjmaeiilkbfnaaaQ8
import Derived.Test.YtjmaeiilkbfnaaaROne
import Derived.Deep.Slices
namespace Go.Proofs.Ytjmaeiilkbfnaaa
open Go.ChangeShapes Go.WideShapes Go.ChangeAt Go.RowKit Go.Joins Go.Deep

theorem spot_none {w : World} {x : Addr} {v : Value} (h : w.cell? x = some v) : x.spot = none := by
  unfold World.cell? at h
  split at h
  · cases e : x.spot with
    | none => rfl
    | some y => rw [e] at h; simp at h
  · cases h

end Go.Proofs.Ytjmaeiilkbfnaaa

namespace Go.Proofs.Ytjmaeiilkbfnaaa
open Go.ChangeShapes Go.WideShapes Go.ChangeAt Go.RowKit Go.Joins Go.Deep

theorem cellsInt : Try.prog.cellsOf 3 = 1 := by kernel_rfl
theorem cellsRow : Try.prog.cellsOf 25 = 1 := by kernel_rfl
theorem bytesInt : Try.prog.bytesOf 3 = 8 := by kernel_rfl

section
variable {H : Type} {enc : TypeId × Value → H} {W : World} {base : Nat} {sp : Nat → Bool} {held : Bool} {r : Reach} {b0 : Nat}
theorem int_cell {n : Nat} {c : Value} {y : DataW H × List MemPlace} (h : DataW.trod enc Try.prog W base sp held n 3 [c] = some y) : ∃ a : Int, c = .int .i64 a := by
  obtain ⟨a, e, _, _⟩ := DataW.trod_int Try.underlying3 h
  simp only [List.cons.injEq, and_true] at e
  exact ⟨a, e⟩
/-- A slice of integers in a struct's field. -/
theorem row_cell {n : Nat} {c : Value} {y : DataW H × List MemPlace} (h : DataW.trod enc Try.prog W base sp held n 25 [c] = some y) (hsp : ∀ b, sp b = true) :
    ∃ (A : Option Addr) (len cap : Nat) (xs : List Int), c = .slice A len cap ∧ Ints W A len xs ∧ len ≤ cap ∧ cap ≤ maxLen ∧ (A = none → cap = 0) ∧ (cap = 0 ∨ ∃ elems spare, y.1 = .slice elems spare ∧ elems.length + spare.length = cap) := by
  rcases open_ints Try.underlying25 Try.underlying3 (by kernel_rfl) h with ⟨hcs, _⟩ | ⟨x, l, cp, zs, hcs, _, hl, hm, hz, hd, hcell, hwz⟩
  · simp only [List.cons.injEq, and_true] at hcs
    exact ⟨none, 0, 0, [], hcs, Ints.nil, Nat.le_refl _, Nat.zero_le _, fun _ => rfl, .inl rfl⟩
  · simp only [List.cons.injEq, and_true] at hcs
    subst hcs
    have hz' : zs.length = cp := by rw [hz, if_pos (hsp _)]
    refine ⟨some x, l, cp, zs.take l, rfl, ⟨by simp only [List.length_take]; omega, fun hn => ⟨x.block, x.off, ?_, fun k hk => ?_⟩⟩, hl, hm, (fun e => by cases e), Or.inr ⟨_, _, (by rw [hd]), (by simp [lits]; omega)⟩⟩
    · have h0 := hcell 0 (by omega)
      have hs := spot_none h0
      simp only [Addr.add, if_true] at hs
      obtain ⟨b, o, s⟩ := x
      simp only at hs
      rw [hs]
    · have h1 := hcell k (by omega)
      have e : x.add k = ⟨x.block, x.off + k, none⟩ := by
        have hs := spot_none (hcell 0 (by omega))
        simp only [Addr.add, if_true] at hs
        obtain ⟨b, o, s⟩ := x
        simp only at hs
        subst hs
        by_cases h : k = 0
        · subst h; rfl
        · simp [Addr.add, h]
      rw [e] at h1
      rw [h1]
      have hk2 : k < zs.length := by omega
      simp [nth, hk, hk2]
end

end Go.Proofs.Ytjmaeiilkbfnaaa

namespace Go.Proofs.Ytjmaeiilkbfnaaa
open Go.ChangeShapes Go.WideShapes Go.ChangeAt Go.RowKit Go.Joins Go.Deep

/-- A slice of integers that came in. -/
theorem open_slice {H : Type} {enc : TypeId × Value → H} {W : World} {base : Nat} {sp : Nat → Bool} {d : DataW H} {p : List MemPlace} {a : Option Addr} {len cap : Nat} (h : DataW.Trod enc Try.prog W base sp true 25 (.slice a len cap) d p) (hsp : ∀ b, sp b = true) :
    ∃ xs : List Int, Ints W a len xs ∧ len ≤ maxLen ∧ ∀ x ∈ xs, (Lit.int .i64 x).wf = true := by
  obtain ⟨fuel, hf⟩ := h
  rcases open_ints Try.underlying25 Try.underlying3 (by kernel_rfl) hf with ⟨hcs, _⟩ | ⟨x, l, c, zs, hcs, _, hl, hm, hz, _, hcell, hwz⟩
  · simp [Value.cells] at hcs
    obtain ⟨rfl, rfl, rfl⟩ := hcs
    exact ⟨[], Ints.nil, Nat.zero_le _, fun _ h => by cases h⟩
  · simp [Value.cells] at hcs
    obtain ⟨rfl, rfl, rfl⟩ := hcs
    have hz' : zs.length = cap := by rw [hz, if_pos (hsp _)]
    refine ⟨zs.take len, ⟨by simp only [List.length_take]; omega, fun hn => ⟨x.block, x.off, ?_, fun k hk => ?_⟩⟩, by omega, fun y hy => hwz y (List.mem_of_mem_take hy)⟩
    · have h0 := hcell 0 (by omega)
      have hs := spot_none h0
      simp only [Addr.add, if_true] at hs
      obtain ⟨b, o, s⟩ := x
      simp only at hs
      rw [hs]
    · have h1 := hcell k (by omega)
      have e : x.add k = ⟨x.block, x.off + k, none⟩ := by
        have hs := spot_none (hcell 0 (by omega))
        simp only [Addr.add, if_true] at hs
        obtain ⟨b, o, s⟩ := x
        simp only at hs
        subst hs
        by_cases h : k = 0
        · subst h; rfl
        · simp [Addr.add, h]
      rw [e] at h1
      rw [h1]
      have hk2 : k < zs.length := by omega
      simp [nth, hk, hk2]
set_option maxRecDepth 100000 in
theorem open_item {H : Type} {enc : TypeId × Value → H} {W : World} {base : Nat} {sp : Nat → Bool} {held : Bool} {r : Reach} {b0 : Nat} {v : Value} {d : DataW H} {p : List MemPlace} (hv : Value.okWide Try.prog W r b0 23 v) (h : DataW.Trod enc Try.prog W base sp held 23 v d p) :
    ∃ x : It, v = .agg #[.int .i64 x.s, .int .i64 x.t, .int .i64 x.q, .int .i64 x.v] ∧ (Lit.int .i64 x.s).wf = true ∧ (Lit.int .i64 x.t).wf = true ∧ (Lit.int .i64 x.q).wf = true ∧ (Lit.int .i64 x.v).wf = true := by
  obtain ⟨v0, v1, v2, v3, y0, y1, y2, y3, n, rfl, _, _, t0, t1, t2, t3⟩ := open_agg4 Try.underlying23 (by kernel_rfl) (by kernel_rfl) hv h
  obtain ⟨a, e0, _, w0⟩ := DataW.trod_int Try.underlying3 t0
  obtain ⟨b, e1, _, w1⟩ := DataW.trod_int Try.underlying3 t1
  obtain ⟨c, e2, _, w2⟩ := DataW.trod_int Try.underlying3 t2
  obtain ⟨e, e3, _, w3⟩ := DataW.trod_int Try.underlying3 t3
  simp only [List.cons.injEq, and_true] at e0 e1 e2 e3
  subst e0 e1 e2 e3
  exact ⟨⟨a, b, c, e⟩, rfl, w0, w1, w2, w3⟩

end Go.Proofs.Ytjmaeiilkbfnaaa

namespace Go.Proofs.Ytjmaeiilkbfnaaa
open Go.ChangeShapes Go.WideShapes Go.ChangeAt Go.RowKit Go.Joins Go.Deep

theorem cellsItem : Try.prog.cellsOf 23 = 4 := by kernel_rfl
theorem cellsAcc : Try.prog.cellsOf 29 = 13 := by kernel_rfl
section
variable {H : Type} {enc : TypeId × Value → H} {W : World} {base : Nat} {sp : Nat → Bool} {held : Bool} {r : Reach} {b0 : Nat}
theorem item_cells {n : Nat} {c0 c1 c2 c3 : Value} {y : DataW H × List MemPlace} (h : DataW.trod enc Try.prog W base sp held n 23 [c0, c1, c2, c3] = some y) : ∃ x : It, c0 = .int .i64 x.s ∧ c1 = .int .i64 x.t ∧ c2 = .int .i64 x.q ∧ c3 = .int .i64 x.v := by
  obtain ⟨xs, n', _, _, _, hxl, hg⟩ := DataW.trod_struct Try.underlying23 h
  match xs, hxl with
  | [y0, y1, y2, y3], _ =>
    have g0 : DataW.trod enc Try.prog W base sp held n' 3 ((List.drop 0 [c0, c1, c2, c3]).take (Try.prog.cellsOf 3)) = ([y0, y1, y2, y3] : List (DataW H × List MemPlace))[0]? := hg 0 _ rfl
    have g1 : DataW.trod enc Try.prog W base sp held n' 3 ((List.drop 1 [c0, c1, c2, c3]).take (Try.prog.cellsOf 3)) = ([y0, y1, y2, y3] : List (DataW H × List MemPlace))[1]? := hg 1 _ rfl
    have g2 : DataW.trod enc Try.prog W base sp held n' 3 ((List.drop 2 [c0, c1, c2, c3]).take (Try.prog.cellsOf 3)) = ([y0, y1, y2, y3] : List (DataW H × List MemPlace))[2]? := hg 2 _ rfl
    have g3 : DataW.trod enc Try.prog W base sp held n' 3 ((List.drop 3 [c0, c1, c2, c3]).take (Try.prog.cellsOf 3)) = ([y0, y1, y2, y3] : List (DataW H × List MemPlace))[3]? := hg 3 _ rfl
    rw [cellsInt] at g0 g1 g2 g3
    obtain ⟨a0, rfl⟩ := int_cell (by simpa using g0)
    obtain ⟨a1, rfl⟩ := int_cell (by simpa using g1)
    obtain ⟨a2, rfl⟩ := int_cell (by simpa using g2)
    obtain ⟨a3, rfl⟩ := int_cell (by simpa using g3)
    exact ⟨⟨a0, a1, a2, a3⟩, rfl, rfl, rfl, rfl⟩
set_option maxRecDepth 100000 in
theorem open_acc {v : Value} {d : DataW H} {p : List MemPlace} (hv : Value.okWide Try.prog W r b0 29 v) (h : DataW.Trod enc Try.prog W base sp held 29 v d p) (hsp : ∀ b, sp b = true) :
    ∃ (a : Ac) (A : Option Addr) (k c : Nat), v = .agg (accC a A k c) ∧ Ints W A k a.h ∧ k ≤ c ∧ (A = none → c = 0) ∧ (c = 0 ∨ c * 8 ∈ d.weights Try.prog 29) := by
  obtain ⟨cs, rfl, hsz⟩ := okWide_struct Try.underlying29 hv
  obtain ⟨l⟩ := cs
  match l, hsz.trans cellsAcc with
  | [c0, c1, c2, c3, c4, c5, c6, c7, c8, c9, c10, c11, c12], _ =>
    obtain ⟨fuel, hf⟩ := h
    obtain ⟨xs, n, _, hx, _, hxl, hg⟩ := DataW.trod_struct Try.underlying29 hf
    match xs, hxl with
    | [y0, y1, y2, y3, y4, y5, y6], _ =>
      have g0 : DataW.trod enc Try.prog W base sp held n 3 ((List.drop 0 [c0, c1, c2, c3, c4, c5, c6, c7, c8, c9, c10, c11, c12]).take (Try.prog.cellsOf 3)) = ([y0, y1, y2, y3, y4, y5, y6] : List (DataW H × List MemPlace))[0]? := hg 0 _ rfl
      have g1 : DataW.trod enc Try.prog W base sp held n 3 ((List.drop 1 [c0, c1, c2, c3, c4, c5, c6, c7, c8, c9, c10, c11, c12]).take (Try.prog.cellsOf 3)) = ([y0, y1, y2, y3, y4, y5, y6] : List (DataW H × List MemPlace))[1]? := hg 1 _ rfl
      have g2 : DataW.trod enc Try.prog W base sp held n 3 ((List.drop 2 [c0, c1, c2, c3, c4, c5, c6, c7, c8, c9, c10, c11, c12]).take (Try.prog.cellsOf 3)) = ([y0, y1, y2, y3, y4, y5, y6] : List (DataW H × List MemPlace))[2]? := hg 2 _ rfl
      have g3 : DataW.trod enc Try.prog W base sp held n 3 ((List.drop 3 [c0, c1, c2, c3, c4, c5, c6, c7, c8, c9, c10, c11, c12]).take (Try.prog.cellsOf 3)) = ([y0, y1, y2, y3, y4, y5, y6] : List (DataW H × List MemPlace))[3]? := hg 3 _ rfl
      have g4 : DataW.trod enc Try.prog W base sp held n 23 ((List.drop 4 [c0, c1, c2, c3, c4, c5, c6, c7, c8, c9, c10, c11, c12]).take (Try.prog.cellsOf 23)) = ([y0, y1, y2, y3, y4, y5, y6] : List (DataW H × List MemPlace))[4]? := hg 4 _ rfl
      have g5 : DataW.trod enc Try.prog W base sp held n 23 ((List.drop 8 [c0, c1, c2, c3, c4, c5, c6, c7, c8, c9, c10, c11, c12]).take (Try.prog.cellsOf 23)) = ([y0, y1, y2, y3, y4, y5, y6] : List (DataW H × List MemPlace))[5]? := hg 5 _ rfl
      have g6 : DataW.trod enc Try.prog W base sp held n 25 ((List.drop 12 [c0, c1, c2, c3, c4, c5, c6, c7, c8, c9, c10, c11, c12]).take (Try.prog.cellsOf 25)) = ([y0, y1, y2, y3, y4, y5, y6] : List (DataW H × List MemPlace))[6]? := hg 6 _ rfl
      rw [cellsInt] at g0 g1 g2 g3
      rw [cellsItem] at g4 g5
      rw [cellsRow] at g6
      obtain ⟨a0, rfl⟩ := int_cell (by simpa [Value.cells] using g0)
      obtain ⟨a1, rfl⟩ := int_cell (by simpa [Value.cells] using g1)
      obtain ⟨a2, rfl⟩ := int_cell (by simpa [Value.cells] using g2)
      obtain ⟨a3, rfl⟩ := int_cell (by simpa [Value.cells] using g3)
      obtain ⟨f, rfl, rfl, rfl, rfl⟩ := item_cells (by simpa [Value.cells] using g4)
      obtain ⟨z, rfl, rfl, rfl, rfl⟩ := item_cells (by simpa [Value.cells] using g5)
      obtain ⟨A, len, cap, xs, rfl, hI, hlc, hm, hnil, hw⟩ := row_cell (by simpa [Value.cells] using g6) hsp
      refine ⟨⟨a0, a1, a2, a3, f, z, xs⟩, A, len, cap, rfl, hI, hlc, hnil, ?_⟩
      rcases hw with h0 | ⟨elems, spare, e, hl⟩
      · exact .inl h0
      · right
        simp only [Prod.mk.injEq] at hx
        rw [hx.1]
        simp only [DataW.weights, Try.underlying29]
        refine DataW.weights_mem_each (j := 6) rfl rfl _ ?_
        show cap * 8 ∈ DataW.weights Try.prog 25 y6.1
        rw [e]
        simp only [DataW.weights, Try.underlying25, bytesInt, hl]
        exact List.mem_cons_self
end

end Go.Proofs.Ytjmaeiilkbfnaaa

namespace Go.Proofs.Ytjmaeiilkbfnaaa
open Go.RowKit

/-- A slice of aggregates that came in: each with buckets that memory bears. -/
def AccsR (w : World) (A : Option Addr) (n : Nat) (xs : List Ac) : Prop :=
  xs.length = n ∧ (0 < n → ∃ b o : Nat, A = some ⟨b, o, none⟩ ∧ ∀ i, i < n → ∃ B k c, AccAt w b (o + i * 13) (nthA xs i) B k c ∧ (B = none → c = 0) ∧ k * 8 ≤ 140737488351232)
theorem AccsR.accs {w : World} {A : Option Addr} {n : Nat} {xs : List Ac} (h : AccsR w A n xs) : Accs w A n xs :=
  ⟨h.1, fun hn => by
    obtain ⟨b, o, e, hi⟩ := h.2 hn
    exact ⟨b, o, e, fun i hlt => by obtain ⟨B, k, c, hx, _⟩ := hi i hlt; exact ⟨B, k, c, hx⟩⟩⟩
theorem AccsR.below {w w' : World} {A : Option Addr} {n : Nat} {xs : List Ac} (h : AccsR w A n xs) (hb : Below w.heap.size w w') : AccsR w' A n xs :=
  ⟨h.1, fun hn => by
    obtain ⟨b, o, e, hi⟩ := h.2 hn
    exact ⟨b, o, e, fun i hlt => by obtain ⟨B, k, c, hx, hy⟩ := hi i hlt; exact ⟨B, k, c, hx.keep (fun _ hp => hb.cell hp), hy⟩⟩⟩

/-- The row of copies so far. -/
structure CaS (w : World) (xs : List Ac) (j : Nat) (v : Value) (rs : List Rw) (wr : World) : Prop where
  own : OwnG wr w.heap.size v rs
  acs : rs.map (·.a) = xs.take j
  keep : Below w.heap.size w wr

set_option maxRecDepth 100000 in
set_option maxHeartbeats 4000000 in
theorem copyaccs_any (A : Option Addr) (n c : Nat) (xs : List Ac) (w : World) (hr : AccsR w A n xs) (hn : n * 120 ≤ 140737488351232) :
    Calls Try.prog 8 #[.slice A n c] w fun e w' => ∃ A' c' rs, e = .returned (.slice A' n c') ∧ OwnG w' w.heap.size (.slice A' n c') rs ∧ rs.map (·.a) = xs ∧ Below w.heap.size w w' := by
  have HR := Lib.hid hr
  have HL := Lib.hid hr.1
  have hP0 : Hid (CaS w xs 0 (.slice none 0 0) [] w) := ⟨OwnG.nil _ _, rfl, Below.refl _ _⟩
  clear hr
  go_enter Try.func8, Try.ntmps8
  go_wp2_with fail
  go_loopw [3, 4] (fun x i wr => ∃ (j : Nat) (D : Option Addr) (e : Nat) (rs : List Rw), j ≤ n ∧ i = .int .i64 j ∧ x = .slice D j e ∧ Hid (CaS w xs j (.slice D j e) rs wr)) (fun _ i _ => n - (intOf i).toNat)
  case atStart => exact ⟨0, none, 0, [], Nat.zero_le _, rfl, rfl, hP0⟩
  case round =>
    clear hP0
    obtain ⟨j, D, e, rs, hj, rfl, rfl, HP⟩ := hrel
    by_cases hlt : j < n
    · obtain ⟨b, o, rfl, hi⟩ := (HR.out.below HP.out.keep).2 (by omega)
      obtain ⟨Bj, kj, cj, hAt, hnil, hk8⟩ := hi j hlt
      clear hi
      have HTK : Hid (xs.take (j + 1) = xs.take j ++ [nthA xs j]) := by
        have hjl : j < xs.length := by rw [HL.out]; exact hlt
        rw [Hid, List.take_succ_eq_append_getElem hjl]
        simp [nthA, hjl]
      have hjn : (j : Int) < (n : Int) := by omega
      have hrl : rs.length = j := by have := congrArg List.length HP.out.acs; rw [List.length_map, List.length_take, HL.out] at this; omega
      have HRL := Lib.hid hrl; clear hrl
      generalize nthA xs j = Z at hAt HTK
      have HAT := Lib.hid hAt; clear hAt
      have HNIL := Lib.hid hnil; clear hnil
      go_wp2_with (refine load_acc rfl _ rfl _ _ rfl HAT.out ?_)
      refine (copyown_any Z Bj kj cj _ HAT.out.2.1 hk8 HNIL.out).mono ?_
      rintro e2 w2 ⟨A2, k2, c2, rfl, hown, hb⟩
      have HK := Lib.hid (HP.out.keep.trans (hb.mono HP.out.keep.size))
      have HO := Lib.hid (HP.out.own.below hb)
      have HN := Lib.hid (hown.mono (Nat.zero_le _))
      have HACS := Lib.hid HP.out.acs
      clear hown hb HAT HNIL HP
      go_wp2_with (first
        | (refine lit1 rfl _ rfl rfl ?_; intro wl hbl hvl; have HBL := Lib.hid hbl; have HVL := Lib.hid hvl; clear hbl hvl)
        | (refine app_accG rfl _ _ rfl rfl (HO.out.below HBL.out) rfl (r := ⟨Z, A2, k2, c2⟩) HVL.out (HN.out.below HBL.out) (by rw [HRL.out]; omega) (by have := HBL.out.size; have := HK.out.size; omega) ?_; intro v' w' hown hbb; obtain ⟨D2, e2, rfl, _⟩ := hown.form; have HW := Lib.hid hown; clear hown; have HBB := Lib.hid hbb; clear hbb))
      have hown := HW.out
      rw [show (rs ++ [(⟨Z, A2, k2, c2⟩ : Rw)]).length = j + 1 by simp [HRL.out]] at hown
      have HP3 : Hid (CaS w xs (j + 1) (.slice D2 (j + 1) e2) (rs ++ [⟨Z, A2, k2, c2⟩]) w') := ⟨hown, by rw [List.map_append, HACS.out, HTK.out]; rfl, (HK.out.trans (HBL.out.mono HK.out.size)).trans HBB.out⟩
      clear hown HW HBB HBL HVL HN HO HK
      go_wp2_with fail
      go_roundw
      case rel => exact ⟨j + 1, D2, e2, _, by omega, by go_num, by simp [HRL.out], HP3⟩
      case measure => simp [intOf]; omega
    · have hjm : j = n := by omega
      subst hjm
      go_wp2
      go_ret
      exact ⟨D, e, rs, rfl, HP.out.own, by rw [HP.out.acs, List.take_of_length_le (by rw [HL.out]; exact Nat.le_refl _)], HP.out.keep⟩

set_option maxRecDepth 100000 in
set_option maxHeartbeats 2000000 in
theorem rone_bad (x : It) (B : Option Addr) (m d : Nat) (bs : List Int) (w : World) (hbs : Ints w B m bs) (hm : m ≤ maxLen) (hno : (itemB x && boundsB bs) = false) :
    Calls Try.prog 10 #[.agg #[.int .i64 x.s, .int .i64 x.t, .int .i64 x.q, .int .i64 x.v], .slice B m d] w (BadAcc 100 w) := by
  have HN := Lib.hid hno; clear hno
  go_enter Try.func10, Try.ntmps10
  go_wp2_with fail
  refine (ritem_any x _).mono ?_
  rintro e w1 ⟨rfl, hb1⟩
  have hB1 : Below w.heap.size w w1 := (((Below.refl _ _).alloc (Nat.le_refl _) _).alloc (by simp) _).trans (hb1.mono (by simp; omega))
  have H4 : Has w1 (w.heap.size + 1) 29 _ := Has.below (heap_alloc2_new w _ _) hb1 (by simp)
  cases h1 : itemB x
  · go_upto_region 2 with fail
    go_wp2_with (refine wpList_store_row rfl 29 _ _ rfl (w.heap.size + 1) (accC zeroAc none 0 0) rfl rfl 29 _ H4 Try.sizeAcc rfl (accC_one _ _ _ _) ?_)
    refine bodyPost_ret (ret_row rfl _ _ _ 29 (accC zeroAc none 0 0) _ rfl (H4.row _) Try.underlying29 rfl (by exact Try.sizeAcc)) rfl ?_
    exact ⟨rfl, below_row hB1 (by omega) _⟩
  · go_wp2_with fail
    refine (rbounds_any B m d bs _ (hbs.below hB1) hm).mono ?_
    rintro e w2 ⟨rfl, k, rfl⟩
    have h2 : boundsB bs = false := by have := HN.out; rw [h1] at this; simpa using this
    rw [h2]
    have H4' := H4.drewN k
    go_upto_region 2 with fail
    go_wp2_with (refine wpList_store_row rfl 29 _ _ rfl (w.heap.size + 1) (accC zeroAc none 0 0) rfl rfl 29 _ H4' Try.sizeAcc rfl (accC_one _ _ _ _) ?_)
    refine bodyPost_ret (ret_row rfl _ _ _ 29 (accC zeroAc none 0 0) _ rfl (H4'.row _) Try.underlying29 rfl (by exact Try.sizeAcc)) rfl ?_
    exact ⟨rfl, below_row (below_drewN hB1 _) (by omega) _⟩

end Go.Proofs.Ytjmaeiilkbfnaaa

namespace Go.Proofs.Ytjmaeiilkbfnaaa
open Go.ChangeShapes Go.WideShapes Go.ChangeAt Go.RowKit Go.Joins Go.Deep

theorem bytesAcc : Try.prog.bytesOf 29 = 120 := by kernel_rfl
section
variable {H : Type} {enc : TypeId × Value → H} {W : World} {base : Nat} {sp : Nat → Bool} {held : Bool}
theorem weightsAll_mem {P : Program} {e : TypeId} {ds : List (DataW H)} {d : DataW H} (hd : d ∈ ds) : ∀ n ∈ d.weights P e, n ∈ DataW.weightsAll P e ds := by
  induction ds with
  | nil => cases hd
  | cons a r ih =>
    intro n hn
    rw [DataW.weightsAll, List.mem_append]
    rcases List.mem_cons.1 hd with rfl | h
    · exact Or.inl hn
    · exact Or.inr (ih h n hn)
/-- An aggregate out of its cells. -/
theorem acc_cells {fuel : Nat} {l : List Value} {y : DataW H × List MemPlace} (hf : DataW.trod enc Try.prog W base sp held fuel 29 l = some y) (hsz : l.length = 13) (hsp : ∀ b, sp b = true) :
    ∃ (a : Ac) (A : Option Addr) (k c : Nat), l = (accC a A k c).toList ∧ Ints W A k a.h ∧ k ≤ c ∧ c ≤ maxLen ∧ (A = none → c = 0) ∧ (c = 0 ∨ c * 8 ∈ y.1.weights Try.prog 29) := by
  match l, hsz with
  | [c0, c1, c2, c3, c4, c5, c6, c7, c8, c9, c10, c11, c12], _ =>
    obtain ⟨xs, n, _, hx, _, hxl, hg⟩ := DataW.trod_struct Try.underlying29 hf
    match xs, hxl with
    | [y0, y1, y2, y3, y4, y5, y6], _ =>
      have g0 : DataW.trod enc Try.prog W base sp held n 3 ((List.drop 0 [c0, c1, c2, c3, c4, c5, c6, c7, c8, c9, c10, c11, c12]).take (Try.prog.cellsOf 3)) = ([y0, y1, y2, y3, y4, y5, y6] : List (DataW H × List MemPlace))[0]? := hg 0 _ rfl
      have g1 : DataW.trod enc Try.prog W base sp held n 3 ((List.drop 1 [c0, c1, c2, c3, c4, c5, c6, c7, c8, c9, c10, c11, c12]).take (Try.prog.cellsOf 3)) = ([y0, y1, y2, y3, y4, y5, y6] : List (DataW H × List MemPlace))[1]? := hg 1 _ rfl
      have g2 : DataW.trod enc Try.prog W base sp held n 3 ((List.drop 2 [c0, c1, c2, c3, c4, c5, c6, c7, c8, c9, c10, c11, c12]).take (Try.prog.cellsOf 3)) = ([y0, y1, y2, y3, y4, y5, y6] : List (DataW H × List MemPlace))[2]? := hg 2 _ rfl
      have g3 : DataW.trod enc Try.prog W base sp held n 3 ((List.drop 3 [c0, c1, c2, c3, c4, c5, c6, c7, c8, c9, c10, c11, c12]).take (Try.prog.cellsOf 3)) = ([y0, y1, y2, y3, y4, y5, y6] : List (DataW H × List MemPlace))[3]? := hg 3 _ rfl
      have g4 : DataW.trod enc Try.prog W base sp held n 23 ((List.drop 4 [c0, c1, c2, c3, c4, c5, c6, c7, c8, c9, c10, c11, c12]).take (Try.prog.cellsOf 23)) = ([y0, y1, y2, y3, y4, y5, y6] : List (DataW H × List MemPlace))[4]? := hg 4 _ rfl
      have g5 : DataW.trod enc Try.prog W base sp held n 23 ((List.drop 8 [c0, c1, c2, c3, c4, c5, c6, c7, c8, c9, c10, c11, c12]).take (Try.prog.cellsOf 23)) = ([y0, y1, y2, y3, y4, y5, y6] : List (DataW H × List MemPlace))[5]? := hg 5 _ rfl
      have g6 : DataW.trod enc Try.prog W base sp held n 25 ((List.drop 12 [c0, c1, c2, c3, c4, c5, c6, c7, c8, c9, c10, c11, c12]).take (Try.prog.cellsOf 25)) = ([y0, y1, y2, y3, y4, y5, y6] : List (DataW H × List MemPlace))[6]? := hg 6 _ rfl
      rw [cellsInt] at g0 g1 g2 g3
      rw [cellsItem] at g4 g5
      rw [cellsRow] at g6
      obtain ⟨a0, rfl⟩ := int_cell (by simpa [Value.cells] using g0)
      obtain ⟨a1, rfl⟩ := int_cell (by simpa [Value.cells] using g1)
      obtain ⟨a2, rfl⟩ := int_cell (by simpa [Value.cells] using g2)
      obtain ⟨a3, rfl⟩ := int_cell (by simpa [Value.cells] using g3)
      obtain ⟨f, rfl, rfl, rfl, rfl⟩ := item_cells (by simpa [Value.cells] using g4)
      obtain ⟨z, rfl, rfl, rfl, rfl⟩ := item_cells (by simpa [Value.cells] using g5)
      obtain ⟨A, len, cap, xs, rfl, hI, hlc, hm, hnil, hw⟩ := row_cell (by simpa [Value.cells] using g6) hsp
      refine ⟨⟨a0, a1, a2, a3, f, z, xs⟩, A, len, cap, rfl, hI, hlc, hm, hnil, ?_⟩
      rcases hw with h0 | ⟨elems, spare, e, hl⟩
      · exact .inl h0
      · right
        rw [hx]
        simp only [DataW.weights, Try.underlying29]
        refine DataW.weights_mem_each (j := 6) rfl rfl _ ?_
        show cap * 8 ∈ DataW.weights Try.prog 25 y6.1
        rw [e]
        simp only [DataW.weights, Try.underlying25, bytesInt, hl]
        exact List.mem_cons_self

instance : Inhabited Ac := ⟨zeroAc⟩
set_option maxRecDepth 100000 in
/-- A slice of aggregates that came in. -/
theorem open_accs {d : DataW H} {p : List MemPlace} {A : Option Addr} {len cap : Nat} (h : DataW.Trod enc Try.prog W base sp held 24 (.slice A len cap) d p) (hsp : ∀ b, sp b = true)
    (hall : ∀ n ∈ d.weights Try.prog 24, n ≤ 140737488351232) : ∃ xs : List Ac, AccsR W A len xs ∧ len * 120 ≤ 140737488351232 := by
  obtain ⟨fuel, hf⟩ := h
  rcases Deep.open_slice Try.underlying24 hf with ⟨hcs, _⟩ | ⟨x, l, cp, m, n, D, Pl, hcs, _, hl, hm, hmm, hx, hi⟩
  · simp only [Value.cells, List.cons.injEq, and_true] at hcs
    injection hcs with e1 e2 e3
    subst e1; subst e2; subst e3
    exact ⟨[], ⟨rfl, fun h => absurd h (by omega)⟩, by omega⟩
  · simp only [Value.cells, List.cons.injEq, and_true] at hcs
    injection hcs with e1 e2 e3
    subst e1; subst e2; subst e3
    rw [if_pos (hsp _)] at hmm
    subst hmm
    injection hx with hd _
    have hsp0 : 0 < len → x.spot = none := fun h0 => by
      obtain ⟨cs', h1, h2⟩ := hi 0 (by omega)
      rw [cellsAcc] at h1
      obtain ⟨_, hlen, hcell⟩ := World.cells?_some h1
      obtain ⟨a, B, k, c, e, _⟩ := acc_cells h2 hlen hsp
      subst e
      have h3 := hcell 0 (by omega)
      have hsome : ((accC a B k c).toList)[0]? = some (.int .i64 a.n) := rfl
      rw [hsome] at h3
      have h4 := spot_none h3
      simpa [Addr.add] using h4
    have each : ∀ i, i < len → ∃ q : Ac × Option Addr × Nat × Nat, AccAt W x.block (x.off + i * 13) q.1 q.2.1 q.2.2.1 q.2.2.2 ∧ x.spot = none ∧ (q.2.1 = none → q.2.2.2 = 0) ∧ q.2.2.1 * 8 ≤ 140737488351232 := by
      intro i hil
      obtain ⟨cs', h1, h2⟩ := hi i (by omega)
      rw [cellsAcc] at h1
      obtain ⟨_, hlen, hcell⟩ := World.cells?_some h1
      obtain ⟨a, B, k, c, e, hI, hkc, hcm, hnil, hw⟩ := acc_cells h2 hlen hsp
      subst e
      have hs : x.spot = none ∧ ∀ j, j < 13 → (x.add (i * 13)).add j = ⟨x.block, x.off + i * 13 + j, none⟩ := by
        have hsn := hsp0 (by omega)
        obtain ⟨b, o, s⟩ := x
        simp only at hsn
        subst hsn
        exact ⟨rfl, fun j _ => by rw [Addr.add_mid, Addr.add_mid]⟩
      refine ⟨(a, B, k, c), ⟨fun j v hv => ?_, hI, hkc, hcm⟩, hs.1, hnil, ?_⟩
      · have hj : j < 13 := by have := (List.getElem?_eq_some_iff.1 hv).1; rwa [accC_len] at this
        rw [← hs.2 j hj, hcell j hj]
        exact hv
      · rcases hw with h0 | h0
        · simp only; omega
        · have := hall (c * 8) (by
            rw [hd]
            simp only [DataW.weights, Try.underlying24]
            refine List.mem_cons_of_mem _ (List.mem_append_left _ (weightsAll_mem (d := D i) ?_ _ h0))
            exact List.mem_map.2 ⟨i, List.mem_range.2 hil, rfl⟩)
          simp only; omega
    obtain ⟨q, hq⟩ := choose_lt each
    refine ⟨(List.range len).map fun i => (q i).1, ⟨by simp, fun hn => ?_⟩, ?_⟩
    · obtain ⟨b, o, s⟩ := x
      have hs := (hq 0 hn).2.1
      simp only at hs
      subst hs
      refine ⟨b, o, rfl, fun i hlt => ⟨(q i).2.1, (q i).2.2.1, (q i).2.2.2, ?_, (hq i hlt).2.2.1, (hq i hlt).2.2.2⟩⟩
      have e : nthA ((List.range len).map fun i => (q i).1) i = (q i).1 := by simp [nthA, hlt]
      rw [e]
      exact (hq i hlt).1
    · have := hall ((len + (m - len)) * 120) (by
        rw [hd]
        simp only [DataW.weights, Try.underlying24, List.length_map, List.length_range, bytesAcc]
        exact List.mem_cons_self)
      omega
/-- A slice of integers that came in, with what it weighs. -/
theorem open_bounds {d : DataW H} {p : List MemPlace} {A : Option Addr} {len cap : Nat} (h : DataW.Trod enc Try.prog W base sp held 25 (.slice A len cap) d p) (hsp : ∀ b, sp b = true)
    (hall : ∀ n ∈ d.weights Try.prog 25, n ≤ 140737488351232) : ∃ xs : List Int, Ints W A len xs ∧ len * 8 ≤ 140737488351232 ∧ (A = none → cap = 0) := by
  obtain ⟨fuel, hf⟩ := h
  obtain ⟨A', len', cap', xs, e, hI, hlc, hm, hnil, hw⟩ := row_cell (by simpa [Value.cells] using hf) hsp
  injection e with e1 e2 e3
  subst e1; subst e2; subst e3
  refine ⟨xs, hI, ?_, hnil⟩
  rcases hw with h0 | ⟨elems, spare, e, hl⟩
  · omega
  · have := hall (cap * 8) (by
      simp only at e
      rw [e]
      simp only [DataW.weights, Try.underlying25, bytesInt, hl]
      exact List.mem_cons_self)
    omega
end

end Go.Proofs.Ytjmaeiilkbfnaaa
