/-
  Rows of items cloned and sorted; the row of parts made; a row of sessions cut.
  Walk: session.partsByTime.
  Walk: session.Add.
-/
import Derived.Test.YtgdeaddfkcokpaaSesW
import Derived.Test.YtgdeaddfkcokpaaG7g
import Derived.Test.YtgdeaddfkcokpaaG6c
import Derived.Test.YtgdeaddfkcokpaaG7e
import Derived.Laws.Slices
import Derived.Test.YtgdeaddfkcokpaaSesT
import Derived.Test.YtgdeaddfkcokpaaG6d
import Derived.Test.YtgdeaddfkcokpaaJoinOk
import Derived.Test.YtgdeaddfkcokpaaJoin
import Derived.OwnWalk
namespace Go.Proofs.Ytgdeaddfkcokpaa
open Go.RowKit

/-! Clone of items. -/
/-- '[]Item{}' and what is appended to it, be it none. -/
theorem app_items {ops : Array Oper} {rest : List Oper} {op : Oper} {p : Act} {w : World} {Q : Exit → Act → World → Prop} (hgd : op.guard = none) (s x : Operand)
    (ho : op.op = .call { callee := .builtin .append, args := #[s, x], argTypes := #[46, 46] })
    {base n c : Nat} {g : Nat} {ad : Addr} {ys : List It} (hs : p.eval s = .slice (some ⟨g, 0, none⟩) 0 0) (hown : OwnIt w base (.slice (some ⟨g, 0, none⟩) 0 0) []) (hx : p.eval x = .slice (some ad) n c) (hy : Items w (some ad) n ys)
    (hn : n * 32 ≤ 140737488355328) (hbase : base ≤ w.heap.size)
    (h : ∀ A c' w', OwnIt w' base (.slice (some A) n c') ys → Below base w w' → wpList Try.prog ops Q rest (p.put op.dst (.slice (some A) n c')) w') : wpList Try.prog ops Q (op :: rest) p w := by
  obtain ⟨i0, hi, hz, hs0, hy0⟩ := info_parts Try.infoItem
  have hl := hy.1
  refine wpList_append_own_at w hgd s x 46 ho base 23 i0 _ 4 32 Try.underlying46 hi hz hs0 hy0 rfl (by omega) _ 0 [] hs hown ad n c (ys.flatMap itemL) hx (by rw [flat_len, hl])
    (fun j u hu => ?_) (fun u hu => ?_) (by unfold maxLen; omega) (by omega) hbase (fun v' w' h1 h2 h3 _ => ?_)
  · have hj : j < n * 4 := by have := (List.getElem?_eq_some_iff.1 hu).1; rwa [flat_len, hl] at this
    obtain ⟨b, o, e, hc⟩ := hy.2 (by omega)
    injection e with e
    subst e
    have hi4 : j / 4 < n := by omega
    have hd : j / 4 * 4 + j % 4 = j := Nat.div_add_mod' j 4
    have hlt : j % 4 < (itemL (nthI ys (j / 4))).length := Nat.mod_lt _ (by decide)
    have hv := flat_at ys (j / 4) (by rw [hl]; exact hi4) (j % 4) _ (List.getElem?_eq_getElem hlt)
    rw [hd, hu] at hv
    rw [Addr.add_mid]
    have := hc (j / 4) hi4 (j % 4) _ (List.getElem?_eq_getElem hlt)
    rw [show o + j / 4 * 4 + j % 4 = o + j by omega] at this
    rw [this, ← hv]
  · obtain ⟨z, _, hz⟩ := List.mem_flatMap.1 hu
    simp only [itemL, List.mem_cons, List.not_mem_nil, or_false] at hz
    rcases hz with rfl | rfl | rfl | rfl <;> rfl
  · have h4 : OwnIt w' base v' ys := by unfold OwnIt; rw [hl]; simpa using h1
    obtain ⟨A, c', rfl, _⟩ := h4.form
    rw [hl] at h4 h3 ⊢
    have hb : Below base w w' := ⟨h2.os, h2.tape, h2.output, h2.size, fun k hk => h2.block k (by omega) (fun e => by
      have := World.ownsRow.lt hown k e.symm
      omega)⟩
    cases A with
    | some A => exact h A c' w' h4 hb
    | none =>
      rcases h4.2 with ⟨e, e0⟩ | ⟨g', cap, cur, e, _⟩
      · have := (h3.1 e).1
        cases this
      · cases e
theorem it_empty (w : World) : OwnIt (w.alloc (.cells #[] 23)) w.heap.size (.slice (some ⟨w.heap.size, 0, none⟩) 0 0) [] :=
  ⟨rfl, Or.inr ⟨w.heap.size, 0, #[], rfl, Nat.le_refl _, Has.made w 23 #[], Nat.le_refl _, Nat.zero_le _, rfl, rfl⟩⟩
set_option maxRecDepth 100000 in
set_option maxHeartbeats 2000000 in
theorem clone_items (X : Option Addr) (n c : Nat) (xs : List It) (w : World) (hr : Items w X n xs) (hn : n * 32 ≤ 140737488355328) (hX : X = none → c = 0) (hnc : n ≤ c) :
    Calls Try.prog 69 #[.slice X n c] w fun e w' => ∃ A' c', e = .returned (.slice A' n c') ∧ OwnIt w' w.heap.size (.slice A' n c') xs ∧ Below w.heap.size w w' := by
  cases X with
  | none =>
    obtain rfl := hX rfl
    have h0 : n = 0 := by omega
    subst h0
    have hx0 : xs = [] := List.eq_nil_of_length_eq_zero hr.1
    subst hx0
    have hnil : ∀ W, (binOp .eql 46 (.slice none 0 0) (.slice none 0 0)).run Try.prog W = .ok (.bool true) W := fun W => by kernel_rfl
    go_enter Try.func69, Try.ntmps69
    go_wp2_with fail
    go_ret
    exact ⟨none, 0, rfl, OwnIt.nil _ _, Below.refl _ _⟩
  | some ad =>
    have hnil : ∀ W, (binOp .eql 46 (.slice (some ad) n c) (.slice none 0 0)).run Try.prog W = .ok (.bool false) W := fun W => Lib.run_eql_slice_nil (w := W) (h := Try.underlying46) ..
    go_enter Try.func69, Try.ntmps69
    go_wp2_with (refine app_items rfl _ _ rfl rfl (it_empty w) rfl (hr.below ((Below.refl _ _).alloc (Nat.le_refl _) _)) hn (by simp) ?_; intro A2 c2 wn hwn hbn)
    go_ret
    exact ⟨some A2, c2, rfl, hwn, ((Below.refl _ _).alloc (Nat.le_refl _) _).trans hbn⟩

/-! The sort. -/
section
open Go.Shelf Go.Lib Go.Sort
theorem nthI_arr (xs : List It) {i : Nat} (hi : i < xs.length) : xs.toArray[i]! = nthI xs i := by
  rw [getElem!_pos xs.toArray i (by simpa using hi)]
  simp [nthI, hi]
theorem row_k {w : World} {base g n c : Nat} {xs : List It} (h : OwnIt w base (.slice (some ⟨g, 0, none⟩) n c) xs) : RowK encIt 4 w g 0 xs.toArray ∧ xs.length = n ∧ base ≤ g := by
  rcases h.2 with ⟨e, h0⟩ | ⟨g', cap, cur, e, hg, hh, hn, hc, hs, ht⟩
  · cases e
  · injection e with e1 e2 e3
    injection e1 with e1
    injection e1 with e1
    subst e1; subst e3
    have hlt : g < w.heap.size := Has.lt (t := 23) hh
    have hO : w.ownsRow base 23 4 (.slice (some ⟨g, 0, none⟩) xs.length c) xs.length (xs.flatMap itemL) := by rw [e2] at h; exact h
    refine ⟨⟨fun _ => rfl, fun x v hv => ?_, fun j hj => ⟨?_, frozen_of_row w g (0 + j) cur 23 hh⟩, hlt⟩, e2.symm, hg⟩
    · simp only [encIt, List.mem_cons, List.not_mem_nil, or_false] at hv
      rcases hv with rfl | rfl | rfl | rfl <;> rfl
    · have hj2 : j < xs.length * 4 := by simpa using hj
      rw [get_flatK _ _ _ _ (by simpa using hj2), Nat.zero_add, hO.cellAt j hj2]
      have hi4 : j / 4 < xs.length := by omega
      have hlt4 : j % 4 < (itemL (nthI xs (j / 4))).length := Nat.mod_lt _ (by decide)
      have hv := flat_at xs (j / 4) hi4 (j % 4) _ (List.getElem?_eq_getElem hlt4)
      rw [Nat.div_add_mod' j 4] at hv
      rw [hv, nthI_arr xs hi4]
      show some _ = some (encIt (nthI xs (j / 4)))[j % 4]!
      rw [getElem!_pos (encIt (nthI xs (j / 4))) (j % 4) hlt4]
      rfl
theorem swk_items {w0 W : World} {blk off : Nat} {e d0 : Array It} (R : RowK encIt 4 w0 blk off d0) (S : SWK encIt 4 w0 blk off e W) (hs : e.size = d0.size) : Items W (some ⟨blk, off, none⟩) e.size e.toList := by
  refine ⟨by simp, fun _ => ⟨blk, off, rfl, fun i hi j v hv => ?_⟩⟩
  have hc := HoldsK.cells (S.holds R.hblk R.hH hs) R.hk hi j v (by
    have e1 : e[i]! = nthI e.toList i := by
      rw [getElem!_pos e i hi]
      simp [nthI, hi]
    rw [e1]; exact hv)
  rw [Addr.add_mid] at hc
  exact hc
theorem swk_below {w0 W : World} {blk off base : Nat} {e : Array It} (S : SWK encIt 4 w0 blk off e W) (hb : base ≤ blk) (hl : base ≤ w0.heap.size) : Below base w0 W := by
  have hle := S.le
  obtain ⟨n, os, rfl⟩ := S
  refine ⟨rfl, rfl, rfl, hle, fun k hk => ?_⟩
  show ((w0.heap.modify blk _) ++ os)[k]? = _
  rw [Array.getElem?_append_left (by simp; omega), Array.getElem?_modify, if_neg (by omega)]
set_option maxRecDepth 100000 in
set_option maxHeartbeats 2000000 in
theorem sort0 (w : World) : Calls Try.prog 70 #[.slice none 0 0, .func (.func 71) #[] #[]] w fun e w' => e = .returned (.tuple #[]) ∧ Below w.heap.size w w' := by
  have h1 : ∀ W : World, Calls Try.prog 78 #[.slice none 0 0, .int .i64 0, .int .i64 0, .func (.func 71) #[] #[]] W fun e w' => e = .returned (.tuple #[]) ∧ W = w' := fun W => by
    go_enter Try.func78, Try.ntmps78
    go_wp2
    go_loopw [8] (fun s wr => s = .int .i64 1 ∧ wr = W) (fun _ _ => 0)
    case atStart => exact ⟨by go_num, rfl⟩
    case round =>
      obtain ⟨rfl, rfl⟩ := hrel
      go_wp2
      go_end0
      exact ⟨rfl, rfl⟩
  have h2 : ∀ W : World, Calls Try.prog 76 #[.slice none 0 0, .int .i64 0, .func (.func 71) #[] #[]] W fun e w' => e = .returned (.tuple #[]) ∧ Below W.heap.size W w' := fun W => by
    go_enter Try.func76, Try.ntmps76
    go_wp2
    go_loopw [7, 8] (fun s t wr => s = .int .i64 0 ∧ t = .int .i64 20 ∧ wr = W) (fun _ _ _ => 0)
    case atStart => exact ⟨rfl, rfl, rfl⟩
    case round =>
      obtain ⟨rfl, rfl, rfl⟩ := hrel
      go_wp2_with (go_at_call 78; refine (h1 _).mono ?_; rintro e w' ⟨rfl, rfl⟩)
      go_loopw [6] (fun s w2 => s = .int .i64 20 ∧ w2 = wr) (fun _ _ => 0)
      case atStart => exact ⟨rfl, rfl⟩
      case round =>
        obtain ⟨rfl, rfl⟩ := hrel
        go_wp2
        go_end0
        exact ⟨rfl, Below.refl _ _⟩
  go_enter Try.func70, Try.ntmps70
  go_wp2_with (go_at_call 76; refine (h2 _).mono ?_; rintro e w' ⟨rfl, hb⟩)
  go_end0
  exact ⟨rfl, hb⟩
/-- The sort of a row that the call owns. -/
theorem sort_own {w : World} {base n c : Nat} {A : Option Addr} {xs : List It} (h : OwnIt w base (.slice A n c) xs) (hn : n ≤ 1000000000) (hl : base ≤ w.heap.size) :
    Calls Try.prog 70 #[.slice A n c, .func (.func 71) #[] #[]] w fun e w' => e = .returned (.tuple #[]) ∧
      ∃ ys, Items w' A n ys ∧ (∀ t, ys.filter (fun y => decide (y.t = t)) = xs.filter (fun y => decide (y.t = t))) ∧ ys.Pairwise (fun x y => x.t ≤ y.t) ∧ Below base w w' := by
  rcases h.2 with ⟨e, h0⟩ | ⟨g', cap, cur, e, hg, _⟩
  · injection e with e1 e2 e3
    subst e1 e2 e3
    have hx0 : xs = [] := List.eq_nil_of_length_eq_zero h0
    subst hx0
    refine (sort0 w).mono ?_
    rintro e w' ⟨rfl, hb⟩
    exact ⟨rfl, [], Items.nil _ _, fun _ => rfl, List.Pairwise.nil, hb.mono hl⟩
  · injection e with e1 e2 e3
    subst e1
    obtain ⟨R, hln, hbg⟩ := row_k h
    refine (sortStable_any g' 0 c n xs.toArray w R (by simpa using hln) (by omega)).mono ?_
    rintro e w' ⟨rfl, ys, ⟨hm, hsr⟩, hS⟩
    have hsz : ys.size = n := by rw [hm.size]; simpa using hln
    have hI := swk_items R hS hm.size
    rw [hsz] at hI
    refine ⟨rfl, ys.toList, hI, fun t => ?_, ?_, swk_below hS hbg hl⟩
    · have := hm.keys t
      simpa [key] using this
    · rw [List.pairwise_iff_getElem]
      intro i j hi hj hij
      have hi2 : i < ys.size := by simpa using hi
      have hj2 : j < ys.size := by simpa using hj
      have := hsr i j (Nat.zero_le _) (by omega) (by omega)
      rw [getElem!_pos ys i hi2, getElem!_pos ys j hj2] at this
      simpa using this
end
theorem keys_mem {xs ys : List It} (h : ∀ t, ys.filter (fun y => decide (y.t = t)) = xs.filter (fun y => decide (y.t = t))) {y : It} (hy : y ∈ ys) : y ∈ xs := by
  have : y ∈ ys.filter (fun z => decide (z.t = y.t)) := List.mem_filter.2 ⟨hy, by simp⟩
  rw [h] at this
  exact (List.mem_filter.1 this).1

/-! The row of parts; sessions but for the first. -/
theorem make_row {ops : Array Oper} {rest : List Oper} {op : Oper} {p : Act} {w : World} {Q : Exit → Act → World → Prop} (hgd : op.guard = none) (l c : Operand) (ho : op.op = Op.makeSlice 24 l c)
    {C : Int} (n : Nat) (hl : p.eval l = .int .i64 0) (hc : p.eval c = .int .i64 C) (hC : C = (n : Int)) (hn : n ≤ 1000000000)
    (h : ∀ v w', RowP w' w.heap.size v [] → Below w.heap.size w w' → wpList Try.prog ops Q rest (p.put op.dst v) w') : wpList Try.prog ops Q (op :: rest) p w := by
  obtain ⟨i0, hi, hz, hs0, hy0⟩ := info_parts Try.infoAcc
  exact wpList_make_own w hgd l c 24 ho w.heap.size 29 i0 _ 13 Try.underlying24 hi hz hs0 .i64 .i64 C n hl hc hC (by rw [hy0]; omega) (by unfold maxLen; omega) (Nat.le_refl _)
    fun w' h1 h2 => h _ w' ⟨h1, (fun r hr => by cases hr), (fun r hr => by cases hr)⟩ ⟨h2.os, h2.tape, h2.output, h2.size, fun k hk => h2.block k hk (by simp)⟩
theorem size_rowS (w : World) : (sizeOf (Try.prog.elem 45)).run Try.prog w = .ok 15 w := by kernel_rfl
theorem elem_rowS : Try.prog.underlying 45 = some (.slice (Try.prog.elem 45)) := by kernel_rfl
theorem cut_ses1 {ops : Array Oper} {rest : List Oper} {op : Oper} {p : Act} {w w0 : World} {Q : Exit → Act → World → Prop} (hgd : op.guard = none) (x : Operand) (ho : op.op = .slice 45 x (some (.const (.int .i64 1))) none none)
    {D : Option Addr} {n e : Nat} {ss : List Se} (hx : p.eval x = .slice D n e) (h1 : 1 ≤ n) (hn : n ≤ e) (hr : Sess w0 D n ss)
    (h : ∀ D', Sess w0 D' (n - 1) (ss.drop 1) → wpList Try.prog ops Q rest (p.put op.dst (.slice D' (n - 1) (e - 1))) w) : wpList Try.prog ops Q (op :: rest) p w :=
  wpList_plain hgd fun _ hK => by
    have hs : (Instr.sliceAt 45 (.slice D n e) (some (.int .i64 1)) none none).run Try.prog w = .ok (.slice (if e = 1 then D else D.map (·.add (1 * 15))) (n - 1) (e - 1)) w := by
      rw [run_sliceAt_slice w _ _ _ _ _ elem_rowS, run_slice_l w _ D n e elem_rowS .i64 1 (by omega) (by omega), size_rowS]
      simp only [Result.andThen_ok, sliced, Int.toNat_one]
    have ha : Sess w0 (if e = 1 then D else D.map (·.add (1 * 15))) (n - 1) (ss.drop 1) := by
      by_cases hlt : 1 < n
      · obtain ⟨b, o, rfl, _⟩ := hr.2 (by omega)
        rw [if_neg (by omega)]
        have he : (Option.map (fun x => Addr.add x (1 * 15)) (some (⟨b, o, none⟩ : Addr))) = some ⟨b, o + 1 * 15, none⟩ := by simp [Addr.add]
        rw [he]
        exact Sess.drop hr h1
      · have : n - 1 = 0 := by omega
        rw [this, List.drop_of_length_le (by rw [hr.1]; omega)]
        exact Sess.nil _ _
    have hy : p.eval (.const (.int .i64 1)) = .int .i64 1 := rfl
    unfold Oper.wp execOp
    simp only [ho, Option.map_some, Option.map_none, hx, hy, Sem.run_bind, hs, Result.andThen_ok]
    exact hK _ _ (h _ ha)

end Go.Proofs.Ytgdeaddfkcokpaa

namespace Go.Proofs.Ytgdeaddfkcokpaa
open Go.RowKit

theorem merge_take {bs : List Int} {s : Se} {ss : List Se} {x : It} {r : List It} (h : s.a.f.t ≤ x.t) : mergeP bs (s :: ss) (x :: r) = s.a :: mergeP bs ss (x :: r) := by
  simp [mergeP, h]
theorem merge_one {bs : List Int} {ss : List Se} {x : It} {r : List It} (h : ∀ s t, ss = s :: t → ¬ s.a.f.t ≤ x.t) : mergeP bs ss (x :: r) = oneAc x bs :: mergeP bs ss r := by
  cases ss with
  | nil => simp [mergeP]
  | cons s t =>
    have := h s t rfl
    simp [mergeP, this]
theorem RowP.lt {w : World} {base : Nat} {v : Value} {rs : List Rw} (h : RowP w base v rs) {b : Nat} (hb : v.ownBlock = some b) : base ≤ b ∧ b < w.heap.size := by
  rcases h.row.2 with ⟨e, h0⟩ | ⟨g, cap, cur, e, hg, hh, _⟩
  · simp [e, Value.ownBlock] at hb
  · have hb : g = b := by simpa [e, Value.ownBlock] using hb
    subst hb
    exact ⟨hg, Has.lt (t := 29) hh⟩
theorem RowP.old {w : World} {base : Nat} {v : Value} {rs : List Rw} (h : RowP w base v rs) {w0 : World} {A : Option Addr} {k : Nat} {xs : List Int} (hI : Ints w0 A k xs) (hb : w0.heap.size ≤ base) : 0 < k → ∀ ad, A = some ad → v.ownBlock ≠ some ad.block := fun hk ad hA e => by
  obtain ⟨b, o, eb, hc⟩ := hI.2 hk
  rw [hA] at eb
  injection eb with eb
  subst eb
  have h1 : b < w0.heap.size := block_lt_of_cell (hc 0 hk)
  have h2 := (h.lt e).1
  have h3 : base ≤ b := h2
  omega
theorem RowP.other {w : World} {base : Nat} {v : Value} {rs : List Rw} (h : RowP w base v rs) {g : Nat} {t : TypeId} {cs : Array Value} (hg : Has w g t cs) (ht : t ≠ 29) : v.ownBlock ≠ some g := fun e => by
  rcases h.row.2 with ⟨ev, _⟩ | ⟨g', cap, cur, ev, _, hh, _⟩
  · simp [ev, Value.ownBlock] at e
  · have e : g' = g := by simpa [ev, Value.ownBlock] using e
    subst e
    exact has_types hg (t' := 29) hh ht
theorem RowP.cap {w : World} {base : Nat} {A : Option Addr} {n c : Nat} {rs : List Rw} (h : RowP w base (.slice A n c) rs) : n ≤ c := by
  rcases h.row.2 with ⟨e, h0⟩ | ⟨g', cap, cur, e, _, _, hc, _⟩
  · injection e with _ e2 e3; omega
  · injection e with _ e2 e3; omega
theorem Grew.has {w w' : World} {base : Nat} {v v' : Value} (h : Grew w w' base v v') {g : Nat} {t : TypeId} {cs : Array Value} (hg : Has w g t cs) (hf : v.ownBlock ≠ some g) : Has w' g t cs := (h.far g hg.lt hf).trans hg
theorem AccAt.down {w w' : World} {b o : Nat} {a : Ac} {A : Option Addr} {k c : Nat} (h : AccAt w b o a A k c) (hb : Below w.heap.size w w') : AccAt w' b o a A k c := h.keep fun _ hp => hb.cell hp
/-- What stands at a round's head. -/
structure PtS (w0 : World) (bs : List Int) (ss : List Se) (row : List It) (q j : Nat) (v : Value) (rs : List Rw) (wr : World) : Prop where
  own : RowP wr w0.heap.size v rs
  keep : Below w0.heap.size w0 wr
  len : rs.length = q + j
  val : rs.map (·.a) ++ mergeP bs (ss.drop q) (row.drop j) = mergeP bs ss row

theorem PtS.below {w0 : World} {bs : List Int} {ss : List Se} {row : List It} {q j : Nat} {v : Value} {rs : List Rw} {wr wy : World} (h : PtS w0 bs ss row q j v rs wr) (hb : Below wr.heap.size wr wy) : PtS w0 bs ss row q j v rs wy :=
  ⟨h.own.below hb, h.keep.trans (hb.mono h.keep.size), h.len, h.val⟩
theorem PtS.put {w0 : World} {bs : List Int} {ss : List Se} {row : List It} {q j q' j' : Nat} {v v' : Value} {rs : List Rw} {r : Rw} {wr wl w' : World} (h : PtS w0 bs ss row q j v rs wr) (hb : Below wr.heap.size wr wl) (hown : RowP w' w0.heap.size v' (rs ++ [r])) (hg : Grew wl w' w0.heap.size v v') (hl : q' + j' = q + j + 1)
    (hm : mergeP bs (ss.drop q) (row.drop j) = r.a :: mergeP bs (ss.drop q') (row.drop j')) : PtS w0 bs ss row q' j' v' (rs ++ [r]) w' :=
  ⟨hown, (h.keep.trans (hb.mono h.keep.size)).trans hg.below, by rw [List.length_append, h.len, List.length_singleton]; omega, by rw [← h.val, hm]; simp⟩
set_option maxRecDepth 100000 in
set_option maxHeartbeats 8000000 in
theorem parts_any (A : Option Addr) (n c : Nat) (ss : List Se) (B : Option Addr) (m d : Nat) (bs : List Int) (X : Option Addr) (k cx : Nat) (xs : List It) (w : World) (hs : Sess w A n ss) (hnc : n ≤ c) (hbs : Ints w B m bs) (hb : boundsB bs = true)
    (hx : Items w X k xs) (hX : X = none → cx = 0) (hkc : k ≤ cx) (hxi : ∀ x, x ∈ xs → itemB x = true) (hn : n + k ≤ 1000000000) (hf : ∀ s, s ∈ ss → s.f = s.a.f.t) :
    Calls Try.prog 56 #[.slice A n c, .slice B m d, .slice X k cx] w fun e w' => ∃ A' c' row, e = .returned (.slice A' (n + k) c') ∧ n + k ≤ c' ∧ Accs w' A' (n + k) (mergeP bs ss row) ∧
      (∀ t, row.filter (fun y => decide (y.t = t)) = xs.filter (fun y => decide (y.t = t))) ∧ row.Pairwise (fun x y => x.t ≤ y.t) ∧ Below w.heap.size w w' := by
  have HL := Lib.hid hs.1
  have HF := Lib.hid hf; clear hf
  have HXI := Lib.hid hxi; clear hxi
  have HBB := Lib.hid hb; clear hb
  go_enter Try.func56, Try.ntmps56
  go_upto_region 2 with (go_at_call 69; refine (clone_items X k cx xs _ hx (by omega) hX hkc).mono ?_; rintro e w1 ⟨Y, cy, rfl, hown, hb1⟩)
  go_upto_region 3 with (go_at_call 70; refine (sort_own hown (by omega) hb1.size).mono ?_; rintro e w2 ⟨rfl, row, hrow, hkeys, hsrt, hb2⟩)
  have hB2 : Below w.heap.size w w2 := hb1.trans hb2
  have hs2 : Sess w2 A n ss := hs.below hB2
  have hbs2 : Ints w2 B m bs := hbs.below hB2
  have HROW : Hid (∀ i, i < k → itemB (nthI row i) = true) := fun i hi => by
    have hi2 : i < row.length := by rw [hrow.1]; exact hi
    have : nthI row i = row[i] := by simp [nthI, hi2]
    rw [this]
    exact HXI.out _ (keys_mem hkeys (List.getElem_mem hi2))
  have HKS := Lib.hid (And.intro hkeys hsrt)
  have HWB := Lib.hid hB2
  have HRL := Lib.hid hrow.1
  have HM8 : Hid (bs.length ≤ 8) := (boundsB_true HBB.out).1
  clear hb1 hb2 hB2 hkeys hsrt hown hs hbs hx HXI hX hkc
  go_wp2_with (refine make_row rfl _ _ rfl (n + k) rfl rfl (by omega) (by omega) ?_; intro v0 w3 hrow3 hb3)
  have HP0 : Hid (PtS w2 bs ss row 0 0 v0 [] w3) := ⟨hrow3, hb3, rfl, rfl⟩
  have HS2 := Lib.hid hs2
  have HX2 := Lib.hid hrow
  have HB2 := Lib.hid hbs2
  clear hrow3 hb3 hs2 hrow hbs2
  obtain ⟨D0, e0, rfl, _⟩ := HP0.out.own.form
  go_wp2_with fail
  go_loopw [0, 8, 27] (fun t0 v i wr => ∃ (j q r cr : Nat) (A' : Option Addr) (D : Option Addr) (e : Nat) (rs : List Rw), j ≤ k ∧ q + r = n ∧ r ≤ cr ∧ i = .int .i64 j ∧ t0 = .slice A' r cr ∧ Hid (Sess w2 A' r (ss.drop q)) ∧ v = .slice D (q + j) e ∧ Hid (PtS w2 bs ss row q j (.slice D (q + j) e) rs wr)) (fun _ _ i _ => k - (intOf i).toNat)
  case atStart => exact ⟨0, 0, n, c, A, D0, e0, [], Nat.zero_le _, by omega, hnc, rfl, rfl, HS2, rfl, HP0⟩
  case round =>
    clear HP0
    obtain ⟨j, q, r, cr, A', D, e, rs, hj, hq, hr, rfl, rfl, HD, rfl, HP⟩ := hrel
    obtain ⟨wo, hwo⟩ : ∃ wo, wo = wr := ⟨_, rfl⟩
    subst hwo
    by_cases hlt : j < k
    · obtain ⟨b, fo, rfl, hi⟩ := HX2.out.at_ (by omega)
      have hri : wo.rangeAt b (fo + j * 4) (itemL (nthI row j)) := rangeAt_keep (hi j hlt) (by simp [itemL]) fun _ hp => HP.out.keep.cell hp
      have HRI := Lib.hid hri; clear hri hi
      have hitem := HROW.out j hlt
      have HDR : Hid (row.drop j = nthI row j :: row.drop (j + 1)) := by
        have hj2 : j < row.length := by rw [HRL.out]; exact hlt
        rw [Hid, List.drop_eq_getElem_cons hj2]
        simp [nthI, hj2]
      generalize nthI row j = x at HRI hitem HDR
      go_wp2_with (first | (refine load_item rfl _ rfl b (fo + j * 4) rfl HRI.out ?_) | (refine store_newI rfl _ _ rfl rfl rfl rfl ?_; intro wb hbb hsb; have HBX := Lib.hid hsb; have HPB := Lib.hid (HP.out.below hbb); clear hbb hsb))
      clear HP HRI
      simp only [Act.put]
      go_loopw [0, 8] (fun t0 v w4 => ∃ (q r cr : Nat) (A' : Option Addr) (D : Option Addr) (e : Nat) (rs : List Rw), q + r = n ∧ r ≤ cr ∧ t0 = .slice A' r cr ∧ Hid (Sess w2 A' r (ss.drop q)) ∧ v = .slice D (q + j) e ∧ Hid (PtS w2 bs ss row q j (.slice D (q + j) e) rs w4) ∧ Hid (Has w4 wo.heap.size 23 #[.int .i64 x.s, .int .i64 x.t, .int .i64 x.q, .int .i64 x.v])) (fun t0 _ _ => match t0 with | .slice _ m _ => m | _ => 0)
      case atStart => exact ⟨q, r, cr, A', D, e, rs, hq, hr, rfl, HD, rfl, HPB, HBX⟩
      case round =>
        clear HPB HBX HD
        obtain ⟨q, r, cr, A', D, e, rs, hq, hr, rfl, HD, rfl, HP, HBX⟩ := hrel
        have hcb : ∀ i, wr.cell? ⟨wo.heap.size, i, none⟩ = (#[.int .i64 x.s, .int .i64 x.t, .int .i64 x.q, .int .i64 x.v] : Array Value)[i]? := fun i => HBX.out.cell i
        by_cases h0 : 0 < r
        · obtain ⟨b1, o1, rfl, hi⟩ := HD.out.2 h0
          obtain ⟨Aj, kj, cj, hx0⟩ := hi 0 h0
          rw [Nat.zero_mul, Nat.add_zero, nthE_drop, Nat.add_zero] at hx0
          clear hi
          have hql : q < ss.length := by rw [HL.out]; omega
          have HDE : Hid (ss.drop q = nthE ss q :: ss.drop (q + 1)) := drop_nthE hql
          have hfe := HF.out _ (nthE_mem hql)
          generalize nthE ss q = s at hx0 HDE hfe
          have HI0 : Hid (Ints w2 Aj kj s.a.h ∧ kj ≤ cj ∧ cj ≤ maxLen) := hx0.2
          have HX := Lib.hid (hx0.below HP.out.keep)
          clear hx0
          have hc0 := HX.out.cell
          rw [hfe] at hc0
          have hlen : decide ((r : Int) > 0) = true := decide_eq_true (by omega)
          by_cases hle : s.a.f.t ≤ x.t
          · have hd : decide (s.a.f.t ≤ x.t) = true := decide_eq_true hle
            have HMG : Hid (mergeP bs (ss.drop q) (row.drop j) = s.a :: mergeP bs (ss.drop (q + 1)) (row.drop j)) := by rw [Hid, HDE.out, HDR.out]; exact merge_take hle
            go_upto_if 42 with (go_quiet (fail))
            have HP5 : Hid (PtS w2 bs ss row q j (.slice D (q + j) e) rs (wr.drewN nq)) := HP.out.below (below_drewN (Below.refl _ _) nq)
            have HBX5 : Hid (Has (wr.drewN nq) wo.heap.size 23 #[.int .i64 x.s, .int .i64 x.t, .int .i64 x.q, .int .i64 x.v]) := HBX.out.drewN nq
            have HX5 : Hid (SesAt (wr.drewN nq) b1 o1 s Aj kj cj) := HX.out.below (below_drewN (Below.refl _ _) nq)
            clear HP HBX HX hcb hc0 hlen
            generalize wr.drewN nq = w5 at HP5 HBX5 HX5 ⊢
            go_wp2_with (first
              | (refine load_acc rfl _ rfl b1 (o1 + 2) rfl HX5.out.acc ?_)
              | (refine lit1 rfl _ rfl rfl ?_; intro w8 hb8 hv8; have HVL := Lib.hid hv8; have HB8 := Lib.hid hb8; have HX8 := Lib.hid (HX5.out.below hb8); have HBX8 := Lib.hid (has_below HBX5.out hb8); clear hv8 hb8)
              | (refine app_rowP rfl _ _ rfl rfl (HP5.out.own.below HB8.out) rfl (r := ⟨s.a, Aj, kj, cj⟩) HVL.out HX8.out.2.1 HX8.out.2.2 (HP5.out.own.old HI0.out.1 (Nat.le_refl _)) (by have := HP5.out.len; omega) (by have h1 := HP5.out.keep.size; have h2 := HB8.out.size; omega) ?_; intro v' w' hown hgr; have HBX9 := Lib.hid (hgr.has HBX8.out (RowP.other (HP5.out.own.below HB8.out) HBX8.out (by decide))); obtain ⟨D2, e2, rfl, _⟩ := hown.form; have HPN := Lib.hid (HP5.out.put HB8.out hown hgr (q' := q + 1) (j' := j) (by omega) HMG.out); have HRS := Lib.hid HP5.out.len; clear hown hgr)
              | (refine cut_ses1 rfl _ rfl rfl h0 hr HD.out ?_; intro D' hD'; have HDN := Lib.hid hD'; clear hD'))
            clear HVL HB8 HX8 HBX8 HP5 HBX5 HX5 HD
            rw [show (rs ++ [(⟨s.a, Aj, kj, cj⟩ : Rw)]).length = q + 1 + j by rw [List.length_append, HRS.out, List.length_singleton]; omega] at HPN
            have HDM : Hid (Sess w2 D' (r - 1) (ss.drop (q + 1))) := by have := HDN.out; rwa [List.drop_drop] at this
            go_roundw
            case rel => exact ⟨q + 1, r - 1, cr - 1, D', D2, e2, _, by omega, by omega, rfl, HDM, by rw [show rs.length + 1 = q + 1 + j by rw [HRS.out]; omega], HPN, HBX9⟩
            case measure => show r - 1 < r; omega
          · have hd : decide (s.a.f.t ≤ x.t) = false := decide_eq_false hle
            have HMG : Hid (mergeP bs (ss.drop q) (row.drop j) = oneAc x bs :: mergeP bs (ss.drop q) (row.drop (j + 1))) := by
              rw [Hid, HDR.out]
              refine merge_one fun s' t' e' => ?_
              rw [HDE.out] at e'
              injection e' with e1 e2
              rw [← e1]; exact hle
            go_upto_if 42 with (go_quiet (fail))
            have HP5 : Hid (PtS w2 bs ss row q j (.slice D (q + j) e) rs (wr.drewN nq)) := HP.out.below (below_drewN (Below.refl _ _) nq)
            have HBX5 : Hid (Has (wr.drewN nq) wo.heap.size 23 #[.int .i64 x.s, .int .i64 x.t, .int .i64 x.q, .int .i64 x.v]) := HBX.out.drewN nq

            -- one item more
            clear HP HBX hcb hc0 HX hlen
            generalize wr.drewN nq = w5 at HP5 HBX5 ⊢
            have HIT : Hid (w5.rangeAt wo.heap.size 0 (itemL x)) := range_item HBX5.out
            go_wp2_with (first
              | (refine load_item rfl _ rfl wo.heap.size 0 rfl HIT.out ?_)
              | (go_at_call 12; refine (one_ok x B m d bs _ (HB2.out.below HP5.out.keep) hitem HBB.out).mono ?_; rintro e5 w6 ⟨gh, hgh, rfl, hHG, hb6⟩; have HHG := Lib.hid hHG; have HGH := Lib.hid hgh; have HP6 := Lib.hid (HP5.out.below hb6); clear hHG hgh hb6)
              | (refine store_new rfl _ _ rfl rfl rfl rfl ?_; intro w7 hb7 hs7; have HAB := Lib.hid hs7; have HHG7 := Lib.hid (has_below HHG.out hb7); have HP7 := Lib.hid (HP6.out.below hb7); clear hs7 hb7)
              | (refine load_has rfl _ rfl w6.heap.size rfl HAB.out ?_)
              | (refine lit1 rfl _ rfl rfl ?_; intro w8 hb8 hv8; have HVL := Lib.hid hv8; have HHG8 := Lib.hid (has_below HHG7.out hb8); have HB8 := Lib.hid hb8; clear hv8 hb8)
              | (refine app_rowP rfl _ _ rfl rfl (HP7.out.own.below HB8.out) rfl (r := ⟨oneAc x bs, some ⟨gh, 0, none⟩, (oneAc x bs).h.length, (oneAc x bs).h.length⟩) HVL.out (ints_of_has HHG8.out rfl) ⟨Nat.le_refl _, by show (oneAc x bs).h.length ≤ maxLen; rw [one_hlen]; have := HM8.out; unfold maxLen; omega⟩ (fun _ ad e e2 => by have e3 : some (⟨gh, 0, none⟩ : Addr) = some ad := e; injection e3 with e3; have h1 : ad.block < w5.heap.size := (HP5.out.own.lt e2).2; have h2 : w5.heap.size ≤ gh := HGH.out; rw [← e3] at h1; have h3 : gh < w5.heap.size := h1; omega) (by have := HP7.out.len; omega) (by have h1 := HP7.out.keep.size; have h2 := HB8.out.size; omega) ?_; intro v' w' hown hgr; obtain ⟨D2, e2, rfl, _⟩ := hown.form; have HPN := Lib.hid (HP7.out.put HB8.out hown hgr (q' := q) (j' := j + 1) (by omega) HMG.out); have HRS := Lib.hid HP7.out.len; clear hown hgr))
            clear HAB HHG HHG7 HHG8 HVL HB8 HP7 HP6 HP5 HBX5 HIT
            rw [show (rs ++ [(⟨oneAc x bs, some ⟨gh, 0, none⟩, (oneAc x bs).h.length, (oneAc x bs).h.length⟩ : Rw)]).length = q + (j + 1) by rw [List.length_append, HRS.out, List.length_singleton]; omega] at HPN
            go_roundw
            case rel => (repeat apply Exists.intro); exact ⟨⟨j + 1, q, r, cr, _, D2, e2, _, by omega, hq, hr, by go_num, rfl, HD, by rw [show rs.length + 1 = q + (j + 1) by rw [HRS.out]; omega], HPN⟩, rfl⟩
            case measure => simp [intOf]; omega
        · have hr0 : r = 0 := by omega
          subst hr0
          have hlen : decide (((0 : Nat) : Int) > 0) = false := by decide
          have HX : True := trivial
          have hc0 : True := trivial
          have HMG : Hid (mergeP bs (ss.drop q) (row.drop j) = oneAc x bs :: mergeP bs (ss.drop q) (row.drop (j + 1))) := by
            rw [Hid, HDR.out]
            refine merge_one fun s' t' e' => ?_
            rw [List.drop_of_length_le (by rw [HL.out]; omega)] at e'
            cases e'
          go_upto_if 42 with (go_quiet (fail))
          have HP5 : Hid (PtS w2 bs ss row q j (.slice D (q + j) e) rs (wr.drewN nq)) := HP.out.below (below_drewN (Below.refl _ _) nq)
          have HBX5 : Hid (Has (wr.drewN nq) wo.heap.size 23 #[.int .i64 x.s, .int .i64 x.t, .int .i64 x.q, .int .i64 x.v]) := HBX.out.drewN nq

          -- one item more
          clear HP HBX hcb hc0 HX hlen
          generalize wr.drewN nq = w5 at HP5 HBX5 ⊢
          have HIT : Hid (w5.rangeAt wo.heap.size 0 (itemL x)) := range_item HBX5.out
          go_wp2_with (first
            | (refine load_item rfl _ rfl wo.heap.size 0 rfl HIT.out ?_)
            | (go_at_call 12; refine (one_ok x B m d bs _ (HB2.out.below HP5.out.keep) hitem HBB.out).mono ?_; rintro e5 w6 ⟨gh, hgh, rfl, hHG, hb6⟩; have HHG := Lib.hid hHG; have HGH := Lib.hid hgh; have HP6 := Lib.hid (HP5.out.below hb6); clear hHG hgh hb6)
            | (refine store_new rfl _ _ rfl rfl rfl rfl ?_; intro w7 hb7 hs7; have HAB := Lib.hid hs7; have HHG7 := Lib.hid (has_below HHG.out hb7); have HP7 := Lib.hid (HP6.out.below hb7); clear hs7 hb7)
            | (refine load_has rfl _ rfl w6.heap.size rfl HAB.out ?_)
            | (refine lit1 rfl _ rfl rfl ?_; intro w8 hb8 hv8; have HVL := Lib.hid hv8; have HHG8 := Lib.hid (has_below HHG7.out hb8); have HB8 := Lib.hid hb8; clear hv8 hb8)
            | (refine app_rowP rfl _ _ rfl rfl (HP7.out.own.below HB8.out) rfl (r := ⟨oneAc x bs, some ⟨gh, 0, none⟩, (oneAc x bs).h.length, (oneAc x bs).h.length⟩) HVL.out (ints_of_has HHG8.out rfl) ⟨Nat.le_refl _, by show (oneAc x bs).h.length ≤ maxLen; rw [one_hlen]; have := HM8.out; unfold maxLen; omega⟩ (fun _ ad e e2 => by have e3 : some (⟨gh, 0, none⟩ : Addr) = some ad := e; injection e3 with e3; have h1 : ad.block < w5.heap.size := (HP5.out.own.lt e2).2; have h2 : w5.heap.size ≤ gh := HGH.out; rw [← e3] at h1; have h3 : gh < w5.heap.size := h1; omega) (by have := HP7.out.len; omega) (by have h1 := HP7.out.keep.size; have h2 := HB8.out.size; omega) ?_; intro v' w' hown hgr; obtain ⟨D2, e2, rfl, _⟩ := hown.form; have HPN := Lib.hid (HP7.out.put HB8.out hown hgr (q' := q) (j' := j + 1) (by omega) HMG.out); have HRS := Lib.hid HP7.out.len; clear hown hgr))
          clear HAB HHG HHG7 HHG8 HVL HB8 HP7 HP6 HP5 HBX5 HIT
          rw [show (rs ++ [(⟨oneAc x bs, some ⟨gh, 0, none⟩, (oneAc x bs).h.length, (oneAc x bs).h.length⟩ : Rw)]).length = q + (j + 1) by rw [List.length_append, HRS.out, List.length_singleton]; omega] at HPN
          go_roundw
          case rel => (repeat apply Exists.intro); exact ⟨⟨j + 1, q, 0, cr, _, D2, e2, _, by omega, hq, hr, by go_num, rfl, HD, by rw [show rs.length + 1 = q + (j + 1) by rw [HRS.out]; omega], HPN⟩, rfl⟩
          case measure => simp [intOf]; omega
    · have hjk : j = k := by omega
      subst hjk
      have HRD : Hid (row.drop j = []) := List.drop_of_length_le (by rw [HRL.out]; exact Nat.le_refl _)
      go_wp2_with fail
      go_loopw [8, 65] (fun v i wr => ∃ (u : Nat) (D : Option Addr) (e : Nat) (rs : List Rw), u ≤ r ∧ i = .int .i64 u ∧ v = .slice D (q + u + j) e ∧ Hid (PtS w2 bs ss row (q + u) j (.slice D (q + u + j) e) rs wr)) (fun _ i _ => r - (intOf i).toNat)
      case atStart => exact ⟨0, D, e, rs, Nat.zero_le _, rfl, rfl, HP⟩
      case round =>
        clear HP
        obtain ⟨u, D, e, rs, hu, rfl, rfl, HP⟩ := hrel
        by_cases hlt2 : u < r
        · obtain ⟨b1, o1, rfl, hi⟩ := HD.out.2 (by omega)
          obtain ⟨Aj, kj, cj, hx0⟩ := hi u hlt2
          clear hi
          rw [nthE_drop] at hx0
          have hql : q + u < ss.length := by rw [HL.out]; omega
          have HDE : Hid (ss.drop (q + u) = nthE ss (q + u) :: ss.drop (q + u + 1)) := drop_nthE hql
          generalize nthE ss (q + u) = s at hx0 HDE
          have HMG : Hid (mergeP bs (ss.drop (q + u)) (row.drop j) = s.a :: mergeP bs (ss.drop (q + u + 1)) (row.drop j)) := by rw [Hid, HRD.out, HDE.out]; rfl
          have HI0 : Hid (Ints w2 Aj kj s.a.h ∧ kj ≤ cj ∧ cj ≤ maxLen) := hx0.2
          have HX := Lib.hid (hx0.below HP.out.keep)
          clear hx0
          go_wp2_with (first
            | (refine load_ses rfl _ rfl b1 (o1 + u * 15) rfl HX.out ?_)
            | (refine store_newS rfl _ _ rfl rfl rfl rfl ?_; intro w5 hb5 hs5; have HP5 := Lib.hid (HP.out.below hb5); have HX5 := Lib.hid ((has_ses hs5 (HX.out.2.1.below hb5) HX.out.2.2).acc); clear hb5 hs5)
            | (refine load_acc rfl _ rfl wr.heap.size 2 rfl HX5.out ?_)
            | (refine lit1 rfl _ rfl rfl ?_; intro w8 hb8 hv8; have HVL := Lib.hid hv8; have HB8 := Lib.hid hb8; have HX8 := Lib.hid (HX5.out.down hb8); clear hv8 hb8)
            | (refine app_rowP rfl _ _ rfl rfl (HP5.out.own.below HB8.out) rfl (r := ⟨s.a, Aj, kj, cj⟩) HVL.out HX8.out.2.1 HX8.out.2.2 (HP5.out.own.old HI0.out.1 (Nat.le_refl _)) (by have := HP5.out.len; omega) (by have h1 := HP5.out.keep.size; have h2 := HB8.out.size; omega) ?_; intro v' w' hown hgr; obtain ⟨D2, e2, rfl, _⟩ := hown.form; have HPN := Lib.hid (HP5.out.put HB8.out hown hgr (q' := q + u + 1) (j' := j) (by omega) HMG.out); have HRS := Lib.hid HP5.out.len; clear hown hgr))
          clear HVL HB8 HX8 HP5 HX5
          rw [show (rs ++ [(⟨s.a, Aj, kj, cj⟩ : Rw)]).length = q + (u + 1) + j by rw [List.length_append, HRS.out, List.length_singleton]; omega] at HPN
          go_roundw
          case rel => (repeat apply Exists.intro); exact ⟨⟨u + 1, D2, e2, _, by omega, by go_num, by rw [show rs.length + 1 = q + (u + 1) + j by rw [HRS.out]; omega], HPN⟩, rfl⟩
          case measure => simp [intOf]; omega
        · have hur : u = r := by omega
          subst hur
          have HE : Hid (mergeP bs ss row = rs.map (·.a)) := by
            have h1 := HP.out.val
            rw [HRD.out, List.drop_of_length_le (show ss.length ≤ q + u by rw [HL.out]; omega)] at h1
            rw [Hid, ← h1]
            exact List.append_nil _
          go_wp2_with fail
          go_ret
          obtain rfl : q + u = n := hq
          exact ⟨D, e, row, rfl, HP.out.own.cap, by rw [HE.out]; exact HP.out.own.reads, HKS.out.1, HKS.out.2, HWB.out.trans (HP.out.keep.mono HWB.out.size)⟩

end Go.Proofs.Ytgdeaddfkcokpaa

namespace Go.Proofs.Ytgdeaddfkcokpaa
open Go.RowKit

/-! Plain: the parts, the groups. -/
theorem sum_n (bs : List Int) (G : List Ac) (h : ∀ q, q ∈ G → 0 < q.n) : (joinAc bs G).n = totalA G := by
  have e : (joinAc bs G).n = (startJ bs).n + totalA G := jf_n _ _ h
  have e0 : (startJ bs).n = 0 := rfl
  omega
def PartOk (bs : List Int) (σ : Int) (q : Ac) : Prop := fitB q (bs.length + 1) = true ∧ q.n ≠ 0 ∧ q.f.s = σ
theorem its_all {ss : List Se} {xs : List It} (h : itsB ss xs = true) : ∀ x, x ∈ xs → itemB x = true ∧ x.s = serS ss xs := fun x hx => by
  obtain ⟨i, hi, rfl⟩ := List.mem_iff_getElem.1 hx
  have := of_decide_eq_true h i hi
  rwa [show nthI xs i = xs[i] by simp [nthI, hi]] at this
theorem parts_ok {g : Int} {bs : List Int} {ss : List Se} {xs row : List It} (h : sesB g bs ss = true) (hi : itsB ss xs = true) (hk : ∀ t, row.filter (fun y => decide (y.t = t)) = xs.filter (fun y => decide (y.t = t))) :
    ∀ q, q ∈ mergeP bs ss row → PartOk bs (serS ss xs) q := fun q hq => by
  rcases mem_merge hq with ⟨s, hs, rfl⟩ | ⟨x, hx, rfl⟩
  · obtain ⟨a1, a2, _, _, a5⟩ := (ses_ok h).1.fit s hs
    refine ⟨a1, a2, ?_⟩
    have : ss.length ≠ 0 := fun e => by rw [List.eq_nil_of_length_eq_zero e] at hs; cases hs
    rw [serS, if_neg this, a5]
  · obtain ⟨b1, b2⟩ := its_all hi x (keys_mem hk hx)
    exact ⟨one_fit b1, by simp only [oneAc]; decide, b2⟩
theorem part_at {bs : List Int} {σ : Int} {q : Ac} (h : PartOk bs σ q) : 0 < q.n ∧ q.f.t ≤ q.l.t ∧ (-1099511627776 ≤ q.f.t ∧ q.f.t ≤ 1099511627776 ∧ -1099511627776 ≤ q.l.t ∧ q.l.t ≤ 1099511627776) ∧ q.h.length = bs.length + 1 := by
  obtain ⟨h1, h2, h3, h4, h5⟩ := fit_ends h.1 h.2.1
  have hE := of_decide_eq_true h1
  have a := itemB_iff.1 hE.1
  have b := itemB_iff.1 hE.2.1
  omega
theorem grp_right {g : Int} : ∀ {Gd Gr : List (List Ac)}, Grp g (Gd ++ Gr) → Grp g Gr
  | [], _, h => h
  | [] :: _, _, h => h.elim
  | (_ :: _) :: _, _, h => grp_right h.2.2
theorem grp_head {g : Int} {Gr : List (List Ac)} (h : Grp g Gr) (hne : 0 < Gr.flatten.length) : ∃ p r Gs, Gr = (p :: r) :: Gs ∧ tog g p.l.t (r ++ Gs.flatten) = r.length := by
  match Gr, h with
  | [], _ => simp at hne
  | (p :: r) :: Gs, h => exact ⟨p, r, Gs, rfl, tog_lk r Gs.flatten p.l.t h.1 h.2.1⟩

/-! What Add hands out. -/
def BadS (code : Int) (w : World) (e : Ending) (w' : World) : Prop := e = .returned (.tuple #[.slice none 0 0, .int .i64 code]) ∧ Below w.heap.size w w'
/-- A row of sessions that the call owns, their buckets too. -/
structure OwnE (w : World) (base : Nat) (v : Value) (rs : List Rs) : Prop where
  row : RowE w base v rs
  own : ∀ r, r ∈ rs → OwnI w base (.slice r.A r.k r.c) r.s.a.h
theorem OwnE.nil (w : World) (base : Nat) : OwnE w base (.slice none 0 0) [] := ⟨RowE.nil _ _, fun r hr => by cases hr⟩
theorem OwnE.below {w w' : World} {base : Nat} {v : Value} {rs : List Rs} (h : OwnE w base v rs) (hb : Below w.heap.size w w') : OwnE w' base v rs := ⟨h.row.below hb, fun r hr => (h.own r hr).below hb⟩
def GoodS (T : List Se) (w : World) (e : Ending) (w' : World) : Prop :=
  ∃ A' c' rs, e = .returned (.tuple #[.slice A' T.length c', .int .i64 0]) ∧ OwnE w' w.heap.size (.slice A' T.length c') rs ∧ rs.map (·.s) = T ∧ Below w.heap.size w w'
/-- The buckets of a good aggregate are the call's own. -/
theorem own_good {w : World} {g base : Nat} {a : Ac} (hg : base ≤ g) (hh : w.heap[g]? = some (.cells (ints a.h) 3 (0, 0))) (hl : a.h.length ≤ maxLen) : OwnI w base (.slice (some ⟨g, 0, none⟩) a.h.length a.h.length) a.h := by
  refine ⟨by simp [intL], .inr ⟨g, a.h.length, ints a.h, rfl, hg, hh, Nat.le_refl _, hl, by simp [ints], ?_⟩⟩
  simp only [ints, intL, Nat.mul_one]
  exact List.take_of_length_le (by simp)
/-- What owns integers stays where it grew elsewhere. -/
theorem OwnI.grew {w w' : World} {base base' : Nat} {u v v' : Value} {xs : List Int} (h : OwnI w base u xs) (hg : Grew w w' base' v v') (hd : ∀ k, u.ownBlock = some k → v.ownBlock ≠ some k) : OwnI w' base u xs := by
  refine ⟨h.1, ?_⟩
  rcases h.2 with h0 | ⟨g, cap, cur, e, hg2, hh, r⟩
  · exact .inl h0
  · have hk : u.ownBlock = some g := by rw [e]; rfl
    exact .inr ⟨g, cap, cur, e, hg2, (hg.far g (Has.lt (t := 3) hh) (hd g hk)).trans hh, r⟩
/-- No row of sessions lies where integers do. -/
theorem RowE.other {w : World} {base base' : Nat} {v u : Value} {rs : List Rs} {xs : List Int} (h : RowE w base v rs) (hu : OwnI w base' u xs) : ∀ k, u.ownBlock = some k → v.ownBlock ≠ some k := fun k hk e => by
  rcases h.row.2 with ⟨ev, _⟩ | ⟨g', cap, cur, ev, _, hh, _⟩
  · simp [ev, Value.ownBlock] at e
  · have e1 : g' = k := by simpa [ev, Value.ownBlock] using e
    rcases hu.2 with ⟨eu, _⟩ | ⟨g2, cap2, cur2, eu, _, hh2, _⟩
    · simp [eu, Value.ownBlock] at hk
    · have e2 : g2 = k := by simpa [eu, Value.ownBlock] using hk
      subst e1
      subst e2
      exact has_types (show Has w _ 3 cur2 from hh2) (show Has w _ 60 cur from hh) (by decide)
theorem OwnE.put {w w' : World} {base : Nat} {v v' : Value} {rs : List Rs} {r : Rs} (h : OwnE w base v rs) (ho : OwnI w base (.slice r.A r.k r.c) r.s.a.h) (hown : RowE w' base v' (rs ++ [r])) (hg : Grew w w' base v v') : OwnE w' base v' (rs ++ [r]) :=
  ⟨hown, fun z hz => by
    rcases List.mem_append.1 hz with hz | hz
    · exact (h.own z hz).grew hg (h.row.other (h.own z hz))
    · simp only [List.mem_singleton] at hz
      subst hz
      exact ho.grew hg (h.row.other ho)⟩

structure AdS (w0 : World) (bs : List Int) (Gd : List (List Ac)) (v : Value) (rs : List Rs) (wr : World) : Prop where
  own : OwnE wr w0.heap.size v rs
  keep : Below w0.heap.size w0 wr
  ses : rs.map (·.s) = Gd.map (seG bs)
  small : ∀ G, G ∈ Gd → (joinAc bs G).n ≤ 8192
theorem AdS.below {w0 : World} {bs : List Int} {Gd : List (List Ac)} {v : Value} {rs : List Rs} {wr wy : World} (h : AdS w0 bs Gd v rs wr) (hb : Below wr.heap.size wr wy) : AdS w0 bs Gd v rs wy :=
  ⟨h.own.below hb, h.keep.trans (hb.mono h.keep.size), h.ses, h.small⟩
theorem AdS.put {w0 : World} {bs : List Int} {Gd : List (List Ac)} {G : List Ac} {v v' : Value} {rs : List Rs} {r : Rs} {wl w' : World} (h : AdS w0 bs Gd v rs wl) (ho : OwnI wl w0.heap.size (.slice r.A r.k r.c) r.s.a.h) (hr : r.s = seG bs G) (hs : (joinAc bs G).n ≤ 8192)
    (hown : RowE w' w0.heap.size v' (rs ++ [r])) (hg : Grew wl w' w0.heap.size v v') : AdS w0 bs (Gd ++ [G]) v' (rs ++ [r]) w' :=
  ⟨h.own.put ho hown hg, h.keep.trans hg.below, by rw [List.map_append, List.map_append, h.ses, List.map_cons, List.map_cons, hr]; rfl, fun z hz => by
    rcases List.mem_append.1 hz with hz | hz
    · exact h.small z hz
    · simp only [List.mem_singleton] at hz
      subst hz
      exact hs⟩
theorem OwnE.mono {w : World} {base base' : Nat} {v : Value} {rs : List Rs} (h : OwnE w base v rs) (hb : base' ≤ base) : OwnE w base' v rs := ⟨h.row.mono hb, fun r hr => (h.own r hr).mono hb⟩
/-- 'xs[u:]' reads as the rest. -/
theorem accs_cut {w : World} {D : Option Addr} {n e u : Nat} {xs : List Ac} (hr : Accs w D n xs) (hu : u ≤ n) (hn : n ≤ e) : Accs w (if e = u then D else D.map fun x => x.add (u * 13)) (n - u) (xs.drop u) := by
  by_cases hlt : u < n
  · obtain ⟨b, o, rfl, _⟩ := hr.at_ (by omega)
    rw [if_neg (by omega)]
    have he : (Option.map (fun x => Addr.add x (u * 13)) (some (⟨b, o, none⟩ : Addr))) = some ⟨b, o + u * 13, none⟩ := by simp [Addr.add]
    rw [he]
    exact Accs.drop hr hu
  · have : n - u = 0 := by omega
    rw [this, List.drop_of_length_le (by rw [hr.1]; omega)]
    exact Accs.nil _ _
theorem accs_len {w : World} {A : Option Addr} {n : Nat} {xs : List Ac} (h : Accs w A n xs) : xs.length = n := h.1

set_option maxRecDepth 100000 in
set_option maxHeartbeats 4000000 in
theorem sesadd_ok (A : Option Addr) (n c : Nat) (ss : List Se) (g : Int) (B : Option Addr) (m d : Nat) (bs : List Int) (X : Option Addr) (k cx : Nat) (xs : List It) (w : World) (hs : Sess w A n ss) (hnc : n ≤ c) (hbs : Ints w B m bs) (hm : m ≤ maxLen)
    (hx : Items w X k xs) (hX : X = none → cx = 0) (hkc : k ≤ cx) (hn : n + k ≤ 1000000000) (h1 : sesB g bs ss = true) (h2 : itsB ss xs = true) :
    Calls Try.prog 26 #[.slice A n c, .int .i64 g, .slice B m d, .slice X k cx] w fun e w' => (bigE (allE g bs xs ss) ∧ BadS 101 w e w') ∨ (¬ bigE (allE g bs xs ss) ∧ GoodS (allE g bs xs ss) w e w') := by
  obtain ⟨hok, hwi, hbb⟩ := ses_ok h1
  have hg : 1 ≤ g ∧ g ≤ 1073741824 := wi_true hwi
  have HS := Lib.hid hs; clear hs
  have HBS := Lib.hid hbs; clear hbs
  have HIT := Lib.hid hx; clear hx
  have HX := Lib.hid hX; clear hX
  have HOK := Lib.hid hok; clear hok
  have HBB := Lib.hid hbb; clear hbb hwi
  have H1 := Lib.hid h1
  have H2 := Lib.hid h2
  obtain ⟨T, hT⟩ : ∃ T, T = allE g bs xs ss := ⟨_, rfl⟩
  rw [← hT]
  have HTT := Lib.hid hT; clear hT
  go_enter Try.func26, Try.ntmps26
  go_upto_region 3 with (first
    | (go_at_call 30; refine (sesmay_any A n c ss g B m d bs _ HS.out (by omega) HBS.out hm).mono ?_; rintro e w1 ⟨rfl, hb1⟩; rw [h1]; have HB1 := Lib.hid hb1; clear hb1)
    | (go_at_call 55; refine (itemsfit_any A n c ss X k cx xs _ (HS.out.below HB1.out) (by unfold maxLen; omega) (HIT.out.below HB1.out) (by unfold maxLen; omega)).mono ?_; rintro e w2 ⟨rfl, hb2⟩; rw [h2]; have HB2 := Lib.hid (HB1.out.trans (hb2.mono HB1.out.size)); clear hb2))
  clear h1 h2
  go_wp2_with (go_at_call 56; refine (parts_any A n c ss B m d bs X k cx xs _ (HS.out.below HB2.out) hnc (HBS.out.below HB2.out) HBB.out (HIT.out.below HB2.out) HX.out hkc (fun x hx => (its_all H2.out x hx).1) hn (fun s hs => (HOK.out.fit s hs).2.2.1)).mono ?_; rintro e w3 ⟨A3, c3, row, rfl, hnc3, hacc, hkeys, hsrt, hb3⟩)
  obtain ⟨Gs, hfl, hgrp, hall⟩ := grp_all (show 0 < g by omega) HOK.out hkeys hsrt
  have hpo := parts_ok H1.out H2.out hkeys
  rw [← HTT.out] at hall
  have HALL := Lib.hid hall
  rw [← hfl] at hacc hpo
  have HGRP := Lib.hid hgrp
  have HPO := Lib.hid hpo
  have HB3 := Lib.hid (HB2.out.trans (hb3.mono HB2.out.size))
  have HACC := Lib.hid hacc
  have HN3 : n + k ≤ c3 := hnc3
  clear hgrp hpo hb3 hacc hkeys hsrt hfl hall HB1 HB2
  generalize serS ss xs = σ at HPO
  have HK0 : Hid (AdS w3 bs [] (.slice none 0 0) [] w3) := ⟨OwnE.nil _ _, Below.refl _ _, rfl, fun G hG => by cases hG⟩
  go_loopw [10, 11] (fun pv ov wr => ∃ (Gd Gr : List (List Ac)) (P : Option Addr) (N cP : Nat) (D : Option Addr) (L e : Nat) (rs : List Rs), Hid (Gs = Gd ++ Gr) ∧ N ≤ cP ∧ N + L ≤ n + k ∧ pv = .slice P N cP ∧ ov = .slice D L e ∧ Hid (Accs w3 P N Gr.flatten) ∧ Hid (AdS w3 bs Gd (.slice D L e) rs wr)) (fun pv _ _ => match pv with | .slice _ m _ => m | _ => 0)
  case atStart => exact ⟨[], Gs, A3, n + k, c3, none, 0, 0, [], rfl, HN3, Nat.le_refl _, rfl, rfl, HACC, HK0⟩
  case round =>
    clear HK0 HACC
    obtain ⟨Gd, Gr, P, N, cP, D, L, e, rs, HG, hN, hNL, rfl, rfl, HA, HP⟩ := hrel
    by_cases hpos : 0 < N
    · have hgr : Grp g Gr := grp_right (by rw [← HG.out]; exact HGRP.out)
      obtain ⟨p, r, Gs2, rfl, htog⟩ := grp_head hgr (by rw [HA.out.1]; exact hpos)
      clear hgr
      have HPR : Hid (∀ q, q ∈ p :: (r ++ Gs2.flatten) → PartOk bs σ q) := fun q hq => HPO.out q (by rw [HG.out, List.flatten_append]; exact List.mem_append_right _ hq)
      have HA2 : Hid (Accs w3 P N (p :: (r ++ Gs2.flatten))) := HA.out
      clear HA
      have ht := part_at (HPR.out p (by simp))
      have HLN : Hid (1 + (r.length + Gs2.flatten.length) = N) := by have := HA2.out.1; rw [List.length_cons, List.length_append] at this; rw [Hid]; omega
      obtain ⟨u, hu⟩ : ∃ u, u = 1 + r.length := ⟨_, rfl⟩
      have hu1 : 1 ≤ u := by omega
      have huN : u ≤ N := by have := HLN.out; omega
      have HU := Lib.hid hu
      have HTG : Hid (1 + tog g p.l.t (r ++ Gs2.flatten) = u) := by rw [Hid, htog, ← hu]
      have HTK : Hid ((p :: (r ++ Gs2.flatten)).take u = p :: r ∧ (p :: (r ++ Gs2.flatten)).drop u = Gs2.flatten) := by
        rw [hu, Nat.add_comm]
        exact ⟨by simp, by simp⟩
      have HT := Lib.hid ht
      clear hu htog ht
      go_upto_region 7 with (go_at_call 57; refine (togetherS_any P N cP p (r ++ Gs2.flatten) g _ (HA2.out.below HP.out.keep) (by omega) hg HT.out.2.1 (fun q hq => (part_at (HPR.out q hq)).2.2.1)).mono ?_; rintro e4 w4 ⟨rfl, hb4⟩; rw [HTG.out]; have HP4 := Lib.hid (HP.out.below hb4); clear hb4)
      have HGP : Hid (∀ q, q ∈ p :: r → PartOk bs σ q) := fun q hq => HPR.out q (by rw [← List.cons_append]; exact List.mem_append_left _ hq)
      have HTB : Hid (togB (bs.length + 1) (-1) (p :: r) = true) := tog_good (.inl rfl) HGP.out
      have HSN : Hid ((joinAc bs (p :: r)).n = totalA (p :: r)) := sum_n bs (p :: r) fun q hq => (part_at (HGP.out q hq)).1
      have HAT : Hid (Accs w4 P u (p :: r)) := by have := (HA2.out.below HP4.out.keep).take huN; rwa [HTK.out.1] at this
      have HB4 : Hid (Ints w4 B m bs) := HBS.out.below (HB3.out.trans (HP4.out.keep.mono HB3.out.size))
      clear HP
      by_cases hbig : (joinAc bs (p :: r)).n ≤ 8192
      · have hJ : Calls Try.prog 14 #[.slice B m d, .slice P u cP] w4 (GoodAcc (joinAc bs (p :: r)) w4) := join_ok B m d bs P u cP (p :: r) _ HB4.out HAT.out (by omega) HBB.out HTB.out (by rw [← HSN.out]; exact hbig)
        have HBG := Lib.hid hbig; clear hbig
        have HVL : Hid ((joinAc bs (p :: r)).h.length = bs.length + 1) := by
          have := jf_len (m := bs.length + 1) (p :: r) (startJ bs) (fun q hq => by obtain ⟨a1, a2, a3, a4⟩ := part_at (HGP.out q hq); exact ⟨a1, a2, a4⟩)
          rw [start_hlen] at this
          exact this
        have HSE : Hid (newE (joinAc bs (p :: r)) = seG bs (p :: r)) := rfl
        generalize hV : joinAc bs (p :: r) = V at hJ HVL HSE HBG
        have HV := Lib.hid hV; clear hV
        have HL9 : Hid (V.h.length ≤ maxLen) := by rw [Hid, HVL.out]; have := (boundsB_true HBB.out).1; unfold maxLen; omega
        generalize hLL : V.h.length = ll at hJ
        go_upto_region 8 with (first
          | (refine cut_to rfl _ _ rfl rfl rfl (by omega) ?_)
          | (go_at_call 14; refine hJ.mono ?_; rintro e5 w5 ⟨gh, hgh, rfl, hH, hb5⟩; have HGH := Lib.hid hgh; have HHH := Lib.hid hH; have HP5 := Lib.hid (HP4.out.below hb5); clear hgh hH hb5)
          | (refine store_new rfl _ _ rfl rfl rfl rfl ?_; intro w6 hb6 hs6; have HW6 := Lib.hid hs6; have HB6 := Lib.hid hb6; clear hs6 hb6))
        have hlt6 : w5.heap.size < w6.heap.size := HW6.out.lt
        have hc6 : ∀ i, w6.cell? ⟨w5.heap.size, i, none⟩ = (accC V (some ⟨gh, 0, none⟩) ll ll)[i]? := fun i => HW6.out.cell i
        have HP6 := Lib.hid (HP5.out.below HB6.out)
        have HO6 : Hid (OwnI w6 w3.heap.size (.slice (some ⟨gh, 0, none⟩) ll ll) V.h) := by
          have h1 : w3.heap.size ≤ gh := Nat.le_trans HP4.out.keep.size HGH.out
          have h2 := has_below HHH.out HB6.out
          have := own_good (base := w3.heap.size) (a := V) h1 h2 HL9.out
          rw [hLL] at this
          exact this
        have HLL := Lib.hid hLL
        clear HP5 HP4 HHH HGH hLL hJ HAT HB4 HB6
        go_upto_region 10 with fail
        have hbl : ∀ o, Below w6.heap.size w6 (w6.alloc o) := fun o => (Below.refl _ _).alloc (Nat.le_refl _) o
        have HBL := Lib.hid hbl; clear hbl
        have HSZ : Hid (w3.heap.size ≤ w6.heap.size) := HP6.out.keep.size
        have HRL : Hid (rs.length = L) := by
          obtain ⟨_, _, e1, _⟩ := HP6.out.own.row.form
          injection e1 with _ e2
          exact e2.symm
        have HOW : Hid (∀ o, OwnI (w6.alloc o) w3.heap.size (.slice (some ⟨gh, 0, none⟩) ll ll) V.h) := fun o => HO6.out.below (HBL.out o)
        have HNE : Hid (0 < ll → ∀ ad, (some ⟨gh, 0, none⟩ : Option Addr) = some ad → (Value.slice D L e).ownBlock ≠ some ad.block) := fun _ ad ea => HP6.out.own.row.other HO6.out ad.block (by rw [ea]; rfl)
        have HLM : Hid (ll ≤ ll ∧ ll ≤ maxLen) := ⟨Nat.le_refl _, by rw [← HLL.out]; exact HL9.out⟩
        go_wp2_with ((refine app_rowE (v := .slice D L e) rfl _ _ rfl rfl (HP6.out.own.row.below (HBL.out _)) rfl (r := ⟨newE V, some ⟨gh, 0, none⟩, ll, ll⟩) (Has.made _ _ _) (HOW.out _).ints HLM.out HNE.out (by rw [HRL.out]; omega) (by have := HSZ.out; simp; omega) ?_); intro v' w' hown hgr; obtain ⟨D2, e2, rfl, _⟩ := hown.form; have HPN := Lib.hid ((HP6.out.below (HBL.out _)).put (r := ⟨newE V, some ⟨gh, 0, none⟩, ll, ll⟩) (HOW.out _) HSE.out (by rw [HV.out]; exact HBG.out) hown hgr); have HWN := Lib.hid hgr.below; clear hown hgr)
        have HLE : Hid ((rs ++ [(⟨newE V, some ⟨gh, 0, none⟩, ll, ll⟩ : Rs)]).length = L + 1) := by rw [Hid, List.length_append, HRL.out, List.length_singleton]
        rw [HLE.out] at HPN
        clear HP6 HO6 HOW HNE HWN HW6 hc6 hlt6 HSZ
        have HDN : Hid (Accs w3 (if cP = u then P else P.map fun x => x.add (u * 13)) (N - u) Gs2.flatten) := by
          have := accs_cut HA2.out huN hN
          rwa [HTK.out.2] at this
        have HG2 : Hid (Gs = (Gd ++ [p :: r]) ++ Gs2) := by rw [Hid, HG.out, List.append_assoc]; rfl
        go_wp2_with fail
        go_roundw
        case rel => exact ⟨Gd ++ [p :: r], Gs2, _, N - u, cP - u, D2, L + 1, e2, _, HG2, by omega, by omega, rfl, by rw [show rs.length + 1 = L + 1 by rw [HRL.out]], HDN, HPN⟩
        case measure => show N - u < N; omega
      · have hJ : Calls Try.prog 14 #[.slice B m d, .slice P u cP] w4 (BadAcc 101 w4) := join_total B m d bs P u cP (p :: r) _ HB4.out HAT.out (by omega) HBB.out HTB.out (by rw [← HSN.out]; omega)
        have HBG := Lib.hid hbig; clear hbig
        go_upto_region 8 with (first
          | (refine cut_to rfl _ _ rfl rfl rfl (by omega) ?_)
          | (go_at_call 14; refine hJ.mono ?_; rintro e5 w5 ⟨rfl, hb5⟩; have HP5 := Lib.hid (HP4.out.below hb5); clear hb5)
          | (refine store_new rfl _ _ rfl rfl rfl rfl ?_; intro w6 hb6 hs6; have HP6 := Lib.hid (HP5.out.below hb6); clear hb6 hs6))
        clear hJ HP5 HP4 HB4 HAT
        go_wp2_with fail
        go_ret2
        refine .inl ⟨?_, rfl, HB3.out.trans (HP6.out.keep.mono HB3.out.size)⟩
        rw [← HALL.out, HG.out]
        exact ⟨seG bs (p :: r), by simp, by show 8192 < (joinAc bs (p :: r)).n; have := HBG.out; omega⟩
    · have hN0 : N = 0 := by omega
      subst hN0
      have hGr : Gr = [] := by
        have hgr : Grp g Gr := grp_right (by rw [← HG.out]; exact HGRP.out)
        have h0 := HA.out.1
        match Gr, hgr, h0 with
        | [], _, _ => rfl
        | (q :: z) :: Gz, _, h0 => simp at h0
      subst hGr
      have HLE : Hid (T.length = L) := by
        have e1 : Gs = Gd := by rw [HG.out, List.append_nil]
        have e2 := congrArg List.length HP.out.ses
        rw [List.length_map] at e2
        rw [Hid, ← HALL.out, e1, ← e2]
        obtain ⟨_, _, e3, _⟩ := HP.out.own.row.form
        injection e3 with _ e4
        exact e4.symm
      have HTS : Hid (rs.map (·.s) = T) := by rw [Hid, HP.out.ses, ← HALL.out, HG.out, List.append_nil]
      go_wp2_with fail
      go_ret2
      refine .inr ⟨fun ⟨s, hs, hb⟩ => ?_, ⟨D, e, rs, by rw [HLE.out]; rfl, ?_, HTS.out, HB3.out.trans (HP.out.keep.mono HB3.out.size)⟩⟩
      · rw [← HALL.out, HG.out, List.append_nil] at hs
        obtain ⟨G, hG, rfl⟩ := List.mem_map.1 hs
        have h8 := HP.out.small G hG
        have hb : 8192 < (joinAc bs G).n := hb
        omega
      · rw [HLE.out]
        exact HP.out.own.mono HB3.out.size

set_option maxRecDepth 100000 in
set_option maxHeartbeats 1000000 in
theorem sesadd_bad (A : Option Addr) (n c : Nat) (ss : List Se) (g : Int) (B : Option Addr) (m d : Nat) (bs : List Int) (X : Option Addr) (k cx : Nat) (xs : List It) (w : World) (hs : Sess w A n ss) (hbs : Ints w B m bs) (hm : m ≤ maxLen)
    (hx : Items w X k xs) (hn : n + k ≤ 1000000000) (h : (sesB g bs ss && itsB ss xs) = false) :
    Calls Try.prog 26 #[.slice A n c, .int .i64 g, .slice B m d, .slice X k cx] w (BadS 600 w) := by
  have HS := Lib.hid hs; clear hs
  have HBS := Lib.hid hbs; clear hbs
  have HIT := Lib.hid hx; clear hx
  cases h1 : sesB g bs ss
  · go_enter Try.func26, Try.ntmps26
    go_wp2_with (go_at_call 30; refine (sesmay_any A n c ss g B m d bs _ HS.out (by omega) HBS.out hm).mono ?_; rintro e w1 ⟨rfl, hb1⟩; rw [h1]; have HB1 := Lib.hid hb1; clear hb1)
    go_ret2
    exact ⟨rfl, HB1.out⟩
  · have h2 : itsB ss xs = false := by rw [h1] at h; simpa using h
    go_enter Try.func26, Try.ntmps26
    go_wp2_with (first
      | (go_at_call 30; refine (sesmay_any A n c ss g B m d bs _ HS.out (by omega) HBS.out hm).mono ?_; rintro e w1 ⟨rfl, hb1⟩; rw [h1]; have HB1 := Lib.hid hb1; clear hb1)
      | (go_at_call 55; refine (itemsfit_any A n c ss X k cx xs _ (HS.out.below HB1.out) (by unfold maxLen; omega) (HIT.out.below HB1.out) (by unfold maxLen; omega)).mono ?_; rintro e w2 ⟨rfl, hb2⟩; rw [h2]; have HB2 := Lib.hid (HB1.out.trans (hb2.mono HB1.out.size)); clear hb2))
    go_ret2
    exact ⟨rfl, HB2.out⟩

end Go.Proofs.Ytgdeaddfkcokpaa
