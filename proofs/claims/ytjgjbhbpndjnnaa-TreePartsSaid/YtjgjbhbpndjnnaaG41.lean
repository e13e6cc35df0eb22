/-
  slices.SortFunc at rows of bourne/api.Item: the library's shelf, laid over this program.
  Walk: rules.Compare as a sort asks of it: what it leaves is what was, with blocks behind and draws. (Out of XIoCmp.)
  Rows of items: parts of them, appends onto an owned one that say where the new row lies.
-/
import Derived.Test.YtjgjbhbpndjnnaaProg
import Derived.Shelf.SlSortCmp.WholeK
import Derived.Test.YtjgjbhbpndjnnaaG2
import Derived.Test.YtjgjbhbpndjnnaaItM
import Derived.Laws.Slices
import Derived.Laws.AppendOwnNone
namespace Go.Proofs.Ytjgjbhbpndjnnaa
open Go.Shelf Go.RowKit

/-- The shelf's numbers, in this program. -/
def sortIRen : Ren := ⟨fun n => match n with
  | 6 => 91 | 14 => 98 | 15 => 99 | 20 => 101 | 21 => 102 | 22 => 103 | 23 => 104 | 24 => 105 | 25 => 106 | 26 => 107 | 27 => 108 | 28 => 109 | 29 => 110 | 46 => 111 | 47 => 112 | 48 => 113 | 49 => 114 | 50 => 115 | 57 => 116 | _ => 0, fun n => match n with
  | 3 => 3 | 4 => 4 | 5 => 5 | 9 => 9 | 22 => 52 | 24 => 23 | 25 => 101 | 39 => 69 | 45 => 122 | 46 => 123 | 50 => 99 | 53 => 129 | 55 => 131 | 66 => 132 | 70 => 136 | 76 => 138 | 77 => 139 | _ => 0, fun _ => 0⟩

theorem sortILays : SlLaysF0.n6 Try.prog sortIRen where
  mixed := by kernel_rfl
  f6 := ⟨ "slices.SortFunc[[]bourne/api.Item,bourne/api.Item]", by decide, Try.func91.trans (congrArg some (by kernel_rfl))⟩
  f14 := ⟨ "slices.pdqsortCmpFunc[bourne/api.Item]", by decide, Try.func98.trans (congrArg some (by kernel_rfl))⟩
  f15 := Try.func99.trans (congrArg some (by kernel_rfl))
  f20 := ⟨ "slices.insertionSortCmpFunc[bourne/api.Item]", by decide, Try.func101.trans (congrArg some (by kernel_rfl))⟩
  f21 := ⟨ "slices.heapSortCmpFunc[bourne/api.Item]", by decide, Try.func102.trans (congrArg some (by kernel_rfl))⟩
  f22 := ⟨ "slices.breakPatternsCmpFunc[bourne/api.Item]", by decide, Try.func103.trans (congrArg some (by kernel_rfl))⟩
  f23 := ⟨ "slices.choosePivotCmpFunc[bourne/api.Item]", by decide, Try.func104.trans (congrArg some (by kernel_rfl))⟩
  f24 := ⟨ "slices.reverseRangeCmpFunc[bourne/api.Item]", by decide, Try.func105.trans (congrArg some (by kernel_rfl))⟩
  f25 := ⟨ "slices.partialInsertionSortCmpFunc[bourne/api.Item]", by decide, Try.func106.trans (congrArg some (by kernel_rfl))⟩
  f26 := ⟨ "slices.partitionEqualCmpFunc[bourne/api.Item]", by decide, Try.func107.trans (congrArg some (by kernel_rfl))⟩
  f27 := ⟨ "slices.partitionCmpFunc[bourne/api.Item]", by decide, Try.func108.trans (congrArg some (by kernel_rfl))⟩
  f28 := Try.func109.trans (congrArg some (by kernel_rfl))
  f29 := Try.func110.trans (congrArg some (by kernel_rfl))
  f46 := ⟨ "slices.siftDownCmpFunc[bourne/api.Item]", by decide, Try.func111.trans (congrArg some (by kernel_rfl))⟩
  f47 := Try.func112.trans (congrArg some (by kernel_rfl))
  f48 := Try.func113.trans (congrArg some (by kernel_rfl))
  f49 := ⟨ "slices.medianAdjacentCmpFunc[bourne/api.Item]", by decide, Try.func114.trans (congrArg some (by kernel_rfl))⟩
  f50 := ⟨ "slices.medianCmpFunc[bourne/api.Item]", by decide, Try.func115.trans (congrArg some (by kernel_rfl))⟩
  f57 := ⟨ "slices.order2CmpFunc[bourne/api.Item]", by decide, Try.func116.trans (congrArg some (by kernel_rfl))⟩
  t0 := Try.underlying0
  a0 := Try.isAgg0
  z0 := Try.sizeOf0
  v0 := Try.zeroValue0
  t3 := Try.underlying3
  a3 := Try.isAgg3
  z3 := Try.sizeOf3
  v3 := Try.zeroValue3
  t4 := Try.underlying4
  a4 := Try.isAgg4
  z4 := Try.sizeOf4
  v4 := Try.zeroValue4
  t5 := Try.underlying5
  a5 := Try.isAgg5
  z5 := Try.sizeOf5
  v5 := Try.zeroValue5
  t9 := Try.underlying9
  a9 := Try.isAgg9
  z9 := Try.sizeOf9
  v9 := Try.zeroValue9
  t22 := Try.underlying52
  a22 := Try.isAgg52
  z22 := Try.sizeOf52
  v22 := Try.zeroValue52
  t25 := Try.underlying101
  a25 := Try.isAgg101
  z25 := Try.sizeOf101
  v25 := Try.zeroValue101
  t39 := Try.underlying69
  a39 := Try.isAgg69
  z39 := Try.sizeOf69
  v39 := Try.zeroValue69
  t45 := Try.underlying122
  a45 := Try.isAgg122
  z45 := Try.sizeOf122
  v45 := Try.zeroValue122
  t46 := Try.underlying123
  a46 := Try.isAgg123
  z46 := Try.sizeOf123
  v46 := Try.zeroValue123
  t50 := Try.underlying99
  a50 := Try.isAgg99
  z50 := Try.sizeOf99
  v50 := Try.zeroValue99
  t53 := Try.underlying129
  a53 := Try.isAgg129
  z53 := Try.sizeOf129
  v53 := Try.zeroValue129
  t55 := Try.underlying131
  a55 := Try.isAgg131
  z55 := Try.sizeOf131
  v55 := Try.zeroValue131
  t66 := Try.underlying132
  a66 := Try.isAgg132
  z66 := Try.sizeOf132
  v66 := Try.zeroValue132
  t70 := Try.underlying136
  a70 := Try.isAgg136
  z70 := Try.sizeOf136
  v70 := Try.zeroValue136
  t76 := Try.underlying138
  a76 := Try.isAgg138
  z76 := Try.sizeOf138
  v76 := Try.zeroValue138
  t77 := Try.underlying139
  a77 := Try.isAgg139
  z77 := Try.sizeOf139
  v77 := Try.zeroValue139

end Go.Proofs.Ytjgjbhbpndjnnaa

namespace Go.Proofs.Ytjgjbhbpndjnnaa
open Go.RowKit

/-- Blocks behind, and draws: nothing else. -/
def Grw (w w' : World) : Prop := ∃ (q : Nat) (os : Array Obj), w' = Go.Sort.grow (w.drewN q) os
theorem Grw.refl (w : World) : Grw w w := ⟨0, #[], by simp [Go.Sort.grow, World.drewN]⟩
theorem Grw.drew {w w' : World} (h : Grw w w') : Grw w w'.drew := by
  obtain ⟨q, os, rfl⟩ := h
  exact ⟨q + 1, os, rfl⟩
theorem Grw.alloc {w w' : World} (h : Grw w w') (o : Obj) : Grw w (w'.alloc o) := by
  obtain ⟨q, os, rfl⟩ := h
  exact ⟨q, os.push o, by simp [Go.Sort.grow, World.alloc, World.drewN]⟩

set_option maxRecDepth 100000 in
set_option maxHeartbeats 400000 in
theorem compare_grw (x y : It) (w : World) :
    Calls Try.prog 72 #[.agg #[.int .i64 x.s, .int .i64 x.t, .int .i64 x.q, .int .i64 x.v], .agg #[.int .i64 y.s, .int .i64 y.t, .int .i64 y.q, .int .i64 y.v]] w
      fun e w' => e = .returned (.int .i64 (cmpT x y)) ∧ Grw w w' := by
  go_enter Try.func72, Try.ntmps72
  go_wp2
  go_region_held3 (fun w' => w'.cell? ⟨w.heap.size, 1, none⟩ = some (.int .i64 x.t) ∧ w'.cell? ⟨w.heap.size, 2, none⟩ = some (.int .i64 x.q) ∧ w'.cell? ⟨w.heap.size + 1, 1, none⟩ = some (.int .i64 y.t) ∧ w'.cell? ⟨w.heap.size + 1, 2, none⟩ = some (.int .i64 y.q)) (simp [go_sem, World.cell?_alloc_past])
    (first
      | (go_at_call 89; refine (cmp_any _ _ _).mono ?_; rintro e w' ⟨rfl, rfl⟩)
      | (go_at_call 88; refine (or_any (cmpI x.t y.t) (cmpI x.q y.q) _ _ (by simp [go_sem]) (by simp [go_sem])).mono ?_; rintro e w' ⟨rfl, rfl⟩))
  go_wp2
  go_ret
  exact ⟨by rw [cmpT_or]; rfl, by repeat (first | exact Grw.refl _ | refine Grw.drew ?_ | refine Grw.alloc ?_ _)⟩

end Go.Proofs.Ytjgjbhbpndjnnaa

namespace Go.Proofs.Ytjgjbhbpndjnnaa
open Go.RowKit

set_option maxRecDepth 100000 in
theorem nthI_take (xs : List It) {k i : Nat} (h : i < k) : nthI (xs.take k) i = nthI xs i := by
  unfold nthI; rw [List.getD_eq_getElem?_getD, List.getD_eq_getElem?_getD, List.getElem?_take, if_pos h]
set_option maxRecDepth 100000 in
theorem nthI_drop (xs : List It) (k i : Nat) : nthI (xs.drop k) i = nthI xs (k + i) := by
  unfold nthI; rw [List.getD_eq_getElem?_getD, List.getD_eq_getElem?_getD, List.getElem?_drop]
set_option maxRecDepth 100000 in
theorem nthI_app {xs ys : List It} {i : Nat} (h : i < xs.length) : nthI (xs ++ ys) i = nthI xs i := by
  unfold nthI; rw [List.getD_eq_getElem?_getD, List.getD_eq_getElem?_getD, List.getElem?_append_left h]
set_option maxRecDepth 100000 in
theorem nthI_last (xs : List It) (y : It) : nthI (xs ++ [y]) xs.length = y := by simp [nthI]
set_option maxRecDepth 100000 in
theorem Items.take {w : World} {A : Option Addr} {n : Nat} {xs : List It} (h : Items w A n xs) {k : Nat} (hk : k ≤ n) : Items w A k (xs.take k) :=
  ⟨by rw [List.length_take, h.1]; omega, fun h0 => by
    obtain ⟨b, o, e, hi⟩ := h.2 (by omega)
    exact ⟨b, o, e, fun i hi2 => by rw [nthI_take xs hi2]; exact hi i (by omega)⟩⟩
set_option maxRecDepth 100000 in
theorem Items.drop {w : World} {b o n : Nat} {xs : List It} (h : Items w (some ⟨b, o, none⟩) n xs) {k : Nat} (hk : k ≤ n) : Items w (some ⟨b, o + k * 4, none⟩) (n - k) (xs.drop k) :=
  ⟨by rw [List.length_drop, h.1], fun h0 => by
    obtain ⟨b', o', e, hi⟩ := h.2 (by omega)
    injection e with e
    injection e with e1 e2
    subst e1 e2
    exact ⟨b, o + k * 4, rfl, fun i hi2 => by rw [nthI_drop, show o + k * 4 + i * 4 = o + (k + i) * 4 by omega]; exact hi (k + i) (by omega)⟩⟩
set_option maxRecDepth 100000 in
theorem Items.one {w : World} {g : Nat} {y : It} (h : Has w g 23 (itemL y).toArray) : Items w (some ⟨g, 0, none⟩) 1 [y] :=
  ⟨rfl, fun _ => ⟨g, 0, rfl, fun i hi => by
    obtain rfl : i = 0 := by omega
    have e : nthI [y] 0 = y := rfl
    rw [e]
    exact range_item h⟩⟩
set_option maxRecDepth 100000 in
theorem OwnIt.firsts {w : World} {base b n c : Nat} {ys : List It} (h : OwnIt w base (.slice (some ⟨b, 0, none⟩) n c) ys) {k : Nat} (hk : k ≤ n) : OwnIt w base (.slice (some ⟨b, 0, none⟩) k c) (ys.take k) := by
  obtain ⟨h1, h2, h3, h4, cur, h5, h6, h7⟩ := h.blk
  refine own_mk h2 (by rw [List.length_take]; omega) (by omega) h4 h5 h6 ?_
  have e : ∀ (l : List It) (k : Nat), (l.take k).flatMap itemL = (l.flatMap itemL).take (k * 4) := by
    intro l
    induction l with
    | nil => intro k; simp
    | cons x r ih =>
      intro k
      cases k with
      | zero => simp
      | succ k =>
        rw [List.take_succ_cons, List.flatMap_cons, List.flatMap_cons, ih k, show (k + 1) * 4 = k * 4 + 4 by omega]
        rfl
  rw [e, ← h7, List.take_take, Nat.min_eq_left (by omega)]
set_option maxRecDepth 100000 in
/-- What growing one block leaves below. -/
theorem grow_below {w w' : World} {row : Option Nat} (h : w.grownBy w' row) {B : Nat} (hr : ∀ b, row = some b → B ≤ b) (hB : B ≤ w.heap.size) : Below B w w' :=
  ⟨h.os, h.tape, h.output, h.size, fun k hk => h.block k (by omega) (fun e => by have := hr k e.symm; omega)⟩
set_option maxRecDepth 100000 in
theorem grow_refl (w : World) (row : Option Nat) : w.grownBy w row := ⟨rfl, rfl, rfl, Nat.le_refl _, fun _ _ _ => rfl⟩

section
variable {ops : Array Oper} {rest : List Oper} {op : Oper} {p : Act} {w : World} {Q : Exit → Act → World → Prop}
set_option maxRecDepth 100000 in
/-- 's = append(s, ys...)' in a walk, s a row that the call owns: where the new row lies; every block but the old row's stays. -/
theorem app_its (hgd : op.guard = none) (s x : Operand)
    (ho : op.op = .call { callee := .builtin .append, args := #[s, x], argTypes := #[52, 52] })
    {base n k c : Nat} {A : Option Addr} {v : Value} {xs ys : List It} (hs : p.eval s = v) (hown : OwnIt w base v xs) (hx : p.eval x = .slice A k c) (hy : Items w A k ys) (hnil : A = none → c = 0 ∧ k = 0)
    (hnl : xs.length = n) (hn : (n + k) * 32 ≤ 140737488355328) (hbase : base ≤ w.heap.size)
    (h : ∀ A' m c' w', m = n + k → OwnIt w' base (.slice A' m c') (xs ++ ys) → w.grownBy w' v.ownBlock → (∀ ad, A' = some ad → v.ownBlock = some ad.block ∨ w.heap.size ≤ ad.block) → wpList Try.prog ops Q rest (p.put op.dst (.slice A' m c')) w') : wpList Try.prog ops Q (op :: rest) p w := by
  obtain ⟨i0, hi, hz, hs0, hy0⟩ := info_parts Try.infoItem
  have hl := hy.1
  subst hnl
  cases A with
  | none =>
    obtain ⟨rfl, rfl⟩ := hnil rfl
    obtain rfl : ys = [] := List.eq_nil_of_length_eq_zero hl
    obtain ⟨A', c', e, _⟩ := hown.form
    subst e
    refine wpList_append_own_none hgd s x 52 ho base 23 i0 4 Try.underlying52 hi _ xs.length _ hs hown hx ?_
    refine h A' xs.length c' w rfl (by rw [List.append_nil]; exact hown) (grow_refl _ _) fun ad e => ?_
    subst e
    exact .inl (by simp [Value.ownBlock])
  | some ad =>
    refine wpList_append_own_at w hgd s x 52 ho base 23 i0 _ 4 32 Try.underlying52 hi hz hs0 hy0 rfl (by omega) v xs.length (xs.flatMap itemL) hs hown ad k c (ys.flatMap itemL) hx (by rw [flat_len, hl])
      (fun j u hu => ?_) (fun u hu => ?_) (by unfold maxLen; omega) (by omega) hbase (fun v' w' h1 h2 _ h4 => ?_)
    · have hj : j < k * 4 := by have := (List.getElem?_eq_some_iff.1 hu).1; rwa [flat_len, hl] at this
      obtain ⟨b, o, e, hc⟩ := hy.2 (by omega)
      injection e with e
      subst e
      rw [Addr.add_mid]
      have hq := hc (j / 4) (by omega) (j % 4)
      have hlt : j % 4 < (itemL (nthI ys (j / 4))).length := Nat.mod_lt _ (by simp)
      have e2 := flat_at ys (j / 4) (by omega) (j % 4) _ (List.getElem?_eq_getElem hlt)
      rw [show j / 4 * 4 + j % 4 = j by omega, hu] at e2
      have e3 := hq _ (List.getElem?_eq_getElem hlt)
      rw [show o + j / 4 * 4 + j % 4 = o + j by omega] at e3
      rw [e3, ← e2]
    · obtain ⟨z, _, hz⟩ := List.mem_flatMap.1 hu
      simp only [itemL, List.mem_cons, List.not_mem_nil, or_false] at hz
      rcases hz with rfl | rfl | rfl | rfl <;> rfl
    · have h3 : OwnIt w' base v' (xs ++ ys) := by unfold OwnIt; rw [List.flatMap_append, List.length_append, hl]; exact h1
      obtain ⟨A', c', rfl, _⟩ := h3.form
      have e : (xs ++ ys).length = xs.length + k := by rw [List.length_append, hl]
      rw [e] at h3 h4 ⊢
      refine h A' _ c' w' rfl h3 h2 (fun ad e => ?_)
      subst e
      rcases h4 with h4 | h4
      · exact .inl (by rw [← h4]; simp [Value.ownBlock])
      · have : ad.block = w.heap.size := by simpa [Value.ownBlock] using h4
        exact .inr (by omega)

set_option maxRecDepth 100000 in
theorem size_itE (w : World) : (sizeOf (Try.prog.elem 52)).run Try.prog w = .ok 4 w := by kernel_rfl
set_option maxRecDepth 100000 in
theorem elem_it : Try.prog.underlying 52 = some (.slice (Try.prog.elem 52)) := by kernel_rfl
set_option maxRecDepth 100000 in
/-- 'xs[:u]' of items. -/
theorem cut_toIt (hgd : op.guard = none) (x y : Operand) (ho : op.op = .slice 52 x none (some y) none)
    {D : Option Addr} {n e u : Nat} {z : Int} (hx : p.eval x = .slice D n e) (hy : p.eval y = .int .i64 z) (hz : z = (u : Int)) (hu : u ≤ e)
    (h : wpList Try.prog ops Q rest (p.put op.dst (.slice D u e)) w) : wpList Try.prog ops Q (op :: rest) p w :=
  wpList_plain hgd fun _ hK => by
    subst hz
    have hd : D.map (·.add (0 * 4)) = D := by
      cases D with
      | none => rfl
      | some a => cases a; simp [Addr.add]
    have hs : (Instr.sliceAt 52 (.slice D n e) none (some (.int .i64 (u : Int))) none).run Try.prog w = .ok (.slice D u e) w := by
      rw [run_sliceAt_slice w _ _ _ _ _ elem_it, run_slice_h w _ D n e elem_it .i64 (u : Int) (by omega) (by omega), size_itE]
      simp only [Result.andThen_ok, sliced, hd, ite_self, Int.toNat_natCast, Nat.sub_zero]
    unfold Oper.wp execOp
    simp only [ho, Option.map_some, Option.map_none, hx, hy, Sem.run_bind, hs, Result.andThen_ok]
    exact hK _ _ h
set_option maxRecDepth 100000 in
/-- 'xs[u:]' of items: what lies there, nil if xs is. -/
theorem cut_fromIt (hgd : op.guard = none) (x y : Operand) (ho : op.op = .slice 52 x (some y) none none)
    {D : Option Addr} {n e u : Nat} {z : Int} {xs : List It} (hx : p.eval x = .slice D n e) (hy : p.eval y = .int .i64 z) (hz : z = (u : Int)) (hu : u ≤ n) (hn : n ≤ e) (hr : Items w D n xs) (hnil : D = none → e = 0)
    (h : ∀ D' m c, m = n - u → Items w D' m (xs.drop u) → (D' = none → c = 0 ∧ m = 0) → wpList Try.prog ops Q rest (p.put op.dst (.slice D' m c)) w) : wpList Try.prog ops Q (op :: rest) p w :=
  wpList_plain hgd fun _ hK => by
    subst hz
    have hs : (Instr.sliceAt 52 (.slice D n e) (some (.int .i64 (u : Int))) none none).run Try.prog w = .ok (.slice (if e = u then D else D.map (·.add (u * 4))) (n - u) (e - u)) w := by
      rw [run_sliceAt_slice w _ _ _ _ _ elem_it, run_slice_l w _ D n e elem_it .i64 (u : Int) (by omega) (by omega), size_itE]
      simp only [Result.andThen_ok, sliced, Int.toNat_natCast]
    have ha : Items w (if e = u then D else D.map (·.add (u * 4))) (n - u) (xs.drop u) := by
      by_cases hlt : u < n
      · obtain ⟨b, o, rfl, _⟩ := hr.2 (by omega)
        rw [if_neg (by omega)]
        have he : (Option.map (fun x => Addr.add x (u * 4)) (some (⟨b, o, none⟩ : Addr))) = some ⟨b, o + u * 4, none⟩ := by simp [Addr.add]
        rw [he]
        exact Items.drop hr hu
      · have : n - u = 0 := by omega
        rw [this, List.drop_of_length_le (by rw [hr.1]; omega)]
        exact Items.nil _ _
    unfold Oper.wp execOp
    simp only [ho, Option.map_some, Option.map_none, hx, hy, Sem.run_bind, hs, Result.andThen_ok]
    refine hK _ _ (h _ _ _ rfl ha fun e0 => ?_)
    have : D = none := by
      by_cases e1 : e = u
      · rwa [if_pos e1] at e0
      · rw [if_neg e1] at e0
        cases D with
        | none => rfl
        | some a => cases e0
    have := hnil this
    omega
end

set_option maxRecDepth 100000 in
theorem it_empty (w : World) : OwnIt (w.alloc (.cells #[] 23)) w.heap.size (.slice (some ⟨w.heap.size, 0, none⟩) 0 0) [] :=
  ⟨rfl, Or.inr ⟨w.heap.size, 0, #[], rfl, Nat.le_refl _, Has.made w 23 #[], Nat.le_refl _, Nat.zero_le _, rfl, rfl⟩⟩


abbrev itV (x : It) : Value := .agg #[.int .i64 x.s, .int .i64 x.t, .int .i64 x.q, .int .i64 x.v]
abbrev itA (x : It) : Array Value := #[.int .i64 x.s, .int .i64 x.t, .int .i64 x.q, .int .i64 x.v]
set_option maxRecDepth 100000 in
/-- The store of a whole item into a block of its own. -/
theorem store_hasIt {ops : Array Oper} {rest : List Oper} {op : Oper} {a : Act} {w : World} {Q : Exit → Act → World → Prop} (hgd : op.guard = none) (x y : Operand) (ho : op.op = .store 23 x y)
    (g : Nat) {old : Array Value} {z : It} (hx : a.eval x = .pointer (some ⟨g, 0, none⟩)) (hy : a.eval y = itV z) (hg : Has w g 23 old) (hold : old.size = 4)
    (h : wpList Try.prog ops Q rest (a.put op.dst undef) (w.setRow g (itA z))) : wpList Try.prog ops Q (op :: rest) a w :=
  wpList_store_row hgd 23 x y ho g _ hx hy 23 old hg Try.sizeItem hold (by simp [Value.oneCell']) h
set_option maxRecDepth 100000 in
/-- The load of a whole item that has a block of its own. -/
theorem load_hasIt {ops : Array Oper} {rest : List Oper} {op : Oper} {a : Act} {w : World} {Q : Exit → Act → World → Prop} (hgd : op.guard = none) (x : Operand) (ho : op.op = .load 23 x)
    (g : Nat) (hx : a.eval x = .pointer (some ⟨g, 0, none⟩)) {y : It} (hc : Has w g 23 (itA y))
    (h : wpList Try.prog ops Q rest (a.put op.dst (itV y)) w) : wpList Try.prog ops Q (op :: rest) a w :=
  load_item hgd x ho g 0 hx (range_item hc) h
set_option maxRecDepth 100000 in
/-- The store of a whole item into a row. -/
theorem store_item {ops : Array Oper} {rest : List Oper} {op : Oper} {a : Act} {w : World} {Q : Exit → Act → World → Prop} (hgd : op.guard = none) (x y : Operand) (ho : op.op = .store 23 x y)
    (b k : Nat) (z : It) (hx : a.eval x = .pointer (some ⟨b, k, none⟩)) (hy : a.eval y = itV z) (ht : w.there b k 4)
    (h : wpList Try.prog ops Q rest (a.put op.dst undef) (w.setCells b k (itemL z))) : wpList Try.prog ops Q (op :: rest) a w :=
  wpList_store_mid hgd 23 x y ho b k #[.int .i64 z.s, .int .i64 z.t, .int .i64 z.q, .int .i64 z.v] hx hy ht Try.sizeItem (by simp [Value.oneCell']) h
set_option maxRecDepth 100000 in
theorem butS_row {gs : List Nat} {w w' : World} (h : ButS gs w w') {g : Nat} (hg : w.heap.size ≤ g) (cs : Array Value) : ButS gs w (w'.setRow g cs) :=
  ⟨h.os, h.tape, h.output, by simp; exact h.size, fun k hk hn => (setRow_other w' g k cs (by omega)).trans (h.other k hk hn)⟩
/-- The items that come in lie in no block out of gs. -/
def Far (gs : List Nat) (A : Option Addr) (n : Nat) : Prop := ∀ ad, 0 < n → A = some ad → ad.block ∉ gs

set_option maxRecDepth 100000 in
theorem Items.butS {gs : List Nat} {w w' : World} {A : Option Addr} {n : Nat} {zs : List It} (h : Items w A n zs) (hb : ButS gs w w') (hf : Far gs A n) : Items w' A n zs :=
  ⟨h.1, fun hn => by
    obtain ⟨b, o, rfl, hi⟩ := h.2 hn
    refine ⟨b, o, rfl, fun i hlt => ?_⟩
    have h0 := hi i hlt 0 _ rfl
    have hk := hb.other b (block_lt_of_cell h0) (hf _ hn rfl)
    intro j v hv
    rw [← hi i hlt j v hv]
    exact World.cell?_of_block (w := w) (w' := w') (a := ⟨b, o + i * 4 + j, none⟩) hk⟩

set_option maxRecDepth 100000 in
theorem items_has {w : World} {g : Nat} {xs : List It} {cs : Array Value} (h : Has w g 23 cs) (e : cs = (xs.flatMap itemL).toArray) : Items w (some ⟨g, 0, none⟩) xs.length xs :=
  ⟨rfl, fun _ => ⟨g, 0, rfl, fun i hi j v hv => by
    rw [show 0 + i * 4 + j = i * 4 + j by omega, h.cell, e]
    simpa using flat_at xs i hi j v hv⟩⟩

end Go.Proofs.Ytjgjbhbpndjnnaa
