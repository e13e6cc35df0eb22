/-
  slices.SortFunc at rows of bourne/api.Item: the library's shelf, laid over this program.
  Walk: rules.Compare as a sort asks of it: what it leaves is what was, with blocks behind and draws. (Out of XIoCmp.)
  slices.SortFunc at items that a call owns: a permutation of what the row held, sorted. (Out of XIoSort.)
-/
import Derived.Test.YtdoflmphkalicaaProg
import Derived.Shelf.SlSortCmp.WholeK
import Derived.Test.YtdoflmphkalicaaCmp
import Derived.Test.YtdoflmphkalicaaS3
import Derived.Test.YtdoflmphkalicaaS15
import Derived.Test.YtdoflmphkalicaaS5
import Derived.Lib.RowBridge
import Derived.Shelf.SlSortCmp.NoneTotal
namespace Go.Proofs.Ytdoflmphkalicaa
open Go.Shelf Go.RowKit

/-- The shelf's numbers, in this program. -/
def sortIRen : Ren := ⟨fun n => match n with
  | 6 => 87 | 14 => 97 | 15 => 98 | 20 => 101 | 21 => 102 | 22 => 103 | 23 => 104 | 24 => 105 | 25 => 106 | 26 => 107 | 27 => 108 | 28 => 109 | 29 => 110 | 46 => 111 | 47 => 112 | 48 => 113 | 49 => 114 | 50 => 115 | 57 => 116 | _ => 0, fun n => match n with
  | 3 => 3 | 4 => 4 | 5 => 5 | 9 => 9 | 22 => 36 | 24 => 47 | 25 => 104 | 39 => 58 | 45 => 122 | 46 => 123 | 50 => 109 | 53 => 129 | 55 => 131 | 66 => 132 | 70 => 136 | 76 => 138 | 77 => 139 | _ => 0, fun _ => 0⟩

theorem sortILays : SlLaysF0.n6 Try.prog sortIRen where
  mixed := by kernel_rfl
  f6 := ⟨ "slices.SortFunc[[]bourne/api.Item,bourne/api.Item]", by decide, Try.func87.trans (congrArg some (by kernel_rfl))⟩
  f14 := ⟨ "slices.pdqsortCmpFunc[bourne/api.Item]", by decide, Try.func97.trans (congrArg some (by kernel_rfl))⟩
  f15 := Try.func98.trans (congrArg some (by kernel_rfl))
  f20 := ⟨ "slices.insertionSortCmpFunc[bourne/api.Item]", by decide, Try.func101.trans (congrArg some (by kernel_rfl))⟩
  f21 := ⟨ "slices.heapSortCmpFunc[bourne/api.Item]", by decide, Try.func102.trans (congrArg some (by kernel_rfl))⟩
  f22 := ⟨ "slices.breakPatternsCmpFunc[bourne/api.Item]", by decide, Try.func103.trans (congrArg some (by kernel_rfl))⟩
  f23 := ⟨ "slices.choosePivotCmpFunc[bourne/api.Item]", by decide, Try.func104.trans (congrArg some (by kernel_rfl))⟩
  f24 := ⟨ "slices.reverseRangeCmpFunc[bourne/api.Item]", by decide, Try.func105.trans (congrArg some (by kernel_rfl))⟩
  f25 := ⟨ "slices.partialInsertionSortCmpFunc[bourne/api.Item]", by decide, Try.func106.trans (congrArg some (by kernel_rfl))⟩
  f26 := ⟨ "slices.partitionEqualCmpFunc[bourne/api.Item]", by decide, Try.func107.trans (congrArg some (by kernel_rfl))⟩
  f27 := ⟨ "slices.partitionCmpFunc[bourne/api.Item]", by decide, Try.func108.trans (congrArg some (by kernel_rfl))⟩
  f28 := Try.func109.trans (congrArg some (by kernel_rfl))
  f29 := Try.func110.trans (congrArg some (by kernel_rfl))
  f46 := ⟨ "slices.siftDownCmpFunc[bourne/api.Item]", by decide, Try.func111.trans (congrArg some (by kernel_rfl))⟩
  f47 := Try.func112.trans (congrArg some (by kernel_rfl))
  f48 := Try.func113.trans (congrArg some (by kernel_rfl))
  f49 := ⟨ "slices.medianAdjacentCmpFunc[bourne/api.Item]", by decide, Try.func114.trans (congrArg some (by kernel_rfl))⟩
  f50 := ⟨ "slices.medianCmpFunc[bourne/api.Item]", by decide, Try.func115.trans (congrArg some (by kernel_rfl))⟩
  f57 := ⟨ "slices.order2CmpFunc[bourne/api.Item]", by decide, Try.func116.trans (congrArg some (by kernel_rfl))⟩
  t0 := Try.underlying0
  a0 := Try.isAgg0
  z0 := Try.sizeOf0
  v0 := Try.zeroValue0
  t3 := Try.underlying3
  a3 := Try.isAgg3
  z3 := Try.sizeOf3
  v3 := Try.zeroValue3
  t4 := Try.underlying4
  a4 := Try.isAgg4
  z4 := Try.sizeOf4
  v4 := Try.zeroValue4
  t5 := Try.underlying5
  a5 := Try.isAgg5
  z5 := Try.sizeOf5
  v5 := Try.zeroValue5
  t9 := Try.underlying9
  a9 := Try.isAgg9
  z9 := Try.sizeOf9
  v9 := Try.zeroValue9
  t22 := Try.underlying36
  a22 := Try.isAgg36
  z22 := Try.sizeOf36
  v22 := Try.zeroValue36
  t25 := Try.underlying104
  a25 := Try.isAgg104
  z25 := Try.sizeOf104
  v25 := Try.zeroValue104
  t39 := Try.underlying58
  a39 := Try.isAgg58
  z39 := Try.sizeOf58
  v39 := Try.zeroValue58
  t45 := Try.underlying122
  a45 := Try.isAgg122
  z45 := Try.sizeOf122
  v45 := Try.zeroValue122
  t46 := Try.underlying123
  a46 := Try.isAgg123
  z46 := Try.sizeOf123
  v46 := Try.zeroValue123
  t50 := Try.underlying109
  a50 := Try.isAgg109
  z50 := Try.sizeOf109
  v50 := Try.zeroValue109
  t53 := Try.underlying129
  a53 := Try.isAgg129
  z53 := Try.sizeOf129
  v53 := Try.zeroValue129
  t55 := Try.underlying131
  a55 := Try.isAgg131
  z55 := Try.sizeOf131
  v55 := Try.zeroValue131
  t66 := Try.underlying132
  a66 := Try.isAgg132
  z66 := Try.sizeOf132
  v66 := Try.zeroValue132
  t70 := Try.underlying136
  a70 := Try.isAgg136
  z70 := Try.sizeOf136
  v70 := Try.zeroValue136
  t76 := Try.underlying138
  a76 := Try.isAgg138
  z76 := Try.sizeOf138
  v76 := Try.zeroValue138
  t77 := Try.underlying139
  a77 := Try.isAgg139
  z77 := Try.sizeOf139
  v77 := Try.zeroValue139

end Go.Proofs.Ytdoflmphkalicaa

namespace Go.Proofs.Ytdoflmphkalicaa
open Go.RowKit

/-- Blocks behind, and draws: nothing else. -/
def Grw (w w' : World) : Prop := ∃ (q : Nat) (os : Array Obj), w' = Go.Sort.grow (w.drewN q) os
theorem Grw.refl (w : World) : Grw w w := ⟨0, #[], by simp [Go.Sort.grow, World.drewN]⟩
theorem Grw.drew {w w' : World} (h : Grw w w') : Grw w w'.drew := by
  obtain ⟨q, os, rfl⟩ := h
  exact ⟨q + 1, os, rfl⟩
theorem Grw.alloc {w w' : World} (h : Grw w w') (o : Obj) : Grw w (w'.alloc o) := by
  obtain ⟨q, os, rfl⟩ := h
  exact ⟨q, os.push o, by simp [Go.Sort.grow, World.alloc, World.drewN]⟩

set_option maxRecDepth 100000 in
set_option maxHeartbeats 400000 in
theorem compare_grw (x y : It) (w : World) :
    Calls Try.prog 74 #[.agg #[.int .i64 x.s, .int .i64 x.t, .int .i64 x.q, .int .i64 x.v], .agg #[.int .i64 y.s, .int .i64 y.t, .int .i64 y.q, .int .i64 y.v]] w
      fun e w' => e = .returned (.int .i64 (cmpT x y)) ∧ Grw w w' := by
  go_enter Try.func74, Try.ntmps74
  go_wp2
  go_region_held3 (fun w' => w'.cell? ⟨w.heap.size, 1, none⟩ = some (.int .i64 x.t) ∧ w'.cell? ⟨w.heap.size, 2, none⟩ = some (.int .i64 x.q) ∧ w'.cell? ⟨w.heap.size + 1, 1, none⟩ = some (.int .i64 y.t) ∧ w'.cell? ⟨w.heap.size + 1, 2, none⟩ = some (.int .i64 y.q)) (simp [go_sem, World.cell?_alloc_past])
    (first
      | (go_at_call 90; refine (cmp_any _ _ _).mono ?_; rintro e w' ⟨rfl, rfl⟩)
      | (go_at_call 89; refine (or_any (cmpI x.t y.t) (cmpI x.q y.q) _ _ (by simp [go_sem]) (by simp [go_sem])).mono ?_; rintro e w' ⟨rfl, rfl⟩))
  go_wp2
  go_ret
  exact ⟨by rw [cmpT_or]; rfl, by repeat (first | exact Grw.refl _ | refine Grw.drew ?_ | refine Grw.alloc ?_ _)⟩

end Go.Proofs.Ytdoflmphkalicaa

namespace Go.Proofs.Ytdoflmphkalicaa
open Go.RowKit Go.Sort

/-- Rows of k cells each, flat, as a list. -/
theorem flatK_eq {α : Type} [Inhabited α] (enc : α → List Value) (k : Nat) (hk : ∀ x, (enc x).length = k) (ys : List α) : (flatK enc k ys.toArray).toList = ys.flatMap enc := by
  have hl : (ys.flatMap enc).length = ys.length * k := by
    induction ys with
    | nil => simp
    | cons y r ih => rw [List.flatMap_cons, List.length_append, hk, ih, List.length_cons]; rw [Nat.add_mul, Nat.one_mul, Nat.add_comm]
  refine List.ext_getElem (by simp [hl]) fun t h1 h2 => ?_
  have ht : t < ys.length * k := by rw [hl] at h2; exact h2
  have e1 : (flatK enc k ys.toArray).toList[t] = (flatK enc k ys.toArray)[t]! := by
    rw [getElem!_pos _ t (by simpa using ht)]
    simp
  rw [e1, get_flatK _ _ _ _ (by simpa using ht)]
  clear e1 h1 hl
  induction ys generalizing t with
  | nil => simp at ht
  | cons y r ih =>
    have k0 : 0 < k := by
      rcases Nat.eq_zero_or_pos k with h | h
      · subst h; simp at ht
      · exact h
    rw [List.length_cons] at ht
    by_cases hc : t < k
    · rw [Nat.div_eq_of_lt hc, Nat.mod_eq_of_lt hc]
      have h3 : t < (enc y).length := by rw [hk]; exact hc
      rw [getElem!_pos _ t (by simpa using h3)]
      simp only [List.flatMap_cons]
      rw [List.getElem_append_left h3]
      simp
    · obtain ⟨u, rfl⟩ : ∃ u, t = k + u := ⟨t - k, by omega⟩
      have hu : u < r.length * k := by rw [Nat.add_mul] at ht; omega
      have h2' : u < (r.flatMap enc).length := by
        rw [List.flatMap_cons, List.length_append, hk] at h2
        omega
      have := ih u h2' hu
      rw [Nat.add_div_left _ k0, Nat.add_mod_left]
      have e : (y :: r).toArray[u / k + 1]! = r.toArray[u / k]! := by simp
      rw [e, this]
      simp only [List.flatMap_cons]
      rw [List.getElem_append_right (by rw [hk]; omega)]
      simp only [hk, Nat.add_sub_cancel_left]

theorem holdsK_of {α : Type} [Inhabited α] (enc : α → List Value) (k : Nat) (hk : ∀ x, (enc x).length = k) {w : World} {b : Nat} {t : TypeId} {cur : Array Value} (hh : Has w b t cur) (ys : List α) (ht : cur.toList.take (ys.length * k) = ys.flatMap enc) : HoldsK enc k w b 0 ys.toArray := by
  intro j hj
  have hj' : j < ys.length * k := by simpa using hj
  have e := flatK_eq enc k hk ys
  rw [← ht] at e
  have h1 : (flatK enc k ys.toArray).toList[j]? = cur.toList[j]? := by rw [e, List.getElem?_take, if_pos hj']
  refine ⟨?_, by rw [Nat.zero_add]; exact hh.mark _⟩
  rw [Nat.zero_add, hh.cell]
  rw [Array.getElem?_toList, Array.getElem?_toList] at h1
  rw [← h1, Array.getElem?_eq_getElem hj, getElem!_pos _ j hj]
  rfl
theorem sortW_sets {α : Type} [Inhabited α] (enc : α → List Value) (k : Nat) (hk : ∀ x, (enc x).length = k) (w : World) (b n : Nat) (ys zs : List α) (os : Array Obj) (hH : HoldsK enc k w b 0 ys.toArray) (hl : zs.length = ys.length) :
    sortWorldK enc k w b 0 n zs.toArray os = grow ((w.drewN n).setCells b 0 (zs.flatMap enc)) os := by
  unfold sortWorldK putRowK
  have := Go.Lib.putRow_eq_setCells id w b 0 (flatK enc k ys.toArray) (zs.flatMap enc) n hH (by rw [← flatK_eq enc k hk zs]; simp [hl])
  rw [List.map_id, ← flatK_eq enc k hk zs] at this
  rw [← flatK_eq enc k hk zs, ← this]
theorem below_grows (w : World) (os : Array Obj) : Below w.heap.size w (grow w os) :=
  ⟨rfl, rfl, rfl, by simp [grow], fun k hk => by simp [grow, Array.getElem?_append_left hk]⟩
theorem perm_in {α : Type} [Inhabited α] {ys : List α} {d : Array α} (h : PermIn 0 ys.toArray.size ys.toArray d) : d.toList.Perm ys := by
  have h1 := h.1
  have h2 := h.2.2
  have e1 : d.extract 0 ys.toArray.size = d := by rw [← h1]; simp
  have e2 : ys.toArray.extract 0 ys.toArray.size = ys.toArray := by simp
  rw [e1, e2] at h2
  simpa using h2
theorem srd_in {α : Type} [Inhabited α] {lt : α → α → Bool} {d : Array α} {n : Nat} (hn : n = d.size) (h : SortedIn lt 0 n d) : SrdB lt d.toList := by
  subst hn
  refine List.pairwise_iff_getElem.2 fun i j hi hj hij => ?_
  have := h i j (Nat.zero_le _) hij (by simpa using hj)
  rw [getElem!_pos d i (by simpa using hi), getElem!_pos d j (by simpa using hj)] at this
  simpa using this

/-! Items. -/
instance : Inhabited It := ⟨zeroIt⟩
theorem cmpT_lt2 : Go.Proofs.ltOf cmpT = lt2 := by
  funext x y
  unfold Go.Proofs.ltOf cmpT cmpI lt2
  by_cases h : x.t < y.t ∨ x.t = y.t ∧ x.q < y.q
  · rw [decide_eq_true h]
    refine decide_eq_true ?_
    (repeat' split) <;> omega
  · rw [decide_eq_false h]
    refine decide_eq_false ?_
    (repeat' split) <;> omega
theorem swo_it : SWO (Go.Proofs.ltOf cmpT) := by
  rw [cmpT_lt2]
  exact ⟨fun x => by rw [lt2_no]; omega, fun x y z h1 h2 => by rw [lt2_iff] at *; omega, fun x y z h1 h2 => by rw [lt2_no] at *; omega⟩

set_option maxRecDepth 100000 in
/-- slices.SortFunc at items that lie in a row that the caller owns. -/
theorem isort_any {w : World} {b n c : Nat} {ys : List It} (h : OwnIt w 0 (.slice (some ⟨b, 0, none⟩) n c) ys) (hn : n ≤ 1073741824) :
    Calls Try.prog 87 #[.slice (some ⟨b, 0, none⟩) n c, .func (.func 74) #[] #[]] w fun e w' =>
      e = .returned (.tuple #[]) ∧ ∃ zs, zs.Perm ys ∧ SrdB lt2 zs ∧ OwnIt w' 0 (.slice (some ⟨b, 0, none⟩) n c) zs ∧ ButS [b] w w' := by
  obtain ⟨hl, _, hnc, hcm, cur, hh, hs, ht⟩ := h.blk
  subst hl
  have hk : ∀ x, (itemL x).length = 4 := fun _ => rfl
  have hH := holdsK_of itemL 4 hk hh ys ht
  have eg : ∀ args w, (callFunc 74 args).run Try.prog w = .ok (.enter 74 args) w := enters_of Try.func74 (by kernel_rfl) rfl
  have hcmp : CmpLays Try.prog 74 #[] itemL 4 cmpT b 0 ys.toArray.size w := fun m os dk _ x y => compare_grw x y _
  have hc := AnyQ.slices_SortFunc sortILays 4 Try.isAgg47 Try.sizeOf47 itemL hk (fun x v hv => by simp [itemL] at hv; rcases hv with rfl | rfl | rfl | rfl <;> rfl) cmpT swo_it 74 #[] b 0 c ys.toArray w eg hcmp hH hh.lt (by simp only [List.size_toArray]; omega)
  refine hc.mono fun e w' ⟨he, d', m, os, hp, hsd, hw⟩ => ⟨he, d'.toList, perm_in hp, ?_, ?_⟩
  · rw [cmpT_lt2] at hsd
    exact srd_in hp.1.symm hsd
  · have hlen : d'.toList.length = ys.length := by have := hp.1; simpa using this
    have e := sortW_sets itemL 4 hk w b m ys d'.toList os hH hlen
    rw [Array.toArray_toList] at e
    rw [e] at hw
    have hfl : (d'.toList.flatMap itemL).length = ys.length * 4 := by rw [flat_len, hlen]
    obtain ⟨cur2, g1, g2, g3, g4⟩ := has_sets (hh.drewN m) (d'.toList.flatMap itemL) 0 (by omega)
    have hb := below_grows ((w.drewN m).setCells b 0 (d'.toList.flatMap itemL)) os
    have g5 := g1.below hb g1.lt
    rw [← hw] at g5 hb
    refine ⟨own_mk (Nat.zero_le _) hlen hnc hcm g5 (by omega) (List.ext_getElem? fun j => ?_), ?_⟩
    · by_cases hj : j < ys.length * 4
      · rw [List.getElem?_take, if_pos hj]
        have := g4 j (by omega)
        rw [Nat.zero_add] at this
        simpa using this
      · rw [List.getElem?_take, if_neg hj, List.getElem?_eq_none (by omega)]
    · have e1 : ButS [b] w ((w.drewN m).setCells b 0 (d'.toList.flatMap itemL)) := (show ButS [b] w (w.drewN m) from ⟨rfl, rfl, rfl, Nat.le_refl _, fun _ _ _ => rfl⟩).trans (setCells_butS b _ _ _)
      exact e1.trans (below_butS hb [b])

/-! At no element. -/
theorem isort_none (w : World) (p : Option Addr) (c : Nat) : Calls Try.prog 87 #[.slice p 0 c, .func (.func 74) #[] #[]] w fun e w' => e = .returned (.tuple #[]) ∧ w' = w :=
  AnyF.slices_SortFunc_none sortILays p c _ w

end Go.Proofs.Ytdoflmphkalicaa
