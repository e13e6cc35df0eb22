/-
  slices.SortFunc at items that a call owns: a permutation of what the row held, sorted. (Out of XIoSort.)
  Walks: slices.SortedFunc of items; series, fit, haveTwice.
-/
import Derived.Test.YtjgjbhbpndjnnaaG41
import Derived.Test.YtjgjbhbpndjnnaaG35
import Derived.Test.YtjgjbhbpndjnnaaG18
import Derived.Lib.RowBridge
import Derived.Shelf.SlSortCmp.NoneTotal
import Derived.Test.YtjgjbhbpndjnnaaTrReg5
import Derived.Test.YtjgjbhbpndjnnaaG40
namespace Go.Proofs.Ytjgjbhbpndjnnaa
open Go.RowKit Go.Sort

/-- Rows of k cells each, flat, as a list. -/
theorem flatK_eq {α : Type} [Inhabited α] (enc : α → List Value) (k : Nat) (hk : ∀ x, (enc x).length = k) (ys : List α) : (flatK enc k ys.toArray).toList = ys.flatMap enc := by
  have hl : (ys.flatMap enc).length = ys.length * k := by
    induction ys with
    | nil => simp
    | cons y r ih => rw [List.flatMap_cons, List.length_append, hk, ih, List.length_cons]; rw [Nat.add_mul, Nat.one_mul, Nat.add_comm]
  refine List.ext_getElem (by simp [hl]) fun t h1 h2 => ?_
  have ht : t < ys.length * k := by rw [hl] at h2; exact h2
  have e1 : (flatK enc k ys.toArray).toList[t] = (flatK enc k ys.toArray)[t]! := by
    rw [getElem!_pos _ t (by simpa using ht)]
    simp
  rw [e1, get_flatK _ _ _ _ (by simpa using ht)]
  clear e1 h1 hl
  induction ys generalizing t with
  | nil => simp at ht
  | cons y r ih =>
    have k0 : 0 < k := by
      rcases Nat.eq_zero_or_pos k with h | h
      · subst h; simp at ht
      · exact h
    rw [List.length_cons] at ht
    by_cases hc : t < k
    · rw [Nat.div_eq_of_lt hc, Nat.mod_eq_of_lt hc]
      have h3 : t < (enc y).length := by rw [hk]; exact hc
      rw [getElem!_pos _ t (by simpa using h3)]
      simp only [List.flatMap_cons]
      rw [List.getElem_append_left h3]
      simp
    · obtain ⟨u, rfl⟩ : ∃ u, t = k + u := ⟨t - k, by omega⟩
      have hu : u < r.length * k := by rw [Nat.add_mul] at ht; omega
      have h2' : u < (r.flatMap enc).length := by
        rw [List.flatMap_cons, List.length_append, hk] at h2
        omega
      have := ih u h2' hu
      rw [Nat.add_div_left _ k0, Nat.add_mod_left]
      have e : (y :: r).toArray[u / k + 1]! = r.toArray[u / k]! := by simp
      rw [e, this]
      simp only [List.flatMap_cons]
      rw [List.getElem_append_right (by rw [hk]; omega)]
      simp only [hk, Nat.add_sub_cancel_left]

theorem holdsK_of {α : Type} [Inhabited α] (enc : α → List Value) (k : Nat) (hk : ∀ x, (enc x).length = k) {w : World} {b : Nat} {t : TypeId} {cur : Array Value} (hh : Has w b t cur) (ys : List α) (ht : cur.toList.take (ys.length * k) = ys.flatMap enc) : HoldsK enc k w b 0 ys.toArray := by
  intro j hj
  have hj' : j < ys.length * k := by simpa using hj
  have e := flatK_eq enc k hk ys
  rw [← ht] at e
  have h1 : (flatK enc k ys.toArray).toList[j]? = cur.toList[j]? := by rw [e, List.getElem?_take, if_pos hj']
  refine ⟨?_, by rw [Nat.zero_add]; exact hh.mark _⟩
  rw [Nat.zero_add, hh.cell]
  rw [Array.getElem?_toList, Array.getElem?_toList] at h1
  rw [← h1, Array.getElem?_eq_getElem hj, getElem!_pos _ j hj]
  rfl
theorem sortW_sets {α : Type} [Inhabited α] (enc : α → List Value) (k : Nat) (hk : ∀ x, (enc x).length = k) (w : World) (b n : Nat) (ys zs : List α) (os : Array Obj) (hH : HoldsK enc k w b 0 ys.toArray) (hl : zs.length = ys.length) :
    sortWorldK enc k w b 0 n zs.toArray os = grow ((w.drewN n).setCells b 0 (zs.flatMap enc)) os := by
  unfold sortWorldK putRowK
  have := Go.Lib.putRow_eq_setCells id w b 0 (flatK enc k ys.toArray) (zs.flatMap enc) n hH (by rw [← flatK_eq enc k hk zs]; simp [hl])
  rw [List.map_id, ← flatK_eq enc k hk zs] at this
  rw [← flatK_eq enc k hk zs, ← this]
theorem below_grows (w : World) (os : Array Obj) : Below w.heap.size w (grow w os) :=
  ⟨rfl, rfl, rfl, by simp [grow], fun k hk => by simp [grow, Array.getElem?_append_left hk]⟩
theorem perm_in {α : Type} [Inhabited α] {ys : List α} {d : Array α} (h : PermIn 0 ys.toArray.size ys.toArray d) : d.toList.Perm ys := by
  have h1 := h.1
  have h2 := h.2.2
  have e1 : d.extract 0 ys.toArray.size = d := by rw [← h1]; simp
  have e2 : ys.toArray.extract 0 ys.toArray.size = ys.toArray := by simp
  rw [e1, e2] at h2
  simpa using h2
theorem srd_in {α : Type} [Inhabited α] {lt : α → α → Bool} {d : Array α} {n : Nat} (hn : n = d.size) (h : SortedIn lt 0 n d) : SrdB lt d.toList := by
  subst hn
  refine List.pairwise_iff_getElem.2 fun i j hi hj hij => ?_
  have := h i j (Nat.zero_le _) hij (by simpa using hj)
  rw [getElem!_pos d i (by simpa using hi), getElem!_pos d j (by simpa using hj)] at this
  simpa using this

/-! Items. -/
instance : Inhabited It := ⟨zeroIt⟩
theorem cmpT_lt2 : Go.Proofs.ltOf cmpT = lt2 := by
  funext x y
  unfold Go.Proofs.ltOf cmpT cmpI lt2
  by_cases h : x.t < y.t ∨ x.t = y.t ∧ x.q < y.q
  · rw [decide_eq_true h]
    refine decide_eq_true ?_
    (repeat' split) <;> omega
  · rw [decide_eq_false h]
    refine decide_eq_false ?_
    (repeat' split) <;> omega
theorem swo_it : SWO (Go.Proofs.ltOf cmpT) := by
  rw [cmpT_lt2]
  exact ⟨fun x => by rw [lt2_no]; omega, fun x y z h1 h2 => by rw [lt2_iff] at *; omega, fun x y z h1 h2 => by rw [lt2_no] at *; omega⟩

set_option maxRecDepth 100000 in
/-- slices.SortFunc at items that lie in a row that the caller owns. -/
theorem isort_any {w : World} {b n c : Nat} {ys : List It} (h : OwnIt w 0 (.slice (some ⟨b, 0, none⟩) n c) ys) (hn : n ≤ 1073741824) :
    Calls Try.prog 91 #[.slice (some ⟨b, 0, none⟩) n c, .func (.func 72) #[] #[]] w fun e w' =>
      e = .returned (.tuple #[]) ∧ ∃ zs, zs.Perm ys ∧ SrdB lt2 zs ∧ OwnIt w' 0 (.slice (some ⟨b, 0, none⟩) n c) zs ∧ ButS [b] w w' := by
  obtain ⟨hl, _, hnc, hcm, cur, hh, hs, ht⟩ := h.blk
  subst hl
  have hk : ∀ x, (itemL x).length = 4 := fun _ => rfl
  have hH := holdsK_of itemL 4 hk hh ys ht
  have eg : ∀ args w, (callFunc 72 args).run Try.prog w = .ok (.enter 72 args) w := enters_of Try.func72 (by kernel_rfl) rfl
  have hcmp : CmpLays Try.prog 72 #[] itemL 4 cmpT b 0 ys.toArray.size w := fun m os dk _ x y => compare_grw x y _
  have hc := AnyQ.slices_SortFunc sortILays 4 Try.isAgg23 Try.sizeOf23 itemL hk (fun x v hv => by simp [itemL] at hv; rcases hv with rfl | rfl | rfl | rfl <;> rfl) cmpT swo_it 72 #[] b 0 c ys.toArray w eg hcmp hH hh.lt (by simp only [List.size_toArray]; omega)
  refine hc.mono fun e w' ⟨he, d', m, os, hp, hsd, hw⟩ => ⟨he, d'.toList, perm_in hp, ?_, ?_⟩
  · rw [cmpT_lt2] at hsd
    exact srd_in hp.1.symm hsd
  · have hlen : d'.toList.length = ys.length := by have := hp.1; simpa using this
    have e := sortW_sets itemL 4 hk w b m ys d'.toList os hH hlen
    rw [Array.toArray_toList] at e
    rw [e] at hw
    have hfl : (d'.toList.flatMap itemL).length = ys.length * 4 := by rw [flat_len, hlen]
    obtain ⟨cur2, g1, g2, g3, g4⟩ := has_sets (hh.drewN m) (d'.toList.flatMap itemL) 0 (by omega)
    have hb := below_grows ((w.drewN m).setCells b 0 (d'.toList.flatMap itemL)) os
    have g5 := g1.below hb g1.lt
    rw [← hw] at g5 hb
    refine ⟨own_mk (Nat.zero_le _) hlen hnc hcm g5 (by omega) (List.ext_getElem? fun j => ?_), ?_⟩
    · by_cases hj : j < ys.length * 4
      · rw [List.getElem?_take, if_pos hj]
        have := g4 j (by omega)
        rw [Nat.zero_add] at this
        simpa using this
      · rw [List.getElem?_take, if_neg hj, List.getElem?_eq_none (by omega)]
    · have e1 : ButS [b] w ((w.drewN m).setCells b 0 (d'.toList.flatMap itemL)) := (show ButS [b] w (w.drewN m) from ⟨rfl, rfl, rfl, Nat.le_refl _, fun _ _ _ => rfl⟩).trans (setCells_butS b _ _ _)
      exact e1.trans (below_butS hb [b])

/-! At no element. -/
theorem isort_none (w : World) (p : Option Addr) (c : Nat) : Calls Try.prog 91 #[.slice p 0 c, .func (.func 72) #[] #[]] w fun e w' => e = .returned (.tuple #[]) ∧ w' = w :=
  AnyF.slices_SortFunc_none sortILays p c _ w

end Go.Proofs.Ytjgjbhbpndjnnaa

namespace Go.Proofs.Ytjgjbhbpndjnnaa
open Go.RowKit

set_option maxRecDepth 100000 in
set_option maxHeartbeats 1000000 in
theorem tsorted_any (Bs : Nat) (A : Option Addr) (len cap : Nat) (zs : List It) (hl8 : len ≤ 8192) (w : World) (hc : w.cell? ⟨Bs, 0, none⟩ = some (.slice A len cap)) (hI : Items w A len zs) :
    Calls Try.prog 78 #[.func (.func 92) #[] #[.pointer (some ⟨Bs, 0, none⟩)], .func (.func 72) #[] #[]] w fun e w' => ∃ A2 n2 c2 ys, e = .returned (.slice A2 n2 c2) ∧ ys.Perm zs ∧ SrdB lt2 ys ∧ OwnIt w' w.heap.size (.slice A2 n2 c2) ys ∧ Below w.heap.size w w' := by
  have HC := Lib.hid (collect_any Bs A len cap zs hl8 w hc hI)
  have HL := Lib.hid hI.1
  clear hc hI
  go_enter Try.func78, Try.ntmps78
  go_upto_region 2 with (refine HC.out.mono ?_; clear HC; rintro e w1 ⟨v, rfl, ho, hb⟩; obtain ⟨A2, c2, rfl, _⟩ := ho.form)
  have HS : Hid (Calls Try.prog 91 #[.slice A2 zs.length c2, .func (.func 72) #[] #[]] w1 fun e w2 => e = .returned (.tuple #[]) ∧ ∃ ys, ys.Perm zs ∧ SrdB lt2 ys ∧ OwnIt w2 w.heap.size (.slice A2 zs.length c2) ys ∧ Below w.heap.size w w2) := by
    rcases ho.shape with ⟨rfl, e1, rfl, rfl⟩ | ⟨b, rfl⟩
    · refine (isort_none w1 none 0).mono ?_
      rintro e w2 ⟨rfl, rfl⟩
      exact ⟨rfl, [], List.Perm.refl _, List.Pairwise.nil, ho, hb⟩
    · obtain ⟨_, hbb, hnc, hcm, _⟩ := ho.blk
      refine (isort_any (ho.lo (Nat.zero_le _)) (by have := HL.out; omega)).mono ?_
      rintro e w2 ⟨rfl, ys, k1, k2, k3, k4⟩
      obtain ⟨q1, _, q3, q4, cur, q5, q6, q7⟩ := k3.blk
      exact ⟨rfl, ys, k1, k2, own_mk hbb q1 q3 q4 q5 q6 q7, hb.trans ⟨k4.os, k4.tape, k4.output, k4.size, fun k hk => k4.other k (by have := hb.size; omega) (by simp; omega)⟩⟩
  clear ho hb
  go_wp2_with (refine HS.out.mono ?_; clear HS; rintro e w2 ⟨rfl, ys, k1, k2, k3, k4⟩)
  go_ret
  exact ⟨A2, zs.length, c2, ys, rfl, k1, k2, k3, k4⟩

theorem nthI_elem {xs : List It} {k : Nat} (h : k < xs.length) : nthI xs k = xs[k] := by
  unfold nthI
  rw [List.getD_eq_getElem?_getD, List.getElem?_eq_getElem h]
  rfl
theorem nthI_in {xs : List It} {k : Nat} (h : k < xs.length) : nthI xs k ∈ xs := by rw [nthI_elem h]; exact List.getElem_mem h
/-! The series. -/
/-- The series that is there, or the first one's. -/
def serT (R xs : List It) : Int := match R with | [] => (nthI xs 0).s | y :: _ => y.s
section
variable {P : Nat → Prop} {g m d : Nat} {A root : Option Addr} {bs : List Int} {w : World}
set_option maxHeartbeats 1000000 in
theorem tseries_any (T : Tr) (hT : TBd P w g bs A m d T.ptr) (hA : T.At bs P w) (hR : ItsT bs T.row) (C : Option Addr) (n c : Nat) (xs : List It) (hI : Items w C n xs) (hn : 0 < n) :
    Calls Try.prog 77 #[.pointer (some ⟨g, 0, none⟩), .slice C n c] w fun e w' => e = .returned (.int .i64 (serT T.row xs)) ∧ w = w' := by
  have hc1 : w.cell? ⟨g, 1, none⟩ = some (.pointer T.ptr) := hT.st.cell 1
  cases T with
  | nil =>
    obtain ⟨b, o, rfl, hi⟩ := hI.2 hn
    have h0 : w.cell? ⟨b, o, none⟩ = some (.int .i64 (nthI xs 0).s) := by
      have := hi 0 hn 0 _ rfl
      simpa using this
    show Calls _ _ _ _ fun e w' => e = .returned (.int .i64 (nthI xs 0).s) ∧ w = w'
    have hc1' : w.cell? ⟨g, 1, none⟩ = some (.pointer none) := hc1
    have hn1 : (0 : Int) < (n : Nat) := by omega
    clear hT hA hR hI hi hc1
    generalize (nthI xs 0).s = σ at h0 ⊢
    go_enter Try.func77, Try.ntmps77
    go_wp2_with fail
    go_ret
    exact ⟨rfl, rfl⟩
  | node b H l v r =>
    have hs : serT (Tr.node b H l v r).row xs = v.s := by
      have hv : v ∈ (Tr.node b H l v r).row := by simp [Tr.row]
      cases h : (Tr.node b H l v r).row with
      | nil => rw [h] at hv; cases hv
      | cons y q => exact hR.one y (by rw [h]; simp) v hv
    rw [hs]
    have hc2 : w.cell? ⟨g, 1, none⟩ = some (.pointer (some ⟨b, 0, none⟩)) := hc1
    have hc3 : w.cell? ⟨b, 1, none⟩ = some (.int .i64 v.s) := hA.2.2.1.cell 1
    clear hT hA hR hI hn hc1 hs
    generalize v.s = σ at hc3 ⊢
    go_enter Try.func77, Try.ntmps77
    go_wp2_with fail
    go_ret
    exact ⟨rfl, rfl⟩

/-- Those that come may stand with those that are there. -/
def fitT (R xs : List It) : Bool := decide (xs.length + R.length ≤ 8192) && xs.all fun x => itemB x && decide (x.s = serT R xs)
theorem fitT_iff {R xs : List It} (hR : ItsT bs R) : fitT R xs = true ↔ ItsT bs (R ++ xs) := by
  have key : ∀ x, x ∈ xs → 0 < xs.length ∧ nthI xs 0 ∈ xs := fun x hx => by
    have hl := List.length_pos_of_mem hx
    exact ⟨hl, nthI_in hl⟩
  have hser : ∀ y, y ∈ R → serT R xs = y.s := fun y hy => by
    cases R with
    | nil => cases hy
    | cons z q => exact hR.one z (by simp) y hy
  unfold fitT
  rw [Bool.and_eq_true, decide_eq_true_iff, List.all_eq_true]
  constructor
  · rintro ⟨h1, h2⟩
    have h3 : ∀ x, x ∈ xs → itemB x = true ∧ x.s = serT R xs := fun x hx => by have := h2 x hx; simpa using this
    refine ⟨hR.bd, fun x hx => ?_, fun x hx y hy => ?_, by rw [List.length_append]; omega⟩
    · rcases List.mem_append.1 hx with hx | hx
      · exact hR.it x hx
      · exact (h3 x hx).1
    · rcases List.mem_append.1 hx with hx | hx <;> rcases List.mem_append.1 hy with hy | hy
      · exact hR.one x hx y hy
      · rw [(h3 y hy).2, hser x hx]
      · rw [(h3 x hx).2, hser y hy]
      · rw [(h3 x hx).2, (h3 y hy).2]
  · intro h
    refine ⟨by have := h.le; rw [List.length_append] at this; omega, fun x hx => ?_⟩
    rw [Bool.and_eq_true, decide_eq_true_iff]
    refine ⟨h.it x (List.mem_append_right _ hx), ?_⟩
    cases R with
    | nil => exact h.one x (by simpa using hx) _ (by simpa using (key x hx).2)
    | cons z q => exact h.one x (List.mem_append_right _ hx) z (by simp)

set_option maxRecDepth 100000 in
set_option maxHeartbeats 2000000 in
theorem tfit_any (T : Tr) (hT : TBd P w g bs A m d T.ptr) (hA : T.At bs P w) (hR : ItsT bs T.row) (C : Option Addr) (n c : Nat) (xs : List It) (hI : Items w C n xs) (hn : n ≤ 17592186044416) :
    Calls Try.prog 59 #[.pointer (some ⟨g, 0, none⟩), .slice C n c] w fun e w' => e = .returned (.bool (fitT T.row xs)) ∧ Below w.heap.size w w' := by
  have hc1 : w.cell? ⟨g, 1, none⟩ = some (.pointer T.ptr) := hT.st.cell 1
  have HCT := Lib.hid (tcount_any bs P T w hA)
  have HL := Lib.hid hI.1
  have HII := Lib.hid hI
  have HSE := Lib.hid (fun w' (hb : Below w.heap.size w w') (h0 : 0 < n) => tseries_any T (hT.below hb) (hA.below hb) hR C n c xs (hI.below hb) h0)
  have hr8 := hR.le
  clear hT hA hR hI
  generalize hK : T.row.length = K at HCT hr8
  generalize T.ptr = tp at hc1 HCT
  generalize hσ : serT T.row xs = σ at HSE
  by_cases hbig : 8192 - (K : Int) < (n : Int)
  · have hf : fitT T.row xs = false := by
      unfold fitT
      rw [decide_eq_false (by rw [HL.out, hK]; omega)]
      rfl
    rw [hf]
    clear hf HII HSE hK hσ
    go_enter Try.func59, Try.ntmps59
    go_wp2_with (refine HCT.out.mono ?_; clear HCT; rintro e w1 ⟨rfl, rfl⟩)
    go_ret
    exact ⟨rfl, Below.refl _ _⟩
  · have HF : Hid (fitT T.row xs = xs.all fun x => itemB x && decide (x.s = σ)) := by
      show fitT T.row xs = _
      unfold fitT
      rw [decide_eq_true (by rw [HL.out, hK]; omega), hσ]
      rfl
    clear hK hσ
    generalize fitT T.row xs = β at HF ⊢
    go_enter Try.func59, Try.ntmps59
    go_wp2_with (refine HCT.out.mono ?_; clear HCT; rintro e w1 ⟨rfl, rfl⟩)
    go_loopw [18] (fun i wr => ∃ j : Nat, j ≤ n ∧ i = .int .i64 j ∧ Hid (∀ k, k < j → itemB (nthI xs k) = true ∧ (nthI xs k).s = σ) ∧ Hid (Below w.heap.size w wr)) (fun i _ => n - (intOf i).toNat)
    case atStart => exact ⟨0, Nat.zero_le _, rfl, (fun k hk => absurd hk (Nat.not_lt_zero _)), Below.refl _ _⟩
    case round =>
      obtain ⟨j, hj, rfl, HD, HW⟩ := hrel
      by_cases hlt : j < n
      · obtain ⟨b, o, rfl, hi⟩ := (HII.out.below HW.out).2 (by omega)
        have hx := hi j hlt
        have hx0 : wr.cell? ⟨b, o + j * 4, none⟩ = some (.int .i64 (nthI xs j).s) := hx 0 _ rfl
        have hx1 : wr.cell? ⟨b, o + j * 4 + 1, none⟩ = some (.int .i64 (nthI xs j).t) := hx 1 _ rfl
        have hx2 : wr.cell? ⟨b, o + j * 4 + 2, none⟩ = some (.int .i64 (nthI xs j).q) := hx 2 _ rfl
        have hx3 : wr.cell? ⟨b, o + j * 4 + 3, none⟩ = some (.int .i64 (nthI xs j).v) := hx 3 _ rfl
        have HMEM := Lib.hid (show nthI xs j ∈ xs from nthI_in (by rw [HL.out]; exact hlt))
        have HAL : Hid (∀ q : Array Value, Below w.heap.size w (wr.alloc (.cells q 23))) := fun q => HW.out.trans (((Below.refl _ _).alloc (Nat.le_refl _) _).mono HW.out.size)
        clear hi hx HII
        generalize hX : nthI xs j = X at hx0 hx1 hx2 hx3 HMEM
        go_upto_region 6 with fail
        by_cases hit : itemB X = true
        · by_cases hse : X.s = σ
          · have hne : (X.s != σ) = false := by simp [hse]
            refine tfg_any (g := g) (y := wr.heap.size) (n1 := n) (c1 := c) (A1 := some ⟨b, o, none⟩) (x := X) (σ := σ) (β := false) ⟨rfl, rfl, rfl, rfl, Has.made _ _ _, hit, hne, fun w' hb => HSE.out w' ((HAL.out _).trans (hb.mono (by have := HW.out.size; simp; omega))) (by omega)⟩ (by kernel_rfl) ?_
            intro w4 hB4
            have HW4 := Lib.hid ((HAL.out _).trans (hB4.mono (by have := HW.out.size; simp; omega)))
            have HD2 : Hid (∀ k, k < j + 1 → itemB (nthI xs k) = true ∧ (nthI xs k).s = σ) := fun k hk => by
              by_cases hkj : k = j
              · subst hkj; rw [hX]; exact ⟨hit, hse⟩
              · exact HD.out k (by omega)
            clear hB4 hne HD HW HAL HMEM hX hit hse hx0 hx1 hx2 hx3
            simp only [putAll, Act.put, List.setIfInBounds_toArray, List.set_cons_succ, List.set_cons_zero]
            go_wp2_with fail
            go_roundw
            case rel => exact ⟨j + 1, by omega, by go_num, HD2, HW4⟩
            case measure => simp [intOf]; omega
          · have hne : (X.s != σ) = true := by simp [hse]
            have hβ : β = false := by
              rw [HF.out]
              exact Bool.eq_false_iff.2 fun e => hse (by have := List.all_eq_true.1 e X HMEM.out; simp at this; exact this.2)
            refine tfg_any (g := g) (y := wr.heap.size) (n1 := n) (c1 := c) (A1 := some ⟨b, o, none⟩) (x := X) (σ := σ) (β := true) ⟨rfl, rfl, rfl, rfl, Has.made _ _ _, hit, hne, fun w' hb => HSE.out w' ((HAL.out _).trans (hb.mono (by have := HW.out.size; simp; omega))) (by omega)⟩ (by kernel_rfl) ?_
            intro w4 hB4
            have HW4 := Lib.hid ((HAL.out _).trans (hB4.mono (by have := HW.out.size; simp; omega)))
            clear hB4 hne HD HW HAL HMEM hX hit hse hx0 hx1 hx2 hx3 HF
            subst hβ
            simp only [putAll, Act.put, List.setIfInBounds_toArray, List.set_cons_succ, List.set_cons_zero]
            go_wp2_with fail
            go_ret
            exact ⟨rfl, HW4.out⟩
        · have hit2 : itemB X = false := by simpa using hit
          have hβ : β = false := by
            rw [HF.out]
            exact Bool.eq_false_iff.2 fun e => hit (by have := List.all_eq_true.1 e X HMEM.out; simp at this; exact this.1)
          refine tfb_any (g := g) (y := wr.heap.size) (n1 := n) (c1 := c) (A1 := some ⟨b, o, none⟩) (x := X) ⟨rfl, rfl, Has.made _ _ _, hit2⟩ (by kernel_rfl) ?_
          intro w4 hB4
          have HW4 := Lib.hid ((HAL.out _).trans (hB4.mono (by have := HW.out.size; simp; omega)))
          clear hB4 HD HW HAL HMEM hX hit hit2 hx0 hx1 hx2 hx3 HF
          subst hβ
          simp only [putAll, Act.put, List.setIfInBounds_toArray, List.set_cons_succ, List.set_cons_zero]
          go_wp2_with fail
          go_ret
          exact ⟨rfl, HW4.out⟩
      · have hjn : j = n := by omega
        subst hjn
        have hβ : β = true := by
          rw [HF.out, List.all_eq_true]
          intro x hx
          obtain ⟨k, hk, e⟩ := List.mem_iff_getElem.1 hx
          have := HD.out k (by rw [← HL.out]; exact hk)
          rw [nthI_elem hk, e] at this
          simp [this]
        clear HF HD HII
        subst hβ
        go_wp2_with fail
        go_ret
        exact ⟨rfl, HW.out⟩
end

end Go.Proofs.Ytjgjbhbpndjnnaa
