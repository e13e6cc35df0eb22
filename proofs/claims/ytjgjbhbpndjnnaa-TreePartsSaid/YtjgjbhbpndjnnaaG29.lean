/-
  Walks: what is known of one item, of parts together; a part made.
  Walk: a part made of what is ahead, an item and what is behind.
-/
import Derived.Test.YtjgjbhbpndjnnaaTrReg
import Derived.Test.YtjgjbhbpndjnnaaG7
import Derived.Test.YtjgjbhbpndjnnaaG4
import Derived.Test.YtjgjbhbpndjnnaaG9
import Derived.Great.Walk
import Derived.Laws.MakeOwn
namespace Go.Proofs.Ytjgjbhbpndjnnaa
open Go.RowKit

/-- The call hands out this aggregate, its buckets in new memory. -/
def AcO (V : Ac) (w : World) (e : Ending) (w' : World) : Prop :=
  ∃ H, w.heap.size ≤ H ∧ e = .returned (accV V (some ⟨H, 0, none⟩) V.h.length V.h.length) ∧ Has w' H 3 (ints V.h) ∧ Below w.heap.size w w'

theorem made2 (w : World) (o : Obj) (t : TypeId) (cs : Array Value) : Has ((w.alloc o).alloc (.cells cs t)) (w.heap.size + 1) t cs := by
  have := Has.made (w.alloc o) t cs
  simpa using this
section
variable {P : Nat → Prop} {g m d : Nat} {A root : Option Addr} {bs : List Int} {w : World}
set_option maxRecDepth 100000 in
set_option maxHeartbeats 1000000 in
theorem tjoin_any (hT : TBd P w g bs A m d root) (C : Option Addr) (n c : Nat) (xs : List Ac) (hA : Accs w C n xs) (hn : n ≤ 17592186044416) (hJ : RowJ bs xs) :
    Calls Try.prog 64 #[.pointer (some ⟨g, 0, none⟩), .slice C n c] w (AcO (joinAc bs xs) w) := by
  have c0' : ∀ o, (w.alloc o).cell? ⟨g, 0, none⟩ = some (.slice A m d) := fun o => (hT.st.alloc o).cell 0
  have HJ : Hid (∀ w', Below w.heap.size w w' → Calls Try.prog 13 #[.slice A m d, .slice C n c] w' (GoodAcc (joinAc bs xs) w')) := fun w' hb => join_ok A m d bs C n c xs w' (hT.ints.below hb) (hA.below hb) hn hJ.bd hJ.tog hJ.tot
  have HAL : Hid (∀ o, Below w.heap.size w (w.alloc o)) := fun o => (Below.refl _ _).alloc (Nat.le_refl _) o
  clear hT hA hJ
  generalize joinAc bs xs = V at HJ ⊢
  go_enter Try.func64, Try.ntmps64
  go_wp2_with fail
  refine (HJ.out _ (HAL.out _)).mono ?_
  rintro e w2 ⟨H, hH, rfl, hh, hb⟩
  have H4 := Lib.hid (show Has w2 w.heap.size 29 (accC zeroAc none 0 0) from (Has.made w _ _).below hb (by simp))
  have HH := Lib.hid (show Has w2 H 3 (ints V.h) from hh)
  have HLT := Lib.hid (show w.heap.size + 1 ≤ H by simpa using hH)
  have HB := Lib.hid ((HAL.out _).trans (hb.mono (by simp)))
  clear hb hh hH HAL HJ
  go_wp2_with (first | (refine store_made rfl _ _ rfl (ac := V) (A := some ⟨H, 0, none⟩) (k := V.h.length) (c := V.h.length) rfl rfl rfl ?_) | (refine load_has rfl _ rfl w2.heap.size rfl (Has.made _ _ _) ?_) | (refine store_has rfl _ _ rfl w.heap.size rfl rfl (H4.out.alloc _) rfl ?_))
  refine bodyPost_ret (ret_row1 rfl _ _ _ 29 (accC V (some ⟨H, 0, none⟩) V.h.length V.h.length) _ rfl ((H4.out.alloc _).row _) Try.underlying29 rfl (by exact Try.sizeAcc)) rfl ?_
  have hlt := HLT.out
  exact ⟨H, by omega, rfl, (HH.out.alloc _).rowFar (by omega) _, below_row (below_alloc HB.out (Nat.le_refl _) _) (Nat.le_refl _) _⟩

set_option maxRecDepth 100000 in
set_option maxHeartbeats 1000000 in
theorem talone_any (hT : TBd P w g bs A m d root) (x : It) (hx : itemB x = true) (hb : boundsB bs = true) :
    Calls Try.prog 84 #[.pointer (some ⟨g, 0, none⟩), .agg #[.int .i64 x.s, .int .i64 x.t, .int .i64 x.q, .int .i64 x.v]] w (AcO (oneAc x bs) w) := by
  have HJ : Hid (∀ w', Below w.heap.size w w' → Calls Try.prog 11 #[.agg #[.int .i64 x.s, .int .i64 x.t, .int .i64 x.q, .int .i64 x.v], .slice A m d] w' (GoodAcc (oneAc x bs) w')) := fun w' hb2 => one_ok x A m d bs w' (hT.ints.below hb2) hx hb
  have HAL : Hid (∀ o o', Below w.heap.size w ((w.alloc o).alloc o')) := fun o o' => below_alloc ((Below.refl _ _).alloc (Nat.le_refl _) o) (Nat.le_refl _) o'
  have HST := Lib.hid hT.st
  clear hT hx hb
  generalize oneAc x bs = V at HJ ⊢
  go_enter Try.func84, Try.ntmps84
  go_upto_region 1 with fail
  refine tal_any (g := g) (y := w.heap.size) (m := m) (d := d) (z := w.heap.size + 2) (A := A) (root := root) (x := x) (V := V) ⟨rfl, rfl, rfl, (HST.out.alloc _).alloc _, (Has.made _ _ _).alloc _, by simp, fun w' hb => HJ.out w' ((HAL.out _ _).trans (hb.mono (by simp; omega)))⟩ (by kernel_rfl) ?_ ?_
  all_goals
    intro H13 H7 H14 y5 w9 hB9 _ _ hV hY
    have H4 := Lib.hid (show Has w9 (w.heap.size + 1) 29 (accC zeroAc none 0 0) from (made2 w _ _ _).below hB9 (by simp))
    have HB9 := Lib.hid ((HAL.out _ _).trans (hB9.mono (by simp; omega)))
    have HV := Lib.hid hV
    have HY := Lib.hid hY
    clear hB9 hV hY HAL HJ HST
    simp only [putAll, Act.put, List.setIfInBounds_toArray, List.set_cons_succ, List.set_cons_zero, List.drop_succ_cons, List.drop_zero, pickL, List.filterMap_cons, List.getElem?_cons_succ, List.getElem?_cons_zero, List.filterMap_nil]
    refine store_has rfl _ _ rfl y5 (ac := V) (A := some ⟨H14, 0, none⟩) (k := V.h.length) (c := V.h.length) rfl rfl HY.out.1 rfl ?_
    have HN := Lib.hid (show y5 ≠ w.heap.size + 1 from fun e => by have := HY.out.2; omega)
    go_wp2_with (first | (refine load_has rfl _ rfl y5 rfl (HY.out.1.row _) ?_) | (refine store_has rfl _ _ rfl (w.heap.size + 1) (ac := V) (A := some ⟨H14, 0, none⟩) (k := V.h.length) (c := V.h.length) rfl rfl (H4.out.rowFar (fun e => HN.out e.symm) _) rfl ?_))
    refine bodyPost_ret (ret_row1 rfl _ _ _ 29 (accC V (some ⟨H14, 0, none⟩) V.h.length V.h.length) _ rfl ((H4.out.rowFar (fun e => HN.out e.symm) _).row _) Try.underlying29 rfl (by exact Try.sizeAcc)) rfl ?_
    have h1 := HV.out.2
    have h2 := HY.out.2
    refine ⟨H14, by omega, rfl, (HV.out.1.rowFar (fun e => ?_) _).rowFar (by omega) _, below_row (below_row HB9.out (by omega) _) (by omega) _⟩
    exact has_types (e ▸ HV.out.1) HY.out.1 (by decide)
end

end Go.Proofs.Ytjgjbhbpndjnnaa

namespace Go.Proofs.Ytjgjbhbpndjnnaa
open Go.RowKit

/-- 'make([]Acc, 0, n)' in a walk. -/
theorem make_accs {ops : Array Oper} {rest : List Oper} {op : Oper} {a : Act} {w : World} {Q : Exit → Act → World → Prop} (hgd : op.guard = none) (l c : Operand) (ho : op.op = Op.makeSlice 24 l c) (n : Nat) (hl : a.eval l = .int .i64 0) (hc : a.eval c = .int .i64 (n : Int)) (hn : n ≤ 64)
    (hK : ∀ w', Own w' w.heap.size (.slice (some ⟨w.heap.size, 0, none⟩) 0 n) [] → Below w.heap.size w w' → w.heap.size < w'.heap.size → wpList Try.prog ops Q rest (a.put op.dst (.slice (some ⟨w.heap.size, 0, none⟩) 0 n)) w') : wpList Try.prog ops Q (op :: rest) a w := by
  obtain ⟨i0, hi, hz, hs0, hy0⟩ := info_parts Try.infoAcc
  exact wpList_make_own w hgd l c 24 ho w.heap.size 29 i0 _ 13 Try.underlying24 hi hz hs0 .i64 .i64 (n : Int) n hl hc rfl (by rw [hy0]; omega) (by unfold maxLen; omega) (Nat.le_refl _) fun w' h1 h2 => hK w' ⟨h1, fun p hp => by cases hp⟩ ⟨h2.os, h2.tape, h2.output, h2.size, fun k hk => h2.block k hk (by simp)⟩ (World.ownsRow.lt h1 w.heap.size rfl).2
set_option maxRecDepth 100000 in
set_option maxRecDepth 100000 in
set_option maxRecDepth 100000 in
/-- The load of a part's aggregate. -/
theorem load_accP {ops : Array Oper} {rest : List Oper} {op : Oper} {a : Act} {w : World} {Q : Exit → Act → World → Prop} (hgd : op.guard = none) (x : Operand) (ho : op.op = .load 29 x)
    (b : Nat) (hx : a.eval x = .pointer (some ⟨b, 6, none⟩)) {p q : Option Addr} {y : It} {ac : Ac} {H : Nat} {t : TypeId} (hc : Has w b t (prtC p y q ac H))
    (h : wpList Try.prog ops Q rest (a.put op.dst (.agg (accC ac (some ⟨H, 0, none⟩) ac.h.length ac.h.length))) w) : wpList Try.prog ops Q (op :: rest) a w :=
  wpList_load_mid hgd 29 x ho b 6 hx _ _ (prtC_acc _ _ _ _ _ hc) Try.underlying29 rfl Try.sizeAcc (by simpa using h)

section
variable {P : Nat → Prop} {g m d : Nat} {A root : Option Addr} {bs : List Int} {w : World}
theorem Tr.At.shape {t : Tr} (h : t.At bs P w) : (t.ptr = none ∧ t.row = []) ∨ ∃ b H p y q, t.ptr = some ⟨b, 0, none⟩ ∧ 0 < t.row.length ∧ ∀ w', Below w.heap.size w w' → Has w' b PT (prtC p y q (foldA bs t.row) H) ∧ Has w' H 3 (ints (foldA bs t.row).h) := by
  cases t with
  | nil => exact .inl ⟨rfl, rfl⟩
  | node b H l x r =>
    obtain ⟨_, _, h3, h4, _⟩ := h
    exact .inr ⟨b, H, l.ptr, x, r.ptr, rfl, by rw [Tr.row, List.length_append, List.length_cons]; omega, fun w' hb => ⟨h3.below hb h3.lt, h4.below hb h4.lt⟩⟩
/-- In the midst of a part's making: what lies side by side so far. -/
structure PuT (w : World) (x : It) (v : Value) (ps : List (Ac × Nat)) (wr : World) : Prop where
  box : Has wr w.heap.size 23 #[.int .i64 x.s, .int .i64 x.t, .int .i64 x.q, .int .i64 x.v]
  own : Own wr (w.heap.size + 1) v ps
  keep : Below w.heap.size w wr
theorem PuT.on {x : It} {v v' : Value} {ps ps' : List (Ac × Nat)} {wr wl w' : World} (h : PuT w x v ps wr) (hb : Below wr.heap.size wr wl) (ho : Own w' (w.heap.size + 1) v' ps') (h2 : Below (w.heap.size + 1) wl w') : PuT w x v' ps' w' :=
  ⟨(h.box.below hb h.box.lt).below h2 (by omega), ho, (h.keep.trans (hb.mono h.keep.size)).trans (h2.mono (by omega))⟩
theorem PuT.past {x : It} {v : Value} {ps : List (Ac × Nat)} {wr wl : World} (h : PuT w x v ps wr) (hb : Below wr.heap.size wr wl) : PuT w x v ps wl :=
  ⟨h.box.below hb h.box.lt, h.own.below hb, h.keep.trans (hb.mono h.keep.size)⟩
theorem PuT.size {x : It} {v : Value} {ps : List (Ac × Nat)} {wr : World} (h : PuT w x v ps wr) : w.heap.size + 1 ≤ wr.heap.size := by have := h.box.lt; omega

set_option maxRecDepth 100000 in
set_option maxHeartbeats 2000000 in
theorem tput_any (hT : TBd P w g bs A m d root) (L R : Tr) (x : It) (hL : L.At bs P w) (hR : R.At bs P w) (hP : ∀ k, w.heap.size ≤ k → P k) (h : ItsT bs (L.row ++ x :: R.row)) :
    Calls Try.prog 81 #[.pointer (some ⟨g, 0, none⟩), .pointer L.ptr, .agg #[.int .i64 x.s, .int .i64 x.t, .int .i64 x.q, .int .i64 x.v], .pointer R.ptr] w (TrO bs P (L.row ++ x :: R.row) w) := by
  have hx : itemB x = true := h.it x (by simp)
  have HA : Hid (∀ w', Below w.heap.size w w' → Calls Try.prog 84 #[.pointer (some ⟨g, 0, none⟩), .agg #[.int .i64 x.s, .int .i64 x.t, .int .i64 x.q, .int .i64 x.v]] w' (AcO (oneAc x bs) w')) := fun w' hb => talone_any (hT.below hb) x hx h.bd
  have HJ : Hid (∀ w' C n c (gs : List (List It)), Below w.heap.size w w' → Accs w' C n (gs.map (foldA bs)) → gs.flatten = L.row ++ x :: R.row → gs.length ≤ 3 → Calls Try.prog 64 #[.pointer (some ⟨g, 0, none⟩), .slice C n c] w' (AcO (foldA bs (L.row ++ x :: R.row)) w')) := fun w' C n c gs hb hA he hl => by
    have hg : ItsT bs gs.flatten := he ▸ h
    rw [← he, ← groups_join hg]
    exact tjoin_any (hT.below hb) C n c _ hA (by have := hA.1; rw [List.length_map] at this; omega) (groups_row hg)
  have HL := Lib.hid hL
  have HR := Lib.hid hR
  have HONE := Lib.hid (foldA_one (bs := bs) hx)
  have HBOX : Hid (Has (w.alloc (.cells #[.int .i64 x.s, .int .i64 x.t, .int .i64 x.q, .int .i64 x.v] 23)) w.heap.size 23 #[.int .i64 x.s, .int .i64 x.t, .int .i64 x.q, .int .i64 x.v] ∧ Below w.heap.size w (w.alloc (.cells #[.int .i64 x.s, .int .i64 x.t, .int .i64 x.q, .int .i64 x.v] 23))) := ⟨Has.made _ _ _, (Below.refl _ _).alloc (Nat.le_refl _) _⟩
  have H8 := Lib.hid (show ∀ a : List It, (foldA bs a).h.length ≤ maxLen from fun a => by
    rw [foldA_len]
    have := (boundsB_true h.bd).1
    unfold maxLen
    omega)
  have HSL := Lib.hid hL.shape
  have HSR := Lib.hid hR.shape
  clear hT hL hR h hx
  obtain ⟨lp, hlp⟩ : ∃ lp, L.ptr = lp := ⟨_, rfl⟩
  obtain ⟨rp, hrp⟩ : ∃ rp, R.ptr = rp := ⟨_, rfl⟩
  rw [hlp] at HSL ⊢
  rw [hrp] at HSR ⊢
  have HLP := Lib.hid hlp
  have HRP := Lib.hid hrp
  clear hlp hrp
  go_enter Try.func81, Try.ntmps81
  go_upto_region 2 with (refine make_accs rfl _ _ rfl 3 rfl rfl (by omega) ?_; intro w1 ho1 hb1 hs1)
  have S0 : Hid (PuT w x (.slice (some ⟨w.heap.size + 1, 0, none⟩) 0 3) [] w1) := ⟨HBOX.out.1.below hb1 (by simp), by simpa using ho1, HBOX.out.2.trans (hb1.mono (by simp))⟩
  clear ho1 hb1 hs1 HBOX
  rcases HSL.out with ⟨rfl, eL⟩ | ⟨b, H, p, y, q, rfl, _, HLn⟩
  · have EL := Lib.hid eL; clear eL HSL
    rcases HSR.out with ⟨rfl, eR⟩ | ⟨b2, H2, p2, y2, q2, rfl, _, HRn⟩
    · have ER := Lib.hid eR; clear eR HSR
      go_upto_region 4 with fail
      have hbx : ∀ i, w1.cell? ⟨w.heap.size, i, none⟩ = (#[.int .i64 x.s, .int .i64 x.t, .int .i64 x.q, .int .i64 x.v] : Array Value)[i]? := S0.out.box.cell
      go_upto_region 5 with (first | (refine (HA.out _ S0.out.keep).mono ?_; clear HA; rintro e w7 ⟨H7, _, rfl, hh7, hb7⟩) | (refine lit1 rfl _ rfl rfl ?_; intro wl hbl hvl) | (refine app_acc rfl _ _ rfl rfl ((S0.out.past hb7).own.below hbl) rfl hvl (hh7.below hbl hh7.lt) (by simp) (by have := (S0.out.past hb7).size; have := hbl.size; omega) ?_; intro v3 w4 ho hb; obtain ⟨D3, c3, rfl, _⟩ := ho.form; have S3 := Lib.hid ((S0.out.past hb7).on hbl ho hb); clear hbl hvl ho hb))
      clear hbx hb7 hh7
      go_upto_region 7 with fail
      have HAC := Lib.hid (show Accs w4 D3 1 (([[x]] : List (List It)).map (foldA bs)) by
        have := Own.accs S3.out.own (fun p hp => by
          simp only [List.nil_append, List.mem_cons, List.not_mem_nil, or_false] at hp
          rcases hp with rfl
          · exact HONE.out ▸ H8.out [x]
          )
        simpa [HONE.out] using this)
      refine (tpu_any (g := g) (y := w.heap.size) (z := w4.heap.size) (x := x) (V := foldA bs (L.row ++ x :: R.row)) (bs := bs) (P := P) (L := L) (R := R) (C := D3) (n := 1) (c := c3) ⟨rfl, rfl, by rw [HLP.out]; rfl, by rw [HRP.out]; rfl, rfl, rfl, S3.out.box, Nat.le_refl _, HL.out.below S3.out.keep, HR.out.below S3.out.keep, fun k hk => hP k (by have := S3.out.keep.size; omega), rfl, fun w' hb => HJ.out w' _ _ _ [[x]] (S3.out.keep.trans (hb.mono S3.out.keep.size)) (HAC.out.below hb) (by simp [EL.out, ER.out]) (by simp)⟩ (by kernel_rfl) ?_)
      intro H8a H9a T42 T8 w9 hB9 _ _ h42 h8
      have HB9 := Lib.hid (S3.out.keep.trans (hB9.mono S3.out.keep.size))
      have HT := Lib.hid h8
      clear hB9 h42 h8 HJ HAC
      simp only [putAll, Act.put, List.setIfInBounds_toArray, List.set_cons_succ, List.set_cons_zero]
      go_wp2_with fail
      go_ret
      exact ⟨T8, rfl, HT.out.1, HT.out.2, HB9.out⟩
    · clear HSR
      go_upto_region 4 with fail
      have hbx : ∀ i, w1.cell? ⟨w.heap.size, i, none⟩ = (#[.int .i64 x.s, .int .i64 x.t, .int .i64 x.q, .int .i64 x.v] : Array Value)[i]? := S0.out.box.cell
      go_upto_region 5 with (first | (refine (HA.out _ S0.out.keep).mono ?_; clear HA; rintro e w7 ⟨H7, _, rfl, hh7, hb7⟩) | (refine lit1 rfl _ rfl rfl ?_; intro wl hbl hvl) | (refine app_acc rfl _ _ rfl rfl ((S0.out.past hb7).own.below hbl) rfl hvl (hh7.below hbl hh7.lt) (by simp) (by have := (S0.out.past hb7).size; have := hbl.size; omega) ?_; intro v3 w4 ho hb; obtain ⟨D3, c3, rfl, _⟩ := ho.form; have S3 := Lib.hid ((S0.out.past hb7).on hbl ho hb); clear hbl hvl ho hb))
      clear hbx hb7 hh7
      go_upto_region 7 with (first | (refine load_accP rfl _ rfl b2 rfl (HRn _ S3.out.keep).1 ?_) | (refine lit1 rfl _ rfl rfl ?_; intro wl hbl hvl) | (refine app_acc rfl _ _ rfl rfl (S3.out.own.below hbl) rfl hvl ((HRn _ S3.out.keep).2.below hbl (HRn _ S3.out.keep).2.lt) (by simp) (by have := S3.out.size; have := hbl.size; omega) ?_; intro v5 w6 ho hb; obtain ⟨D5, c5, rfl, _⟩ := ho.form; have S5 := Lib.hid (S3.out.on hbl ho hb); clear hbl hvl ho hb))
      have HAC := Lib.hid (show Accs w6 D5 2 (([[x], R.row] : List (List It)).map (foldA bs)) by
        have := Own.accs S5.out.own (fun p hp => by
          simp only [List.nil_append, List.cons_append, List.mem_cons, List.not_mem_nil, or_false] at hp
          rcases hp with rfl | rfl
          · exact HONE.out ▸ H8.out [x]
          · exact H8.out _
          )
        simpa [HONE.out] using this)
      refine (tpu_any (g := g) (y := w.heap.size) (z := w6.heap.size) (x := x) (V := foldA bs (L.row ++ x :: R.row)) (bs := bs) (P := P) (L := L) (R := R) (C := D5) (n := 2) (c := c5) ⟨rfl, rfl, by rw [HLP.out]; rfl, by rw [HRP.out]; rfl, rfl, rfl, S5.out.box, Nat.le_refl _, HL.out.below S5.out.keep, HR.out.below S5.out.keep, fun k hk => hP k (by have := S5.out.keep.size; omega), rfl, fun w' hb => HJ.out w' _ _ _ [[x], R.row] (S5.out.keep.trans (hb.mono S5.out.keep.size)) (HAC.out.below hb) (by simp [EL.out]) (by simp)⟩ (by kernel_rfl) ?_)
      intro H8a H9a T42 T8 w9 hB9 _ _ h42 h8
      have HB9 := Lib.hid (S5.out.keep.trans (hB9.mono S5.out.keep.size))
      have HT := Lib.hid h8
      clear hB9 h42 h8 HJ HAC
      simp only [putAll, Act.put, List.setIfInBounds_toArray, List.set_cons_succ, List.set_cons_zero]
      go_wp2_with fail
      go_ret
      exact ⟨T8, rfl, HT.out.1, HT.out.2, HB9.out⟩
  · clear HSL
    rcases HSR.out with ⟨rfl, eR⟩ | ⟨b2, H2, p2, y2, q2, rfl, _, HRn⟩
    · have ER := Lib.hid eR; clear eR HSR
      go_upto_region 4 with (first | (refine load_accP rfl _ rfl b rfl (HLn _ S0.out.keep).1 ?_) | (refine lit1 rfl _ rfl rfl ?_; intro wl hbl hvl) | (refine app_acc rfl _ _ rfl rfl (S0.out.own.below hbl) rfl hvl ((HLn _ S0.out.keep).2.below hbl (HLn _ S0.out.keep).2.lt) (by simp) (by have := S0.out.size; have := hbl.size; omega) ?_; intro v1 w2 ho hb; obtain ⟨D1, c1, rfl, _⟩ := ho.form; have S1 := Lib.hid (S0.out.on hbl ho hb); clear hbl hvl ho hb))
      have hbx : ∀ i, w2.cell? ⟨w.heap.size, i, none⟩ = (#[.int .i64 x.s, .int .i64 x.t, .int .i64 x.q, .int .i64 x.v] : Array Value)[i]? := S1.out.box.cell
      go_upto_region 5 with (first | (refine (HA.out _ S1.out.keep).mono ?_; clear HA; rintro e w7 ⟨H7, _, rfl, hh7, hb7⟩) | (refine lit1 rfl _ rfl rfl ?_; intro wl hbl hvl) | (refine app_acc rfl _ _ rfl rfl ((S1.out.past hb7).own.below hbl) rfl hvl (hh7.below hbl hh7.lt) (by simp) (by have := (S1.out.past hb7).size; have := hbl.size; omega) ?_; intro v3 w4 ho hb; obtain ⟨D3, c3, rfl, _⟩ := ho.form; have S3 := Lib.hid ((S1.out.past hb7).on hbl ho hb); clear hbl hvl ho hb))
      clear hbx hb7 hh7
      go_upto_region 7 with fail
      have HAC := Lib.hid (show Accs w4 D3 2 (([L.row, [x]] : List (List It)).map (foldA bs)) by
        have := Own.accs S3.out.own (fun p hp => by
          simp only [List.nil_append, List.cons_append, List.mem_cons, List.not_mem_nil, or_false] at hp
          rcases hp with rfl | rfl
          · exact H8.out _
          · exact HONE.out ▸ H8.out [x]
          )
        simpa [HONE.out] using this)
      refine (tpu_any (g := g) (y := w.heap.size) (z := w4.heap.size) (x := x) (V := foldA bs (L.row ++ x :: R.row)) (bs := bs) (P := P) (L := L) (R := R) (C := D3) (n := 2) (c := c3) ⟨rfl, rfl, by rw [HLP.out]; rfl, by rw [HRP.out]; rfl, rfl, rfl, S3.out.box, Nat.le_refl _, HL.out.below S3.out.keep, HR.out.below S3.out.keep, fun k hk => hP k (by have := S3.out.keep.size; omega), rfl, fun w' hb => HJ.out w' _ _ _ [L.row, [x]] (S3.out.keep.trans (hb.mono S3.out.keep.size)) (HAC.out.below hb) (by simp [ER.out]) (by simp)⟩ (by kernel_rfl) ?_)
      intro H8a H9a T42 T8 w9 hB9 _ _ h42 h8
      have HB9 := Lib.hid (S3.out.keep.trans (hB9.mono S3.out.keep.size))
      have HT := Lib.hid h8
      clear hB9 h42 h8 HJ HAC
      simp only [putAll, Act.put, List.setIfInBounds_toArray, List.set_cons_succ, List.set_cons_zero]
      go_wp2_with fail
      go_ret
      exact ⟨T8, rfl, HT.out.1, HT.out.2, HB9.out⟩
    · clear HSR
      go_upto_region 4 with (first | (refine load_accP rfl _ rfl b rfl (HLn _ S0.out.keep).1 ?_) | (refine lit1 rfl _ rfl rfl ?_; intro wl hbl hvl) | (refine app_acc rfl _ _ rfl rfl (S0.out.own.below hbl) rfl hvl ((HLn _ S0.out.keep).2.below hbl (HLn _ S0.out.keep).2.lt) (by simp) (by have := S0.out.size; have := hbl.size; omega) ?_; intro v1 w2 ho hb; obtain ⟨D1, c1, rfl, _⟩ := ho.form; have S1 := Lib.hid (S0.out.on hbl ho hb); clear hbl hvl ho hb))
      have hbx : ∀ i, w2.cell? ⟨w.heap.size, i, none⟩ = (#[.int .i64 x.s, .int .i64 x.t, .int .i64 x.q, .int .i64 x.v] : Array Value)[i]? := S1.out.box.cell
      go_upto_region 5 with (first | (refine (HA.out _ S1.out.keep).mono ?_; clear HA; rintro e w7 ⟨H7, _, rfl, hh7, hb7⟩) | (refine lit1 rfl _ rfl rfl ?_; intro wl hbl hvl) | (refine app_acc rfl _ _ rfl rfl ((S1.out.past hb7).own.below hbl) rfl hvl (hh7.below hbl hh7.lt) (by simp) (by have := (S1.out.past hb7).size; have := hbl.size; omega) ?_; intro v3 w4 ho hb; obtain ⟨D3, c3, rfl, _⟩ := ho.form; have S3 := Lib.hid ((S1.out.past hb7).on hbl ho hb); clear hbl hvl ho hb))
      clear hbx hb7 hh7
      go_upto_region 7 with (first | (refine load_accP rfl _ rfl b2 rfl (HRn _ S3.out.keep).1 ?_) | (refine lit1 rfl _ rfl rfl ?_; intro wl hbl hvl) | (refine app_acc rfl _ _ rfl rfl (S3.out.own.below hbl) rfl hvl ((HRn _ S3.out.keep).2.below hbl (HRn _ S3.out.keep).2.lt) (by simp) (by have := S3.out.size; have := hbl.size; omega) ?_; intro v5 w6 ho hb; obtain ⟨D5, c5, rfl, _⟩ := ho.form; have S5 := Lib.hid (S3.out.on hbl ho hb); clear hbl hvl ho hb))
      have HAC := Lib.hid (show Accs w6 D5 3 (([L.row, [x], R.row] : List (List It)).map (foldA bs)) by
        have := Own.accs S5.out.own (fun p hp => by
          simp only [List.nil_append, List.cons_append, List.mem_cons, List.not_mem_nil, or_false] at hp
          rcases hp with rfl | rfl | rfl
          · exact H8.out _
          · exact HONE.out ▸ H8.out [x]
          · exact H8.out _
          )
        simpa [HONE.out] using this)
      refine (tpu_any (g := g) (y := w.heap.size) (z := w6.heap.size) (x := x) (V := foldA bs (L.row ++ x :: R.row)) (bs := bs) (P := P) (L := L) (R := R) (C := D5) (n := 3) (c := c5) ⟨rfl, rfl, by rw [HLP.out]; rfl, by rw [HRP.out]; rfl, rfl, rfl, S5.out.box, Nat.le_refl _, HL.out.below S5.out.keep, HR.out.below S5.out.keep, fun k hk => hP k (by have := S5.out.keep.size; omega), rfl, fun w' hb => HJ.out w' _ _ _ [L.row, [x], R.row] (S5.out.keep.trans (hb.mono S5.out.keep.size)) (HAC.out.below hb) (by simp) (by simp)⟩ (by kernel_rfl) ?_)
      intro H8a H9a T42 T8 w9 hB9 _ _ h42 h8
      have HB9 := Lib.hid (S5.out.keep.trans (hB9.mono S5.out.keep.size))
      have HT := Lib.hid h8
      clear hB9 h42 h8 HJ HAC
      simp only [putAll, Act.put, List.setIfInBounds_toArray, List.set_cons_succ, List.set_cons_zero]
      go_wp2_with fail
      go_ret
      exact ⟨T8, rfl, HT.out.1, HT.out.2, HB9.out⟩
end

end Go.Proofs.Ytjgjbhbpndjnnaa
