/-
  Walks: what is known of one item, of parts together; a part made.
-/
import Derived.Test.YtjgjbhbpndjnnaaTrReg
import Derived.Test.YtjgjbhbpndjnnaaG10
import Derived.Test.YtjgjbhbpndjnnaaG6
import Derived.Test.YtjgjbhbpndjnnaaG21
import Derived.Great.Walk
namespace Go.Proofs.Ytjgjbhbpndjnnaa
open Go.RowKit

/-- The call hands out this aggregate, its buckets in new memory. -/
def AcO (V : Ac) (w : World) (e : Ending) (w' : World) : Prop :=
  ∃ H, w.heap.size ≤ H ∧ e = .returned (accV V (some ⟨H, 0, none⟩) V.h.length V.h.length) ∧ Has w' H 3 (ints V.h) ∧ Below w.heap.size w w'

theorem made2 (w : World) (o : Obj) (t : TypeId) (cs : Array Value) : Has ((w.alloc o).alloc (.cells cs t)) (w.heap.size + 1) t cs := by
  have := Has.made (w.alloc o) t cs
  simpa using this
section
variable {P : Nat → Prop} {g m d : Nat} {A root : Option Addr} {bs : List Int} {w : World}
set_option maxRecDepth 100000 in
set_option maxHeartbeats 1000000 in
theorem tjoin_any (hT : TBd P w g bs A m d root) (C : Option Addr) (n c : Nat) (xs : List Ac) (hA : Accs w C n xs) (hn : n ≤ 17592186044416) (hJ : RowJ bs xs) :
    Calls Try.prog 64 #[.pointer (some ⟨g, 0, none⟩), .slice C n c] w (AcO (joinAc bs xs) w) := by
  have c0' : ∀ o, (w.alloc o).cell? ⟨g, 0, none⟩ = some (.slice A m d) := fun o => (hT.st.alloc o).cell 0
  have HJ : Hid (∀ w', Below w.heap.size w w' → Calls Try.prog 13 #[.slice A m d, .slice C n c] w' (GoodAcc (joinAc bs xs) w')) := fun w' hb => join_ok A m d bs C n c xs w' (hT.ints.below hb) (hA.below hb) hn hJ.bd hJ.tog hJ.tot
  have HAL : Hid (∀ o, Below w.heap.size w (w.alloc o)) := fun o => (Below.refl _ _).alloc (Nat.le_refl _) o
  clear hT hA hJ
  generalize joinAc bs xs = V at HJ ⊢
  go_enter Try.func64, Try.ntmps64
  go_wp2_with fail
  refine (HJ.out _ (HAL.out _)).mono ?_
  rintro e w2 ⟨H, hH, rfl, hh, hb⟩
  have H4 := Lib.hid (show Has w2 w.heap.size 29 (accC zeroAc none 0 0) from (Has.made w _ _).below hb (by simp))
  have HH := Lib.hid (show Has w2 H 3 (ints V.h) from hh)
  have HLT := Lib.hid (show w.heap.size + 1 ≤ H by simpa using hH)
  have HB := Lib.hid ((HAL.out _).trans (hb.mono (by simp)))
  clear hb hh hH HAL HJ
  go_wp2_with (first | (refine store_made rfl _ _ rfl (ac := V) (A := some ⟨H, 0, none⟩) (k := V.h.length) (c := V.h.length) rfl rfl rfl ?_) | (refine load_has rfl _ rfl w2.heap.size rfl (Has.made _ _ _) ?_) | (refine store_has rfl _ _ rfl w.heap.size rfl rfl (H4.out.alloc _) rfl ?_))
  refine bodyPost_ret (ret_row1 rfl _ _ _ 29 (accC V (some ⟨H, 0, none⟩) V.h.length V.h.length) _ rfl ((H4.out.alloc _).row _) Try.underlying29 rfl (by exact Try.sizeAcc)) rfl ?_
  have hlt := HLT.out
  exact ⟨H, by omega, rfl, (HH.out.alloc _).rowFar (by omega) _, below_row (below_alloc HB.out (Nat.le_refl _) _) (Nat.le_refl _) _⟩

set_option maxRecDepth 100000 in
set_option maxHeartbeats 1000000 in
theorem talone_any (hT : TBd P w g bs A m d root) (x : It) (hx : itemB x = true) (hb : boundsB bs = true) :
    Calls Try.prog 84 #[.pointer (some ⟨g, 0, none⟩), .agg #[.int .i64 x.s, .int .i64 x.t, .int .i64 x.q, .int .i64 x.v]] w (AcO (oneAc x bs) w) := by
  have HJ : Hid (∀ w', Below w.heap.size w w' → Calls Try.prog 11 #[.agg #[.int .i64 x.s, .int .i64 x.t, .int .i64 x.q, .int .i64 x.v], .slice A m d] w' (GoodAcc (oneAc x bs) w')) := fun w' hb2 => one_ok x A m d bs w' (hT.ints.below hb2) hx hb
  have HAL : Hid (∀ o o', Below w.heap.size w ((w.alloc o).alloc o')) := fun o o' => below_alloc ((Below.refl _ _).alloc (Nat.le_refl _) o) (Nat.le_refl _) o'
  have HST := Lib.hid hT.st
  clear hT hx hb
  generalize oneAc x bs = V at HJ ⊢
  go_enter Try.func84, Try.ntmps84
  go_upto_region 1 with fail
  refine tal_any (g := g) (y := w.heap.size) (m := m) (d := d) (z := w.heap.size + 2) (A := A) (root := root) (x := x) (V := V) ⟨rfl, rfl, rfl, (HST.out.alloc _).alloc _, (Has.made _ _ _).alloc _, by simp, fun w' hb => HJ.out w' ((HAL.out _ _).trans (hb.mono (by simp; omega)))⟩ (by kernel_rfl) ?_ ?_
  all_goals
    intro H13 H7 H14 y5 w9 hB9 _ _ hV hY
    have H4 := Lib.hid (show Has w9 (w.heap.size + 1) 29 (accC zeroAc none 0 0) from (made2 w _ _ _).below hB9 (by simp))
    have HB9 := Lib.hid ((HAL.out _ _).trans (hB9.mono (by simp; omega)))
    have HV := Lib.hid hV
    have HY := Lib.hid hY
    clear hB9 hV hY HAL HJ HST
    simp only [putAll, Act.put, List.setIfInBounds_toArray, List.set_cons_succ, List.set_cons_zero, List.drop_succ_cons, List.drop_zero, pickL, List.filterMap_cons, List.getElem?_cons_succ, List.getElem?_cons_zero, List.filterMap_nil]
    refine store_has rfl _ _ rfl y5 (ac := V) (A := some ⟨H14, 0, none⟩) (k := V.h.length) (c := V.h.length) rfl rfl HY.out.1 rfl ?_
    have HN := Lib.hid (show y5 ≠ w.heap.size + 1 from fun e => by have := HY.out.2; omega)
    go_wp2_with (first | (refine load_has rfl _ rfl y5 rfl (HY.out.1.row _) ?_) | (refine store_has rfl _ _ rfl (w.heap.size + 1) (ac := V) (A := some ⟨H14, 0, none⟩) (k := V.h.length) (c := V.h.length) rfl rfl (H4.out.rowFar (fun e => HN.out e.symm) _) rfl ?_))
    refine bodyPost_ret (ret_row1 rfl _ _ _ 29 (accC V (some ⟨H14, 0, none⟩) V.h.length V.h.length) _ rfl ((H4.out.rowFar (fun e => HN.out e.symm) _).row _) Try.underlying29 rfl (by exact Try.sizeAcc)) rfl ?_
    have h1 := HV.out.2
    have h2 := HY.out.2
    refine ⟨H14, by omega, rfl, (HV.out.1.rowFar (fun e => ?_) _).rowFar (by omega) _, below_row (below_row HB9.out (by omega) _) (by omega) _⟩
    exact has_types (e ▸ HV.out.1) HY.out.1 (by decide)
end

end Go.Proofs.Ytjgjbhbpndjnnaa
