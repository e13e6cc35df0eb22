/-
  Walk: AccEmpty.
-/
import Derived.Test.YtohikaomoaphlaaApp
namespace Go.Proofs.Ytohikaomoaphlaa
open Go.RowKit

theorem join_none (bs : List Int) : joinAc bs [] = startJ bs := rfl

set_option maxRecDepth 100000 in
set_option maxHeartbeats 4000000 in
theorem empty_bad (x : It) (B : Option Addr) (m d : Nat) (bs : List Int) (k : Int) (w : World) (hbs : Ints w B m bs) (hm : m ≤ maxLen) (hno : (itemB x && boundsB bs) = false) :
    Calls Try.prog 6 #[.agg #[.int .i64 x.s, .int .i64 x.t, .int .i64 x.q, .int .i64 x.v], .slice B m d, .int .i64 k] w fun e w' => e = .returned (.bool true) ∧ Below w.heap.size w w' := by
  have HN := Lib.hid hno; clear hno
  go_enter Try.func6, Try.ntmps6
  go_wp2_with fail
  refine (awake_any _).mono ?_
  rintro e w1 ⟨rfl, hb1⟩
  have hB1 : Below w.heap.size w w1 := ((Below.refl _ _).alloc (Nat.le_refl _) _).trans (hb1.mono (by simp))
  have hc1 : ∀ b o, b < w.heap.size + 1 → w1.cell? ⟨b, o, none⟩ = _ := oldCells hb1 (by simp)
  go_wp2_with fail
  refine (one_bad x B m d bs _ (hbs.below hB1) hm HN.out).mono ?_
  rintro e w2 ⟨rfl, hb2⟩
  have hB2 := hB1.trans (hb2.mono hB1.size)
  clear hc1 hb1 hb2
  go_upto_region 4 with (refine store_new rfl _ _ rfl rfl rfl rfl ?_; intro wn hbn hvn)
  have hB3 := hB2.trans (hbn.mono hB2.size)
  have hg := hB2.size
  clear hbn
  generalize w2.heap.size = g at hvn hg ⊢
  go_wp2_with fail
  cases hb : boundsB bs
  · refine (join_form B m d bs none 0 0 [] _ (hbs.below hB3) hm (Accs.nil _ none) (by omega) (by rw [hb]; rfl)).mono ?_
    rintro e w3 ⟨rfl, hb3⟩
    have hB4 := hB3.trans (hb3.mono hB3.size)
    have hv4 := has_below hvn hb3
    clear hb3 hB3 hvn
    go_upto_region 5 with (refine store_new rfl _ _ rfl rfl rfl rfl ?_; intro wq hbq hvq)
    have hB5 := hB4.trans (hbq.mono hB4.size)
    have hc5 : wq.cell? ⟨g, 0, none⟩ = some (.int .i64 0) := (has_below hv4 hbq).cell 0
    clear hbq hvq hv4 hB4
    go_wp2_with (go_at_call 17; refine (num_any _ _).mono ?_; rintro e w' ⟨rfl, rfl⟩)
    go_ret
    exact ⟨rfl, hB5⟩
  · have h8 : m ≤ 8 := by have := (boundsB_true hb).1; rw [hbs.1] at this; exact this
    refine (join_ok B m d bs none 0 0 [] _ (hbs.below hB3) (Accs.nil _ none) (by omega) hb rfl (by simp [totalA, isum])).mono ?_
    rintro e w3 ⟨y3, hy3, rfl, hh3, hb3⟩
    have hB4 := hB3.trans (hb3.mono hB3.size)
    have hv4 := has_below hvn hb3
    clear hb3 hB3 hvn
    go_upto_region 5 with (refine store_new rfl _ _ rfl rfl rfl rfl ?_; intro wq hbq hvq)
    have hB5 := hB4.trans (hbq.mono hB4.size)
    have hc5 : wq.cell? ⟨g, 0, none⟩ = some (.int .i64 0) := (has_below hv4 hbq).cell 0
    clear hbq hvq hv4 hB4
    go_wp2_with (go_at_call 17; refine (num_any _ _).mono ?_; rintro e w' ⟨rfl, rfl⟩)
    go_ret
    exact ⟨rfl, hB5⟩

end Go.Proofs.Ytohikaomoaphlaa
