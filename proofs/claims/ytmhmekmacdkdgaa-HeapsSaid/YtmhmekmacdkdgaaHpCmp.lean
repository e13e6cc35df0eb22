/-
  Walks: heap.compare: Time, Seq, Series, Value.
-/
import Derived.Test.YtmhmekmacdkdgaaHpCmpR
import Derived.Deep.CutRange
namespace Go.Proofs.Ytmhmekmacdkdgaa
open Go.RowKit

set_option maxRecDepth 100000 in
set_option maxHeartbeats 2000000 in
theorem compare4_any (x y : It) (w : World) :
    Calls Try.prog 38 #[.agg #[.int .i64 x.s, .int .i64 x.t, .int .i64 x.q, .int .i64 x.v], .agg #[.int .i64 y.s, .int .i64 y.t, .int .i64 y.q, .int .i64 y.v]] w
      fun e w' => e = .returned (.int .i64 (cmp4 x y)) ∧ Below w.heap.size w w' := by
  go_enter Try.func38, Try.ntmps38
  go_upto_region 1 with fail
  refine hcm1_any (g := w.heap.size) (p := w.heap.size + 1) (x := x) (y := y) ⟨rfl, rfl, rfl, (Has.made _ _ _).alloc _, by have := Has.made (w.alloc (.cells #[.int .i64 x.s, .int .i64 x.t, .int .i64 x.q, .int .i64 x.v] 34)) 34 #[.int .i64 y.s, .int .i64 y.t, .int .i64 y.q, .int .i64 y.v]; simpa using this⟩ (by kernel_rfl) ?_
  intro g18 w9 hB9 _
  have HB9 := Lib.hid (((Below.refl _ w).alloc (Nat.le_refl _) _).trans ((((Below.refl _ _).alloc (Nat.le_refl _) _).trans (hB9.mono (by simp))).mono (by simp)))
  clear hB9
  simp only [putAll, Act.put, List.setIfInBounds_toArray, List.set_cons_succ, List.set_cons_zero]
  go_wp2_with fail
  go_ret
  exact ⟨rfl, HB9.out⟩

end Go.Proofs.Ytmhmekmacdkdgaa
