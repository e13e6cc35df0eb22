/-
  Walk: the laws' helper SameQuery of like queries.
-/
import Derived.Test.YtecdeplcoggjkaaAdRule
import Derived.Deep.Cut
namespace Go.Proofs.Ytecdeplcoggjkaa
open Go.RowKit

/-- Both boxes of a call of SameQuery. -/
structure SqS (w : World) (c1 c2 : Array Value) (wr : World) : Prop where
  b1 : Has wr w.heap.size 42 c1
  b2 : Has wr (w.heap.size + 1) 42 c2
  keep : Below w.heap.size w wr
theorem SqS.made {w : World} {c1 c2 : Array Value} : SqS w c1 c2 ((w.alloc (.cells c1 42)).alloc (.cells c2 42)) := by
  have h := Has.made (w.alloc (.cells c1 42)) 42 c2
  have e : (w.alloc (.cells c1 42)).heap.size = w.heap.size + 1 := by simp
  rw [e] at h
  exact ⟨(Has.made w _ c1).alloc _, h, ((Below.refl _ _).alloc (Nat.le_refl _) _).alloc (by simp) _⟩

set_option maxRecDepth 100000 in
set_option maxHeartbeats 2000000 in
theorem samequ_lit (kd ag sz sl rk : Int) (bs : List Int) (A B : Option Addr) (m c d : Nat) (w : World) (ha : Ints w A m bs) (hb : Ints w B m bs) (hm : m ≤ maxLen) :
    Calls Try.prog 25 #[.agg #[.int .i64 kd, .int .i64 ag, .int .i64 sz, .int .i64 sl, .slice A m c, .int .i64 rk], .agg #[.int .i64 kd, .int .i64 ag, .int .i64 sz, .int .i64 sl, .slice B m d, .int .i64 rk]] w fun e w' => e = .returned (.bool true) ∧ Below w.heap.size w w' := by
  go_enter Try.func25, Try.ntmps25
  go_upto_region 1 with fail
  generalize hw1 : (w.alloc (.cells #[.int .i64 kd, .int .i64 ag, .int .i64 sz, .int .i64 sl, .slice A m c, .int .i64 rk] 42)).alloc (.cells #[.int .i64 kd, .int .i64 ag, .int .i64 sz, .int .i64 sl, .slice B m d, .int .i64 rk] 42) = w1
  have HS : Hid (SqS w #[.int .i64 kd, .int .i64 ag, .int .i64 sz, .int .i64 sl, .slice A m c, .int .i64 rk] #[.int .i64 kd, .int .i64 ag, .int .i64 sz, .int .i64 sl, .slice B m d, .int .i64 rk] w1) := by rw [← hw1]; exact SqS.made
  clear hw1
  have h1 : ∀ i, w1.cell? ⟨w.heap.size, i, none⟩ = _ := fun i => HS.out.b1.cell i
  have h2 : ∀ i, w1.cell? ⟨w.heap.size + 1, i, none⟩ = _ := fun i => HS.out.b2.cell i
  have HA := Lib.hid (ha.below HS.out.keep)
  have HB := Lib.hid (hb.below HS.out.keep)
  clear ha hb
  go_wp2_with fail
  refine (sameInts_true A B m c d bs w1 HA.out HB.out hm).mono ?_
  rintro e w2 ⟨rfl, k, rfl⟩
  go_wp2_with fail
  go_ret
  exact ⟨rfl, below_drewN HS.out.keep k⟩
theorem samequ_true (q : Qu) (A B : Option Addr) (m c d : Nat) (w : World) (ha : Ints w A m q.bs) (hb : Ints w B m q.bs) (hm : m ≤ maxLen) :
    Calls Try.prog 25 #[.agg (quC q A m c), .agg (quC q B m d)] w fun e w' => e = .returned (.bool true) ∧ Below w.heap.size w w' :=
  samequ_lit q.kind q.agg q.size q.slide q.rank q.bs A B m c d w ha hb hm

end Go.Proofs.Ytecdeplcoggjkaa
