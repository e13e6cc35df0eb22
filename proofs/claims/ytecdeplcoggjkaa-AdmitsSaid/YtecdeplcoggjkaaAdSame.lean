/-
  Walk: the laws' helper SameConfig of like configs.
-/
import Derived.Test.YtecdeplcoggjkaaAdSameR
import Derived.Deep.Cut
namespace Go.Proofs.Ytecdeplcoggjkaa
open Go.RowKit

/-- Both boxes of a call of SameConfig. -/
structure ScS (w : World) (c1 c2 : Array Value) (wr : World) : Prop where
  b1 : Has wr w.heap.size 24 c1
  b2 : Has wr (w.heap.size + 1) 24 c2
  keep : Below w.heap.size w wr
theorem ScS.made {w : World} {c1 c2 : Array Value} : ScS w c1 c2 ((w.alloc (.cells c1 24)).alloc (.cells c2 24)) := by
  have h := Has.made (w.alloc (.cells c1 24)) 24 c2
  have e : (w.alloc (.cells c1 24)).heap.size = w.heap.size + 1 := by simp
  rw [e] at h
  exact ⟨(Has.made w _ c1).alloc _, h, ((Below.refl _ _).alloc (Nat.le_refl _) _).alloc (by simp) _⟩
theorem ScS.below {w : World} {c1 c2 : Array Value} {wr w2 : World} (h : ScS w c1 c2 wr) (hb : Below wr.heap.size wr w2) : ScS w c1 c2 w2 := ⟨h.b1.below hb h.b1.lt, h.b2.below hb h.b2.lt, h.keep.trans (hb.mono h.keep.size)⟩

set_option maxRecDepth 100000 in
set_option maxHeartbeats 2000000 in
theorem sameconf_true (A B : Option Addr) (n c1 c2 : Nat) (qs : List Qu) (la ro se so : Int) (w : World) (ha : Qus w A n qs) (hb : Qus w B n qs) (hn : n ≤ 2199023255552) :
    Calls Try.prog 13 #[.agg #[.slice A n c1, .int .i64 la, .int .i64 ro, .int .i64 se, .int .i64 so], .agg #[.slice B n c2, .int .i64 la, .int .i64 ro, .int .i64 se, .int .i64 so]] w fun e w' => e = .returned (.bool true) ∧ Below w.heap.size w w' := by
  have HA := Lib.hid ha; clear ha
  have HB := Lib.hid hb; clear hb
  go_enter Try.func13, Try.ntmps13
  go_upto_region 1 with fail
  generalize hw1 : (w.alloc (.cells #[.slice A n c1, .int .i64 la, .int .i64 ro, .int .i64 se, .int .i64 so] 24)).alloc (.cells #[.slice B n c2, .int .i64 la, .int .i64 ro, .int .i64 se, .int .i64 so] 24) = w1
  have HS : Hid (ScS w (cfC A n c1 la ro se so) (cfC B n c2 la ro se so) w1) := by rw [← hw1]; exact ScS.made
  clear hw1
  have h1 := cells_cf HS.out.b1
  have h2 := cells_cf HS.out.b2
  go_wp2_with fail
  clear h1 h2
  go_loopw [5] (fun i wr => ∃ j : Nat, j ≤ n ∧ i = .int .i64 j ∧ Hid (ScS w (cfC A n c1 la ro se so) (cfC B n c2 la ro se so) wr)) (fun i _ => n - (intOf i).toNat)
  case atStart => exact ⟨0, Nat.zero_le _, rfl, HS⟩
  case round =>
    clear HS
    obtain ⟨j, hj, rfl, HS⟩ := hrel
    have h1 := cells_cf HS.out.b1
    have h2 := cells_cf HS.out.b2
    by_cases hlt : j < n
    · obtain ⟨b1, o1, rfl, hi1⟩ := (HA.out.below HS.out.keep).2 (by omega)
      obtain ⟨b2, o2, rfl, hi2⟩ := (HB.out.below HS.out.keep).2 (by omega)
      obtain ⟨B1, m1, d1, hx1⟩ := hi1 j hlt
      obtain ⟨B2, m2, d2, hx2⟩ := hi2 j hlt
      clear hi1 hi2
      obtain rfl : m1 = m2 := by rw [← hx1.2.1.1, ← hx2.2.1.1]
      have HX1 := Lib.hid hx1; clear hx1
      have HX2 := Lib.hid hx2; clear hx2
      go_upto_region 6 with fail
      refine asc_any (q := nthQ qs j) (B1 := B1) (B2 := B2) (m := m1) (d1 := d1) (d2 := d2) (b1 := b1) (o1 := o1) (b2 := b2) (o2 := o2) (n := n) (c1 := c1) (c2 := c2) (k := j) (g1 := w.heap.size) (g2 := w.heap.size + 1) (la := la) (ro := ro) (se := se) (so := so) ⟨rfl, rfl, rfl, rfl, HS.out.b1, HS.out.b2, HX1.out, HX2.out, hlt⟩ (by kernel_rfl) ?_
      intro w2 bb
      replace HS := Lib.hid (HS.out.below bb)
      clear bb HX1 HX2 h1 h2
      simp only [putAll, Act.put, List.setIfInBounds_toArray, List.set_cons_succ, List.set_cons_zero]
      go_wp2_with fail
      go_roundw
      case rel => exact ⟨j + 1, by omega, by go_num, HS⟩
      case measure => simp [intOf]; omega
    · go_wp2_with fail
      go_ret
      exact ⟨rfl, HS.out.keep⟩

end Go.Proofs.Ytecdeplcoggjkaa
