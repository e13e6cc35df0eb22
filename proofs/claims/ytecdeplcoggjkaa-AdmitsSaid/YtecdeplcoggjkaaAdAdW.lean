/-
  Walk: Admits: any config, numbers, operation.
-/
import Derived.Test.YtecdeplcoggjkaaAdAdR
import Derived.Test.YtecdeplcoggjkaaAdCopy
namespace Go.Proofs.Ytecdeplcoggjkaa
open Go.RowKit

theorem rver_any (A : Option Addr) (n c : Nat) (qs : List Qu) (la ro se so le he kn : Int) (has : Bool) (kd os oe ti va v x : Int) (w : World) (hr : Qus w A n qs) (hn : n ≤ 2199023255552) (h : verV qs la ro se so le he kn has kd os oe ti va = (v, x)) :
    Calls Try.prog 9 #[.agg #[.slice A n c, .int .i64 la, .int .i64 ro, .int .i64 se, .int .i64 so], .int .i64 le, .int .i64 he, .int .i64 kn, .bool has, .agg #[.int .i64 kd, .int .i64 os, .int .i64 oe, .int .i64 ti, .int .i64 va]] w
      fun e w' => e = .returned (.tuple #[.int .i64 v, .int .i64 x]) ∧ Below w.heap.size w w' := by
  unfold verV at h
  cases hi : isB qs la ro se so le he kn
  · rw [hi, if_neg (by decide)] at h
    injection h with h1 h2
    subst h1 h2
    exact rver_bad A n c qs la ro se so le he kn has kd os oe ti va w hr hn hi
  · rw [hi, if_pos rfl] at h
    injection h with h1 h2
    subst h1 h2
    exact rver_ok A n c qs la ro se so le he kn has kd os oe ti va w hr hn hi

/-- The law's variables: the config that came, the operation, the copy (once it is there). -/
structure AmS (w : World) (A : Option Addr) (n c : Nat) (qs : List Qu) (la ro se so kd os oe ti va : Int) (wr : World) : Prop where
  cf : Has wr w.heap.size 24 (cfC A n c la ro se so)
  op : Has wr (w.heap.size + 1) 26 (opC kd os oe ti va)
  qs : Qus wr A n qs
  keep : Below w.heap.size w wr
theorem AmS.below {w : World} {A : Option Addr} {n c : Nat} {qs : List Qu} {la ro se so kd os oe ti va : Int} {wr w2 : World} (h : AmS w A n c qs la ro se so kd os oe ti va wr) (hb : Below wr.heap.size wr w2) : AmS w A n c qs la ro se so kd os oe ti va w2 :=
  ⟨h.cf.below hb h.cf.lt, h.op.below hb h.op.lt, h.qs.below hb, h.keep.trans (hb.mono h.keep.size)⟩
structure AxS (w : World) (A : Option Addr) (n c : Nat) (qs : List Qu) (la ro se so kd os oe ti va : Int) (B : Option Addr) (d gx : Nat) (wr : World) : Prop where
  am : AmS w A n c qs la ro se so kd os oe ti va wr
  cx : Has wr gx 24 (cfC B n d la ro se so)
  qx : Qus wr B n qs
theorem AxS.below {w : World} {A : Option Addr} {n c : Nat} {qs : List Qu} {la ro se so kd os oe ti va : Int} {B : Option Addr} {d gx : Nat} {wr w2 : World} (h : AxS w A n c qs la ro se so kd os oe ti va B d gx wr) (hb : Below wr.heap.size wr w2) : AxS w A n c qs la ro se so kd os oe ti va B d gx w2 :=
  ⟨h.am.below hb, h.cx.below hb h.cx.lt, h.qx.below hb⟩

set_option maxRecDepth 100000 in
set_option maxHeartbeats 4000000 in
theorem admits_any (A : Option Addr) (n c : Nat) (qs : List Qu) (la ro se so le he kn : Int) (has : Bool) (kd os oe ti va : Int) (w : World) (hr : QusR w A n qs) (hn : n * 64 ≤ 140737488351232) :
    Calls Try.prog 3 #[.agg #[.slice A n c, .int .i64 la, .int .i64 ro, .int .i64 se, .int .i64 so], .int .i64 le, .int .i64 he, .int .i64 kn, .bool has, .agg #[.int .i64 kd, .int .i64 os, .int .i64 oe, .int .i64 ti, .int .i64 va]] w
      fun e w' => e = .returned (.bool true) ∧ Below w.heap.size w w' := by
  have HR := Lib.hid hr; clear hr
  have hn2 : n ≤ 2199023255552 := by omega
  obtain ⟨v, x, hv⟩ : ∃ v x, verV qs la ro se so le he kn has kd os oe ti va = (v, x) := ⟨_, _, rfl⟩
  have HV := Lib.hid hv; clear hv
  go_enter Try.func3, Try.ntmps3
  go_upto_region 1 with fail
  generalize hw1 : (w.alloc (.cells #[.slice A n c, .int .i64 la, .int .i64 ro, .int .i64 se, .int .i64 so] 24)).alloc (.cells #[.int .i64 kd, .int .i64 os, .int .i64 oe, .int .i64 ti, .int .i64 va] 26) = w1
  have HK : Hid (RvS w A n c la ro se so kd os oe ti va w1) := by rw [← hw1]; exact RvS.made
  clear hw1
  have HS : Hid (AmS w A n c qs la ro se so kd os oe ti va w1) := ⟨HK.out.cf, HK.out.op, HR.out.qus.below HK.out.keep, HK.out.keep⟩
  have hcc := cells_cf HS.out.cf
  go_wp2_with fail
  refine (copyconf_any A n c qs la ro se so w1 (HR.out.below HK.out.keep) hn).mono ?_
  rintro e w2 ⟨B, d, rfl, hq, b2⟩
  have HS2 := Lib.hid (HS.out.below b2)
  have HX2 : Hid (AxS w A n c qs la ro se so kd os oe ti va B d w2.heap.size (w2.alloc (.cells #[.slice B n d, .int .i64 la, .int .i64 ro, .int .i64 se, .int .i64 so] 24))) :=
    ⟨HS2.out.below ((Below.refl _ _).alloc (Nat.le_refl _) _), Has.made _ _ _, hq.below ((Below.refl _ _).alloc (Nat.le_refl _) _)⟩
  clear hq b2 HS HS2 HK HR hcc
  go_upto_region 2 with fail
  generalize w2.alloc (.cells #[.slice B n d, .int .i64 la, .int .i64 ro, .int .i64 se, .int .i64 so] 24) = w3 at HX2 ⊢
  generalize w2.heap.size = gx at HX2 ⊢
  have hcx := cells_cf HX2.out.cx
  have hco := cells_op HX2.out.am.op
  go_wp2_with fail
  refine (ver_any B n d qs la ro se so le he kn has kd os oe ti va v x w3 HX2.out.qx (by unfold maxLen; omega) HV.out).mono ?_
  rintro e w4 ⟨rfl, b4⟩
  have HX4 := Lib.hid (HX2.out.below b4)
  clear b4 HX2 hcx hco
  have hcc := cells_cf HX4.out.am.cf
  have hco := cells_op HX4.out.am.op
  go_wp2_with fail
  refine (rver_any A n c qs la ro se so le he kn has kd os oe ti va v x w4 HX4.out.am.qs hn2 HV.out).mono ?_
  rintro e w5 ⟨rfl, b5⟩
  have HX5 := Lib.hid (HX4.out.below b5)
  clear b5 HX4 hcc hco HV
  go_upto_region 4 with fail
  refine aad_any (A := A) (B := B) (n := n) (c := c) (d := d) (gx := gx) (gc := w.heap.size) (qs := qs) (la := la) (ro := ro) (se := se) (so := so) (v := v) (x := x) (M := cfB qs la ro se so) ⟨rfl, rfl, rfl, rfl, rfl, rfl, rfl, HX5.out.cx, HX5.out.am.cf, HX5.out.qx, HX5.out.am.qs, hn2, rfl⟩ (by kernel_rfl) ?_
  intro w6 b6
  have HK6 : Hid (Below w.heap.size w w6) := HX5.out.am.keep.trans (b6.mono HX5.out.am.keep.size)
  clear b6 HX5
  simp only [putAll, Act.put, List.setIfInBounds_toArray, List.set_cons_succ, List.set_cons_zero]
  go_wp2_with fail
  go_ret
  exact ⟨rfl, HK6.out⟩

end Go.Proofs.Ytecdeplcoggjkaa
