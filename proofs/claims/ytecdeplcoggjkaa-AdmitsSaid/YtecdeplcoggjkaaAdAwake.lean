/-
  Walks: the laws' config of one query (count), and their first look.
-/
import Derived.Test.YtecdeplcoggjkaaAdVer
import Derived.Test.YtecdeplcoggjkaaRetRow
namespace Go.Proofs.Ytecdeplcoggjkaa
open Go.RowKit

/-- The query of count. -/
def quT (sz : Int) : Qu := ⟨0, 0, sz, 0, [], 0⟩
theorem nthQ_one (q : Qu) : nthQ [q] 0 = q := rfl
theorem qus_one {w : World} {g : Nat} {sz : Int} (h : Has w g 42 (quC (quT sz) none 0 0)) : Qus w (some ⟨g, 0, none⟩) 1 [quT sz] := by
  refine ⟨rfl, fun _ => ⟨g, 0, rfl, fun i hi => ?_⟩⟩
  obtain rfl : i = 0 := by omega
  refine ⟨none, 0, 0, fun j v hv => ?_, Ints.nil, Nat.zero_le _⟩
  rw [nthQ_one] at hv
  rw [show 0 + 0 * 6 + j = j by omega, h.cell]
  exact (by simpa using hv : (quC (quT sz) none 0 0)[j]? = some v)
/-- What count gives: its query in a new block. -/
def CountO (la ro : Int) (w : World) (e : Ending) (w' : World) : Prop :=
  ∃ g, e = .returned (.agg #[.slice (some ⟨g, 0, none⟩) 1 1, .int .i64 la, .int .i64 ro, .int .i64 2, .int .i64 1]) ∧ w.heap.size ≤ g ∧ Has w' g 42 (quC (quT 10) none 0 0) ∧ Below w.heap.size w w'

set_option maxRecDepth 100000 in
set_option maxHeartbeats 1000000 in
theorem count_any (la ro : Int) (w : World) : Calls Try.prog 15 #[.int .i64 la, .int .i64 ro] w (CountO la ro w) := by
  have HB : Hid (∀ o1 o2, Below w.heap.size w ((w.alloc o1).alloc o2)) := fun o1 o2 => ((Below.refl _ _).alloc (Nat.le_refl _) _).alloc (by simp) _
  have HC : Hid (∀ cs o2, Has ((w.alloc (.cells cs 24)).alloc o2) w.heap.size 24 cs) := fun cs o2 => (Has.made w _ cs).alloc o2
  have HQ : Hid (∀ o1 cs, Has ((w.alloc o1).alloc (.cells cs 42)) (w.heap.size + 1) 42 cs) := fun o1 cs => by
    have h := Has.made (w.alloc o1) 42 cs
    have e : (w.alloc o1).heap.size = w.heap.size + 1 := by simp
    rw [e] at h
    exact h
  go_enter Try.func15, Try.ntmps15
  go_wp2_with fail
  refine bodyPost_ret (ret_rowA rfl _ _ w.heap.size 24 _ _ rfl (HC.out _ _) Try.underlying24 rfl (by exact Try.csize)) rfl ?_
  exact ⟨w.heap.size + 1, rfl, by omega, HQ.out _ _, HB.out _ _⟩

/-- Verdict of a config of one query, its answer known. -/
theorem ver_any (A : Option Addr) (n c : Nat) (qs : List Qu) (la ro se so le he kn : Int) (has : Bool) (kd os oe ti va v x : Int) (w : World) (hr : Qus w A n qs) (hn : n ≤ maxLen) (h : verV qs la ro se so le he kn has kd os oe ti va = (v, x)) :
    Calls Try.prog 8 #[.agg #[.slice A n c, .int .i64 la, .int .i64 ro, .int .i64 se, .int .i64 so], .int .i64 le, .int .i64 he, .int .i64 kn, .bool has, .agg #[.int .i64 kd, .int .i64 os, .int .i64 oe, .int .i64 ti, .int .i64 va]] w
      fun e w' => e = .returned (.tuple #[.int .i64 v, .int .i64 x]) ∧ Below w.heap.size w w' := by
  unfold verV at h
  cases hi : isB qs la ro se so le he kn
  · rw [hi, if_neg (by decide)] at h
    injection h with h1 h2
    subst h1 h2
    exact ver_bad A n c qs la ro se so le he kn has kd os oe ti va w hr hn hi
  · rw [hi, if_pos rfl] at h
    injection h with h1 h2
    subst h1 h2
    exact ver_ok A n c qs la ro se so le he kn has kd os oe ti va w hr hn hi
theorem ver_lit (g c : Nat) (sz la ro se so le he kn : Int) (has : Bool) (kd os oe ti va v x : Int) (h : verV [quT sz] la ro se so le he kn has kd os oe ti va = (v, x)) (w : World) (hq : Has w g 42 (quC (quT sz) none 0 0)) :
    Calls Try.prog 8 #[.agg #[.slice (some ⟨g, 0, none⟩) 1 c, .int .i64 la, .int .i64 ro, .int .i64 se, .int .i64 so], .int .i64 le, .int .i64 he, .int .i64 kn, .bool has, .agg #[.int .i64 kd, .int .i64 os, .int .i64 oe, .int .i64 ti, .int .i64 va]] w
      fun e w' => e = .returned (.tuple #[.int .i64 v, .int .i64 x]) ∧ Below w.heap.size w w' :=
  ver_any _ 1 c [quT sz] la ro se so le he kn has kd os oe ti va v x w (qus_one hq) (by unfold maxLen; omega) h
theorem amay_lit (g c : Nat) (sz la ro se so : Int) (b : Bool) (h : cfB [quT sz] la ro se so = b) (w : World) (hq : Has w g 42 (quC (quT sz) none 0 0)) :
    Calls Try.prog 11 #[.agg #[.slice (some ⟨g, 0, none⟩) 1 c, .int .i64 la, .int .i64 ro, .int .i64 se, .int .i64 so]] w fun e w' => e = .returned (.bool b) ∧ Below w.heap.size w w' := by
  subst h
  exact amay_any _ 1 c [quT sz] la ro se so w (qus_one hq) (by unfold maxLen; omega)
theorem amay_none (la ro se so : Int) (w : World) :
    Calls Try.prog 11 #[.agg #[.slice none 0 0, .int .i64 la, .int .i64 ro, .int .i64 se, .int .i64 so]] w fun e w' => e = .returned (.bool false) ∧ Below w.heap.size w w' := by
  have h : cfB [] la ro se so = false := by unfold cfB fitQ; rw [show wi (([] : List Qu).length : Int) 1 8 = false by decide, Bool.false_and, Bool.and_false]
  rw [← h]
  exact amay_any none 0 0 [] la ro se so w (Qus.nil _ _) (Nat.zero_le _)

/-- A config of one query in its variable. -/
structure CoS (w : World) (g b : Nat) (sz la ro se so : Int) (wr : World) : Prop where
  box : Has wr b 24 (cfC (some ⟨g, 0, none⟩) 1 1 la ro se so)
  qu : Has wr g 42 (quC (quT sz) none 0 0)
  keep : Below w.heap.size w wr
  far : w.heap.size ≤ g ∧ w.heap.size ≤ b ∧ g ≠ b
theorem CoS.below {w : World} {g b : Nat} {sz la ro se so : Int} {wr w2 : World} (h : CoS w g b sz la ro se so wr) (hb : Below wr.heap.size wr w2) : CoS w g b sz la ro se so w2 :=
  ⟨h.box.below hb h.box.lt, h.qu.below hb h.qu.lt, h.keep.trans (hb.mono h.keep.size), h.far⟩
theorem CoS.made {w w1 : World} {g : Nat} {la ro : Int} (h1 : w.heap.size ≤ g) (h2 : Has w1 g 42 (quC (quT 10) none 0 0)) (h3 : Below w.heap.size w w1) :
    CoS w g w1.heap.size 10 la ro 2 1 (w1.alloc (.cells #[.slice (some ⟨g, 0, none⟩) 1 1, .int .i64 la, .int .i64 ro, .int .i64 2, .int .i64 1] 24)) :=
  ⟨Has.made _ _ _, h2.alloc _, h3.alloc h3.size _, h1, h3.size, Nat.ne_of_lt h2.lt⟩

set_option maxRecDepth 100000 in
set_option maxHeartbeats 2000000 in
theorem aawake_any (w : World) : Calls Try.prog 14 #[] w fun e w' => e = .returned (.bool true) ∧ Below w.heap.size w w' := by
  have V1 := Lib.hid (fun g w => ver_lit g 1 10 5 3 2 1 10 2 1 false 0 0 0 5 0 0 0 (by decide) w)
  have V2 := Lib.hid (fun g w => ver_lit g 1 10 5 3 2 1 10 2 1 false 0 0 0 4 0 1 0 (by decide) w)
  have V3 := Lib.hid (fun g w => ver_lit g 1 10 5 3 2 1 10 3 1 true 0 0 0 5 0 2 0 (by decide) w)
  have V4 := Lib.hid (fun g w => ver_lit g 1 10 5 3 2 1 10 2 2 false 0 0 0 5 0 3 0 (by decide) w)
  have V5 := Lib.hid (fun g w => ver_lit g 1 10 5 3 2 1 10 2 2 false 0 1 0 5 0 4 0 (by decide) w)
  have V6 := Lib.hid (fun g w => ver_lit g 1 10 5 3 2 1 10 (-1) 2 false 0 0 0 5 0 0 1400 (by decide) w)
  have M1 := Lib.hid (fun g w => amay_lit g 1 10 5 3 2 1 true (by decide) w)
  have M2 := Lib.hid (fun w => amay_none 0 0 0 0 w)
  go_enter Try.func14, Try.ntmps14
  go_wp2_with fail
  refine (count_any 5 3 w).mono ?_
  rintro e w1 ⟨g, rfl, g1, g2, g3⟩
  have HS := Lib.hid (CoS.made (la := 5) (ro := 3) g1 g2 g3)
  clear g1 g2 g3
  have hcc : ∀ i, (w1.alloc (.cells #[.slice (some ⟨g, 0, none⟩) 1 1, .int .i64 5, .int .i64 3, .int .i64 2, .int .i64 1] 24)).cell? ⟨w1.heap.size, i, none⟩ = _ := cells_cf HS.out.box
  go_wp2_with fail
  refine (V1.out g _ HS.out.qu).mono ?_
  rintro e w2 ⟨rfl, b2⟩
  replace HS := Lib.hid (HS.out.below b2)
  generalize w1.heap.size = b at *
  clear b2 hcc V1
  have hcc := cells_cf HS.out.box
  go_wp2_with fail
  refine (V2.out g _ HS.out.qu).mono ?_
  rintro e w3 ⟨rfl, b2⟩
  replace HS := Lib.hid (HS.out.below b2)
  clear b2 hcc V2
  have hcc := cells_cf HS.out.box
  go_wp2_with fail
  refine (V3.out g _ HS.out.qu).mono ?_
  rintro e w4 ⟨rfl, b2⟩
  replace HS := Lib.hid (HS.out.below b2)
  clear b2 hcc V3
  have hcc := cells_cf HS.out.box
  go_wp2_with fail
  refine (V4.out g _ HS.out.qu).mono ?_
  rintro e w5 ⟨rfl, b2⟩
  replace HS := Lib.hid (HS.out.below b2)
  clear b2 hcc V4
  have hcc := cells_cf HS.out.box
  go_wp2_with fail
  refine (V5.out g _ HS.out.qu).mono ?_
  rintro e w6 ⟨rfl, b2⟩
  replace HS := Lib.hid (HS.out.below b2)
  clear b2 hcc V5
  have hcc := cells_cf HS.out.box
  go_wp2_with fail
  refine (V6.out g _ HS.out.qu).mono ?_
  rintro e w7 ⟨rfl, b2⟩
  replace HS := Lib.hid (HS.out.below b2)
  clear b2 hcc V6
  have hcc := cells_cf HS.out.box
  go_wp2_with fail
  refine (M1.out g _ HS.out.qu).mono ?_
  rintro e w8 ⟨rfl, b2⟩
  replace HS := Lib.hid (HS.out.below b2)
  clear b2 hcc M1
  go_wp2_with fail
  refine (M2.out _).mono ?_
  rintro e w9 ⟨rfl, b2⟩
  replace HS := Lib.hid (HS.out.below b2)
  clear b2 M2
  go_wp2_with (go_at_call 10; refine (wnum_any _ _).mono ?_; rintro e w' ⟨rfl, rfl⟩)
  go_ret
  exact ⟨rfl, HS.out.keep⟩

end Go.Proofs.Ytecdeplcoggjkaa
