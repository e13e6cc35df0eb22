/-
  Walk: Windows: any query, any time: the program answers as the document.
-/
import Derived.Test.YtkbocjmdbfddhaaWEnd
import Derived.Test.YtkbocjmdbfddhaaWBoth
import Derived.Test.YtkbocjmdbfddhaaWSpoil
import Derived.Deep.DeepCutAuto
import Derived.Deep.Onto
namespace Go.Proofs.Ytkbocjmdbfddhaa
open Go.RowKit

set_option maxRecDepth 100000 in
set_option maxHeartbeats 2000000 in
theorem windows_any (kd ag sz sl rk t : Int) (B : Option Addr) (m d : Nat) (bs : List Int) (w : World) (hb : Ints w B m bs) (hm : m ≤ maxLen) :
    Calls Try.prog 3 #[.agg #[.int .i64 kd, .int .i64 ag, .int .i64 sz, .int .i64 sl, .slice B m d, .int .i64 rk], .int .i64 t] w fun e w' => e = .returned (.bool true) ∧ Below w.heap.size w w' := by
  obtain ⟨ss, n, code, hn, C1, C2⟩ := both_win kd ag sz sl rk t m bs hm
  have HC1 := Lib.hid C1; clear C1
  have HC2 := Lib.hid C2; clear C2
  have HI := Lib.hid hb; clear hb
  have HS0 : Hid (WiS w #[.int .i64 kd, .int .i64 ag, .int .i64 sz, .int .i64 sl, .slice B m d, .int .i64 rk] B m bs (w.alloc (.cells #[.int .i64 kd, .int .i64 ag, .int .i64 sz, .int .i64 sl, .slice B m d, .int .i64 rk] 24))) :=
    ⟨Has.made _ _ _, HI.out.below ((Below.refl _ _).alloc (Nat.le_refl _) _), (Below.refl _ _).alloc (Nat.le_refl _) _⟩
  go_enter Try.func3, Try.ntmps3
  go_wp2_with fail
  refine (HC1.out _ _ _ HS0.out.bnd).mono ?_
  rintro e w1 ⟨A1, c1, rfl, o1, b1⟩
  have HS1 := Lib.hid (HS0.out.below HI.out b1 (by simp))
  have HO1 : Hid (OwnS w1 (w.heap.size + 1) (.slice A1 n c1) ss) := o1.mono (by simp)
  have hc1 : ∀ i, w1.cell? ⟨w.heap.size, i, none⟩ = _ := fun i => HS1.out.box.cell i
  clear o1 b1 HS0
  go_wp2_with fail
  refine (HC2.out _ _ _ HS1.out.bnd).mono ?_
  rintro e w2 ⟨A2, c2, rfl, o2, b2⟩
  have HS2 := Lib.hid (HS1.out.below HI.out b2 HS1.out.box.lt)
  have HLT : Hid (∀ ad, A1 = some ad → ad.block < w1.heap.size) := fun ad e => (World.ownsRow.lt HO1.out ad.block (by rw [e]; rfl)).2
  have HO2 := Lib.hid (HO1.out.below b2)
  have HP2 := Lib.hid o2
  clear o2 b2 hc1 HS1 HO1
  go_wp2_with fail
  refine (sameSpans_true A1 A2 n c1 c2 ss _ HO2.out.spans HP2.out.spans hn).mono ?_
  rintro e w3 ⟨rfl, k3, hw3⟩
  have hb3 : Below w2.heap.size w2 w3 := by rw [hw3]; exact below_drewN (Below.refl _ _) k3
  have HS3 := Lib.hid (HS2.out.below HI.out hb3 HS2.out.box.lt)
  have HO3 := Lib.hid (HO2.out.below hb3)
  have HP3 := Lib.hid (HP2.out.below hb3)
  clear hb3 hw3 HS2 HO2 HP2
  go_wp2_with (go_at_call 17; refine (wnum_any _ _).mono ?_; rintro e w' ⟨rfl, rfl⟩)
  refine (spoilSpans_any A1 n c1 ss (w.heap.size + 1) _ HO3.out hn).mono ?_
  rintro e w4 ⟨rfl, hb4, ho4⟩
  have HS4 := Lib.hid (HS3.out.below HI.out hb4 (by omega))
  have HP4 : Hid (OwnS w4 w1.heap.size (.slice A2 n c2) ss) := HP3.out.far fun k hk => ho4 k fun ad e => by
    have h1 := (World.ownsRow.lt HP3.out k hk).1
    have h2 := HLT.out ad e
    omega
  have hc4 : ∀ i, w4.cell? ⟨w.heap.size, i, none⟩ = _ := fun i => HS4.out.box.cell i
  clear hb4 ho4 HS3 HO3 HP3 HLT
  go_wp2_with fail
  refine (HC1.out _ _ _ HS4.out.bnd).mono ?_
  rintro e w5 ⟨A5, c5, rfl, o5, b5⟩
  have HS5 := Lib.hid (HS4.out.below HI.out b5 HS4.out.box.lt)
  have HP5 := Lib.hid (HP4.out.below b5)
  have HO5 := Lib.hid o5
  clear o5 b5 hc4 HS4 HP4
  go_upto_region 7 with fail
  refine wn7_any (A1 := A5) (A2 := A2) (n := n) (c1 := c5) (c2 := c2) (ss := ss) (g := w.heap.size) (kd := kd) (ag := ag) (sz := sz) (sl := sl) (rk := rk) (B := B) (m := m) (d := d) (V := mayQ kd ag sz sl bs rk) (bs := bs) ⟨rfl, rfl, rfl, rfl, HO5.out.spans, HP5.out.spans, hn, HS5.out.box, HS5.out.bnd, hm, rfl⟩ (by kernel_rfl) ?_
  intro ax wx hbx hdx hvx
  go_wp2_with fail
  have hv2 : ax.tmps[4]?.getD undef = .bool true := by simpa using hvx
  exact bodyPost_ret (v := .bool true) (by simp [results, Try.results3, hv2, go_sem]) hdx ⟨rfl, HS5.out.keep.trans (hbx.mono HS5.out.keep.size)⟩

theorem windows_all (kd ag sz sl rk : Int) (B : Option Addr) (m d : Nat) (bs : List Int) (t : Int) (w : World) (hb : Ints w B m bs) (hm : m ≤ maxLen) (_ : (Lit.int .i64 t).wf = true) :
    Calls Try.prog 3 #[.agg #[.int .i64 kd, .int .i64 ag, .int .i64 sz, .int .i64 sl, .slice B m d, .int .i64 rk], .int .i64 t] w fun e w' => e = .returned (.bool true) ∧ Below w.heap.size w w' := windows_any kd ag sz sl rk t B m d bs w hb hm

end Go.Proofs.Ytkbocjmdbfddhaa
