/-
  Walk: Wires: any operation, any bytes, as the document says.
-/
import Derived.Test.YtadejalbmpfdmaaWiWr5
namespace Go.Proofs.Ytadejalbmpfdmaa
open Go.RowKit

set_option maxRecDepth 100000 in
set_option maxHeartbeats 400000 in
theorem wires_any (kd so se ti va : Int) (s : ByteArray) (w : World) (_ : (Lit.int .i64 kd).wf = true ∧ (Lit.int .i64 so).wf = true ∧ (Lit.int .i64 se).wf = true ∧ (Lit.int .i64 ti).wf = true ∧ (Lit.int .i64 va).wf = true) (hs : s.size ≤ 140737488351232) :
    Calls Try.prog 3 #[.agg #[.int .i64 kd, .int .i64 so, .int .i64 se, .int .i64 ti, .int .i64 va], .string s] w fun e w' => e = .returned (.bool true) ∧ Below w.heap.size w w' := by
  have hm : s.size ≤ maxLen := by unfold maxLen; omega
  obtain ⟨p, z, hp⟩ : ∃ p z, putO kd so se ti va = (p, z) := ⟨_, _, rfl⟩
  obtain ⟨k1, k2, k3, k4, k5, y, hg⟩ : ∃ k1 k2 k3 k4 k5 y, getO s.data.toList = ((k1, k2, k3, k4, k5), y) := ⟨_, _, _, _, _, _, rfl⟩
  obtain ⟨v, hv⟩ : ∃ v, mayB kd so se ti va = v := ⟨_, rfl⟩
  have P1 := Lib.hid (fun w : World => wput_any kd so se ti va p z hp w)
  have P2 := Lib.hid (fun w : World => rwput_any kd so se ti va p z hp w)
  have G1 := Lib.hid (fun w : World => wget_any s hm k1 k2 k3 k4 k5 y hg w)
  have G2 := Lib.hid (fun w : World => rwget_any s hm k1 k2 k3 k4 k5 y hg w)
  have M1 := Lib.hid (fun w : World => may_any kd so se ti va v hv w)
  have M2 := Lib.hid (fun w : World => rmay_any kd so se ti va v hv w)
  clear hs hm hp hg hv
  go_enter Try.func3, Try.ntmps3
  go_wp2_with fail
  refine (P1.out _).mono ?_; rintro e w1 ⟨rfl, b1⟩
  have h1 : Has w1 w.heap.size 23 _ := (Has.made w _ _).below b1 (by simp)
  have c1 : Below w.heap.size w w1 := ((Below.refl _ _).alloc (Nat.le_refl _) _).trans (b1.mono (by simp))
  clear b1
  go_wp2_with (refine load_op rfl _ rfl _ rfl h1 ?_)
  refine (P2.out _).mono ?_; rintro e w2 ⟨rfl, b2⟩
  have h2 := h1.below b2 h1.lt
  have c2 := c1.trans (b2.mono c1.size)
  clear h1 c1 b2
  go_wp2_with fail
  refine (G1.out _).mono ?_; rintro e w3 ⟨rfl, b3⟩
  have h3 := h2.below b3 h2.lt
  have c3 := c2.trans (b3.mono c2.size)
  clear h2 c2 b3
  go_wp2_with fail
  have h4 := h3.alloc (.cells #[.int .i64 k1, .int .i64 k2, .int .i64 k3, .int .i64 k4, .int .i64 k5] 23)
  have i4 := Has.made w3 23 #[.int .i64 k1, .int .i64 k2, .int .i64 k3, .int .i64 k4, .int .i64 k5]
  have c4 := c3.alloc c3.size (.cells #[.int .i64 k1, .int .i64 k2, .int .i64 k3, .int .i64 k4, .int .i64 k5] 23)
  refine (G2.out _).mono ?_; rintro e w5 ⟨rfl, b5⟩
  have h5 := h4.below b5 h4.lt
  have i5 := i4.below b5 i4.lt
  have c5 := c4.trans (b5.mono c4.size)
  clear h3 c3 h4 i4 c4 b5
  go_wp2_with fail
  have h6 := h5.alloc (.cells #[.int .i64 k1, .int .i64 k2, .int .i64 k3, .int .i64 k4, .int .i64 k5] 23)
  have i6 := i5.alloc (.cells #[.int .i64 k1, .int .i64 k2, .int .i64 k3, .int .i64 k4, .int .i64 k5] 23)
  have j6 := Has.made w5 23 #[.int .i64 k1, .int .i64 k2, .int .i64 k3, .int .i64 k4, .int .i64 k5]
  have c6 := c5.alloc c5.size (.cells #[.int .i64 k1, .int .i64 k2, .int .i64 k3, .int .i64 k4, .int .i64 k5] 23)
  refine ws5_any (kd := kd) (so := so) (se := se) (ti := ti) (va := va) (k1 := k1) (k2 := k2) (k3 := k3) (k4 := k4) (k5 := k5) (z := z) (y := y) (p := p) (v := v) (g := w.heap.size) (g1 := w3.heap.size) (g2 := w5.heap.size)
    ⟨rfl, rfl, rfl, rfl, rfl, rfl, rfl, rfl, rfl, rfl, h6, i6, j6, M1.out, M2.out⟩ rfl (fun w7 b7 => ?_)
  have c7 := c6.trans (b7.mono c6.size)
  clear h5 i5 c5 h6 i6 j6 c6 b7 P1 P2 G1 G2 M1 M2
  simp only [putAll, Act.put, List.setIfInBounds_toArray, List.set_cons_succ, List.set_cons_zero]
  go_wp2_with fail
  go_ret
  exact ⟨rfl, c7⟩

end Go.Proofs.Ytadejalbmpfdmaa
