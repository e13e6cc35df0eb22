/-
  Walk: wire.Put.
-/
import Derived.Test.YtoechlmahckchaaG11n
import Derived.Test.YtoechlmahckchaaWiMay
namespace Go.Proofs.Ytoechlmahckchaa
open Go.RowKit

/-- Put's memory: the operation, the writer. -/
structure PutS (w0 : World) (g : Nat) (cs : Array Value) (l : List UInt8) (w : World) : Prop where
  old : Below w0.heap.size w0 w
  lt : w0.heap.size < g
  op : Has w w0.heap.size 49 cs
  wr : ∃ v, Has w g 79 #[v] ∧ OwnB w (g + 1) v l
section
variable {w0 w w' : World} {g : Nat} {cs : Array Value} {l l' : List UInt8}
theorem PutS.alloc (h : PutS w0 g cs l w) (o : Obj) : PutS w0 g cs l (w.alloc o) := by
  obtain ⟨v, h1, h2⟩ := h.wr
  exact ⟨h.old.alloc h.old.size _, h.lt, h.op.alloc _, v, h1.alloc _, h2.below ((Below.refl _ _).alloc (Nat.le_refl _) _)⟩
theorem PutS.next (h : PutS w0 g cs l w) (hb : Below g w w') (hw : ∃ v', Has w' g 79 #[v'] ∧ OwnB w' (g + 1) v' l') : PutS w0 g cs l' w' :=
  ⟨h.old.trans (hb.mono (Nat.le_of_lt h.lt)), h.lt, h.op.below hb h.lt, hw⟩
theorem PutS.made {w1 : World} (hb : Below w0.heap.size w0 w1) (ho : Has w1 w0.heap.size 49 cs) : PutS w0 w1.heap.size cs [] (w1.alloc (.cells #[.slice none 0 0] 79)) :=
  ⟨hb.alloc hb.size _, ho.lt, ho.alloc _, _, Has.made _ _ _, OwnB.nil _ _⟩
/-- The next numbers are written. -/
theorem PutS.call (h : PutS w0 g cs l w) (xs : List Int) (n : Nat) (hn : xs.length = n) (hn9 : n ≤ 9) (hx : ∀ x ∈ xs, -9223372036854775808 ≤ x ∧ x ≤ 9223372036854775807) (hl : l.length ≤ 1000) (H : Nat) (hH : w.heap.size = H) (cs' : Array Value) (hcs : ints xs = cs') :
    Calls Try.prog 42 #[.pointer (some ⟨g, 0, none⟩), .slice (some ⟨H, 0, none⟩) n n] (w.alloc (.cells cs' 3)) fun e w' => e = .returned (.tuple #[]) ∧ PutS w0 g cs (l ++ encs xs) w' := by
  subst hH hcs
  have h2 := h.alloc (.cells (ints xs) 3)
  obtain ⟨v, h3, h4⟩ := h2.wr
  exact (wrput_any g w.heap.size n xs l v _ hn hn9 hx hl h3 h4 (Has.made _ _ _)).mono fun e w' ⟨he, hb, hw⟩ => ⟨he, h2.next hb hw⟩
end

set_option maxRecDepth 100000 in
set_option maxHeartbeats 400000 in
theorem put_0 (so se ti va : Int) (hm : MayO 0 so se ti va) (w : World) :
    Calls Try.prog 34 #[.agg #[.int .i64 0, .int .i64 so, .int .i64 se, .int .i64 ti, .int .i64 va]] w fun e w' => e = .returned (.tuple #[.string ⟨(encs [0, so, se, ti, va]).toArray⟩, .int .i64 0]) ∧ Below w.heap.size w w' := by
  have HM := Lib.hid (fun w : World => may_any 0 so se ti va true (mayB_yes hm) w)
  have HV := Lib.hid hm.wide
  clear hm
  go_enter Try.func34, Try.ntmps34
  go_wp2_with fail
  refine (HM.out _).mono ?_; rintro e w1 ⟨rfl, b1⟩
  have b0 : Below w.heap.size w w1 := ((Below.refl _ _).alloc (Nat.le_refl _) _).trans (b1.mono (by simp))
  have S0 := PutS.made b0 ((Has.made w _ _).below b1 (by simp))
  clear b1 b0 HM
  have c0 := S0.op.cell 0
  simp only [List.getElem?_toArray, List.getElem?_cons_zero] at c0
  go_wp2_with fail
  have C0 := S0.call [0] 1 rfl (by omega) (by simp) (by simp) (w1.heap.size + 1) (by simp) #[.int .i64 0] rfl
  refine C0.mono ?_; rintro e w2 ⟨rfl, S1⟩
  clear C0 c0 S0
  have c0 : w2.cell? ⟨w.heap.size, 0, none⟩ = some (.int .i64 0) := S1.op.cell 0
  have c1 : w2.cell? ⟨w.heap.size, 1, none⟩ = some (.int .i64 so) := S1.op.cell 1
  have c2 : w2.cell? ⟨w.heap.size, 2, none⟩ = some (.int .i64 se) := S1.op.cell 2
  have c3 : w2.cell? ⟨w.heap.size, 3, none⟩ = some (.int .i64 ti) := S1.op.cell 3
  have c4 : w2.cell? ⟨w.heap.size, 4, none⟩ = some (.int .i64 va) := S1.op.cell 4
  go_wp2_with fail
  have C1 := S1.call [so, se, ti, va] 4 rfl (by omega) (by have := HV.out; simp; omega) (by have := encs_len (xs := [0]) (by simp); simp at this ⊢; omega) _ rfl #[.int .i64 so, .int .i64 se, .int .i64 ti, .int .i64 va] rfl
  refine C1.mono ?_; rintro e w3 ⟨rfl, S2⟩
  clear C1 c0 c1 c2 c3 c4 S1
  obtain ⟨v, h1, h2⟩ := S2.wr
  have HB := Lib.hid S2.old
  obtain ⟨A, c, rfl, _⟩ := h2.form
  have e0 : [] ++ encs [0] ++ encs [so, se, ti, va] = encs [0, so, se, ti, va] := by simp [encs]
  rw [e0] at h1 h2
  have hne : encs [0, so, se, ti, va] ≠ [] := by simp [encs, encL_ne]
  have HT := Lib.hid (fun _ : Unit => wrtext_any _ _ _ _ _ _ hne h1 h2)
  clear h1 h2 hne e0 S2
  go_wp2_with (go_at_call 43; refine (HT.out ()).mono ?_; rintro e w' ⟨rfl, rfl⟩)
  go_ret2
  exact ⟨rfl, HB.out⟩
set_option maxRecDepth 100000 in
set_option maxHeartbeats 400000 in
theorem put_1 (so se ti va : Int) (hm : MayO 1 so se ti va) (w : World) :
    Calls Try.prog 34 #[.agg #[.int .i64 1, .int .i64 so, .int .i64 se, .int .i64 ti, .int .i64 va]] w fun e w' => e = .returned (.tuple #[.string ⟨(encs [1, so, ti]).toArray⟩, .int .i64 0]) ∧ Below w.heap.size w w' := by
  have HM := Lib.hid (fun w : World => may_any 1 so se ti va true (mayB_yes hm) w)
  have HV := Lib.hid hm.wide
  clear hm
  go_enter Try.func34, Try.ntmps34
  go_wp2_with fail
  refine (HM.out _).mono ?_; rintro e w1 ⟨rfl, b1⟩
  have b0 : Below w.heap.size w w1 := ((Below.refl _ _).alloc (Nat.le_refl _) _).trans (b1.mono (by simp))
  have S0 := PutS.made b0 ((Has.made w _ _).below b1 (by simp))
  clear b1 b0 HM
  have c0 := S0.op.cell 0
  simp only [List.getElem?_toArray, List.getElem?_cons_zero] at c0
  go_wp2_with fail
  have C0 := S0.call [1] 1 rfl (by omega) (by simp) (by simp) (w1.heap.size + 1) (by simp) #[.int .i64 1] rfl
  refine C0.mono ?_; rintro e w2 ⟨rfl, S1⟩
  clear C0 c0 S0
  have c0 : w2.cell? ⟨w.heap.size, 0, none⟩ = some (.int .i64 1) := S1.op.cell 0
  have c1 : w2.cell? ⟨w.heap.size, 1, none⟩ = some (.int .i64 so) := S1.op.cell 1
  have c3 : w2.cell? ⟨w.heap.size, 3, none⟩ = some (.int .i64 ti) := S1.op.cell 3
  go_wp2_with fail
  have C1 := S1.call [so, ti] 2 rfl (by omega) (by have := HV.out; simp; omega) (by have := encs_len (xs := [1]) (by simp); simp at this ⊢; omega) _ rfl #[.int .i64 so, .int .i64 ti] rfl
  refine C1.mono ?_; rintro e w3 ⟨rfl, S2⟩
  clear C1 c0 c1 c3 S1
  obtain ⟨v, h1, h2⟩ := S2.wr
  have HB := Lib.hid S2.old
  obtain ⟨A, c, rfl, _⟩ := h2.form
  have e0 : [] ++ encs [1] ++ encs [so, ti] = encs [1, so, ti] := by simp [encs]
  rw [e0] at h1 h2
  have hne : encs [1, so, ti] ≠ [] := by simp [encs, encL_ne]
  have HT := Lib.hid (fun _ : Unit => wrtext_any _ _ _ _ _ _ hne h1 h2)
  clear h1 h2 hne e0 S2
  go_wp2_with (go_at_call 43; refine (HT.out ()).mono ?_; rintro e w' ⟨rfl, rfl⟩)
  go_ret2
  exact ⟨rfl, HB.out⟩
set_option maxRecDepth 100000 in
set_option maxHeartbeats 400000 in
theorem put_2 (so se ti va : Int) (hm : MayO 2 so se ti va) (w : World) :
    Calls Try.prog 34 #[.agg #[.int .i64 2, .int .i64 so, .int .i64 se, .int .i64 ti, .int .i64 va]] w fun e w' => e = .returned (.tuple #[.string ⟨(encs [2]).toArray⟩, .int .i64 0]) ∧ Below w.heap.size w w' := by
  have HM := Lib.hid (fun w : World => may_any 2 so se ti va true (mayB_yes hm) w)
  have HV := Lib.hid hm.wide
  clear hm
  go_enter Try.func34, Try.ntmps34
  go_wp2_with fail
  refine (HM.out _).mono ?_; rintro e w1 ⟨rfl, b1⟩
  have b0 : Below w.heap.size w w1 := ((Below.refl _ _).alloc (Nat.le_refl _) _).trans (b1.mono (by simp))
  have S0 := PutS.made b0 ((Has.made w _ _).below b1 (by simp))
  clear b1 b0 HM
  have c0 := S0.op.cell 0
  simp only [List.getElem?_toArray, List.getElem?_cons_zero] at c0
  go_wp2_with fail
  have C0 := S0.call [2] 1 rfl (by omega) (by simp) (by simp) (w1.heap.size + 1) (by simp) #[.int .i64 2] rfl
  refine C0.mono ?_; rintro e w2 ⟨rfl, S1⟩
  clear C0 c0 S0
  have c0 : w2.cell? ⟨w.heap.size, 0, none⟩ = some (.int .i64 2) := S1.op.cell 0
  obtain ⟨v, h1, h2⟩ := S1.wr
  have HB := Lib.hid S1.old
  obtain ⟨A, c, rfl, _⟩ := h2.form
  have e0 : [] ++ encs [2] = encs [2] := by simp [encs]
  rw [e0] at h1 h2
  have hne : encs [2] ≠ [] := by simp [encs, encL_ne]
  have HT := Lib.hid (fun _ : Unit => wrtext_any _ _ _ _ _ _ hne h1 h2)
  clear h1 h2 hne e0 S1
  go_wp2_with (go_at_call 43; refine (HT.out ()).mono ?_; rintro e w' ⟨rfl, rfl⟩)
  go_ret2
  exact ⟨rfl, HB.out⟩

end Go.Proofs.Ytoechlmahckchaa
