/-
  Walks: wire.Put, of any operation; the reference's PutOp.
-/
import Derived.Test.YtoechlmahckchaaWiPut
import Derived.Test.YtoechlmahckchaaWiRg2
namespace Go.Proofs.Ytoechlmahckchaa
open Go.RowKit

set_option maxHeartbeats 400000 in
theorem wput_bad (kd so se ti va : Int) (hm : mayB kd so se ti va = false) (w : World) :
    Calls Try.prog 34 #[.agg #[.int .i64 kd, .int .i64 so, .int .i64 se, .int .i64 ti, .int .i64 va]] w fun e w' => e = .returned (.tuple #[.string ⟨#[]⟩, .int .i64 900]) ∧ Below w.heap.size w w' := by
  have HM := Lib.hid (fun w : World => may_any kd so se ti va false hm w)
  clear hm
  go_enter Try.func34, Try.ntmps34
  go_wp2_with fail
  refine (HM.out _).mono ?_; rintro e w1 ⟨rfl, b1⟩
  have b0 : Below w.heap.size w w1 := ((Below.refl _ _).alloc (Nat.le_refl _) _).trans (b1.mono (by simp))
  clear b1 HM
  go_wp2_with fail
  go_ret2
  exact ⟨rfl, b0⟩
set_option maxHeartbeats 400000 in
theorem rwput_bad (kd so se ti va : Int) (hm : mayB kd so se ti va = false) (w : World) :
    Calls Try.prog 36 #[.agg #[.int .i64 kd, .int .i64 so, .int .i64 se, .int .i64 ti, .int .i64 va]] w fun e w' => e = .returned (.tuple #[.string ⟨#[]⟩, .int .i64 900]) ∧ Below w.heap.size w w' := by
  have HM := Lib.hid (fun w : World => rmay_any kd so se ti va false hm w)
  clear hm
  go_enter Try.func36, Try.ntmps36
  go_wp2_with fail
  refine (HM.out _).mono ?_; rintro e w1 ⟨rfl, b1⟩
  have b0 : Below w.heap.size w w1 := ((Below.refl _ _).alloc (Nat.le_refl _) _).trans (b1.mono (by simp))
  clear b1 HM
  go_wp2_with fail
  go_ret2
  exact ⟨rfl, b0⟩

/-- What Put gives, by two names. -/
theorem wput_any (kd so se ti va : Int) (x : ByteArray) (z : Int) (h : putO kd so se ti va = (x, z)) (w : World) :
    Calls Try.prog 34 #[.agg #[.int .i64 kd, .int .i64 so, .int .i64 se, .int .i64 ti, .int .i64 va]] w fun e w' => e = .returned (.tuple #[.string x, .int .i64 z]) ∧ Below w.heap.size w w' := by
  by_cases hm : mayB kd so se ti va = true
  · have hM := mayB_iff.1 hm
    rw [putO, if_pos hm] at h
    injection h with h1 h2
    subst h1 h2
    have hk : kd = 0 ∨ kd = 1 ∨ kd = 2 := by have := hM.wide; omega
    rcases hk with rfl | rfl | rfl
    · exact put_0 so se ti va hM w
    · exact put_1 so se ti va hM w
    · exact put_2 so se ti va hM w
  · have hm : mayB kd so se ti va = false := by simpa using hm
    rw [putO, if_neg (by simp [hm])] at h
    injection h with h1 h2
    subst h1 h2
    exact wput_bad kd so se ti va hm w

theorem cat_bytes (a b : List UInt8) : (⟨a.toArray⟩ : ByteArray) ++ (⟨b.toArray⟩ : ByteArray) = ⟨(a ++ b).toArray⟩ := by
  rw [ByteArray.mk_append_mk]
set_option maxRecDepth 100000 in
set_option maxHeartbeats 400000 in
theorem rput_0 (so se ti va : Int) (hm : MayO 0 so se ti va) (w : World) :
    Calls Try.prog 36 #[.agg #[.int .i64 0, .int .i64 so, .int .i64 se, .int .i64 ti, .int .i64 va]] w fun e w' => e = .returned (.tuple #[.string ⟨(encs [0, so, se, ti, va]).toArray⟩, .int .i64 0]) ∧ Below w.heap.size w w' := by
  have HM := Lib.hid (fun w : World => rmay_any 0 so se ti va true (mayB_yes hm) w)
  have hv := hm.wide
  clear hm
  have HP := Lib.hid (fun w : World => rput_any 0 (by omega) (by omega) w)
  have z0 : (encS 0).size ≤ 10 := by rw [encS_size]; exact (encX_len (by omega) (by omega)).2
  have Hso := Lib.hid (fun w : World => rput_any so (by omega) (by omega) w)
  have zso : (encS so).size ≤ 10 := by rw [encS_size]; exact (encX_len (by omega) (by omega)).2
  have Hse := Lib.hid (fun w : World => rput_any se (by omega) (by omega) w)
  have zse : (encS se).size ≤ 10 := by rw [encS_size]; exact (encX_len (by omega) (by omega)).2
  have Hti := Lib.hid (fun w : World => rput_any ti (by omega) (by omega) w)
  have zti : (encS ti).size ≤ 10 := by rw [encS_size]; exact (encX_len (by omega) (by omega)).2
  have Hva := Lib.hid (fun w : World => rput_any va (by omega) (by omega) w)
  have zva : (encS va).size ≤ 10 := by rw [encS_size]; exact (encX_len (by omega) (by omega)).2
  have HS : Hid (encS 0 ++ encS so ++ encS se ++ encS ti ++ encS va = ⟨(encs [0, so, se, ti, va]).toArray⟩) := Lib.hid (by simp only [encS, cat_bytes, encs, List.append_assoc, List.append_nil])
  generalize (⟨(encs [0, so, se, ti, va]).toArray⟩ : ByteArray) = T at HS ⊢
  generalize encS 0 = p at HP HS z0
  generalize encS so = q1 at Hso HS zso
  generalize encS se = q2 at Hse HS zse
  generalize encS ti = q3 at Hti HS zti
  generalize encS va = q4 at Hva HS zva
  have Z := Lib.hid (And.intro z0 (And.intro zso (And.intro zse (And.intro zti zva))))
  clear z0 zso zse zti zva hv
  go_enter Try.func36, Try.ntmps36
  go_wp2_with fail
  refine (HM.out _).mono ?_; rintro e w1 ⟨rfl, b1⟩
  have b0 : Below w.heap.size w w1 := ((Below.refl _ _).alloc (Nat.le_refl _) _).trans (b1.mono (by simp))
  have o1 : Has w1 w.heap.size 49 _ := (Has.made w _ _).below b1 (by simp)
  clear b1 HM
  have c0 : w1.cell? ⟨w.heap.size, 0, none⟩ = some (.int .i64 0) := o1.cell 0
  go_wp2_with fail
  refine (HP.out _).mono ?_; rintro e w2 ⟨rfl, b2⟩
  have o2 := o1.below b2 o1.lt
  have b3 := b0.trans (b2.mono b0.size)
  clear o1 c0 b0 b2 HP
  have c0 : w2.cell? ⟨w.heap.size, 0, none⟩ = some (.int .i64 0) := o2.cell 0
  go_wp2_with fail
  refine po6_any (kd := 0) (so := so) (se := se) (ti := ti) (va := va) (p := p) (q1 := q1) (q2 := q2) (q3 := q3) (q4 := q4) (g := w.heap.size) ⟨rfl, rfl, rfl, o2, Z.out, Hso.out, Hse.out, Hti.out, Hva.out⟩ rfl (fun w3 b4 => ?_)
  have b5 := b3.trans (b4.mono b3.size)
  clear b3 b4 o2 c0 Z Hso Hse Hti Hva
  simp only [putAll, Act.put, List.setIfInBounds_toArray, List.set_cons_succ, List.set_cons_zero, List.drop_succ_cons, List.drop_zero]
  go_wp2_with fail
  go_ret2
  exact ⟨by rw [← HS.out]; rfl, b5⟩
set_option maxRecDepth 100000 in
set_option maxHeartbeats 400000 in
theorem rput_1 (so se ti va : Int) (hm : MayO 1 so se ti va) (w : World) :
    Calls Try.prog 36 #[.agg #[.int .i64 1, .int .i64 so, .int .i64 se, .int .i64 ti, .int .i64 va]] w fun e w' => e = .returned (.tuple #[.string ⟨(encs [1, so, ti]).toArray⟩, .int .i64 0]) ∧ Below w.heap.size w w' := by
  have HM := Lib.hid (fun w : World => rmay_any 1 so se ti va true (mayB_yes hm) w)
  have hv := hm.wide
  clear hm
  have HP := Lib.hid (fun w : World => rput_any 1 (by omega) (by omega) w)
  have z0 : (encS 1).size ≤ 10 := by rw [encS_size]; exact (encX_len (by omega) (by omega)).2
  have Hso := Lib.hid (fun w : World => rput_any so (by omega) (by omega) w)
  have zso : (encS so).size ≤ 10 := by rw [encS_size]; exact (encX_len (by omega) (by omega)).2
  have Hse := Lib.hid (fun w : World => rput_any se (by omega) (by omega) w)
  have zse : (encS se).size ≤ 10 := by rw [encS_size]; exact (encX_len (by omega) (by omega)).2
  have Hti := Lib.hid (fun w : World => rput_any ti (by omega) (by omega) w)
  have zti : (encS ti).size ≤ 10 := by rw [encS_size]; exact (encX_len (by omega) (by omega)).2
  have Hva := Lib.hid (fun w : World => rput_any va (by omega) (by omega) w)
  have zva : (encS va).size ≤ 10 := by rw [encS_size]; exact (encX_len (by omega) (by omega)).2
  have HS : Hid (encS 1 ++ encS so ++ encS ti = ⟨(encs [1, so, ti]).toArray⟩) := Lib.hid (by simp only [encS, cat_bytes, encs, List.append_assoc, List.append_nil])
  generalize (⟨(encs [1, so, ti]).toArray⟩ : ByteArray) = T at HS ⊢
  generalize encS 1 = p at HP HS z0
  generalize encS so = q1 at Hso HS zso
  generalize encS se = q2 at Hse zse
  generalize encS ti = q3 at Hti HS zti
  generalize encS va = q4 at Hva zva
  have Z := Lib.hid (And.intro z0 (And.intro zso (And.intro zse (And.intro zti zva))))
  clear z0 zso zse zti zva hv
  go_enter Try.func36, Try.ntmps36
  go_wp2_with fail
  refine (HM.out _).mono ?_; rintro e w1 ⟨rfl, b1⟩
  have b0 : Below w.heap.size w w1 := ((Below.refl _ _).alloc (Nat.le_refl _) _).trans (b1.mono (by simp))
  have o1 : Has w1 w.heap.size 49 _ := (Has.made w _ _).below b1 (by simp)
  clear b1 HM
  have c0 : w1.cell? ⟨w.heap.size, 0, none⟩ = some (.int .i64 1) := o1.cell 0
  go_wp2_with fail
  refine (HP.out _).mono ?_; rintro e w2 ⟨rfl, b2⟩
  have o2 := o1.below b2 o1.lt
  have b3 := b0.trans (b2.mono b0.size)
  clear o1 c0 b0 b2 HP
  have c0 : w2.cell? ⟨w.heap.size, 0, none⟩ = some (.int .i64 1) := o2.cell 0
  go_wp2_with fail
  refine po8_any (kd := 1) (so := so) (se := se) (ti := ti) (va := va) (p := p) (q1 := q1) (q2 := q2) (q3 := q3) (q4 := q4) (g := w.heap.size) ⟨rfl, rfl, rfl, o2, Z.out, Hso.out, Hti.out⟩ rfl (fun w3 b4 => ?_)
  have b5 := b3.trans (b4.mono b3.size)
  clear b3 b4 o2 c0 Z Hso Hse Hti Hva
  simp only [putAll, Act.put, List.setIfInBounds_toArray, List.set_cons_succ, List.set_cons_zero, List.drop_succ_cons, List.drop_zero]
  go_wp2_with fail
  go_ret2
  exact ⟨by rw [← HS.out]; rfl, b5⟩
set_option maxRecDepth 100000 in
set_option maxHeartbeats 400000 in
theorem rput_2 (so se ti va : Int) (hm : MayO 2 so se ti va) (w : World) :
    Calls Try.prog 36 #[.agg #[.int .i64 2, .int .i64 so, .int .i64 se, .int .i64 ti, .int .i64 va]] w fun e w' => e = .returned (.tuple #[.string ⟨(encs [2]).toArray⟩, .int .i64 0]) ∧ Below w.heap.size w w' := by
  have HM := Lib.hid (fun w : World => rmay_any 2 so se ti va true (mayB_yes hm) w)
  have hv := hm.wide
  clear hm
  have HP := Lib.hid (fun w : World => rput_any 2 (by omega) (by omega) w)
  have z0 : (encS 2).size ≤ 10 := by rw [encS_size]; exact (encX_len (by omega) (by omega)).2
  have Hso := Lib.hid (fun w : World => rput_any so (by omega) (by omega) w)
  have zso : (encS so).size ≤ 10 := by rw [encS_size]; exact (encX_len (by omega) (by omega)).2
  have Hse := Lib.hid (fun w : World => rput_any se (by omega) (by omega) w)
  have zse : (encS se).size ≤ 10 := by rw [encS_size]; exact (encX_len (by omega) (by omega)).2
  have Hti := Lib.hid (fun w : World => rput_any ti (by omega) (by omega) w)
  have zti : (encS ti).size ≤ 10 := by rw [encS_size]; exact (encX_len (by omega) (by omega)).2
  have Hva := Lib.hid (fun w : World => rput_any va (by omega) (by omega) w)
  have zva : (encS va).size ≤ 10 := by rw [encS_size]; exact (encX_len (by omega) (by omega)).2
  have HS : Hid (encS 2 = ⟨(encs [2]).toArray⟩) := Lib.hid (by simp only [encS, encs, List.append_nil])
  generalize (⟨(encs [2]).toArray⟩ : ByteArray) = T at HS ⊢
  generalize encS 2 = p at HP HS z0
  generalize encS so = q1 at Hso zso
  generalize encS se = q2 at Hse zse
  generalize encS ti = q3 at Hti zti
  generalize encS va = q4 at Hva zva
  have Z := Lib.hid (And.intro z0 (And.intro zso (And.intro zse (And.intro zti zva))))
  clear z0 zso zse zti zva hv
  go_enter Try.func36, Try.ntmps36
  go_wp2_with fail
  refine (HM.out _).mono ?_; rintro e w1 ⟨rfl, b1⟩
  have b0 : Below w.heap.size w w1 := ((Below.refl _ _).alloc (Nat.le_refl _) _).trans (b1.mono (by simp))
  have o1 : Has w1 w.heap.size 49 _ := (Has.made w _ _).below b1 (by simp)
  clear b1 HM
  have c0 : w1.cell? ⟨w.heap.size, 0, none⟩ = some (.int .i64 2) := o1.cell 0
  go_wp2_with fail
  refine (HP.out _).mono ?_; rintro e w2 ⟨rfl, b2⟩
  have o2 := o1.below b2 o1.lt
  have b3 := b0.trans (b2.mono b0.size)
  clear o1 c0 b0 b2 HP
  have c0 : w2.cell? ⟨w.heap.size, 0, none⟩ = some (.int .i64 2) := o2.cell 0
  go_wp2_with fail
  go_ret2
  exact ⟨by rw [← HS.out]; rfl, b3⟩
theorem rwput_any (kd so se ti va : Int) (x : ByteArray) (z : Int) (h : putO kd so se ti va = (x, z)) (w : World) :
    Calls Try.prog 36 #[.agg #[.int .i64 kd, .int .i64 so, .int .i64 se, .int .i64 ti, .int .i64 va]] w fun e w' => e = .returned (.tuple #[.string x, .int .i64 z]) ∧ Below w.heap.size w w' := by
  by_cases hm : mayB kd so se ti va = true
  · have hM := mayB_iff.1 hm
    rw [putO, if_pos hm] at h
    injection h with h1 h2
    subst h1 h2
    have hk : kd = 0 ∨ kd = 1 ∨ kd = 2 := by have := hM.wide; omega
    rcases hk with rfl | rfl | rfl
    · exact rput_0 so se ti va hM w
    · exact rput_1 so se ti va hM w
    · exact rput_2 so se ti va hM w
  · have hm : mayB kd so se ti va = false := by simpa using hm
    rw [putO, if_neg (by simp [hm])] at h
    injection h with h1 h2
    subst h1 h2
    exact rwput_bad kd so se ti va hm w

end Go.Proofs.Ytoechlmahckchaa
