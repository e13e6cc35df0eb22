/-
  Walks: See, the program's and the reference's.
-/
import Derived.Test.YtoobkdhijfleeaaSkSee
namespace Go.Proofs.Ytoobkdhijfleeaa
open Go.RowKit

theorem Wrote.later {ty : TypeId} {g : Nat} {cs : Array Value} {w w1 w2 : World} (h : Wrote ty g cs w w1) (hb : Below w1.heap.size w1 w2) : Wrote ty g cs w w2 := ⟨h.st.below hb h.st.lt, h.but.trans (below_butS hb _)⟩
theorem ite_max (x y : Int) : (if y > x then y else x) = max x y := by split <;> omega
theorem ite_min (x y : Int) : (if y < x then y else x) = min x y := by split <;> omega
theorem seeN_no {t : Int} (h : ¬ okT t) : seeN t = 1600 := by unfold seeN; rw [if_neg h]
theorem seeN_ok {t : Int} (h : okT t) : seeN t = 0 := by unfold seeN; rw [if_pos h]
theorem see_noC {L T K t : Int} (h : ¬ okT t) : slC L (seeT T t) (seeK L T K t) = slC L T K := by unfold seeT seeK; rw [if_neg h, if_neg h]
theorem see_noR {L M K t : Int} {b : Bool} (h : ¬ okT t) : srC L (seeB b t) (seeM b M t) (seeR L b M K t) = srC L b M K := by unfold seeB seeR seeM; rw [if_neg h, if_neg h, if_neg h]

set_option maxRecDepth 100000 in
set_option maxHeartbeats 1000000 in
theorem see_ok (g : Nat) (L T K t M N : Int) (w : World) (h : Has w g 43 (slC L T K)) (ht : okT t) (hT : -1099511627776 ≤ T ∧ T ≤ 1099511627776) (hM : max K (min L (T - t)) = M) (hN : max T t = N) :
    Calls Try.prog 12 #[.pointer (some ⟨g, 0, none⟩), .int .i64 t] w fun e w' => e = .returned (.int .i64 0) ∧ Wrote 43 g (slC L N M) w w' := by
  have H := Lib.hid h
  have hb0 : -9223372036854775808 ≤ T - t ∧ T - t ≤ 9223372036854775807 := by obtain ⟨h1, h2⟩ := ht; omega
  clear h
  go_enter Try.func12, Try.ntmps12
  go_wp2_with fail
  refine (gwithin_yes _ _ _ _ ht).mono ?_; rintro e w' ⟨rfl, rfl⟩
  go_upto_region 5 with fail
  refine sl5_any (g := g) (L := L) (T := T) (K := K) (t := t) (m := min L (T - t)) (M := M) ⟨rfl, rfl, rfl, H.out, hb0.1, hb0.2, ite_min _ _, by rw [ite_max]; exact hM⟩ (by kernel_rfl) ?_
  intro w2 hb2
  simp only [putAll, Act.put, List.setIfInBounds_toArray, List.set_cons_succ, List.set_cons_zero, List.drop_succ_cons, List.drop_zero]
  have H2 := Lib.hid (Wrote.below H.out hb2)
  have H3 : Hid (Wrote 43 g (slC L T M) w (w2.setCell ⟨g, 2, none⟩ (.int .i64 M))) := Lib.hid (H2.out.put 2 (.int .i64 M))
  have c2 : w2.cell? ⟨g, 2, none⟩ = some (.int .i64 K) := H2.out.st.cell 2
  have m2 : w2.frozen? ⟨g, 2, none⟩ = false := H2.out.st.mark 2
  clear H hb2 H2 hM
  go_upto_region 6 with fail
  clear c2 m2
  generalize w2.setCell ⟨g, 2, none⟩ (.int .i64 M) = w3 at H3 ⊢
  have c1 : w3.cell? ⟨g, 1, none⟩ = some (.int .i64 T) := H3.out.st.cell 1
  have m1 : w3.frozen? ⟨g, 1, none⟩ = false := H3.out.st.mark 1
  have H4 : Hid (Wrote 43 g (slC L N M) w (w3.setCell ⟨g, 1, none⟩ (.int .i64 N))) := Lib.hid (H3.out.put 1 (.int .i64 N))
  clear H3
  by_cases hc : t > T
  · obtain rfl : t = N := by omega
    go_wp2_with fail
    go_ret
    exact ⟨rfl, H4.out⟩
  · obtain rfl : T = N := by omega
    go_wp2_with fail
    go_ret
    exact ⟨rfl, H4.out⟩
set_option maxRecDepth 100000 in
set_option maxHeartbeats 400000 in
theorem see_any (g : Nat) (L T K t : Int) (w : World) (h : Has w g 43 (slC L T K)) (hT : -1099511627776 ≤ T ∧ T ≤ 1099511627776) :
    Calls Try.prog 12 #[.pointer (some ⟨g, 0, none⟩), .int .i64 t] w fun e w' => e = .returned (.int .i64 (seeN t)) ∧ Wrote 43 g (slC L (seeT T t) (seeK L T K t)) w w' := by
  by_cases ht : okT t
  · rw [seeN_ok ht]
    exact see_ok g L T K t _ _ w h ht hT (by unfold seeK; rw [if_pos ht]) (by unfold seeT; rw [if_pos ht])
  · rw [seeN_no ht, see_noC ht]
    have HX := Lib.hid (Wrote.refl h)
    have h2 : t < -1099511627776 ∨ 1099511627776 < t := by unfold okT at ht; omega
    clear h ht
    go_enter Try.func12, Try.ntmps12
    go_wp2_with fail
    refine (gwithin_no _ _ _ _ h2).mono ?_; rintro e w' ⟨rfl, rfl⟩
    go_wp2_with fail
    go_ret
    exact ⟨rfl, HX.out⟩

set_option maxRecDepth 100000 in
set_option maxHeartbeats 400000 in
theorem rwithin_ok (t : Int) (w : World) (h : okT t) :
    Calls Try.prog 17 #[.int .i64 t, .int .i64 1099511627776] w fun e w' => e = .returned (.bool true) ∧ w = w' := by
  obtain ⟨h1, h2⟩ := h
  have hw : wrap64 (-1099511627776) = -1099511627776 := IntWalk.wrap64_in _ (by omega)
  go_enter Try.func17, Try.ntmps17
  go_wp2_with fail
  go_ret
  exact ⟨rfl, rfl⟩
set_option maxRecDepth 100000 in
set_option maxHeartbeats 400000 in
theorem rwithin_no (t : Int) (w : World) (h : ¬ okT t) :
    Calls Try.prog 17 #[.int .i64 t, .int .i64 1099511627776] w fun e w' => e = .returned (.bool false) ∧ w = w' := by
  have hw : wrap64 (-1099511627776) = -1099511627776 := IntWalk.wrap64_in _ (by omega)
  unfold okT at h
  by_cases h1 : -1099511627776 ≤ t
  · have h2 : ¬ t ≤ 1099511627776 := by omega
    go_enter Try.func17, Try.ntmps17
    go_wp2_with fail
    go_ret
    exact ⟨rfl, rfl⟩
  · clear h
    go_enter Try.func17, Try.ntmps17
    go_wp2_with fail
    go_ret
    exact ⟨rfl, rfl⟩

set_option maxRecDepth 100000 in
set_option maxHeartbeats 1000000 in
/-- The reference's See behind its own greatest time. -/
theorem rsee_ok (y : Nat) (L M K t N R : Int) (b : Bool) (w : World) (h : Has w y 37 (srC L b M K)) (ht : okT t) (hM : -1099511627776 ≤ M ∧ M ≤ 1099511627776) (hN : (if b = true ∧ t ≤ M then M else t) = N) (hR : max K (min (N - t) L) = R) :
    Calls Try.prog 13 #[.pointer (some ⟨y, 0, none⟩), .int .i64 t] w fun e w' => e = .returned (.int .i64 0) ∧ Wrote 37 y (srC L true N R) w w' := by
  have H := Lib.hid (Wrote.refl h)
  have hNb : -1099511627776 ≤ N ∧ N ≤ 1099511627776 := by obtain ⟨h1, h2⟩ := ht; rw [← hN]; split <;> omega
  have c1 : w.cell? ⟨y, 1, none⟩ = some (.bool b) := h.cell 1
  have c2 : w.cell? ⟨y, 2, none⟩ = some (.int .i64 M) := h.cell 2
  have m2 : w.frozen? ⟨y, 2, none⟩ = false := h.mark 2
  have m1 : w.frozen? ⟨y, 1, none⟩ = false := h.mark 1
  clear h
  go_enter Try.func13, Try.ntmps13
  go_wp2_with fail
  refine (rwithin_ok _ _ ht).mono ?_; rintro e w' ⟨rfl, rfl⟩
  have hb0 : -9223372036854775808 ≤ N - t ∧ N - t ≤ 9223372036854775807 := by obtain ⟨h1, h2⟩ := ht; omega
  cases b with
  | false =>
    rw [if_neg (by simp)] at hN
    subst hN
    have HX : Hid (Wrote 37 y (srC L true t K) w ((w.setCell ⟨y, 2, none⟩ (.int .i64 t)).setCell ⟨y, 1, none⟩ (.bool true))) := Lib.hid ((H.out.put 2 (.int .i64 t)).put 1 (.bool true))
    clear H
    go_upto_region 6 with fail
    clear c1 c2 m1 m2
    generalize (w.setCell ⟨y, 2, none⟩ (.int .i64 t)).setCell ⟨y, 1, none⟩ (.bool true) = w3 at HX ⊢
    refine sr6_any (y := y) (L := L) (M := t) (K := K) (t := t) (m := min (t - t) L) (R := R) (b := true) ⟨rfl, rfl, rfl, HX.out.st, hb0.1, hb0.2, ite_min _ _, by rw [ite_max]; exact hR⟩ (by kernel_rfl) ?_
    intro w4 hb4
    simp only [putAll, Act.put, List.setIfInBounds_toArray, List.set_cons_succ, List.set_cons_zero, List.drop_succ_cons, List.drop_zero]
    have H4 := Lib.hid (HX.out.later hb4)
    have c3 : w4.cell? ⟨y, 3, none⟩ = some (.int .i64 K) := H4.out.st.cell 3
    have m3 : w4.frozen? ⟨y, 3, none⟩ = false := H4.out.st.mark 3
    have H5 : Hid (Wrote 37 y (srC L true t R) w (w4.setCell ⟨y, 3, none⟩ (.int .i64 R))) := Lib.hid (H4.out.put 3 (.int .i64 R))
    clear H4 HX hb4
    go_wp2_with fail
    go_ret
    exact ⟨rfl, H5.out⟩
  | true =>
    by_cases hc : t ≤ M
    · rw [if_pos ⟨rfl, hc⟩] at hN
      subst hN
      have hc2 : ¬ t > M := by omega
      have HX : Hid (Wrote 37 y (srC L true M K) w (w.setCell ⟨y, 1, none⟩ (.bool true))) := Lib.hid (H.out.put 1 (.bool true))
      clear H
      go_upto_region 6 with fail
      clear c1 c2 m1 m2
      generalize w.setCell ⟨y, 1, none⟩ (.bool true) = w3 at HX ⊢
      refine sr6_any (y := y) (L := L) (M := M) (K := K) (t := t) (m := min (M - t) L) (R := R) (b := true) ⟨rfl, rfl, rfl, HX.out.st, hb0.1, hb0.2, ite_min _ _, by rw [ite_max]; exact hR⟩ (by kernel_rfl) ?_
      intro w4 hb4
      simp only [putAll, Act.put, List.setIfInBounds_toArray, List.set_cons_succ, List.set_cons_zero, List.drop_succ_cons, List.drop_zero]
      have H4 := Lib.hid (HX.out.later hb4)
      have c3 : w4.cell? ⟨y, 3, none⟩ = some (.int .i64 K) := H4.out.st.cell 3
      have m3 : w4.frozen? ⟨y, 3, none⟩ = false := H4.out.st.mark 3
      have H5 : Hid (Wrote 37 y (srC L true M R) w (w4.setCell ⟨y, 3, none⟩ (.int .i64 R))) := Lib.hid (H4.out.put 3 (.int .i64 R))
      clear H4 HX hb4
      go_wp2_with fail
      go_ret
      exact ⟨rfl, H5.out⟩
    · rw [if_neg (fun h => hc h.2)] at hN
      subst hN
      have hc2 : t > M := by omega
      have HX : Hid (Wrote 37 y (srC L true t K) w ((w.setCell ⟨y, 2, none⟩ (.int .i64 t)).setCell ⟨y, 1, none⟩ (.bool true))) := Lib.hid ((H.out.put 2 (.int .i64 t)).put 1 (.bool true))
      clear H
      go_upto_region 6 with fail
      clear c1 c2 m1 m2
      generalize (w.setCell ⟨y, 2, none⟩ (.int .i64 t)).setCell ⟨y, 1, none⟩ (.bool true) = w3 at HX ⊢
      refine sr6_any (y := y) (L := L) (M := t) (K := K) (t := t) (m := min (t - t) L) (R := R) (b := true) ⟨rfl, rfl, rfl, HX.out.st, hb0.1, hb0.2, ite_min _ _, by rw [ite_max]; exact hR⟩ (by kernel_rfl) ?_
      intro w4 hb4
      simp only [putAll, Act.put, List.setIfInBounds_toArray, List.set_cons_succ, List.set_cons_zero, List.drop_succ_cons, List.drop_zero]
      have H4 := Lib.hid (HX.out.later hb4)
      have c3 : w4.cell? ⟨y, 3, none⟩ = some (.int .i64 K) := H4.out.st.cell 3
      have m3 : w4.frozen? ⟨y, 3, none⟩ = false := H4.out.st.mark 3
      have H5 : Hid (Wrote 37 y (srC L true t R) w (w4.setCell ⟨y, 3, none⟩ (.int .i64 R))) := Lib.hid (H4.out.put 3 (.int .i64 R))
      clear H4 HX hb4
      go_wp2_with fail
      go_ret
      exact ⟨rfl, H5.out⟩
set_option maxRecDepth 100000 in
set_option maxHeartbeats 400000 in
theorem rsee_any (y : Nat) (L M K t : Int) (b : Bool) (w : World) (h : Has w y 37 (srC L b M K)) (hM : -1099511627776 ≤ M ∧ M ≤ 1099511627776) :
    Calls Try.prog 13 #[.pointer (some ⟨y, 0, none⟩), .int .i64 t] w fun e w' => e = .returned (.int .i64 (seeN t)) ∧ Wrote 37 y (srC L (seeB b t) (seeM b M t) (seeR L b M K t)) w w' := by
  by_cases ht : okT t
  · have e1 : seeB b t = true := by unfold seeB; rw [if_pos ht]
    rw [seeN_ok ht, e1]
    exact rsee_ok y L M K t _ _ b w h ht hM (by unfold seeM; rw [if_pos ht]) (by unfold seeR; rw [if_pos ht])
  · rw [seeN_no ht, see_noR ht]
    have HX := Lib.hid (Wrote.refl h)
    have HW := Lib.hid (rwithin_no t w ht)
    clear h ht
    go_enter Try.func13, Try.ntmps13
    go_wp2_with fail
    refine (HW.out).mono ?_; rintro e w' ⟨rfl, rfl⟩
    go_wp2_with fail
    go_ret
    exact ⟨rfl, HX.out⟩

end Go.Proofs.Ytoobkdhijfleeaa
