/-
  Walk: SlackForms: lateness, times that are none; lines of marks that are none.
-/
import Derived.Test.YtoobkdhijfleeaaSkAwake
import Derived.Test.YtoobkdhijfleeaaFMask
import Derived.IntWalk
namespace Go.Proofs.Ytoobkdhijfleeaa
open Go.RowKit

theorem tmodM (a : Int) : -1000000 < a.tmod 1000000 ∧ a.tmod 1000000 < 1000000 := by
  have h1 := Int.tmod_lt_of_pos a (show (0 : Int) < 1000000 by omega)
  have h2 := Int.lt_tmod_of_pos a (show (0 : Int) < 1000000 by omega)
  omega
theorem lineN_no {m L : Int} (h : ¬ okL m L) : lineN m L = -4398046511104 := by unfold lineN; rw [if_neg h]
theorem lineN_ok {m L : Int} (h : okL m L) : lineN m L = max (m - L) (-4398046511104) := by unfold lineN; rw [if_pos h]

set_option maxRecDepth 100000 in
set_option maxHeartbeats 4000000 in
theorem slackforms_any (x l m0 : Int) (w : World) (_ : (Lit.int .i64 x).wf = true) (_ : (Lit.int .i64 l).wf = true) (_ : (Lit.int .i64 m0).wf = true) :
    Calls Try.prog 5 #[.int .i64 x, .int .i64 l, .int .i64 m0] w fun e w' => e = .returned (.bool true) ∧ Below w.heap.size w w' := by
  obtain ⟨k0, hk, hk0, hk1⟩ : ∃ k : Int, bits .and .i64 x 1023 = k ∧ 0 ≤ k ∧ k ≤ 1023 := ⟨_, mask1023 x, by omega, by omega⟩
  obtain ⟨d, hd⟩ : ∃ d : Int, 1 + k0 = d := ⟨_, rfl⟩
  have hd1 : 1 ≤ d := by omega
  have hd2 : d ≤ 1024 := by omega
  obtain ⟨k, hkk, hl0, hl1⟩ : ∃ k : Int, bits .and .i64 l 1023 = k ∧ 0 ≤ k ∧ k ≤ 1023 := ⟨_, mask1023 l, by omega, by omega⟩
  obtain ⟨m, hm, hm0, hm1⟩ : ∃ m : Int, m0.tmod 1000000 = m ∧ -1000000 < m ∧ m < 1000000 := ⟨_, rfl, (tmodM m0).1, (tmodM m0).2⟩
  have hw0 : wrap64 (1 + k0) = d := by rw [IntWalk.wrap64_in _ (by omega)]; exact hd
  have hw1 : wrap64 (-d) = -d := IntWalk.wrap64_in _ (by omega)
  have hw2 : wrap64 (1073741824 + d) = 1073741824 + d := IntWalk.wrap64_in _ (by omega)
  have hw3 : wrap64 (1099511627776 + d) = 1099511627776 + d := IntWalk.wrap64_in _ (by omega)
  have hw4 : wrap64 (-1099511627776 - d) = -1099511627776 - d := IntWalk.wrap64_in _ (by omega)
  have hw5 : wrap64 m = m := IntWalk.wrap64_in _ (by omega)
  have hw6 : wrap64 (m - k) = m - k := IntWalk.wrap64_in _ (by omega)
  have hw7 : wrap64 (4398046511104 + d) = 4398046511104 + d := IntWalk.wrap64_in _ (by omega)
  have hw8 : wrap64 (-4398046511104 - d) = -4398046511104 - d := IntWalk.wrap64_in _ (by omega)
  have hw9 : wrap64 (-4398046511104 + k) = -4398046511104 + k := IntWalk.wrap64_in _ (by omega)
  have hw10 : wrap64 (k + d) = k + d := IntWalk.wrap64_in _ (by omega)
  have HA := Lib.hid (slawake_any w)
  go_enter Try.func5, Try.ntmps5
  go_wp2_with fail
  refine (HA.out).mono ?_; rintro e w1 ⟨rfl, b1⟩
  have B1 := Lib.hid b1
  clear b1 HA
  go_wp2_with fail
  refine (slnew_no (-d) _ (.inl (by omega))).mono ?_; rintro e w2 ⟨rfl, rfl⟩
  go_wp2_with fail
  refine (slnew_no (1073741824 + d) _ (.inr (by omega))).mono ?_; rintro e w2 ⟨rfl, rfl⟩
  go_wp2_with fail
  refine (slnew_ok 1073741824 _ (by decide)).mono ?_; rintro e w3 ⟨g, rfl, h3⟩
  have H3 := Lib.hid (SlK.made (w0 := w) h3 B1.out)
  clear h3 B1
  go_wp2_with (go_at_call 10; refine (gnum_any _ _).mono ?_; rintro e w' ⟨rfl, rfl⟩)
  refine (see_val w g 1073741824 _ 0 1099511627776 0 1099511627776 0 _ H3.out (by decide) (by decide) (by decide) (by decide)).mono ?_; rintro e w4 ⟨rfl, h4⟩
  have H4 := Lib.hid h4
  clear h4 H3
  have hn1 : ¬ okT (1099511627776 + d) := by unfold okT; omega
  have hn2 : ¬ okT (-1099511627776 - d) := by unfold okT; omega
  have see_no : ∀ t, ¬ okT t → ∀ u, SlK w g 1073741824 1099511627776 0 u → Calls Try.prog 12 #[.pointer (some ⟨g, 0, none⟩), .int .i64 t] u fun e w' => e = .returned (.int .i64 1600) ∧ SlK w g 1073741824 1099511627776 0 w' := fun t ht u hu =>
    see_val w g 1073741824 1099511627776 0 t 1600 1099511627776 0 u hu (by decide) (seeN_no ht) (by unfold seeT; rw [if_neg ht]) (by unfold seeK; rw [if_neg ht])
  have HS := Lib.hid see_no
  clear see_no
  go_wp2_with fail
  refine (HS.out _ hn1 _ H4.out).mono ?_; rintro e w5 ⟨rfl, h5⟩
  have H5 := Lib.hid h5
  clear h5 H4
  go_wp2_with fail
  refine (HS.out _ hn2 _ H5.out).mono ?_; rintro e w6 ⟨rfl, h6⟩
  have H6 := Lib.hid h6
  clear h6 H5 HS hn1 hn2
  have hp1 : lineN m k = m - k := by rw [lineN_ok ⟨by omega, by omega, by omega, by omega⟩]; omega
  have hp2 : lineN m (-d) = -4398046511104 := lineN_no (fun h => by have := h.2.2.1; omega)
  have hp3 : lineN (4398046511104 + d) k = -4398046511104 := lineN_no (fun h => by have := h.2.1; omega)
  have hp4 : lineN (-4398046511104 - d) k = -4398046511104 := lineN_no (fun h => by have := h.1; omega)
  have hp5 : lineN (-4398046511104 + k) (k + d) = -4398046511104 := by rw [lineN_ok ⟨by omega, by omega, by omega, by omega⟩]; omega
  have HP := Lib.hid (And.intro hp1 (And.intro hp2 (And.intro hp3 (And.intro hp4 hp5))))
  clear hp1 hp2 hp3 hp4 hp5
  go_wp2_with (go_at_call 10; refine (gnum_any _ _).mono ?_; rintro e w' ⟨rfl, rfl⟩)
  refine (k_any g 1073741824 1099511627776 0 _ H6.out.st).mono ?_; rintro e w' ⟨rfl, rfl⟩
  go_wp2_with fail
  refine (line_val m k (m - k) _ HP.out.1).mono ?_; rintro e w' ⟨rfl, rfl⟩
  go_wp2_with fail
  refine (line_val m (-d) _ _ HP.out.2.1).mono ?_; rintro e w' ⟨rfl, rfl⟩
  go_wp2_with fail
  refine (line_val (4398046511104 + d) k _ _ HP.out.2.2.1).mono ?_; rintro e w' ⟨rfl, rfl⟩
  go_wp2_with fail
  refine (line_val (-4398046511104 - d) k _ _ HP.out.2.2.2.1).mono ?_; rintro e w' ⟨rfl, rfl⟩
  go_wp2_with fail
  refine (line_val (-4398046511104 + k) (k + d) _ _ HP.out.2.2.2.2).mono ?_; rintro e w' ⟨rfl, rfl⟩
  go_wp2_with fail
  go_ret
  exact ⟨rfl, H6.out.keep⟩

end Go.Proofs.Ytoobkdhijfleeaa
