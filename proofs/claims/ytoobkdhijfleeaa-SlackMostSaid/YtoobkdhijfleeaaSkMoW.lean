/-
  Walk: SlackMost: the slack against the law's own row.
-/
import Derived.Test.YtoobkdhijfleeaaSkMoP
import Derived.Test.YtoobkdhijfleeaaFMask
import Derived.Lib.MinMax
import Derived.IntWalk
namespace Go.Proofs.Ytoobkdhijfleeaa
open Go.RowKit

set_option maxRecDepth 100000 in
set_option maxHeartbeats 4000000 in
theorem slackmost_any (l : Int) (A : Option Addr) (n c : Nat) (xs : List Int) (w : World) (_ : (Lit.int .i64 l).wf = true) (hx : Ints w A n xs) (hn : n ≤ maxLen) (_ : ∀ x ∈ xs, (Lit.int .i64 x).wf = true) :
    Calls Try.prog 4 #[.int .i64 l, .slice A n c] w fun e w' => e = .returned (.bool true) ∧ Below w.heap.size w w' := by
  have HX := Lib.hid hx
  have hn63 : n ≤ 9223372036854775807 := by unfold maxLen at hn; omega
  clear hx hn
  obtain ⟨L, hL, hL0, hL1⟩ : ∃ k : Int, bits .and .i64 l 255 = k ∧ 0 ≤ k ∧ k ≤ 255 := ⟨_, mask255 l, by omega, by omega⟩
  have HA := Lib.hid (slawake_any w)
  go_enter Try.func4, Try.ntmps4
  go_wp2_with fail
  refine (HA.out).mono ?_; rintro e w1 ⟨rfl, b1⟩
  have B1 := Lib.hid b1
  clear b1 HA
  go_wp2_with fail
  refine (slnew_ok L _ (by omega)).mono ?_; rintro e w2 ⟨g, rfl, h2⟩
  have H0 : Hid (MoS w g w2.heap.size L 0 [] 0 none 0 w2) := Lib.hid (MoS.start (SlK.made h2 B1.out))
  clear h2 B1
  generalize w2.heap.size = B at H0
  go_wp2_with (go_at_call 10; refine (gnum_any _ _).mono ?_; rintro e w' ⟨rfl, rfl⟩)
  go_loopw [8, 9, 10] (fun v s i wr => ∃ (j : Nat) (K : Int) (ys : List Int) (A : Option Addr) (rc : Nat), j ≤ n ∧ j ≤ 30 ∧ v = .int .i64 K ∧ s = .slice A j rc ∧ i = .int .i64 j ∧ Hid (MoS w g B L K ys j A rc wr)) (fun _ _ i _ => n - (intOf i).toNat)
  case atStart => exact ⟨0, 0, [], none, 0, Nat.zero_le _, Nat.zero_le _, rfl, rfl, rfl, H0⟩
  case round =>
    clear H0
    obtain ⟨j, K, ys, A1, rc, hj, hj30, rfl, rfl, rfl, HS⟩ := hrel
    by_cases hlt : j < n
    · have hlt2 : (j : Int) < (n : Int) := by omega
      by_cases h30 : j < 30
      · have hlt3 : (j : Int) < 30 := by omega
        obtain ⟨b, f, rfl, hc⟩ := HX.out.at_ (k := 0) (by omega)
        obtain ⟨z, hzz⟩ : ∃ z, nth xs j = z := ⟨_, rfl⟩
        have hcz := hc j hlt
        rw [hzz] at hcz
        clear hc hzz
        have hcz2 : wr.cell? ⟨b, f + j, none⟩ = some (.int .i64 z) := (HS.out.slk.keep.cell (block_lt_of_cell hcz)).trans hcz
        obtain ⟨q0, hq, hq0, hq1⟩ : ∃ k : Int, bits .and .i64 z 1023 = k ∧ 0 ≤ k ∧ k ≤ 1023 := ⟨_, mask1023 z, by omega, by omega⟩
        obtain ⟨t, ht⟩ : ∃ t, q0 - 500 = t := ⟨_, rfl⟩
        have hwt : wrap64 (q0 - 500) = t := by rw [IntWalk.wrap64_in _ (by omega)]; exact ht
        have htb : -500 ≤ t ∧ t ≤ 523 := by omega
        clear hq0 hq1 ht
        have hok : okT t := ⟨by omega, by omega⟩
        obtain ⟨K2, hK2⟩ : ∃ u, max K (min L (topTo ys j - t)) = u := ⟨_, rfl⟩
        have hsee := see_ok g L (topTo ys j) K t K2 _ wr HS.out.slk.st hok ⟨HS.out.t0, HS.out.t1⟩ hK2 rfl
        have hwj : wantTo ys t L K j = K2 := by rw [wantTo_is HS.out.k0 hok, hK2]
        have HE := Lib.hid hsee
        have HW := Lib.hid hwj
        have hle : K ≤ K2 := by omega
        clear hsee hwj hK2 hcz
        go_wp2_with fail
        refine (HE.out).mono ?_; rintro e w3 ⟨rfl, h3⟩
        have H3 := Lib.hid (HS.out.see h3 hle)
        clear h3 HE hcz2 HS hle
        have hj63 : (j : Int) < 9223372036854775807 := by omega
        go_wp2_with fail
        go_loop [8, 13] (fun v i => ∃ p : Nat, p ≤ j ∧ i = .int .i64 p ∧ v = .int .i64 (wantTo ys t L K p)) (fun _ i => j - (intOf i).toNat)
        case atStart => exact ⟨0, Nat.zero_le _, rfl, rfl⟩
        case round =>
          obtain ⟨p, hp, rfl, rfl⟩ := hrel
          by_cases hpj : p < j
          · have hpj2 : (p : Int) < (j : Int) := by omega
            obtain ⟨b5, f5, rfl, hc5⟩ := H3.out.own.ints.at_ (k := 0) (by omega)
            have hcell := hc5 p hpj
            have hbd := H3.out.bd p hpj
            have hw5 : wrap64 (nth ys p - t) = nth ys p - t := IntWalk.wrap64_in _ (by omega)
            clear hc5 hbd
            go_wp2_with fail
            exact ⟨⟨p + 1, by omega, by go_num, rfl⟩, by simp [intOf]; omega⟩
          · obtain rfl : p = j := by omega
            have hpj2 : ¬ (p : Int) < (p : Int) := by omega
            rw [HW.out]
            have H4 := Lib.hid (H3.out.one (.cells #[.int .i64 t] 3))
            have hone : (w3.alloc (.cells #[.int .i64 t] 3)).cell? ⟨w3.heap.size, 0, none⟩ = some (.int .i64 t) := (Has.made w3 3 #[.int .i64 t]).cell 0
            have HO := Lib.hid hone
            clear hone
            go_wp2_with (refine app_intG (y := t) rfl _ _ rfl rfl H4.out.own rfl HO.out (by have := H4.out.len; omega) H4.out.lw ?_; intro A2 m2 r2 w5 hm2 ho5 hg5; rw [H4.out.len] at hm2; subst hm2)
            have H5 := Lib.hid (H4.out.next htb rfl ho5 hg5)
            clear ho5 hg5 HO H4 H3 HW
            go_wp2_with (go_at_call 10; refine (gnum_any _ _).mono ?_; rintro e w' ⟨rfl, rfl⟩)
            refine (k_any g L _ K2 _ H5.out.slk.st).mono ?_; rintro e w' ⟨rfl, rfl⟩
            go_wp2_with fail
            go_roundw
            case rel => exact ⟨p + 1, K2, _, A2, r2, by omega, by omega, rfl, rfl, by go_num, H5⟩
            case measure => simp [intOf]; omega
      · have hlt3 : ¬ (j : Int) < 30 := by omega
        have HK := Lib.hid HS.out.slk.keep
        clear HS
        go_wp2_with fail
        go_ret
        exact ⟨rfl, HK.out⟩
    · have hlt2 : ¬ (j : Int) < (n : Int) := by omega
      have HK := Lib.hid HS.out.slk.keep
      clear HS
      go_wp2_with fail
      go_ret
      exact ⟨rfl, HK.out⟩

end Go.Proofs.Ytoobkdhijfleeaa
