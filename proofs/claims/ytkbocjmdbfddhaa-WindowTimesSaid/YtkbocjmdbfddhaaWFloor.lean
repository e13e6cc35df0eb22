/-
  Walks: floor.Div, floor.Gcd; the helper Num.
-/
import Derived.Test.YtkbocjmdbfddhaaProg
import Derived.Test.YtkbocjmdbfddhaaWFloorP
import Derived.WalkKit
import Derived.WalkSpells
import Derived.WalkLawsBesides
import Derived.BigQuiet
import Derived.Deep.QuietTactic
import Derived.Lib.Hide
import Derived.Below
import Derived.Test.YtkbocjmdbfddhaaLf
namespace Go.Proofs.Ytkbocjmdbfddhaa
open Go.RowKit

theorem ret_pair {a b c d : Int} (h : a = b) (g : c = d) : Ending.returned (.tuple #[.int .i64 a, .int .i64 c]) = .returned (.tuple #[.int .i64 b, .int .i64 d]) := by rw [h, g]

set_option maxHeartbeats 400000 in
theorem wnum_any (n : Int) (w : World) :
    Calls Try.prog 17 #[.int .i64 n] w fun e w' => e = .returned (.int .i64 n) ∧ w = w' := by
  go_enter Try.func17, Try.ntmps17
  go_wp2
  go_ret
  exact ⟨rfl, rfl⟩

set_option maxHeartbeats 400000 in
theorem div_bad (a b : Int) (hb : b < 1) (w : World) :
    Calls Try.prog 44 #[.int .i64 a, .int .i64 b] w fun e w' => e = .returned (.tuple #[.int .i64 0, .int .i64 300]) ∧ w = w' := by
  go_enter Try.func44, Try.ntmps44
  go_wp2
  go_ret2
  exact ⟨rfl, rfl⟩


set_option maxHeartbeats 400000 in
theorem div_ok (a b q : Int) (h1 : -9223372036854775808 ≤ a) (h2 : a ≤ 9223372036854775807) (hb : 1 ≤ b) (hq : a / b = q) (w : World) :
    Calls Try.prog 44 #[.int .i64 a, .int .i64 b] w fun e w' => e = .returned (.tuple #[.int .i64 q, .int .i64 0]) ∧ w = w' := by
  subst hq
  obtain ⟨p1, p2⟩ := down_parts a b hb
  have q := div_bd a b h1 h2 hb
  have q2 := tdiv_bd a b h1 h2 hb
  by_cases hm : a.tmod b < 0
  · obtain ⟨e1, e2⟩ := p1 hm
    clear p1 p2 e2
    have q3 : -9223372036854775808 ≤ a.tdiv b - 1 := by omega
    have E1 := Lib.hid e1; clear e1
    go_enter Try.func44, Try.ntmps44
    go_wp2
    go_ret2
    exact ⟨ret_pair (by rw [E1.out]) rfl, rfl⟩
  · obtain ⟨e1, e2⟩ := p2 hm
    clear p1 p2 e2
    have E1 := Lib.hid e1; clear e1
    go_enter Try.func44, Try.ntmps44
    go_wp2
    go_ret2
    exact ⟨ret_pair (by rw [E1.out]) rfl, rfl⟩


set_option maxHeartbeats 400000 in
theorem gcd_bad1 (a b : Int) (ha : a < 1) (w : World) :
    Calls Try.prog 53 #[.int .i64 a, .int .i64 b] w fun e w' => e = .returned (.tuple #[.int .i64 0, .int .i64 300]) ∧ w = w' := by
  go_enter Try.func53, Try.ntmps53
  go_wp2
  go_ret2
  exact ⟨rfl, rfl⟩

set_option maxHeartbeats 400000 in
theorem gcd_bad2 (a b : Int) (hb : b < 1) (w : World) :
    Calls Try.prog 53 #[.int .i64 a, .int .i64 b] w fun e w' => e = .returned (.tuple #[.int .i64 0, .int .i64 300]) ∧ w = w' := by
  by_cases ha : a < 1
  · exact gcd_bad1 a b ha w
  · go_enter Try.func53, Try.ntmps53
    go_wp2
    go_ret2
    exact ⟨rfl, rfl⟩

set_option maxHeartbeats 1000000 in
theorem gcd_ok (a b g : Int) (ha : 1 ≤ a) (ham : a ≤ 9223372036854775807) (hb : 1 ≤ b) (hbm : b ≤ 9223372036854775807) (hg : gcdI a b = g) (w : World) :
    Calls Try.prog 53 #[.int .i64 a, .int .i64 b] w fun e w' => e = .returned (.tuple #[.int .i64 g, .int .i64 0]) ∧ ∃ k, w' = w.drewN k := by
  have HG := Lib.hid hg; clear hg
  go_enter Try.func53, Try.ntmps53
  go_wp2
  go_loopw [0, 1] (fun x y wr => ∃ (u v : Int) (k : Nat), x = .int .i64 u ∧ y = .int .i64 v ∧ 1 ≤ u ∧ u ≤ 9223372036854775807 ∧ 0 ≤ v ∧ v ≤ 9223372036854775807 ∧ Hid (gcdI u v = g) ∧ wr = w.drewN k) (fun _ y _ => (intOf y).toNat)
  case atStart => exact ⟨a, b, 0, rfl, rfl, ha, ham, by omega, hbm, HG, rfl⟩
  case round =>
    obtain ⟨u, v, k, rfl, rfl, u1, u2, v1, v2, HUV, rfl⟩ := hrel
    clear HG
    by_cases hv : 0 < v
    · have hm1 := Int.emod_nonneg u (show v ≠ 0 by omega)
      have hm2 := Int.emod_lt_of_pos u hv
      have HS : Hid (gcdI v (u % v) = g) := (gcd_step u v (by omega) v1).trans HUV.out
      have htm : u.tmod v = u % v := Int.tmod_eq_emod_of_nonneg (by omega)
      go_wp2_with fail
      go_quiet (fail)
      rw [World.drewN_drewN]
      go_wp2_with fail
      go_roundw
      case rel => exact ⟨v, u % v, _, rfl, rfl, by omega, v2, hm1, by omega, HS, rfl⟩
      case measure => simp [intOf]; omega
    · obtain rfl : v = 0 := by omega
      have hu := (gcd_zero u (by omega)).symm.trans HUV.out
      subst hu
      go_wp2
      go_ret2
      exact ⟨rfl, k, rfl⟩

end Go.Proofs.Ytkbocjmdbfddhaa
