/-
  Walks: the reference's Div, Mod, Gcd.
-/
import Derived.Test.YtkbocjmdbfddhaaWFloor
import Derived.Test.YtkbocjmdbfddhaaWGcR
namespace Go.Proofs.Ytkbocjmdbfddhaa
open Go.RowKit





set_option maxHeartbeats 400000 in
theorem rgcd_bad1 (a b : Int) (ha : a < 1) (w : World) :
    Calls Try.prog 52 #[.int .i64 a, .int .i64 b] w fun e w' => e = .returned (.tuple #[.int .i64 0, .int .i64 300]) ∧ w = w' := by
  go_enter Try.func52, Try.ntmps52
  go_wp2
  go_ret2
  exact ⟨rfl, rfl⟩
set_option maxHeartbeats 400000 in
theorem rgcd_bad2 (a b : Int) (hb : b < 1) (w : World) :
    Calls Try.prog 52 #[.int .i64 a, .int .i64 b] w fun e w' => e = .returned (.tuple #[.int .i64 0, .int .i64 300]) ∧ w = w' := by
  by_cases ha : a < 1
  · exact rgcd_bad1 a b ha w
  · go_enter Try.func52, Try.ntmps52
    go_wp2
    go_ret2
    exact ⟨rfl, rfl⟩
set_option maxHeartbeats 400000 in
theorem down_ok (a b q : Int) (h1 : -9223372036854775808 ≤ a) (h2 : a ≤ 9223372036854775807) (hb : 1 ≤ b) (hq : a / b = q) (w : World) :
    Calls Try.prog 47 #[.int .i64 a, .int .i64 b] w fun e w' => e = .returned (.int .i64 q) ∧ w = w' := by
  subst hq
  obtain ⟨p1, p2⟩ := down_parts a b hb
  have q := div_bd a b h1 h2 hb
  have q2 := tdiv_bd a b h1 h2 hb
  by_cases hm : a.tmod b < 0
  · obtain ⟨e1, e2⟩ := p1 hm
    clear p1 p2 e2
    have q3 : -9223372036854775808 ≤ a.tdiv b - 1 := by omega
    have E1 := Lib.hid e1; clear e1
    go_enter Try.func47, Try.ntmps47
    go_wp2
    go_ret
    exact ⟨ret_int (by rw [E1.out]), rfl⟩
  · obtain ⟨e1, e2⟩ := p2 hm
    clear p1 p2 e2
    have E1 := Lib.hid e1; clear e1
    go_enter Try.func47, Try.ntmps47
    go_wp2
    go_ret
    exact ⟨ret_int (by rw [E1.out]), rfl⟩

end Go.Proofs.Ytkbocjmdbfddhaa
