/-
  Walks of package varint's leaves: fold, unfold, mayEnd; rules.Within; the helper Num.
-/
import Derived.Test.YtdbcmcdmipehgaaProg
import Derived.Test.YtdbcmcdmipehgaaVP
import Derived.Test.YtdbcmcdmipehgaaVBits
import Derived.WalkKit
import Derived.WalkSpells
import Derived.WalkLawsBesides
import Derived.BigQuiet
import Derived.Deep.QuietTactic
import Derived.Below
import Derived.Laws.Bits64
import Derived.Laws.Bits64b
namespace Go.Proofs.Ytdbcmcdmipehgaa
open Go.RowKit

theorem ret_v {k : IntKind} {a b : Int} (h : a = b) : Ending.returned (.int k a) = .returned (.int k b) := by rw [h]

set_option maxHeartbeats 400000 in
theorem num_any (n : Int) (w : World) :
    Calls Try.prog 10 #[.int .i64 n] w fun e w' => e = .returned (.int .i64 n) ∧ w = w' := by
  go_enter Try.func10, Try.ntmps10
  go_wp2
  go_ret
  exact ⟨rfl, rfl⟩

set_option maxHeartbeats 400000 in
theorem within_yes (n lo hi : Int) (w : World) (h1 : lo ≤ n) (h2 : n ≤ hi) :
    Calls Try.prog 30 #[.int .i64 n, .int .i64 lo, .int .i64 hi] w fun e w' => e = .returned (.bool true) ∧ w = w' := by
  go_enter Try.func30, Try.ntmps30
  go_wp2
  go_ret
  exact ⟨rfl, rfl⟩
set_option maxHeartbeats 400000 in
theorem within_no (n lo hi : Int) (w : World) (h : n < lo ∨ hi < n) :
    Calls Try.prog 30 #[.int .i64 n, .int .i64 lo, .int .i64 hi] w fun e w' => e = .returned (.bool false) ∧ w = w' := by
  by_cases h1 : lo ≤ n
  · have h2 : ¬ n ≤ hi := by omega
    go_enter Try.func30, Try.ntmps30
    go_wp2
    go_ret
    exact ⟨rfl, rfl⟩
  · go_enter Try.func30, Try.ntmps30
    go_wp2
    go_ret
    exact ⟨rfl, rfl⟩

set_option maxHeartbeats 400000 in
theorem mayEnd_any (i : Nat) (c : Int) (hi : i ≤ 9) (h0 : 0 ≤ c) (h1 : c ≤ 127) (w : World) :
    Calls Try.prog 42 #[.int .i64 i, .int .u8 c] w fun e w' => e = .returned (.bool (endB i c)) ∧ w = w' := by
  by_cases a : 0 < i
  · by_cases b : c = 0
    · rw [endB_zero a b]
      subst b
      have a' : (0 : Int) < i := by omega
      go_enter Try.func42, Try.ntmps42
      go_wp2
      go_ret
      exact ⟨rfl, rfl⟩
    · by_cases d : i < 9
      · rw [endB_true (by omega) (.inl d)]
        go_enter Try.func42, Try.ntmps42
        go_wp2
        go_ret
        exact ⟨rfl, rfl⟩
      · by_cases e : c ≤ 1
        · rw [endB_true (by omega) (.inr e)]
          go_enter Try.func42, Try.ntmps42
          go_wp2
          go_ret
          exact ⟨rfl, rfl⟩
        · rw [endB_last d e]
          have d' : decide ((i : Int) < 9) = false := by simp; omega
          go_enter Try.func42, Try.ntmps42
          go_wp2
          go_ret
          exact ⟨rfl, rfl⟩
  · obtain rfl : i = 0 := by omega
    rw [endB_true (by omega) (.inl (by omega))]
    go_enter Try.func42, Try.ntmps42
    go_wp2
    go_ret
    exact ⟨rfl, rfl⟩

theorem mayEnd_yes (i : Nat) (c : Int) (hi : i ≤ 9) (h0 : 0 ≤ c) (h1 : c ≤ 127) (h : Hid (endB i c = true)) (w : World) :
    Calls Try.prog 42 #[.int .i64 i, .int .u8 c] w fun e w' => e = .returned (.bool true) ∧ w = w' := by
  have := mayEnd_any i c hi h0 h1 w
  rwa [h.out] at this
theorem mayEnd_no (i : Nat) (c : Int) (hi : i ≤ 9) (h0 : 0 ≤ c) (h1 : c ≤ 127) (h : Hid (endB i c = false)) (w : World) :
    Calls Try.prog 42 #[.int .i64 i, .int .u8 c] w fun e w' => e = .returned (.bool false) ∧ w = w' := by
  have := mayEnd_any i c hi h0 h1 w
  rwa [h.out] at this

set_option maxHeartbeats 400000 in
theorem fold_any (x : Int) (l : -9223372036854775808 ≤ x) (u : x ≤ 9223372036854775807) (w : World) :
    Calls Try.prog 41 #[.int .i64 x] w fun e w' => e = .returned (.int .u64 (foldI x)) ∧ w = w' := by
  by_cases h : x < 0
  · rw [foldI_neg h]
    go_enter Try.func41, Try.ntmps41
    go_wp2
    go_ret
    exact ⟨ret_v (by rw [not_u64 _ (by rw [IntKind.wrap_u64]; omega) (by rw [IntKind.wrap_u64]; omega), IntKind.wrap_u64, IntKind.wrap_u64]; omega), rfl⟩
  · rw [foldI_pos h]
    go_enter Try.func41, Try.ntmps41
    go_wp2
    go_ret
    exact ⟨ret_v (by omega), rfl⟩

set_option maxHeartbeats 400000 in
theorem unfold_any (u : Int) (h0 : 0 ≤ u) (h1 : u < 18446744073709551616) (w : World) :
    Calls Try.prog 43 #[.int .u64 u] w fun e w' => e = .returned (.int .i64 (unfI u)) ∧ w = w' := by
  by_cases h : u % 2 = 1
  · have e : unfI u = -(u / 2) - 1 := if_pos h
    rw [e]; clear e
    have H := Lib.hid h; clear h
    have hb : (u % 2 == 1) = true := by rw [H.out]; rfl
    go_enter Try.func43, Try.ntmps43
    go_wp2
    go_ret
    exact ⟨ret_v (by omega), rfl⟩
  · have e : unfI u = u / 2 := if_neg h
    rw [e]; clear e
    have hb : (u % 2 == 1) = false := by simpa using h
    go_enter Try.func43, Try.ntmps43
    go_wp2
    go_ret
    exact ⟨ret_v (by omega), rfl⟩

end Go.Proofs.Ytdbcmcdmipehgaa
