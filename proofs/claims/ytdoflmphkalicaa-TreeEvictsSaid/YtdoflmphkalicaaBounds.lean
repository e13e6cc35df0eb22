/-
  Walks: rules.Bounds, the reference's BoundsMay.
-/
import Derived.Test.YtdoflmphkalicaaLf
import Derived.Test.YtdoflmphkalicaaMem
import Derived.Deep.QuietTactic
namespace Go.Proofs.Ytdoflmphkalicaa
open Go.RowKit

set_option maxRecDepth 100000 in
set_option maxHeartbeats 1000000 in
theorem bounds_any (A : Option Addr) (n c : Nat) (bs : List Int) (w : World) (hr : Ints w A n bs) (hn : n ≤ maxLen) :
    Calls Try.prog 39 #[.slice A n c] w fun e w' => e = .returned (.bool (boundsB bs)) ∧ ∃ k, w' = w.drewN k := by
  have hlen := hr.1
  unfold maxLen at hn
  by_cases h8 : 8 < n
  · have hb : boundsB bs = false := boundsB_false (by rw [hlen]; omega)
    rw [hb]
    clear hb
    have HL := Lib.hid hlen; clear hlen
    go_enter Try.func39, Try.ntmps39
    go_wp2
    go_ret
    exact ⟨rfl, 0, rfl⟩
  · have HL := Lib.hid hlen; clear hlen
    go_enter Try.func39, Try.ntmps39
    go_wp2
    go_loop [11] (fun i => ∃ k : Nat, k ≤ n ∧ i = .int .i64 k ∧ ∀ i, i < k → inV (nth bs i) = true) (fun i => n - (intOf i).toNat)
    case atStart => exact ⟨0, Nat.zero_le _, rfl, fun i hi => absurd hi (Nat.not_lt_zero _)⟩
    case round =>
      obtain ⟨k, hk, rfl, hall⟩ := hrel
      have HA := Lib.hid hall; clear hall
      by_cases hlt : k < n
      · obtain ⟨b, o, rfl, hc⟩ := hr.at_ hlt
        have hcell := hc k hlt
        clear hc
        cases hv : wi (nth bs k) (-1099511627776) 1099511627776
        · go_wp2_with (go_at_call 70; refine (within_any _ _ _ _).mono ?_; rintro e w' ⟨rfl, rfl⟩)
          go_ret
          exact ⟨ret_bool (boundsB_false (fun h => by have := h.2.1 k (by rw [HL.out]; exact hlt); unfold inV at this; rw [hv] at this; cases this)).symm, 0, rfl⟩
        · go_wp2_with (go_at_call 70; refine (within_any _ _ _ _).mono ?_; rintro e w' ⟨rfl, rfl⟩)
          go_round
          case rel => exact ⟨k + 1, by omega, by go_num, fun i hi => by rcases Nat.lt_succ_iff_lt_or_eq.1 hi with h | rfl <;> first | exact HA.out i h | exact hv⟩
          case measure => simp [intOf]; omega
      · have hkn : k = n := by omega
        subst hkn
        go_wp2
        go_loopw [22] (fun i wr => ∃ j : Nat, j ≤ k - 1 ∧ i = .int .i64 j ∧ (∀ i, i < j → nth bs i < nth bs (i + 1)) ∧ ∃ m, wr = w.drewN m) (fun i _ => k - (intOf i).toNat)
        case atStart => exact ⟨0, Nat.zero_le _, rfl, fun i hi => absurd hi (Nat.not_lt_zero _), 0, rfl⟩
        case round =>
          obtain ⟨j, hj, rfl, hall, m, rfl⟩ := hrel
          have HB := Lib.hid hall; clear hall
          by_cases hlt : (j : Int) < (k : Int) - 1
          · obtain ⟨b, o, rfl, hc⟩ := hr.at_ (k := 0) (by omega)
            have hc0 := hc j (by omega)
            have hc1 := hc (j + 1) (by omega)
            clear hc
            have hjk : (j : Int) < (k : Int) := by omega
            have hjk1 : (j : Int) + 1 < (k : Int) := by omega
            by_cases hord : nth bs (j + 1) ≤ nth bs j
            · have q1 : IntKind.i64.wrap ((j : Int) + 1) = (j : Int) + 1 := IntWalk.i64_in _ (by omega)
              have q2 : 0 ≤ (j : Int) + 1 := by omega
              have q3 : ((j : Int) + 1).toNat = j + 1 := by omega
              go_wp2
              go_quiet (fail)
              clear q1 q2 q3
              go_wp2
              go_ret
              exact ⟨ret_bool (boundsB_false (fun h => by have := h.2.2 j (by rw [HL.out]; omega); omega)).symm, m + nq, by first | rfl | rw [World.drewN_drewN]⟩
            · have q1 : IntKind.i64.wrap ((j : Int) + 1) = (j : Int) + 1 := IntWalk.i64_in _ (by omega)
              have q2 : 0 ≤ (j : Int) + 1 := by omega
              have q3 : ((j : Int) + 1).toNat = j + 1 := by omega
              go_wp2
              go_quiet (fail)
              clear q1 q2 q3
              go_wp2
              go_roundw
              case rel => exact ⟨j + 1, by omega, by go_num, fun i hi => by rcases Nat.lt_succ_iff_lt_or_eq.1 hi with h | rfl <;> first | exact HB.out i h | omega, m + nq, by first | rfl | rw [World.drewN_drewN]⟩
              case measure => simp [intOf]; omega
          · go_wp2
            go_ret
            exact ⟨ret_bool (boundsB_mk ⟨by rw [HL.out]; omega, fun i hi => HA.out i (by rw [HL.out] at hi; exact hi), fun i hi => HB.out i (by rw [HL.out] at hi; omega)⟩).symm, m, rfl⟩

end Go.Proofs.Ytdoflmphkalicaa
