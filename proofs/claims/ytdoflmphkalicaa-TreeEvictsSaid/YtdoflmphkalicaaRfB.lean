/-
  Walks of the reference's leaves: within, BoundsMay. (Out of XRef.)
-/
import Derived.Test.YtdoflmphkalicaaRWi
import Derived.Test.YtdoflmphkalicaaMem
import Derived.Deep.QuietTactic
namespace Go.Proofs.Ytdoflmphkalicaa
open Go.RowKit

set_option maxRecDepth 100000 in
set_option maxHeartbeats 1000000 in
theorem rbounds_any (A : Option Addr) (n c : Nat) (bs : List Int) (w : World) (hr : Ints w A n bs) (hn : n ≤ maxLen) :
    Calls Try.prog 41 #[.slice A n c] w fun e w' => e = .returned (.bool (boundsB bs)) ∧ ∃ k, w' = w.drewN k := by
  have hlen := hr.1
  unfold maxLen at hn
  have HL := Lib.hid hlen; clear hlen
  go_enter Try.func41, Try.ntmps41
  go_wp2
  go_loopw [3] (fun i wr => ∃ k : Nat, k ≤ n ∧ i = .int .i64 k ∧ Hid (∀ i, i < k → inV (nth bs i) = true) ∧ Hid (∀ i, i + 1 < k → nth bs i < nth bs (i + 1)) ∧ ∃ m, wr = w.drewN m) (fun i _ => n - (intOf i).toNat)
  case atStart => exact ⟨0, Nat.zero_le _, rfl, fun i hi => absurd hi (Nat.not_lt_zero _), fun i hi => by omega, 0, rfl⟩
  case round =>
    obtain ⟨k, hk, rfl, HA, HB, m, rfl⟩ := hrel
    by_cases hlt : k < n
    · obtain ⟨b, o, rfl, hc⟩ := hr.at_ hlt
      have hcell := hc k hlt
      have hlt2 : (k : Int) < (n : Int) := by omega
      cases hv : wi (nth bs k) (-1099511627776) 1099511627776
      · clear hc
        have HW : ∀ W, Calls Try.prog 68 #[.int .i64 (nth bs k), .int .i64 1099511627776] W fun e w' => e = .returned (.bool false) ∧ w' = W := fun W => hv ▸ (rwithin_any _ 1099511627776 W (by omega) (by omega)).mono fun e w2 h => ⟨h.1, h.2.symm⟩
        go_wp2
        go_quiet (first | (go_at_call 68; exact (HW _).mono fun e w2 h => ⟨h.1, _, h.2⟩))
        go_wp2
        go_ret
        exact ⟨ret_bool (boundsB_false (fun h => by have := h.2.1 k (by rw [HL.out]; exact hlt); unfold inV at this; rw [hv] at this; cases this)).symm, m + nq, by first | rfl | rw [World.drewN_drewN]⟩
      · have HW : ∀ W, Calls Try.prog 68 #[.int .i64 (nth bs k), .int .i64 1099511627776] W fun e w' => e = .returned (.bool true) ∧ w' = W := fun W => hv ▸ (rwithin_any _ 1099511627776 W (by omega) (by omega)).mono fun e w2 h => ⟨h.1, h.2.symm⟩
        cases k with
        | zero =>
          clear hc
          rw [Nat.add_zero] at hcell
          go_wp2
          go_quiet (first | (go_at_call 68; exact (HW _).mono fun e w2 h => ⟨h.1, _, h.2⟩))
          go_wp2
          go_roundw
          case rel => exact ⟨1, by omega, rfl, fun i hi => by obtain rfl : i = 0 := by omega
                                                              exact hv, fun i hi => by omega, m + nq, by first | rfl | rw [World.drewN_drewN]⟩
          case measure => simp [intOf]; omega
        | succ j =>
          have hcj := hc j (by omega)
          clear hc
          have q1 : IntKind.i64.wrap ((j : Int) + 1 - 1) = (j : Int) := by rw [show (j : Int) + 1 - 1 = j by omega]; exact IntWalk.i64_in _ (by omega)
          have q4 : ((j : Int) + 1).toNat = j + 1 := by omega
          have q5 : 0 ≤ (j : Int) + 1 := by omega
          have q6 : 0 < (j : Int) + 1 := by omega
          have q7 : (j : Int) < (n : Int) := by omega
          by_cases hord : nth bs (j + 1) ≤ nth bs j
          · go_wp2
            go_quiet (first | (go_at_call 68; exact (HW _).mono fun e w2 h => ⟨h.1, _, h.2⟩))
            go_wp2
            go_ret
            exact ⟨ret_bool (boundsB_false (fun h => by have := h.2.2 j (by rw [HL.out]; omega); omega)).symm, m + nq, by first | rfl | rw [World.drewN_drewN]⟩
          · go_wp2
            go_quiet (first | (go_at_call 68; exact (HW _).mono fun e w2 h => ⟨h.1, _, h.2⟩))
            clear q1 q4 q5 q6
            go_wp2
            go_roundw
            case rel => exact ⟨j + 2, by omega, by go_num, fun i hi => by rcases Nat.lt_succ_iff_lt_or_eq.1 hi with h | rfl <;> first | exact HA.out i h | exact hv, fun i hi => by
              by_cases e : i = j
              · subst e; omega
              · exact HB.out i (by omega), m + nq, by first | rfl | rw [World.drewN_drewN]⟩
            case measure => simp [intOf]; omega
    · have hkn : k = n := by omega
      subst hkn
      by_cases h8 : k ≤ 8
      · have e : Hid (boundsB bs = true) := boundsB_mk ⟨by rw [HL.out]; omega, fun i hi => HA.out i (by rw [HL.out] at hi; exact hi), fun i hi => HB.out i (by rw [HL.out] at hi; omega)⟩
        go_wp2
        go_ret
        exact ⟨ret_bool (by rw [e.out]; simp; omega), m, rfl⟩
      · have e : Hid (boundsB bs = false) := boundsB_false (fun h => h8 (by have := h.1; rw [HL.out] at this; exact this))
        go_wp2
        go_ret
        exact ⟨ret_bool (by rw [e.out]; simp; omega), m, rfl⟩

end Go.Proofs.Ytdoflmphkalicaa
