/-
  Walk: the reference's histMay.
-/
import Derived.Test.YtgdeaddfkcokpaaRef
namespace Go.Proofs.Ytgdeaddfkcokpaa
open Go.RowKit

/-- Counts from 0 on, all together m. -/
def histR (hs : List Int) (m : Int) : Bool := decide ((∀ i, i < hs.length → 0 ≤ nth hs i) ∧ isum hs = m)
theorem isum_app (a b : List Int) : isum (a ++ b) = isum a + isum b := by
  induction a with
  | nil => simp [isum]
  | cons x r ih => simp only [List.cons_append, isum, ih]; omega
theorem isum_pos {h : List Int} (hp : ∀ i, i < h.length → 0 ≤ nth h i) : 0 ≤ isum h := by
  induction h with
  | nil => simp [isum]
  | cons x r ih =>
    have h0 := hp 0 (by simp)
    have := ih (fun i hi => by have := hp (i + 1) (by simpa using hi); rwa [nth_cons_succ] at this)
    rw [nth_cons_zero] at h0
    simp only [isum]; omega
theorem isum_take_leR {h : List Int} (hp : ∀ i, i < h.length → 0 ≤ nth h i) (k : Nat) : isum (h.take k) ≤ isum h := by
  have e : isum h = isum (h.take k) + isum (h.drop k) := by rw [← isum_app, List.take_append_drop]
  have : 0 ≤ isum (h.drop k) := isum_pos (fun i hi => by
    have := hp (k + i) (by simp at hi; omega)
    have e2 : nth (h.drop k) i = nth h (k + i) := by simp [nth]
    rw [e2]; exact this)
  omega

set_option maxRecDepth 100000 in
set_option maxHeartbeats 1000000 in
theorem rhist_any (A : Option Addr) (n c : Nat) (hs : List Int) (m : Int) (w : World) (hr : Ints w A n hs) (hm : 0 ≤ m ∧ m ≤ 8192) (hn : n ≤ maxLen) :
    Calls Try.prog 50 #[.slice A n c, .int .i64 m] w fun e w' => e = .returned (.bool (histR hs m)) ∧ w = w' := by
  have HL := Lib.hid hr.1
  unfold maxLen at hn
  obtain ⟨hm1, hm2⟩ := hm
  go_enter Try.func50, Try.ntmps50
  go_wp2
  go_loop [5, 6] (fun s i => ∃ (j : Nat) (L : Int), j ≤ n ∧ i = .int .i64 j ∧ s = .int .i64 L ∧ 0 ≤ L ∧ L ≤ 8192 ∧ Hid (isum (hs.take j) = m - L) ∧ Hid (∀ x, x < j → 0 ≤ nth hs x)) (fun _ i => n - (intOf i).toNat)
  case atStart => exact ⟨0, m, Nat.zero_le _, rfl, rfl, hm1, hm2, by simp [Hid, isum], fun x hx => absurd hx (Nat.not_lt_zero _)⟩
  case round =>
    obtain ⟨j, L, hj, rfl, rfl, hL0, hL1, HS, HA⟩ := hrel
    by_cases hlt : j < n
    · obtain ⟨b, o, rfl, hc⟩ := hr.at_ (k := 0) (by omega)
      have hcell := hc j hlt
      clear hc
      have HJ : Hid (j < hs.length) := by rw [Hid, HL.out]; exact hlt
      have HT : Hid (isum (hs.take (j + 1)) = m - L + nth hs j) := by rw [Hid, isum_take_succ HJ.out, HS.out]
      obtain ⟨v, hv⟩ : ∃ v, nth hs j = v := ⟨_, rfl⟩
      rw [hv] at HT hcell
      have HV := Lib.hid hv; clear hv
      by_cases h1 : v < 0
      · go_wp2
        go_ret
        exact ⟨ret_bool (decide_eq_false (fun k => by have := k.1 j HJ.out; rw [HV.out] at this; omega)).symm, rfl⟩
      · by_cases h2 : L < v
        · go_wp2
          go_ret
          exact ⟨ret_bool (decide_eq_false (fun k => by have := isum_take_leR k.1 (j + 1); rw [HT.out, k.2] at this; omega)).symm, rfl⟩
        · go_wp2
          go_round
          case rel => exact ⟨j + 1, L - v, by omega, by go_num, rfl, by omega, by omega, by rw [Hid, HT.out]; omega, fun x hx => by rcases Nat.lt_succ_iff_lt_or_eq.1 hx with h | rfl <;> first | exact HA.out x h | (rw [HV.out]; omega)⟩
          case measure => simp [intOf]; omega
    · have hkn : j = n := by omega
      subst hkn
      have HT : Hid (isum hs = m - L) := by have := HS.out; rwa [List.take_of_length_le (by rw [HL.out]; exact Nat.le_refl _)] at this
      have HE : Hid (histR hs m = (L == 0)) := by
        rw [Hid, Bool.eq_iff_iff, beq_iff_eq]
        unfold histR
        rw [decide_eq_true_eq, HT.out]
        exact ⟨fun h => by omega, fun h => ⟨fun i hi => HA.out i (by rw [HL.out] at hi; exact hi), by omega⟩⟩
      go_wp2
      go_ret
      exact ⟨ret_bool HE.out.symm, rfl⟩

end Go.Proofs.Ytgdeaddfkcokpaa
