/-
  Walks: cmp.Less, the library's isNaN, slices.BinarySearch over rising numbers, rules.Bucket, the reference's bucket.
-/
import Derived.Test.YtdoflmphkalicaaBounds
import Derived.Test.YtdoflmphkalicaaCmp
namespace Go.Proofs.Ytdoflmphkalicaa
open Go.RowKit

set_option maxRecDepth 100000 in
set_option maxHeartbeats 400000 in
theorem less_any (a b : Int) (w : World) :
    Calls Try.prog 94 #[.int .i64 a, .int .i64 b] w fun e w' => e = .returned (.bool (decide (a < b))) ∧ w = w' := by
  go_enter Try.func94, Try.ntmps94
  go_wp2
  go_ret
  exact ⟨rfl, rfl⟩

def Found (k : Nat) (w : World) (e : Ending) (w' : World) : Prop := ∃ q, e = .returned (.tuple #[.int .i64 (k : Int), .bool q]) ∧ w = w'

set_option maxRecDepth 100000 in
set_option maxHeartbeats 1000000 in
theorem search_any (A : Option Addr) (n c : Nat) (bs : List Int) (v : Int) (w : World) (hr : Ints w A n bs) (hn : n ≤ 8) (hup : ∀ i, i < bs.length - 1 → nth bs i < nth bs (i + 1)) :
    Calls Try.prog 81 #[.slice A n c, .int .i64 v] w (Found (bkt bs v) w) := by
  have HL := Lib.hid hr.1
  have HU := Lib.hid (rising_of hup); clear hup
  go_enter Try.func81, Try.ntmps81
  go_wp2
  go_loop [7, 8] (fun i j => ∃ a b : Nat, a ≤ b ∧ b ≤ n ∧ i = .int .i64 a ∧ j = .int .i64 b ∧ Hid (∀ x, x < a → nth bs x < v) ∧ Hid (∀ x, b ≤ x → x < n → v ≤ nth bs x)) (fun i j => (intOf j - intOf i).toNat)
  case atStart => exact ⟨0, n, Nat.zero_le _, Nat.le_refl _, rfl, rfl, fun x hx => absurd hx (Nat.not_lt_zero _), fun x h1 h2 => by omega⟩
  case round =>
    obtain ⟨i, j, hij, hjn, rfl, rfl, H1, H2⟩ := hrel
    by_cases hlt : i < j
    · obtain ⟨b, o, rfl, hc⟩ := hr.at_ (k := 0) (by omega)
      have hcell := hc ((i + j) / 2) (by omega)
      clear hc
      have e1 : ((i : Int) + j) / 2 = ((i + j) / 2 : Nat) := by omega
      have E1 := Lib.hid e1; clear e1
      by_cases hord : nth bs ((i + j) / 2) < v
      · go_wp2_with (go_at_call 94; refine (less_any _ _ _).mono ?_; rintro e w' ⟨rfl, rfl⟩)
        go_round
        case rel => exact ⟨(i + j) / 2 + 1, j, by omega, by omega, by rw [E1.out]; go_num, rfl, fun x hx => by
          rcases Nat.lt_succ_iff_lt_or_eq.1 hx with h | h
          · have := HU.out x ((i + j) / 2) h (by rw [HL.out]; omega); omega
          · rw [h]; exact hord, H2⟩
        case measure => simp [intOf]; omega
      · go_wp2_with (go_at_call 94; refine (less_any _ _ _).mono ?_; rintro e w' ⟨rfl, rfl⟩)
        go_round
        case rel => exact ⟨i, (i + j) / 2, by omega, by omega, rfl, by rw [E1.out], H1, fun x hx hxn => by
          rcases Nat.lt_or_eq_of_le hx with h | h
          · have := HU.out ((i + j) / 2) x h (by rw [HL.out]; omega); omega
          · rw [← h]; omega⟩
        case measure => simp [intOf]; omega
    · have hkn : i = j := by omega
      subst hkn
      have HB : Hid (bkt bs v = i) := bkt_eq (by rw [HL.out]; omega) H1.out (fun h => H2.out i (Nat.le_refl _) (by rw [HL.out] at h; exact h))
      by_cases hin : i < n
      · obtain ⟨b, o, rfl, hc⟩ := hr.at_ (k := 0) (by omega)
        have hcell := hc i hin
        clear hc
        by_cases heq : nth bs i = v
        · have h1 : (nth bs i == v) = true := by simp [heq]
          clear heq
          go_wp2
          go_ret2
          exact ⟨_, by rw [HB.out]; rfl, rfl⟩
        · have h1 : (nth bs i == v) = false := by simp [heq]
          clear heq
          go_wp2
          go_ret2
          exact ⟨_, by rw [HB.out]; rfl, rfl⟩
      · go_wp2
        go_ret2
        exact ⟨_, by rw [HB.out]; rfl, rfl⟩

set_option maxRecDepth 100000 in
set_option maxHeartbeats 400000 in
theorem bucket_any (A : Option Addr) (n c : Nat) (bs : List Int) (v : Int) (w : World) (hr : Ints w A n bs) (hn : n ≤ 8) (hup : ∀ i, i < bs.length - 1 → nth bs i < nth bs (i + 1)) :
    Calls Try.prog 60 #[.slice A n c, .int .i64 v] w fun e w' => e = .returned (.int .i64 (bkt bs v : Nat)) ∧ w = w' := by
  have H := Lib.hid (search_any A n c bs v w hr hn hup); clear hup
  go_enter Try.func60, Try.ntmps60
  go_wp2_with fail
  refine H.out.mono ?_
  rintro e w' ⟨q, rfl, rfl⟩
  go_wp2
  go_ret
  exact ⟨rfl, rfl⟩

set_option maxRecDepth 100000 in
set_option maxHeartbeats 1000000 in
theorem rbucket_any (A : Option Addr) (n c : Nat) (bs : List Int) (v : Int) (w : World) (hr : Ints w A n bs) (hn : n ≤ maxLen) :
    Calls Try.prog 61 #[.int .i64 v, .slice A n c] w fun e w' => e = .returned (.int .i64 (bkt bs v : Nat)) ∧ w = w' := by
  have HL := Lib.hid hr.1
  unfold maxLen at hn
  go_enter Try.func61, Try.ntmps61
  go_wp2
  go_loop [5] (fun i => ∃ a : Nat, a ≤ n ∧ i = .int .i64 a ∧ Hid (∀ x, x < a → nth bs x < v)) (fun i => n - (intOf i).toNat)
  case atStart => exact ⟨0, Nat.zero_le _, rfl, fun x hx => absurd hx (Nat.not_lt_zero _)⟩
  case round =>
    obtain ⟨i, hin, rfl, H1⟩ := hrel
    by_cases hlt : i < n
    · obtain ⟨b, o, rfl, hc⟩ := hr.at_ (k := 0) (by omega)
      have hcell := hc i hlt
      clear hc
      by_cases hord : nth bs i < v
      · go_wp2
        go_round
        case rel => exact ⟨i + 1, by omega, by go_num, fun x hx => by rcases Nat.lt_succ_iff_lt_or_eq.1 hx with h | rfl <;> first | exact H1.out x h | omega⟩
        case measure => simp [intOf]; omega
      · have HB : Hid (bkt bs v = i) := bkt_eq (by rw [HL.out]; omega) H1.out (fun _ => by omega)
        go_wp2
        go_ret
        exact ⟨by rw [HB.out]; rfl, rfl⟩
    · have HB : Hid (bkt bs v = i) := bkt_eq (by rw [HL.out]; omega) H1.out (fun h => by rw [HL.out] at h; omega)
      go_wp2
      go_ret
      exact ⟨by rw [HB.out]; rfl, rfl⟩

end Go.Proofs.Ytdoflmphkalicaa
