/-
  Walks: record.May and what it calls (written by gen/rcmay.py).
-/
import Derived.Test.YtdbcmcdmipehgaaVLeaf
import Derived.Test.YtdbcmcdmipehgaaRcOp
namespace Go.Proofs.Ytdbcmcdmipehgaa
open Go.RowKit

theorem bool_eq {a b c : Bool} (h : a = b) (k : a = c) : b = c := h.symm.trans k
theorem ret_bool {a b c : Bool} (h : a = b) (k : a = c) : Ending.returned (.bool b) = .returned (.bool c) := by rw [bool_eq h k]

set_option maxRecDepth 100000 in
set_option maxHeartbeats 1000000 in
theorem noS_any (kd qu sr st en va : Int) (ov : Bool) (A : Option Addr) (n c : Nat) (se ti sq bd : Int) (v : Bool) (hv : decide (NoS se ti sq) = v) (w : World) :
    Calls Try.prog 27 #[.agg #[.int .i64 kd, .int .i64 qu, .int .i64 sr, .int .i64 st, .int .i64 en, .int .i64 va, .bool ov, .slice A n c, .int .i64 se, .int .i64 ti, .int .i64 sq, .int .i64 bd]] w fun e w' => e = .returned (.bool v) ∧ Below w.heap.size w w' := by
  have hb := fun o => (Below.refl w.heap.size w).alloc (Nat.le_refl _) o
  go_enter Try.func27, Try.ntmps27
  go_wp2
  all_goals
    go_ret
    exact ⟨ret_bool (by first | (simp [NoS, *]; done) | (simp [NoS, *]; rfl)) hv, hb _⟩

set_option maxRecDepth 100000 in
set_option maxHeartbeats 1000000 in
theorem sam_any (kd qu sr st en va : Int) (ov : Bool) (A : Option Addr) (n c : Nat) (se ti sq bd : Int) (v : Bool) (hv : decide (SamM se ti sq) = v) (w : World) :
    Calls Try.prog 28 #[.agg #[.int .i64 kd, .int .i64 qu, .int .i64 sr, .int .i64 st, .int .i64 en, .int .i64 va, .bool ov, .slice A n c, .int .i64 se, .int .i64 ti, .int .i64 sq, .int .i64 bd]] w fun e w' => e = .returned (.bool v) ∧ Below w.heap.size w w' := by
  have hb := fun o => (Below.refl w.heap.size w).alloc (Nat.le_refl _) o
  by_cases h1 : 0 ≤ se ∧ se ≤ 1048575
  · by_cases h2 : -1099511627776 ≤ ti ∧ ti ≤ 1099511627776
    · by_cases h3 : 1 ≤ sq ∧ sq ≤ 1073741823
      · obtain rfl := bool_eq (decide_eq_true (show SamM se ti sq by unfold SamM; omega)) hv
        clear hv
        go_enter Try.func28, Try.ntmps28
        go_wp2_with (first
            | (go_at_call 30; refine (within_yes _ _ _ _ (by omega) (by omega)).mono ?_; rintro e w' ⟨rfl, rfl⟩)
            | (go_at_call 30; refine (within_no _ _ _ _ (by omega)).mono ?_; rintro e w' ⟨rfl, rfl⟩))
        go_ret
        exact ⟨rfl, hb _⟩
      · obtain rfl := bool_eq (decide_eq_false (show ¬ SamM se ti sq by unfold SamM; omega)) hv
        clear hv
        go_enter Try.func28, Try.ntmps28
        go_wp2_with (first
            | (go_at_call 30; refine (within_yes _ _ _ _ (by omega) (by omega)).mono ?_; rintro e w' ⟨rfl, rfl⟩)
            | (go_at_call 30; refine (within_no _ _ _ _ (by omega)).mono ?_; rintro e w' ⟨rfl, rfl⟩))
        go_ret
        exact ⟨rfl, hb _⟩
    · obtain rfl := bool_eq (decide_eq_false (show ¬ SamM se ti sq by unfold SamM; omega)) hv
      clear hv
      go_enter Try.func28, Try.ntmps28
      go_wp2_with (first
            | (go_at_call 30; refine (within_yes _ _ _ _ (by omega) (by omega)).mono ?_; rintro e w' ⟨rfl, rfl⟩)
            | (go_at_call 30; refine (within_no _ _ _ _ (by omega)).mono ?_; rintro e w' ⟨rfl, rfl⟩))
      go_ret
      exact ⟨rfl, hb _⟩
  · obtain rfl := bool_eq (decide_eq_false (show ¬ SamM se ti sq by unfold SamM; omega)) hv
    clear hv
    go_enter Try.func28, Try.ntmps28
    go_wp2_with (first
            | (go_at_call 30; refine (within_yes _ _ _ _ (by omega) (by omega)).mono ?_; rintro e w' ⟨rfl, rfl⟩)
            | (go_at_call 30; refine (within_no _ _ _ _ (by omega)).mono ?_; rintro e w' ⟨rfl, rfl⟩))
    go_ret
    exact ⟨rfl, hb _⟩

set_option maxRecDepth 100000 in
set_option maxHeartbeats 1000000 in
theorem noX_any (qu sr st en va : Int) (ov : Bool) (A : Option Addr) (n c : Nat) (hs : List Int) (v : Bool) (hv : decide (NoX qu sr st en va ov hs) = v) (w : World) (hn : hs.length = n) :
    Calls Try.prog 29 #[.agg #[.int .i64 qu, .int .i64 sr, .int .i64 st, .int .i64 en, .int .i64 va, .bool ov, .slice A n c]] w fun e w' => e = .returned (.bool v) ∧ Below w.heap.size w w' := by
  have hb := fun o => (Below.refl w.heap.size w).alloc (Nat.le_refl _) o
  by_cases h0 : n = 0
  · subst h0
    obtain rfl := List.eq_nil_of_length_eq_zero hn
    clear hn
    go_enter Try.func29, Try.ntmps29
    go_wp2
    all_goals
      go_ret
      exact ⟨ret_bool (by simp [NoX, *]) hv, hb _⟩
  · have q : ((n : Int) == 0) = false := by simpa using h0
    have hne : hs ≠ [] := fun e => h0 (by rw [← hn, e]; rfl)
    obtain rfl := bool_eq (decide_eq_false (fun k : NoX qu sr st en va ov hs => hne k.2.2.2.2.2.2)) hv
    clear hv hn hne h0
    go_enter Try.func29, Try.ntmps29
    go_wp2
    all_goals
      go_ret
      exact ⟨rfl, hb _⟩

set_option maxHeartbeats 400000 in
theorem len_yes (n : Int) (h0 : 0 ≤ n) (h9 : n ≤ 9) (w : World) :
    Calls Try.prog 36 #[.int .i64 n] w fun e w' => e = .returned (.bool true) ∧ w = w' := by
  go_enter Try.func36, Try.ntmps36
  go_wp2_with (go_at_call 30; refine (within_yes _ _ _ _ (by omega) (by omega)).mono ?_; rintro e w' ⟨rfl, rfl⟩)
  go_ret
  exact ⟨rfl, rfl⟩
set_option maxHeartbeats 400000 in
theorem len_no (n : Int) (h : n < 0 ∨ 9 < n) (w : World) :
    Calls Try.prog 36 #[.int .i64 n] w fun e w' => e = .returned (.bool false) ∧ w = w' := by
  go_enter Try.func36, Try.ntmps36
  go_wp2_with (go_at_call 30; refine (within_no _ _ _ _ (by omega)).mono ?_; rintro e w' ⟨rfl, rfl⟩)
  go_ret
  exact ⟨rfl, rfl⟩

set_option maxRecDepth 100000 in
set_option maxHeartbeats 1000000 in
theorem out_over (va : Int) (A : Option Addr) (n c : Nat) (hne : va ≠ 0) (w : World) :
    Calls Try.prog 39 #[.agg #[.int .i64 va, .bool true, .slice A n c]] w fun e w' => e = .returned (.bool false) ∧ Below w.heap.size w w' := by
  have hb := fun o => (Below.refl w.heap.size w).alloc (Nat.le_refl _) o
  have q : (va != 0) = true := by simpa using hne
  clear hne
  go_enter Try.func39, Try.ntmps39
  go_wp2_with fail
  go_ret
  exact ⟨rfl, hb _⟩
set_option maxRecDepth 100000 in
set_option maxHeartbeats 1000000 in
theorem out_long (va : Int) (ov : Bool) (A : Option Addr) (n c : Nat) (hv : ov = true → va = 0) (hl : 9 < n) (w : World) :
    Calls Try.prog 39 #[.agg #[.int .i64 va, .bool ov, .slice A n c]] w fun e w' => e = .returned (.bool false) ∧ Below w.heap.size w w' := by
  have hb := fun o => (Below.refl w.heap.size w).alloc (Nat.le_refl _) o
  cases ov with
  | true =>
    obtain rfl := hv rfl
    clear hv
    go_enter Try.func39, Try.ntmps39
    go_wp2_with (go_at_call 36; refine (len_no _ (by omega) _).mono ?_; rintro e w' ⟨rfl, rfl⟩)
    go_ret
    exact ⟨rfl, hb _⟩
  | false =>
    clear hv
    go_enter Try.func39, Try.ntmps39
    go_wp2_with (go_at_call 36; refine (len_no _ (by omega) _).mono ?_; rintro e w' ⟨rfl, rfl⟩)
    go_ret
    exact ⟨rfl, hb _⟩
theorem outM_bad {va : Int} {ov : Bool} {hs : List Int} {j : Nat} (hj : j < hs.length) (h : nth hs j < 0 ∨ 8192 < nth hs j) : ¬ OutM va ov hs := by
  intro k
  have := k.2.2.1 (nth hs j) (by simp [nth, List.getElem?_eq_getElem hj])
  omega
theorem outM_all {va : Int} {ov : Bool} {hs : List Int} (hv : ov = true → va = 0) (hl : hs.length ≤ 9) (ha : ∀ x, x < hs.length → 0 ≤ nth hs x ∧ nth hs x ≤ 8192) (h : -72057594037927940 ≤ va ∧ va ≤ 72057594037927940) : OutM va ov hs := by
  refine ⟨hv, hl, fun x hx => ?_, h⟩
  obtain ⟨i, hi, rfl⟩ := List.getElem_of_mem hx
  have := ha i hi
  simpa [nth, List.getElem?_eq_getElem hi] using this

set_option maxRecDepth 100000 in
set_option maxHeartbeats 1000000 in
theorem out_row (va : Int) (ov : Bool) (A : Option Addr) (n c : Nat) (hs : List Int) (v : Bool) (hv : decide (OutM va ov hs) = v) (w : World) (hI : Ints w A n hs) (ho : ov = true → va = 0) (hl : n ≤ 9) :
    Calls Try.prog 39 #[.agg #[.int .i64 va, .bool ov, .slice A n c]] w fun e w' => e = .returned (.bool v) ∧ Below w.heap.size w w' := by
  have hb := fun o => (Below.refl w.heap.size w).alloc (Nat.le_refl _) o
  have hlen := Lib.hid hI.1
  have HV := Lib.hid hv
  have HO := Lib.hid ho
  have hq : (ov = false) ∨ (ov = true ∧ va = 0) := by cases ov with | false => exact .inl rfl | true => exact .inr ⟨rfl, ho rfl⟩
  clear hv ho
  rcases hq with rfl | ⟨rfl, rfl⟩
  · go_enter Try.func39, Try.ntmps39
    go_wp2_with (go_at_call 36; refine (len_yes _ (by omega) (by omega) _).mono ?_; rintro e w' ⟨rfl, rfl⟩)
    go_loopw [22] (fun i wr => ∃ j : Nat, j ≤ n ∧ i = .int .i64 j ∧ Hid (∀ x, x < j → 0 ≤ nth hs x ∧ nth hs x ≤ 8192) ∧ wr = w.alloc (.cells #[.int .i64 va, .bool false, .slice A n c] 26)) (fun i _ => n - (intOf i).toNat)
    case atStart => exact ⟨0, Nat.zero_le _, rfl, fun x hx => absurd hx (Nat.not_lt_zero _), by first | rfl | trivial⟩
    case round =>
      obtain ⟨j, hj, rfl, HA, rfl⟩ := hrel
      by_cases hlt : j < n
      · obtain ⟨b, o, rfl, hc⟩ := hI.at_ (k := 0) (by omega)
        have hlt2 := block_lt_of_cell (hc j hlt)
        have hcell := hc j hlt
        have hjn : (j : Int) < (n : Int) := by omega
        clear hc
        by_cases hx : 0 ≤ nth hs j ∧ nth hs j ≤ 8192
        · go_wp2_with (go_at_call 30; refine (within_yes _ _ _ _ (by omega) (by omega)).mono ?_; rintro e w' ⟨rfl, rfl⟩)
          go_roundw
          case rel => exact ⟨j + 1, by omega, by go_num, (fun x hx2 => by rcases Nat.lt_succ_iff_lt_or_eq.1 hx2 with h | rfl <;> first | exact HA.out x h | exact hx), by first | rfl | trivial⟩
          case measure => simp [intOf]; omega
        · obtain rfl := bool_eq (decide_eq_false (outM_bad (hlen.out ▸ hlt) (by omega))) HV.out
          go_wp2_with (go_at_call 30; refine (within_no _ _ _ _ (by omega)).mono ?_; rintro e w' ⟨rfl, rfl⟩)
          go_ret
          exact ⟨rfl, hb _⟩
      · obtain rfl : j = n := by omega
        by_cases hx : -72057594037927940 ≤ (va : Int) ∧ (va : Int) ≤ 72057594037927940
        · obtain rfl := bool_eq (decide_eq_true (outM_all (fun h => by cases h) (by rw [hlen.out]; exact hl) (by rw [hlen.out]; exact HA.out) hx)) HV.out
          go_wp2_with (go_at_call 30; refine (within_yes _ _ _ _ (by omega) (by omega)).mono ?_; rintro e w' ⟨rfl, rfl⟩)
          go_ret
          exact ⟨rfl, hb _⟩
        · obtain rfl := bool_eq (decide_eq_false (fun k : OutM _ _ hs => hx k.2.2.2)) HV.out
          go_wp2_with (go_at_call 30; refine (within_no _ _ _ _ (by omega)).mono ?_; rintro e w' ⟨rfl, rfl⟩)
          go_ret
          exact ⟨rfl, hb _⟩
  · go_enter Try.func39, Try.ntmps39
    go_wp2_with (go_at_call 36; refine (len_yes _ (by omega) (by omega) _).mono ?_; rintro e w' ⟨rfl, rfl⟩)
    go_loopw [22] (fun i wr => ∃ j : Nat, j ≤ n ∧ i = .int .i64 j ∧ Hid (∀ x, x < j → 0 ≤ nth hs x ∧ nth hs x ≤ 8192) ∧ wr = w.alloc (.cells #[.int .i64 0, .bool true, .slice A n c] 26)) (fun i _ => n - (intOf i).toNat)
    case atStart => exact ⟨0, Nat.zero_le _, rfl, fun x hx => absurd hx (Nat.not_lt_zero _), by first | rfl | trivial⟩
    case round =>
      obtain ⟨j, hj, rfl, HA, rfl⟩ := hrel
      by_cases hlt : j < n
      · obtain ⟨b, o, rfl, hc⟩ := hI.at_ (k := 0) (by omega)
        have hlt2 := block_lt_of_cell (hc j hlt)
        have hcell := hc j hlt
        have hjn : (j : Int) < (n : Int) := by omega
        clear hc
        by_cases hx : 0 ≤ nth hs j ∧ nth hs j ≤ 8192
        · go_wp2_with (go_at_call 30; refine (within_yes _ _ _ _ (by omega) (by omega)).mono ?_; rintro e w' ⟨rfl, rfl⟩)
          go_roundw
          case rel => exact ⟨j + 1, by omega, by go_num, (fun x hx2 => by rcases Nat.lt_succ_iff_lt_or_eq.1 hx2 with h | rfl <;> first | exact HA.out x h | exact hx), by first | rfl | trivial⟩
          case measure => simp [intOf]; omega
        · obtain rfl := bool_eq (decide_eq_false (outM_bad (hlen.out ▸ hlt) (by omega))) HV.out
          go_wp2_with (go_at_call 30; refine (within_no _ _ _ _ (by omega)).mono ?_; rintro e w' ⟨rfl, rfl⟩)
          go_ret
          exact ⟨rfl, hb _⟩
      · obtain rfl : j = n := by omega
        by_cases hx : -72057594037927940 ≤ (0 : Int) ∧ (0 : Int) ≤ 72057594037927940
        · obtain rfl := bool_eq (decide_eq_true (outM_all (fun _ => rfl) (by rw [hlen.out]; exact hl) (by rw [hlen.out]; exact HA.out) hx)) HV.out
          go_wp2_with (go_at_call 30; refine (within_yes _ _ _ _ (by omega) (by omega)).mono ?_; rintro e w' ⟨rfl, rfl⟩)
          go_ret
          exact ⟨rfl, hb _⟩
        · exact absurd ⟨by omega, by omega⟩ hx

theorem out_any (va : Int) (ov : Bool) (A : Option Addr) (n c : Nat) (hs : List Int) (v : Bool) (hv : decide (OutM va ov hs) = v) (w : World) (hI : Ints w A n hs) :
    Calls Try.prog 39 #[.agg #[.int .i64 va, .bool ov, .slice A n c]] w fun e w' => e = .returned (.bool v) ∧ Below w.heap.size w w' := by
  by_cases ho : ov = true → va = 0
  · by_cases hl : n ≤ 9
    · exact out_row va ov A n c hs v hv w hI ho hl
    · obtain rfl := bool_eq (decide_eq_false (fun k : OutM va ov hs => hl (by have := k.2.1; rw [hI.1] at this; exact this))) hv
      exact out_long va ov A n c ho (by omega) w
  · obtain rfl := bool_eq (decide_eq_false (fun k : OutM va ov hs => ho k.1)) hv
    obtain ⟨rfl, hne⟩ : ov = true ∧ va ≠ 0 := by simpa using ho
    exact out_over va A n c hne w

set_option maxRecDepth 100000 in
set_option maxHeartbeats 1000000 in
theorem res_any (qu sr st en va : Int) (ov : Bool) (A : Option Addr) (n c : Nat) (hs : List Int) (v : Bool) (hv : decide (ResM qu sr st en va ov hs) = v) (w : World) (hI : Ints w A n hs) :
    Calls Try.prog 26 #[.agg #[.int .i64 qu, .int .i64 sr, .int .i64 st, .int .i64 en, .int .i64 va, .bool ov, .slice A n c]] w fun e w' => e = .returned (.bool v) ∧ Below w.heap.size w w' := by
  have hb := fun o => (Below.refl w.heap.size w).alloc (Nat.le_refl _) o
  by_cases h1 : 0 ≤ qu ∧ qu ≤ 7
  · by_cases h2 : 0 ≤ sr ∧ sr ≤ 1048575
    · by_cases h3 : -4398046511104 ≤ st ∧ st ≤ 4398046511104
      · by_cases h4 : -4398046511104 ≤ en ∧ en ≤ 4398046511104
        · by_cases h5 : st < en
          · have hv2 : decide (OutM va ov hs) = v := (decide_eq_decide.2 (show OutM va ov hs ↔ ResM qu sr st en va ov hs from ⟨fun h => ⟨h1, h2, h3, h4, h5, h⟩, fun h => h.2.2.2.2.2⟩)).trans hv
            have HO := Lib.hid (fun (w : World) h => out_any va ov A n c hs v hv2 w h)
            clear hv hv2
            have HI := Lib.hid hI
            clear hI
            go_enter Try.func26, Try.ntmps26
            go_wp2_with (go_at_call 30; refine (within_yes _ _ _ _ (by omega) (by omega)).mono ?_; rintro e w' ⟨rfl, rfl⟩)
            refine (HO.out _ (HI.out.below (hb _))).mono ?_; rintro e w1 ⟨rfl, b1⟩
            have b2 := (hb _).trans (b1.mono (by simp))
            clear b1
            go_wp2_with fail
            go_ret
            exact ⟨rfl, b2⟩
          · obtain rfl := bool_eq (decide_eq_false (show ¬ ResM qu sr st en va ov hs by unfold ResM; omega)) hv
            clear hv
            have q : decide (st < en) = false := by simpa using h5
            go_enter Try.func26, Try.ntmps26
            go_wp2_with (first
            | (go_at_call 30; refine (within_yes _ _ _ _ (by omega) (by omega)).mono ?_; rintro e w' ⟨rfl, rfl⟩)
            | (go_at_call 30; refine (within_no _ _ _ _ (by omega)).mono ?_; rintro e w' ⟨rfl, rfl⟩))
            go_ret
            exact ⟨rfl, hb _⟩
        · obtain rfl := bool_eq (decide_eq_false (show ¬ ResM qu sr st en va ov hs by unfold ResM; omega)) hv
          clear hv
          go_enter Try.func26, Try.ntmps26
          go_wp2_with (first
            | (go_at_call 30; refine (within_yes _ _ _ _ (by omega) (by omega)).mono ?_; rintro e w' ⟨rfl, rfl⟩)
            | (go_at_call 30; refine (within_no _ _ _ _ (by omega)).mono ?_; rintro e w' ⟨rfl, rfl⟩))
          go_ret
          exact ⟨rfl, hb _⟩
      · obtain rfl := bool_eq (decide_eq_false (show ¬ ResM qu sr st en va ov hs by unfold ResM; omega)) hv
        clear hv
        go_enter Try.func26, Try.ntmps26
        go_wp2_with (first
            | (go_at_call 30; refine (within_yes _ _ _ _ (by omega) (by omega)).mono ?_; rintro e w' ⟨rfl, rfl⟩)
            | (go_at_call 30; refine (within_no _ _ _ _ (by omega)).mono ?_; rintro e w' ⟨rfl, rfl⟩))
        go_ret
        exact ⟨rfl, hb _⟩
    · obtain rfl := bool_eq (decide_eq_false (show ¬ ResM qu sr st en va ov hs by unfold ResM; omega)) hv
      clear hv
      go_enter Try.func26, Try.ntmps26
      go_wp2_with (first
            | (go_at_call 30; refine (within_yes _ _ _ _ (by omega) (by omega)).mono ?_; rintro e w' ⟨rfl, rfl⟩)
            | (go_at_call 30; refine (within_no _ _ _ _ (by omega)).mono ?_; rintro e w' ⟨rfl, rfl⟩))
      go_ret
      exact ⟨rfl, hb _⟩
  · obtain rfl := bool_eq (decide_eq_false (show ¬ ResM qu sr st en va ov hs by unfold ResM; omega)) hv
    clear hv
    go_enter Try.func26, Try.ntmps26
    go_wp2_with (first
            | (go_at_call 30; refine (within_yes _ _ _ _ (by omega) (by omega)).mono ?_; rintro e w' ⟨rfl, rfl⟩)
            | (go_at_call 30; refine (within_no _ _ _ _ (by omega)).mono ?_; rintro e w' ⟨rfl, rfl⟩))
    go_ret
    exact ⟨rfl, hb _⟩


end Go.Proofs.Ytdbcmcdmipehgaa
