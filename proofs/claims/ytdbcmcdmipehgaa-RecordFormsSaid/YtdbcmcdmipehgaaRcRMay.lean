/-
  Walks: the reference's RecMay and what it calls (written by gen/rcrmay.py).
-/
import Derived.Test.YtdbcmcdmipehgaaRcMay
namespace Go.Proofs.Ytdbcmcdmipehgaa
open Go.RowKit

set_option maxHeartbeats 400000 in
theorem rin_yes (x m : Int) (hm : 0 ≤ m) (hm2 : m ≤ 9223372036854775807) (h : -m ≤ x) (h2 : x ≤ m) (w : World) :
    Calls Try.prog 40 #[.int .i64 x, .int .i64 m] w fun e w' => e = .returned (.bool true) ∧ w = w' := by
  go_enter Try.func40, Try.ntmps40
  go_wp2
  go_ret
  exact ⟨rfl, rfl⟩
set_option maxHeartbeats 400000 in
theorem rin_no (x m : Int) (hm : 0 ≤ m) (hm2 : m ≤ 9223372036854775807) (h : x < -m ∨ m < x) (w : World) :
    Calls Try.prog 40 #[.int .i64 x, .int .i64 m] w fun e w' => e = .returned (.bool false) ∧ w = w' := by
  by_cases h1 : -m ≤ x
  · have h2 : ¬ x ≤ m := by omega
    go_enter Try.func40, Try.ntmps40
    go_wp2
    go_ret
    exact ⟨rfl, rfl⟩
  · go_enter Try.func40, Try.ntmps40
    go_wp2
    go_ret
    exact ⟨rfl, rfl⟩

set_option maxRecDepth 100000 in
set_option maxHeartbeats 1000000 in
theorem rnoX_any (qu sr st en va : Int) (ov : Bool) (A : Option Addr) (n c : Nat) (hs : List Int) (v : Bool) (hv : decide (NoX qu sr st en va ov hs) = v) (w : World) (hn : hs.length = n) :
    Calls Try.prog 32 #[.agg #[.int .i64 qu, .int .i64 sr, .int .i64 st, .int .i64 en, .int .i64 va, .bool ov, .slice A n c]] w fun e w' => e = .returned (.bool v) ∧ Below w.heap.size w w' := by
  have hb := fun o => (Below.refl w.heap.size w).alloc (Nat.le_refl _) o
  by_cases h0 : n = 0
  · subst h0
    obtain rfl := List.eq_nil_of_length_eq_zero hn
    clear hn
    go_enter Try.func32, Try.ntmps32
    go_wp2
    all_goals
      go_ret
      exact ⟨ret_bool (by simp [NoX, *]) hv, hb _⟩
  · have q : ((n : Int) == 0) = false := by simpa using h0
    have hne : hs ≠ [] := fun e => h0 (by rw [← hn, e]; rfl)
    obtain rfl := bool_eq (decide_eq_false (fun k : NoX qu sr st en va ov hs => hne k.2.2.2.2.2.2)) hv
    clear hv hn hne h0
    go_enter Try.func32, Try.ntmps32
    go_wp2
    all_goals
      go_ret
      exact ⟨rfl, hb _⟩

set_option maxRecDepth 100000 in
set_option maxHeartbeats 1000000 in
theorem ritem_any (se ti sq : Int) (v : Bool) (hv : decide (SamM se ti sq) = v) (w : World) :
    Calls Try.prog 33 #[.agg #[.int .i64 se, .int .i64 ti, .int .i64 sq, .int .i64 0]] w fun e w' => e = .returned (.bool v) ∧ Below w.heap.size w w' := by
  have hb := fun o => (Below.refl w.heap.size w).alloc (Nat.le_refl _) o
  by_cases h1 : 0 ≤ se
  · have q1 : decide (0 ≤ se) = true := by simpa using h1
    by_cases h2 : se ≤ 1048575
    · have q2 : decide (se ≤ 1048575) = true := by simpa using h2
      by_cases h3 : -1099511627776 ≤ ti ∧ ti ≤ 1099511627776
      · by_cases h4 : 1 ≤ sq
        · have q4 : decide (1 ≤ sq) = true := by simpa using h4
          by_cases h5 : sq ≤ 1073741823
          · have q5 : decide (sq ≤ 1073741823) = true := by simpa using h5
            obtain rfl := bool_eq (decide_eq_true (show SamM se ti sq by unfold SamM; omega)) hv
            clear hv
            go_enter Try.func33, Try.ntmps33
            go_wp2_with (first
            | (go_at_call 40; refine (rin_yes _ _ (by omega) (by omega) (by omega) (by omega) _).mono ?_; rintro e w' ⟨rfl, rfl⟩)
            | (go_at_call 40; refine (rin_no _ _ (by omega) (by omega) (by omega) _).mono ?_; rintro e w' ⟨rfl, rfl⟩))
            go_ret
            exact ⟨rfl, hb _⟩
          · obtain rfl := bool_eq (decide_eq_false (show ¬ SamM se ti sq by unfold SamM; omega)) hv
            clear hv
            have q5 : decide (sq ≤ 1073741823) = false := by simpa using h5
            go_enter Try.func33, Try.ntmps33
            go_wp2_with (first
            | (go_at_call 40; refine (rin_yes _ _ (by omega) (by omega) (by omega) (by omega) _).mono ?_; rintro e w' ⟨rfl, rfl⟩)
            | (go_at_call 40; refine (rin_no _ _ (by omega) (by omega) (by omega) _).mono ?_; rintro e w' ⟨rfl, rfl⟩))
            go_ret
            exact ⟨rfl, hb _⟩
        · obtain rfl := bool_eq (decide_eq_false (show ¬ SamM se ti sq by unfold SamM; omega)) hv
          clear hv
          have q4 : decide (1 ≤ sq) = false := by simpa using h4
          go_enter Try.func33, Try.ntmps33
          go_wp2_with (first
            | (go_at_call 40; refine (rin_yes _ _ (by omega) (by omega) (by omega) (by omega) _).mono ?_; rintro e w' ⟨rfl, rfl⟩)
            | (go_at_call 40; refine (rin_no _ _ (by omega) (by omega) (by omega) _).mono ?_; rintro e w' ⟨rfl, rfl⟩))
          go_ret
          exact ⟨rfl, hb _⟩
      · obtain rfl := bool_eq (decide_eq_false (show ¬ SamM se ti sq by unfold SamM; omega)) hv
        clear hv
        go_enter Try.func33, Try.ntmps33
        go_wp2_with (first
            | (go_at_call 40; refine (rin_yes _ _ (by omega) (by omega) (by omega) (by omega) _).mono ?_; rintro e w' ⟨rfl, rfl⟩)
            | (go_at_call 40; refine (rin_no _ _ (by omega) (by omega) (by omega) _).mono ?_; rintro e w' ⟨rfl, rfl⟩))
        go_ret
        exact ⟨rfl, hb _⟩
    · obtain rfl := bool_eq (decide_eq_false (show ¬ SamM se ti sq by unfold SamM; omega)) hv
      clear hv
      have q2 : decide (se ≤ 1048575) = false := by simpa using h2
      go_enter Try.func33, Try.ntmps33
      go_wp2_with (first
            | (go_at_call 40; refine (rin_yes _ _ (by omega) (by omega) (by omega) (by omega) _).mono ?_; rintro e w' ⟨rfl, rfl⟩)
            | (go_at_call 40; refine (rin_no _ _ (by omega) (by omega) (by omega) _).mono ?_; rintro e w' ⟨rfl, rfl⟩))
      go_ret
      exact ⟨rfl, hb _⟩
  · obtain rfl := bool_eq (decide_eq_false (show ¬ SamM se ti sq by unfold SamM; omega)) hv
    clear hv
    have q1 : decide (0 ≤ se) = false := by simpa using h1
    go_enter Try.func33, Try.ntmps33
    go_wp2_with (first
            | (go_at_call 40; refine (rin_yes _ _ (by omega) (by omega) (by omega) (by omega) _).mono ?_; rintro e w' ⟨rfl, rfl⟩)
            | (go_at_call 40; refine (rin_no _ _ (by omega) (by omega) (by omega) _).mono ?_; rintro e w' ⟨rfl, rfl⟩))
    go_ret
    exact ⟨rfl, hb _⟩

set_option maxRecDepth 100000 in
set_option maxHeartbeats 1000000 in
theorem rres_bad (qu sr st en va : Int) (ov : Bool) (A : Option Addr) (n c : Nat) (hs : List Int) (v : Bool) (hv : decide (ResM qu sr st en va ov hs) = v) (w : World) (hno : ¬ ((0 ≤ qu ∧ qu ≤ 7) ∧ (0 ≤ sr ∧ sr ≤ 1048575) ∧ st < en ∧ -4398046511104 ≤ st ∧ en ≤ 4398046511104)) :
    Calls Try.prog 31 #[.agg #[.int .i64 qu, .int .i64 sr, .int .i64 st, .int .i64 en, .int .i64 va, .bool ov, .slice A n c]] w fun e w' => e = .returned (.bool v) ∧ Below w.heap.size w w' := by
  have hb := fun o => (Below.refl w.heap.size w).alloc (Nat.le_refl _) o
  obtain rfl := bool_eq (decide_eq_false (show ¬ ResM qu sr st en va ov hs by unfold ResM; omega)) hv
  clear hv
  by_cases h1 : 0 ≤ qu
  · have qh1 : decide (qu < 0) = false := by simpa using h1
    by_cases h2 : qu < 8
    · have qh2 : decide (8 ≤ qu) = false := by simpa using h2
      by_cases h3 : 0 ≤ sr
      · have qh3 : decide (sr < 0) = false := by simpa using h3
        by_cases h4 : sr ≤ 1048575
        · have qh4 : decide (1048575 < sr) = false := by simpa using h4
          by_cases h5 : st < en
          · have qh5 : decide (en ≤ st) = false := by simpa using h5
            by_cases h6 : -4398046511104 ≤ st
            · have qh6 : decide (st < -4398046511104) = false := by simpa using h6
              by_cases h7 : en ≤ 4398046511104
              · have qh7 : decide (4398046511104 < en) = false := by simpa using h7
                exact absurd ⟨⟨h1, by omega⟩, ⟨h3, h4⟩, h5, h6, h7⟩ hno
              · have qh7 : decide (4398046511104 < en) = true := by simpa using h7
                clear hno
                go_enter Try.func31, Try.ntmps31
                go_wp2_with fail
                go_ret
                exact ⟨rfl, hb _⟩
            · have qh6 : decide (st < -4398046511104) = true := by simpa using h6
              clear hno
              go_enter Try.func31, Try.ntmps31
              go_wp2_with fail
              go_ret
              exact ⟨rfl, hb _⟩
          · have qh5 : decide (en ≤ st) = true := by simpa using h5
            clear hno
            go_enter Try.func31, Try.ntmps31
            go_wp2_with fail
            go_ret
            exact ⟨rfl, hb _⟩
        · have qh4 : decide (1048575 < sr) = true := by simpa using h4
          clear hno
          go_enter Try.func31, Try.ntmps31
          go_wp2_with fail
          go_ret
          exact ⟨rfl, hb _⟩
      · have qh3 : decide (sr < 0) = true := by simpa using h3
        clear hno
        go_enter Try.func31, Try.ntmps31
        go_wp2_with fail
        go_ret
        exact ⟨rfl, hb _⟩
    · have qh2 : decide (8 ≤ qu) = true := by simpa using h2
      clear hno
      go_enter Try.func31, Try.ntmps31
      go_wp2_with fail
      go_ret
      exact ⟨rfl, hb _⟩
  · have qh1 : decide (qu < 0) = true := by simpa using h1
    clear hno
    go_enter Try.func31, Try.ntmps31
    go_wp2_with fail
    go_ret
    exact ⟨rfl, hb _⟩

set_option maxRecDepth 100000 in
set_option maxHeartbeats 1000000 in
theorem rres_out (qu sr st en va : Int) (ov : Bool) (A : Option Addr) (n c : Nat) (hx : (0 ≤ qu ∧ qu ≤ 7) ∧ (0 ≤ sr ∧ sr ≤ 1048575) ∧ st < en ∧ -4398046511104 ≤ st ∧ en ≤ 4398046511104) (hno : ¬ ((-72057594037927940 ≤ va ∧ va ≤ 72057594037927940) ∧ (ov = true → va = 0) ∧ n ≤ 9)) (w : World) :
    Calls Try.prog 31 #[.agg #[.int .i64 qu, .int .i64 sr, .int .i64 st, .int .i64 en, .int .i64 va, .bool ov, .slice A n c]] w fun e w' => e = .returned (.bool false) ∧ Below w.heap.size w w' := by
  have hb := fun o => (Below.refl w.heap.size w).alloc (Nat.le_refl _) o
  have q1 : decide (qu < 0) = false := by simp; omega
  have q2 : decide (8 ≤ qu) = false := by simp; omega
  have q3 : decide (sr < 0) = false := by simp; omega
  have q4 : decide (1048575 < sr) = false := by simp; omega
  have q5 : decide (en ≤ st) = false := by simp; omega
  have q6 : decide (st < -4398046511104) = false := by simp; omega
  have q7 : decide (4398046511104 < en) = false := by simp; omega
  clear hx
  by_cases h8 : -72057594037927940 ≤ va ∧ va ≤ 72057594037927940
  · by_cases h9 : ov = true → va = 0
    · have h10 : ¬ n ≤ 9 := fun h => hno ⟨h8, h9, h⟩
      have hq : (ov = false) ∨ (ov = true ∧ va = 0) := by cases ov with | false => exact .inl rfl | true => exact .inr ⟨rfl, h9 rfl⟩
      have q10 : decide (9 < (n : Int)) = true := by simp; omega
      have q11 : decide (9 < n) = true := by simp; omega
      clear hno h9
      rcases hq with rfl | ⟨rfl, rfl⟩
      · go_enter Try.func31, Try.ntmps31
        go_wp2_with (go_at_call 40; refine (rin_yes _ _ (by omega) (by omega) (by omega) (by omega) _).mono ?_; rintro e w' ⟨rfl, rfl⟩)
        go_ret
        exact ⟨rfl, hb _⟩
      · go_enter Try.func31, Try.ntmps31
        go_wp2_with (go_at_call 40; refine (rin_yes _ _ (by omega) (by omega) (by omega) (by omega) _).mono ?_; rintro e w' ⟨rfl, rfl⟩)
        go_ret
        exact ⟨rfl, hb _⟩
    · obtain ⟨rfl, hne⟩ : ov = true ∧ va ≠ 0 := by simpa using h9
      have q10 : (va != 0) = true := by simpa using hne
      clear hno h9 hne
      go_enter Try.func31, Try.ntmps31
      go_wp2_with (go_at_call 40; refine (rin_yes _ _ (by omega) (by omega) (by omega) (by omega) _).mono ?_; rintro e w' ⟨rfl, rfl⟩)
      go_ret
      exact ⟨rfl, hb _⟩
  · clear hno
    go_enter Try.func31, Try.ntmps31
    go_wp2_with (go_at_call 40; refine (rin_no _ _ (by omega) (by omega) (by omega) _).mono ?_; rintro e w' ⟨rfl, rfl⟩)
    go_ret
    exact ⟨rfl, hb _⟩

set_option maxRecDepth 100000 in
set_option maxHeartbeats 1000000 in
theorem rres_row (qu sr st en va : Int) (ov : Bool) (A : Option Addr) (n c : Nat) (hs : List Int) (v : Bool) (hv : decide (OutM va ov hs) = v) (w : World) (hI : Ints w A n hs) (hx : (0 ≤ qu ∧ qu ≤ 7) ∧ (0 ≤ sr ∧ sr ≤ 1048575) ∧ st < en ∧ -4398046511104 ≤ st ∧ en ≤ 4398046511104) (h8 : -72057594037927940 ≤ va ∧ va ≤ 72057594037927940) (h9 : ov = true → va = 0) (hl : n ≤ 9) :
    Calls Try.prog 31 #[.agg #[.int .i64 qu, .int .i64 sr, .int .i64 st, .int .i64 en, .int .i64 va, .bool ov, .slice A n c]] w fun e w' => e = .returned (.bool v) ∧ Below w.heap.size w w' := by
  have hb := fun o => (Below.refl w.heap.size w).alloc (Nat.le_refl _) o
  have q1 : decide (qu < 0) = false := by simp; omega
  have q2 : decide (8 ≤ qu) = false := by simp; omega
  have q3 : decide (sr < 0) = false := by simp; omega
  have q4 : decide (1048575 < sr) = false := by simp; omega
  have q5 : decide (en ≤ st) = false := by simp; omega
  have q6 : decide (st < -4398046511104) = false := by simp; omega
  have q7 : decide (4398046511104 < en) = false := by simp; omega
  have hlen := Lib.hid hI.1
  have HV := Lib.hid hv
  have HO := Lib.hid h9
  have H8 := Lib.hid h8
  have q8 : decide (9 < (n : Int)) = false := by simp; omega
  have q9 : decide (9 < n) = false := by simp; omega
  have hq : (ov = false) ∨ (ov = true ∧ va = 0) := by cases ov with | false => exact .inl rfl | true => exact .inr ⟨rfl, h9 rfl⟩
  clear hv hx h9
  rcases hq with rfl | ⟨rfl, rfl⟩
  · go_enter Try.func31, Try.ntmps31
    go_wp2_with (go_at_call 40; refine (rin_yes _ _ (by omega) (by omega) (by omega) (by omega) _).mono ?_; rintro e w' ⟨rfl, rfl⟩)
    go_loopw [3] (fun i wr => ∃ j : Nat, j ≤ n ∧ i = .int .i64 j ∧ Hid (∀ x, x < j → 0 ≤ nth hs x ∧ nth hs x ≤ 8192) ∧ wr = w.alloc (.cells #[.int .i64 qu, .int .i64 sr, .int .i64 st, .int .i64 en, .int .i64 va, .bool false, .slice A n c] 28)) (fun i _ => n - (intOf i).toNat)
    case atStart => exact ⟨0, Nat.zero_le _, rfl, fun x hx => absurd hx (Nat.not_lt_zero _), by first | rfl | trivial⟩
    case round =>
      obtain ⟨j, hj, rfl, HA, rfl⟩ := hrel
      by_cases hlt : j < n
      · obtain ⟨b, o, rfl, hc⟩ := hI.at_ (k := 0) (by omega)
        have hlt2 := block_lt_of_cell (hc j hlt)
        have hcell := hc j hlt
        have hjn : (j : Int) < (n : Int) := by omega
        clear hc
        by_cases hx : 0 ≤ nth hs j
        · have g1 : decide (nth hs j < 0) = false := by simp; omega
          by_cases hy : nth hs j ≤ 8192
          · have g2 : decide (8192 < nth hs j) = false := by simp; omega
            go_wp2_with fail
            go_roundw
            case rel => exact ⟨j + 1, by omega, by go_num, (fun x hx2 => by rcases Nat.lt_succ_iff_lt_or_eq.1 hx2 with h | rfl <;> first | exact HA.out x h | exact ⟨hx, hy⟩), by first | rfl | trivial⟩
            case measure => simp [intOf]; omega
          · have g2 : decide (8192 < nth hs j) = true := by simp; omega
            obtain rfl := bool_eq (decide_eq_false (outM_bad (hlen.out ▸ hlt) (by omega))) HV.out
            go_wp2_with fail
            go_ret
            exact ⟨rfl, hb _⟩
        · have g1 : decide (nth hs j < 0) = true := by simp; omega
          obtain rfl := bool_eq (decide_eq_false (outM_bad (hlen.out ▸ hlt) (by omega))) HV.out
          go_wp2_with fail
          go_ret
          exact ⟨rfl, hb _⟩
      · obtain rfl : j = n := by omega
        obtain rfl := bool_eq (decide_eq_true (outM_all (fun h => by cases h) (by rw [hlen.out]; exact hl) (by rw [hlen.out]; exact HA.out) H8.out)) HV.out
        go_wp2_with fail
        go_ret
        exact ⟨rfl, hb _⟩
  · go_enter Try.func31, Try.ntmps31
    go_wp2_with (go_at_call 40; refine (rin_yes _ _ (by omega) (by omega) (by omega) (by omega) _).mono ?_; rintro e w' ⟨rfl, rfl⟩)
    go_loopw [3] (fun i wr => ∃ j : Nat, j ≤ n ∧ i = .int .i64 j ∧ Hid (∀ x, x < j → 0 ≤ nth hs x ∧ nth hs x ≤ 8192) ∧ wr = w.alloc (.cells #[.int .i64 qu, .int .i64 sr, .int .i64 st, .int .i64 en, .int .i64 0, .bool true, .slice A n c] 28)) (fun i _ => n - (intOf i).toNat)
    case atStart => exact ⟨0, Nat.zero_le _, rfl, fun x hx => absurd hx (Nat.not_lt_zero _), by first | rfl | trivial⟩
    case round =>
      obtain ⟨j, hj, rfl, HA, rfl⟩ := hrel
      by_cases hlt : j < n
      · obtain ⟨b, o, rfl, hc⟩ := hI.at_ (k := 0) (by omega)
        have hlt2 := block_lt_of_cell (hc j hlt)
        have hcell := hc j hlt
        have hjn : (j : Int) < (n : Int) := by omega
        clear hc
        by_cases hx : 0 ≤ nth hs j
        · have g1 : decide (nth hs j < 0) = false := by simp; omega
          by_cases hy : nth hs j ≤ 8192
          · have g2 : decide (8192 < nth hs j) = false := by simp; omega
            go_wp2_with fail
            go_roundw
            case rel => exact ⟨j + 1, by omega, by go_num, (fun x hx2 => by rcases Nat.lt_succ_iff_lt_or_eq.1 hx2 with h | rfl <;> first | exact HA.out x h | exact ⟨hx, hy⟩), by first | rfl | trivial⟩
            case measure => simp [intOf]; omega
          · have g2 : decide (8192 < nth hs j) = true := by simp; omega
            obtain rfl := bool_eq (decide_eq_false (outM_bad (hlen.out ▸ hlt) (by omega))) HV.out
            go_wp2_with fail
            go_ret
            exact ⟨rfl, hb _⟩
        · have g1 : decide (nth hs j < 0) = true := by simp; omega
          obtain rfl := bool_eq (decide_eq_false (outM_bad (hlen.out ▸ hlt) (by omega))) HV.out
          go_wp2_with fail
          go_ret
          exact ⟨rfl, hb _⟩
      · obtain rfl : j = n := by omega
        obtain rfl := bool_eq (decide_eq_true (outM_all (fun _ => rfl) (by rw [hlen.out]; exact hl) (by rw [hlen.out]; exact HA.out) H8.out)) HV.out
        go_wp2_with fail
        go_ret
        exact ⟨rfl, hb _⟩

theorem rres_any (qu sr st en va : Int) (ov : Bool) (A : Option Addr) (n c : Nat) (hs : List Int) (v : Bool) (hv : decide (ResM qu sr st en va ov hs) = v) (w : World) (hI : Ints w A n hs) :
    Calls Try.prog 31 #[.agg #[.int .i64 qu, .int .i64 sr, .int .i64 st, .int .i64 en, .int .i64 va, .bool ov, .slice A n c]] w fun e w' => e = .returned (.bool v) ∧ Below w.heap.size w w' := by
  by_cases hx : (0 ≤ qu ∧ qu ≤ 7) ∧ (0 ≤ sr ∧ sr ≤ 1048575) ∧ st < en ∧ -4398046511104 ≤ st ∧ en ≤ 4398046511104
  · have hv2 : decide (OutM va ov hs) = v := (decide_eq_decide.2 (show OutM va ov hs ↔ ResM qu sr st en va ov hs from ⟨fun h => ⟨hx.1, hx.2.1, by omega, by omega, hx.2.2.1, h⟩, fun h => h.2.2.2.2.2⟩)).trans hv
    by_cases hy : (-72057594037927940 ≤ va ∧ va ≤ 72057594037927940) ∧ (ov = true → va = 0) ∧ n ≤ 9
    · exact rres_row qu sr st en va ov A n c hs v hv2 w hI hx hy.1 hy.2.1 hy.2.2
    · obtain rfl := bool_eq (decide_eq_false (fun k : OutM va ov hs => hy ⟨k.2.2.2, k.1, by have := k.2.1; rw [hI.1] at this; exact this⟩)) hv2
      exact rres_out qu sr st en va ov A n c hx hy w
  · exact rres_bad qu sr st en va ov A n c hs v hv w hx


end Go.Proofs.Ytdbcmcdmipehgaa
