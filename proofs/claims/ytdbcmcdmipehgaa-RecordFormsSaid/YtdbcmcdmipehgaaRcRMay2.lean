/-
  Walk: the reference's RecMay (written by gen/rcrmay2.py).
-/
import Derived.Test.YtdbcmcdmipehgaaRcRMay
namespace Go.Proofs.Ytdbcmcdmipehgaa
open Go.RowKit

theorem plain_cases (se ti sq : Int) : (NoS se ti sq ∧ (se == 0) = true ∧ (ti == 0) = true ∧ (sq == 0) = true) ∨ (¬ NoS se ti sq ∧ (se == 0) = false) ∨ (¬ NoS se ti sq ∧ (se == 0) = true ∧ (ti == 0) = false) ∨ (¬ NoS se ti sq ∧ (se == 0) = true ∧ (ti == 0) = true ∧ (sq == 0) = false) := by
  unfold NoS
  by_cases h1 : se = 0 <;> by_cases h2 : ti = 0 <;> by_cases h3 : sq = 0 <;> simp [h1, h2, h3]

set_option maxRecDepth 100000 in
set_option maxHeartbeats 2000000 in
theorem rmay_k0 (qu sr st en va : Int) (ov : Bool) (hs : List Int) (A : Option Addr) (n c : Nat) (se ti sq bd : Int) (v : Bool) (hv : mayR ⟨0, qu, sr, st, en, va, ov, hs, se, ti, sq, bd⟩ = v) (w : World) (hI : Ints w A n hs) :
    Calls Try.prog 14 #[.agg #[.int .i64 0, .int .i64 qu, .int .i64 sr, .int .i64 st, .int .i64 en, .int .i64 va, .bool ov, .slice A n c, .int .i64 se, .int .i64 ti, .int .i64 sq, .int .i64 bd]] w fun e w' => e = .returned (.bool v) ∧ Below w.heap.size w w' := by
  have hb := fun o => (Below.refl w.heap.size w).alloc (Nat.le_refl _) o
  have HI := Lib.hid hI
  clear hI
  rcases plain_cases se ti sq with ⟨g1, q1, q2, q3⟩ | ⟨g1, q1⟩ | ⟨g1, q1, q2⟩ | ⟨g1, q1, q2, q3⟩
  · by_cases g2 : bd = 0
    · have q4 : (bd == 0) = true := by simpa using g2
      by_cases g3 : ResM qu sr st en va ov hs
      · obtain rfl := bool_eq (mayR_yes (r := ⟨0, qu, sr, st, en, va, ov, hs, se, ti, sq, bd⟩) (Or.inl ⟨rfl, g3, g1, g2⟩)) hv
        have HX := Lib.hid (fun (w : World) (h : Ints w A n hs) => rres_any qu sr st en va ov A n c hs true (decide_eq_true g3) w h)
        clear hv g1 g2 g3
        go_enter Try.func14, Try.ntmps14
        go_wp2_with fail
        refine (HX.out _ (HI.out.below (hb _))).mono ?_; rintro e w1 ⟨rfl, c1⟩
        have b1 := (hb _).trans (c1.mono (by simp))
        have B1 : Has w1 w.heap.size 30 _ := (Has.made w _ _).below c1 (by simp)
        clear c1
        have cc1 : ∀ i, w1.cell? ⟨w.heap.size, i, none⟩ = (#[.int .i64 0, .int .i64 qu, .int .i64 sr, .int .i64 st, .int .i64 en, .int .i64 va, .bool ov, .slice A n c, .int .i64 se, .int .i64 ti, .int .i64 sq, .int .i64 bd] : Array Value)[i]? := fun i => B1.cell i
        go_wp2_with fail
        go_ret
        exact ⟨rfl, b1⟩
      · obtain rfl := bool_eq (mayR_no (show ¬ MayR ⟨0, qu, sr, st, en, va, ov, hs, se, ti, sq, bd⟩ by unfold MayR; simp only; rintro (k | k | k | k) <;> first | exact g3 k.2.1 | (have := k.1; omega))) hv
        have HX := Lib.hid (fun (w : World) (h : Ints w A n hs) => rres_any qu sr st en va ov A n c hs false (decide_eq_false g3) w h)
        clear hv g1 g2 g3
        go_enter Try.func14, Try.ntmps14
        go_wp2_with fail
        refine (HX.out _ (HI.out.below (hb _))).mono ?_; rintro e w1 ⟨rfl, c1⟩
        have b1 := (hb _).trans (c1.mono (by simp))
        have B1 : Has w1 w.heap.size 30 _ := (Has.made w _ _).below c1 (by simp)
        clear c1
        have cc1 : ∀ i, w1.cell? ⟨w.heap.size, i, none⟩ = (#[.int .i64 0, .int .i64 qu, .int .i64 sr, .int .i64 st, .int .i64 en, .int .i64 va, .bool ov, .slice A n c, .int .i64 se, .int .i64 ti, .int .i64 sq, .int .i64 bd] : Array Value)[i]? := fun i => B1.cell i
        go_wp2_with fail
        go_ret
        exact ⟨rfl, b1⟩
    · have q4 : (bd == 0) = false := by simpa using g2
      obtain rfl := bool_eq (mayR_no (show ¬ MayR ⟨0, qu, sr, st, en, va, ov, hs, se, ti, sq, bd⟩ by unfold MayR; simp only; rintro (k | k | k | k) <;> first | exact g2 k.2.2.2 | (have := k.1; omega))) hv
      clear hv g1 g2
      go_enter Try.func14, Try.ntmps14
      go_wp2_with fail
      go_ret
      exact ⟨rfl, hb _⟩
  · obtain rfl := bool_eq (mayR_no (show ¬ MayR ⟨0, qu, sr, st, en, va, ov, hs, se, ti, sq, bd⟩ by unfold MayR; simp only; rintro (k | k | k | k) <;> first | exact g1 k.2.2.1 | (have := k.1; omega))) hv
    clear hv g1
    go_enter Try.func14, Try.ntmps14
    go_wp2_with fail
    go_ret
    exact ⟨rfl, hb _⟩
  · obtain rfl := bool_eq (mayR_no (show ¬ MayR ⟨0, qu, sr, st, en, va, ov, hs, se, ti, sq, bd⟩ by unfold MayR; simp only; rintro (k | k | k | k) <;> first | exact g1 k.2.2.1 | (have := k.1; omega))) hv
    clear hv g1
    go_enter Try.func14, Try.ntmps14
    go_wp2_with fail
    go_ret
    exact ⟨rfl, hb _⟩
  · obtain rfl := bool_eq (mayR_no (show ¬ MayR ⟨0, qu, sr, st, en, va, ov, hs, se, ti, sq, bd⟩ by unfold MayR; simp only; rintro (k | k | k | k) <;> first | exact g1 k.2.2.1 | (have := k.1; omega))) hv
    clear hv g1
    go_enter Try.func14, Try.ntmps14
    go_wp2_with fail
    go_ret
    exact ⟨rfl, hb _⟩

set_option maxRecDepth 100000 in
set_option maxHeartbeats 2000000 in
theorem rmay_k4 (qu sr st en va : Int) (ov : Bool) (hs : List Int) (A : Option Addr) (n c : Nat) (se ti sq bd : Int) (v : Bool) (hv : mayR ⟨4, qu, sr, st, en, va, ov, hs, se, ti, sq, bd⟩ = v) (w : World) (hI : Ints w A n hs) :
    Calls Try.prog 14 #[.agg #[.int .i64 4, .int .i64 qu, .int .i64 sr, .int .i64 st, .int .i64 en, .int .i64 va, .bool ov, .slice A n c, .int .i64 se, .int .i64 ti, .int .i64 sq, .int .i64 bd]] w fun e w' => e = .returned (.bool v) ∧ Below w.heap.size w w' := by
  have hb := fun o => (Below.refl w.heap.size w).alloc (Nat.le_refl _) o
  have HI := Lib.hid hI
  clear hI
  rcases plain_cases se ti sq with ⟨g1, q1, q2, q3⟩ | ⟨g1, q1⟩ | ⟨g1, q1, q2⟩ | ⟨g1, q1, q2, q3⟩
  · by_cases g2 : bd = 0
    · have q4 : (bd == 0) = true := by simpa using g2
      by_cases g3 : NoX qu sr st en va ov hs
      · obtain rfl := bool_eq (mayR_yes (r := ⟨4, qu, sr, st, en, va, ov, hs, se, ti, sq, bd⟩) (Or.inr (Or.inr (Or.inl ⟨rfl, g3, g1, g2⟩)))) hv
        have HX := Lib.hid (fun (w : World) (h : Ints w A n hs) => rnoX_any qu sr st en va ov A n c hs true (decide_eq_true g3) w h.1)
        clear hv g1 g2 g3
        go_enter Try.func14, Try.ntmps14
        go_wp2_with fail
        refine (HX.out _ (HI.out.below (hb _))).mono ?_; rintro e w1 ⟨rfl, c1⟩
        have b1 := (hb _).trans (c1.mono (by simp))
        have B1 : Has w1 w.heap.size 30 _ := (Has.made w _ _).below c1 (by simp)
        clear c1
        have cc1 : ∀ i, w1.cell? ⟨w.heap.size, i, none⟩ = (#[.int .i64 4, .int .i64 qu, .int .i64 sr, .int .i64 st, .int .i64 en, .int .i64 va, .bool ov, .slice A n c, .int .i64 se, .int .i64 ti, .int .i64 sq, .int .i64 bd] : Array Value)[i]? := fun i => B1.cell i
        go_wp2_with fail
        go_ret
        exact ⟨rfl, b1⟩
      · obtain rfl := bool_eq (mayR_no (show ¬ MayR ⟨4, qu, sr, st, en, va, ov, hs, se, ti, sq, bd⟩ by unfold MayR; simp only; rintro (k | k | k | k) <;> first | exact g3 k.2.1 | (have := k.1; omega))) hv
        have HX := Lib.hid (fun (w : World) (h : Ints w A n hs) => rnoX_any qu sr st en va ov A n c hs false (decide_eq_false g3) w h.1)
        clear hv g1 g2 g3
        go_enter Try.func14, Try.ntmps14
        go_wp2_with fail
        refine (HX.out _ (HI.out.below (hb _))).mono ?_; rintro e w1 ⟨rfl, c1⟩
        have b1 := (hb _).trans (c1.mono (by simp))
        have B1 : Has w1 w.heap.size 30 _ := (Has.made w _ _).below c1 (by simp)
        clear c1
        have cc1 : ∀ i, w1.cell? ⟨w.heap.size, i, none⟩ = (#[.int .i64 4, .int .i64 qu, .int .i64 sr, .int .i64 st, .int .i64 en, .int .i64 va, .bool ov, .slice A n c, .int .i64 se, .int .i64 ti, .int .i64 sq, .int .i64 bd] : Array Value)[i]? := fun i => B1.cell i
        go_wp2_with fail
        go_ret
        exact ⟨rfl, b1⟩
    · have q4 : (bd == 0) = false := by simpa using g2
      obtain rfl := bool_eq (mayR_no (show ¬ MayR ⟨4, qu, sr, st, en, va, ov, hs, se, ti, sq, bd⟩ by unfold MayR; simp only; rintro (k | k | k | k) <;> first | exact g2 k.2.2.2 | (have := k.1; omega))) hv
      clear hv g1 g2
      go_enter Try.func14, Try.ntmps14
      go_wp2_with fail
      go_ret
      exact ⟨rfl, hb _⟩
  · obtain rfl := bool_eq (mayR_no (show ¬ MayR ⟨4, qu, sr, st, en, va, ov, hs, se, ti, sq, bd⟩ by unfold MayR; simp only; rintro (k | k | k | k) <;> first | exact g1 k.2.2.1 | (have := k.1; omega))) hv
    clear hv g1
    go_enter Try.func14, Try.ntmps14
    go_wp2_with fail
    go_ret
    exact ⟨rfl, hb _⟩
  · obtain rfl := bool_eq (mayR_no (show ¬ MayR ⟨4, qu, sr, st, en, va, ov, hs, se, ti, sq, bd⟩ by unfold MayR; simp only; rintro (k | k | k | k) <;> first | exact g1 k.2.2.1 | (have := k.1; omega))) hv
    clear hv g1
    go_enter Try.func14, Try.ntmps14
    go_wp2_with fail
    go_ret
    exact ⟨rfl, hb _⟩
  · obtain rfl := bool_eq (mayR_no (show ¬ MayR ⟨4, qu, sr, st, en, va, ov, hs, se, ti, sq, bd⟩ by unfold MayR; simp only; rintro (k | k | k | k) <;> first | exact g1 k.2.2.1 | (have := k.1; omega))) hv
    clear hv g1
    go_enter Try.func14, Try.ntmps14
    go_wp2_with fail
    go_ret
    exact ⟨rfl, hb _⟩

set_option maxRecDepth 100000 in
set_option maxHeartbeats 2000000 in
theorem rmay_k1 (qu sr st en va : Int) (ov : Bool) (hs : List Int) (A : Option Addr) (n c : Nat) (se ti sq bd : Int) (v : Bool) (hv : mayR ⟨1, qu, sr, st, en, va, ov, hs, se, ti, sq, bd⟩ = v) (w : World) (hI : Ints w A n hs) :
    Calls Try.prog 14 #[.agg #[.int .i64 1, .int .i64 qu, .int .i64 sr, .int .i64 st, .int .i64 en, .int .i64 va, .bool ov, .slice A n c, .int .i64 se, .int .i64 ti, .int .i64 sq, .int .i64 bd]] w fun e w' => e = .returned (.bool v) ∧ Below w.heap.size w w' := by
  have hb := fun o => (Below.refl w.heap.size w).alloc (Nat.le_refl _) o
  have HI := Lib.hid hI
  clear hI
  rcases plain_cases se ti sq with ⟨g0, q1, q2, q3⟩ | ⟨g0, q1⟩ | ⟨g0, q1, q2⟩ | ⟨g0, q1, q2, q3⟩ <;> clear g0
  · by_cases g2 : NoX qu sr st en va ov hs
    · by_cases g3 : bd = 0
      · have q4 : (bd == 0) = true := by simpa using g3
        by_cases g1 : SamM se ti sq
        · obtain rfl := bool_eq (mayR_yes (r := ⟨1, qu, sr, st, en, va, ov, hs, se, ti, sq, bd⟩) (Or.inr (Or.inl ⟨by simp, g1, g2, g3⟩))) hv
          have HX := Lib.hid (fun (w : World) (h : Ints w A n hs) => rnoX_any qu sr st en va ov A n c hs true (decide_eq_true g2) w h.1)
          have HM := Lib.hid (fun w : World => ritem_any se ti sq true (decide_eq_true g1) w)
          clear hv g1 g2 g3
          go_enter Try.func14, Try.ntmps14
          go_wp2_with fail
          refine (HX.out _ (HI.out.below (hb _))).mono ?_; rintro e w1 ⟨rfl, c1⟩
          have b1 := (hb _).trans (c1.mono (by simp))
          have B1 : Has w1 w.heap.size 30 _ := (Has.made w _ _).below c1 (by simp)
          clear c1
          have cc1 : ∀ i, w1.cell? ⟨w.heap.size, i, none⟩ = (#[.int .i64 1, .int .i64 qu, .int .i64 sr, .int .i64 st, .int .i64 en, .int .i64 va, .bool ov, .slice A n c, .int .i64 se, .int .i64 ti, .int .i64 sq, .int .i64 bd] : Array Value)[i]? := fun i => B1.cell i
          go_wp2_with fail
          refine (HM.out _).mono ?_; rintro e w2 ⟨rfl, c2⟩
          have b2 := b1.trans (c2.mono b1.size)
          clear c2
          go_wp2_with fail
          go_ret
          exact ⟨rfl, b2⟩
        · obtain rfl := bool_eq (mayR_no (show ¬ MayR ⟨1, qu, sr, st, en, va, ov, hs, se, ti, sq, bd⟩ by unfold MayR; simp only; rintro (k | k | k | k) <;> first | exact g1 k.2.1 | (have := k.1; omega))) hv
          have HX := Lib.hid (fun (w : World) (h : Ints w A n hs) => rnoX_any qu sr st en va ov A n c hs true (decide_eq_true g2) w h.1)
          have HM := Lib.hid (fun w : World => ritem_any se ti sq false (decide_eq_false g1) w)
          clear hv g1 g2 g3
          go_enter Try.func14, Try.ntmps14
          go_wp2_with fail
          refine (HX.out _ (HI.out.below (hb _))).mono ?_; rintro e w1 ⟨rfl, c1⟩
          have b1 := (hb _).trans (c1.mono (by simp))
          have B1 : Has w1 w.heap.size 30 _ := (Has.made w _ _).below c1 (by simp)
          clear c1
          have cc1 : ∀ i, w1.cell? ⟨w.heap.size, i, none⟩ = (#[.int .i64 1, .int .i64 qu, .int .i64 sr, .int .i64 st, .int .i64 en, .int .i64 va, .bool ov, .slice A n c, .int .i64 se, .int .i64 ti, .int .i64 sq, .int .i64 bd] : Array Value)[i]? := fun i => B1.cell i
          go_wp2_with fail
          refine (HM.out _).mono ?_; rintro e w2 ⟨rfl, c2⟩
          have b2 := b1.trans (c2.mono b1.size)
          clear c2
          go_wp2_with fail
          go_ret
          exact ⟨rfl, b2⟩
      · have q4 : (bd == 0) = false := by simpa using g3
        obtain rfl := bool_eq (mayR_no (show ¬ MayR ⟨1, qu, sr, st, en, va, ov, hs, se, ti, sq, bd⟩ by unfold MayR; simp only; rintro (k | k | k | k) <;> first | exact g3 k.2.2.2 | (have := k.1; omega))) hv
        have HX := Lib.hid (fun (w : World) (h : Ints w A n hs) => rnoX_any qu sr st en va ov A n c hs true (decide_eq_true g2) w h.1)
        clear hv g2 g3
        go_enter Try.func14, Try.ntmps14
        go_wp2_with fail
        refine (HX.out _ (HI.out.below (hb _))).mono ?_; rintro e w1 ⟨rfl, c1⟩
        have b1 := (hb _).trans (c1.mono (by simp))
        have B1 : Has w1 w.heap.size 30 _ := (Has.made w _ _).below c1 (by simp)
        clear c1
        have cc1 : ∀ i, w1.cell? ⟨w.heap.size, i, none⟩ = (#[.int .i64 1, .int .i64 qu, .int .i64 sr, .int .i64 st, .int .i64 en, .int .i64 va, .bool ov, .slice A n c, .int .i64 se, .int .i64 ti, .int .i64 sq, .int .i64 bd] : Array Value)[i]? := fun i => B1.cell i
        go_wp2_with fail
        go_ret
        exact ⟨rfl, b1⟩
    · obtain rfl := bool_eq (mayR_no (show ¬ MayR ⟨1, qu, sr, st, en, va, ov, hs, se, ti, sq, bd⟩ by unfold MayR; simp only; rintro (k | k | k | k) <;> first | exact g2 k.2.2.1 | (have := k.1; omega))) hv
      have HX := Lib.hid (fun (w : World) (h : Ints w A n hs) => rnoX_any qu sr st en va ov A n c hs false (decide_eq_false g2) w h.1)
      clear hv g2
      go_enter Try.func14, Try.ntmps14
      go_wp2_with fail
      refine (HX.out _ (HI.out.below (hb _))).mono ?_; rintro e w1 ⟨rfl, c1⟩
      have b1 := (hb _).trans (c1.mono (by simp))
      have B1 : Has w1 w.heap.size 30 _ := (Has.made w _ _).below c1 (by simp)
      clear c1
      have cc1 : ∀ i, w1.cell? ⟨w.heap.size, i, none⟩ = (#[.int .i64 1, .int .i64 qu, .int .i64 sr, .int .i64 st, .int .i64 en, .int .i64 va, .bool ov, .slice A n c, .int .i64 se, .int .i64 ti, .int .i64 sq, .int .i64 bd] : Array Value)[i]? := fun i => B1.cell i
      go_wp2_with fail
      go_ret
      exact ⟨rfl, b1⟩
  · by_cases g2 : NoX qu sr st en va ov hs
    · by_cases g3 : bd = 0
      · have q4 : (bd == 0) = true := by simpa using g3
        by_cases g1 : SamM se ti sq
        · obtain rfl := bool_eq (mayR_yes (r := ⟨1, qu, sr, st, en, va, ov, hs, se, ti, sq, bd⟩) (Or.inr (Or.inl ⟨by simp, g1, g2, g3⟩))) hv
          have HX := Lib.hid (fun (w : World) (h : Ints w A n hs) => rnoX_any qu sr st en va ov A n c hs true (decide_eq_true g2) w h.1)
          have HM := Lib.hid (fun w : World => ritem_any se ti sq true (decide_eq_true g1) w)
          clear hv g1 g2 g3
          go_enter Try.func14, Try.ntmps14
          go_wp2_with fail
          refine (HX.out _ (HI.out.below (hb _))).mono ?_; rintro e w1 ⟨rfl, c1⟩
          have b1 := (hb _).trans (c1.mono (by simp))
          have B1 : Has w1 w.heap.size 30 _ := (Has.made w _ _).below c1 (by simp)
          clear c1
          have cc1 : ∀ i, w1.cell? ⟨w.heap.size, i, none⟩ = (#[.int .i64 1, .int .i64 qu, .int .i64 sr, .int .i64 st, .int .i64 en, .int .i64 va, .bool ov, .slice A n c, .int .i64 se, .int .i64 ti, .int .i64 sq, .int .i64 bd] : Array Value)[i]? := fun i => B1.cell i
          go_wp2_with fail
          refine (HM.out _).mono ?_; rintro e w2 ⟨rfl, c2⟩
          have b2 := b1.trans (c2.mono b1.size)
          clear c2
          go_wp2_with fail
          go_ret
          exact ⟨rfl, b2⟩
        · obtain rfl := bool_eq (mayR_no (show ¬ MayR ⟨1, qu, sr, st, en, va, ov, hs, se, ti, sq, bd⟩ by unfold MayR; simp only; rintro (k | k | k | k) <;> first | exact g1 k.2.1 | (have := k.1; omega))) hv
          have HX := Lib.hid (fun (w : World) (h : Ints w A n hs) => rnoX_any qu sr st en va ov A n c hs true (decide_eq_true g2) w h.1)
          have HM := Lib.hid (fun w : World => ritem_any se ti sq false (decide_eq_false g1) w)
          clear hv g1 g2 g3
          go_enter Try.func14, Try.ntmps14
          go_wp2_with fail
          refine (HX.out _ (HI.out.below (hb _))).mono ?_; rintro e w1 ⟨rfl, c1⟩
          have b1 := (hb _).trans (c1.mono (by simp))
          have B1 : Has w1 w.heap.size 30 _ := (Has.made w _ _).below c1 (by simp)
          clear c1
          have cc1 : ∀ i, w1.cell? ⟨w.heap.size, i, none⟩ = (#[.int .i64 1, .int .i64 qu, .int .i64 sr, .int .i64 st, .int .i64 en, .int .i64 va, .bool ov, .slice A n c, .int .i64 se, .int .i64 ti, .int .i64 sq, .int .i64 bd] : Array Value)[i]? := fun i => B1.cell i
          go_wp2_with fail
          refine (HM.out _).mono ?_; rintro e w2 ⟨rfl, c2⟩
          have b2 := b1.trans (c2.mono b1.size)
          clear c2
          go_wp2_with fail
          go_ret
          exact ⟨rfl, b2⟩
      · have q4 : (bd == 0) = false := by simpa using g3
        obtain rfl := bool_eq (mayR_no (show ¬ MayR ⟨1, qu, sr, st, en, va, ov, hs, se, ti, sq, bd⟩ by unfold MayR; simp only; rintro (k | k | k | k) <;> first | exact g3 k.2.2.2 | (have := k.1; omega))) hv
        have HX := Lib.hid (fun (w : World) (h : Ints w A n hs) => rnoX_any qu sr st en va ov A n c hs true (decide_eq_true g2) w h.1)
        clear hv g2 g3
        go_enter Try.func14, Try.ntmps14
        go_wp2_with fail
        refine (HX.out _ (HI.out.below (hb _))).mono ?_; rintro e w1 ⟨rfl, c1⟩
        have b1 := (hb _).trans (c1.mono (by simp))
        have B1 : Has w1 w.heap.size 30 _ := (Has.made w _ _).below c1 (by simp)
        clear c1
        have cc1 : ∀ i, w1.cell? ⟨w.heap.size, i, none⟩ = (#[.int .i64 1, .int .i64 qu, .int .i64 sr, .int .i64 st, .int .i64 en, .int .i64 va, .bool ov, .slice A n c, .int .i64 se, .int .i64 ti, .int .i64 sq, .int .i64 bd] : Array Value)[i]? := fun i => B1.cell i
        go_wp2_with fail
        go_ret
        exact ⟨rfl, b1⟩
    · obtain rfl := bool_eq (mayR_no (show ¬ MayR ⟨1, qu, sr, st, en, va, ov, hs, se, ti, sq, bd⟩ by unfold MayR; simp only; rintro (k | k | k | k) <;> first | exact g2 k.2.2.1 | (have := k.1; omega))) hv
      have HX := Lib.hid (fun (w : World) (h : Ints w A n hs) => rnoX_any qu sr st en va ov A n c hs false (decide_eq_false g2) w h.1)
      clear hv g2
      go_enter Try.func14, Try.ntmps14
      go_wp2_with fail
      refine (HX.out _ (HI.out.below (hb _))).mono ?_; rintro e w1 ⟨rfl, c1⟩
      have b1 := (hb _).trans (c1.mono (by simp))
      have B1 : Has w1 w.heap.size 30 _ := (Has.made w _ _).below c1 (by simp)
      clear c1
      have cc1 : ∀ i, w1.cell? ⟨w.heap.size, i, none⟩ = (#[.int .i64 1, .int .i64 qu, .int .i64 sr, .int .i64 st, .int .i64 en, .int .i64 va, .bool ov, .slice A n c, .int .i64 se, .int .i64 ti, .int .i64 sq, .int .i64 bd] : Array Value)[i]? := fun i => B1.cell i
      go_wp2_with fail
      go_ret
      exact ⟨rfl, b1⟩
  · by_cases g2 : NoX qu sr st en va ov hs
    · by_cases g3 : bd = 0
      · have q4 : (bd == 0) = true := by simpa using g3
        by_cases g1 : SamM se ti sq
        · obtain rfl := bool_eq (mayR_yes (r := ⟨1, qu, sr, st, en, va, ov, hs, se, ti, sq, bd⟩) (Or.inr (Or.inl ⟨by simp, g1, g2, g3⟩))) hv
          have HX := Lib.hid (fun (w : World) (h : Ints w A n hs) => rnoX_any qu sr st en va ov A n c hs true (decide_eq_true g2) w h.1)
          have HM := Lib.hid (fun w : World => ritem_any se ti sq true (decide_eq_true g1) w)
          clear hv g1 g2 g3
          go_enter Try.func14, Try.ntmps14
          go_wp2_with fail
          refine (HX.out _ (HI.out.below (hb _))).mono ?_; rintro e w1 ⟨rfl, c1⟩
          have b1 := (hb _).trans (c1.mono (by simp))
          have B1 : Has w1 w.heap.size 30 _ := (Has.made w _ _).below c1 (by simp)
          clear c1
          have cc1 : ∀ i, w1.cell? ⟨w.heap.size, i, none⟩ = (#[.int .i64 1, .int .i64 qu, .int .i64 sr, .int .i64 st, .int .i64 en, .int .i64 va, .bool ov, .slice A n c, .int .i64 se, .int .i64 ti, .int .i64 sq, .int .i64 bd] : Array Value)[i]? := fun i => B1.cell i
          go_wp2_with fail
          refine (HM.out _).mono ?_; rintro e w2 ⟨rfl, c2⟩
          have b2 := b1.trans (c2.mono b1.size)
          clear c2
          go_wp2_with fail
          go_ret
          exact ⟨rfl, b2⟩
        · obtain rfl := bool_eq (mayR_no (show ¬ MayR ⟨1, qu, sr, st, en, va, ov, hs, se, ti, sq, bd⟩ by unfold MayR; simp only; rintro (k | k | k | k) <;> first | exact g1 k.2.1 | (have := k.1; omega))) hv
          have HX := Lib.hid (fun (w : World) (h : Ints w A n hs) => rnoX_any qu sr st en va ov A n c hs true (decide_eq_true g2) w h.1)
          have HM := Lib.hid (fun w : World => ritem_any se ti sq false (decide_eq_false g1) w)
          clear hv g1 g2 g3
          go_enter Try.func14, Try.ntmps14
          go_wp2_with fail
          refine (HX.out _ (HI.out.below (hb _))).mono ?_; rintro e w1 ⟨rfl, c1⟩
          have b1 := (hb _).trans (c1.mono (by simp))
          have B1 : Has w1 w.heap.size 30 _ := (Has.made w _ _).below c1 (by simp)
          clear c1
          have cc1 : ∀ i, w1.cell? ⟨w.heap.size, i, none⟩ = (#[.int .i64 1, .int .i64 qu, .int .i64 sr, .int .i64 st, .int .i64 en, .int .i64 va, .bool ov, .slice A n c, .int .i64 se, .int .i64 ti, .int .i64 sq, .int .i64 bd] : Array Value)[i]? := fun i => B1.cell i
          go_wp2_with fail
          refine (HM.out _).mono ?_; rintro e w2 ⟨rfl, c2⟩
          have b2 := b1.trans (c2.mono b1.size)
          clear c2
          go_wp2_with fail
          go_ret
          exact ⟨rfl, b2⟩
      · have q4 : (bd == 0) = false := by simpa using g3
        obtain rfl := bool_eq (mayR_no (show ¬ MayR ⟨1, qu, sr, st, en, va, ov, hs, se, ti, sq, bd⟩ by unfold MayR; simp only; rintro (k | k | k | k) <;> first | exact g3 k.2.2.2 | (have := k.1; omega))) hv
        have HX := Lib.hid (fun (w : World) (h : Ints w A n hs) => rnoX_any qu sr st en va ov A n c hs true (decide_eq_true g2) w h.1)
        clear hv g2 g3
        go_enter Try.func14, Try.ntmps14
        go_wp2_with fail
        refine (HX.out _ (HI.out.below (hb _))).mono ?_; rintro e w1 ⟨rfl, c1⟩
        have b1 := (hb _).trans (c1.mono (by simp))
        have B1 : Has w1 w.heap.size 30 _ := (Has.made w _ _).below c1 (by simp)
        clear c1
        have cc1 : ∀ i, w1.cell? ⟨w.heap.size, i, none⟩ = (#[.int .i64 1, .int .i64 qu, .int .i64 sr, .int .i64 st, .int .i64 en, .int .i64 va, .bool ov, .slice A n c, .int .i64 se, .int .i64 ti, .int .i64 sq, .int .i64 bd] : Array Value)[i]? := fun i => B1.cell i
        go_wp2_with fail
        go_ret
        exact ⟨rfl, b1⟩
    · obtain rfl := bool_eq (mayR_no (show ¬ MayR ⟨1, qu, sr, st, en, va, ov, hs, se, ti, sq, bd⟩ by unfold MayR; simp only; rintro (k | k | k | k) <;> first | exact g2 k.2.2.1 | (have := k.1; omega))) hv
      have HX := Lib.hid (fun (w : World) (h : Ints w A n hs) => rnoX_any qu sr st en va ov A n c hs false (decide_eq_false g2) w h.1)
      clear hv g2
      go_enter Try.func14, Try.ntmps14
      go_wp2_with fail
      refine (HX.out _ (HI.out.below (hb _))).mono ?_; rintro e w1 ⟨rfl, c1⟩
      have b1 := (hb _).trans (c1.mono (by simp))
      have B1 : Has w1 w.heap.size 30 _ := (Has.made w _ _).below c1 (by simp)
      clear c1
      have cc1 : ∀ i, w1.cell? ⟨w.heap.size, i, none⟩ = (#[.int .i64 1, .int .i64 qu, .int .i64 sr, .int .i64 st, .int .i64 en, .int .i64 va, .bool ov, .slice A n c, .int .i64 se, .int .i64 ti, .int .i64 sq, .int .i64 bd] : Array Value)[i]? := fun i => B1.cell i
      go_wp2_with fail
      go_ret
      exact ⟨rfl, b1⟩
  · by_cases g2 : NoX qu sr st en va ov hs
    · by_cases g3 : bd = 0
      · have q4 : (bd == 0) = true := by simpa using g3
        by_cases g1 : SamM se ti sq
        · obtain rfl := bool_eq (mayR_yes (r := ⟨1, qu, sr, st, en, va, ov, hs, se, ti, sq, bd⟩) (Or.inr (Or.inl ⟨by simp, g1, g2, g3⟩))) hv
          have HX := Lib.hid (fun (w : World) (h : Ints w A n hs) => rnoX_any qu sr st en va ov A n c hs true (decide_eq_true g2) w h.1)
          have HM := Lib.hid (fun w : World => ritem_any se ti sq true (decide_eq_true g1) w)
          clear hv g1 g2 g3
          go_enter Try.func14, Try.ntmps14
          go_wp2_with fail
          refine (HX.out _ (HI.out.below (hb _))).mono ?_; rintro e w1 ⟨rfl, c1⟩
          have b1 := (hb _).trans (c1.mono (by simp))
          have B1 : Has w1 w.heap.size 30 _ := (Has.made w _ _).below c1 (by simp)
          clear c1
          have cc1 : ∀ i, w1.cell? ⟨w.heap.size, i, none⟩ = (#[.int .i64 1, .int .i64 qu, .int .i64 sr, .int .i64 st, .int .i64 en, .int .i64 va, .bool ov, .slice A n c, .int .i64 se, .int .i64 ti, .int .i64 sq, .int .i64 bd] : Array Value)[i]? := fun i => B1.cell i
          go_wp2_with fail
          refine (HM.out _).mono ?_; rintro e w2 ⟨rfl, c2⟩
          have b2 := b1.trans (c2.mono b1.size)
          clear c2
          go_wp2_with fail
          go_ret
          exact ⟨rfl, b2⟩
        · obtain rfl := bool_eq (mayR_no (show ¬ MayR ⟨1, qu, sr, st, en, va, ov, hs, se, ti, sq, bd⟩ by unfold MayR; simp only; rintro (k | k | k | k) <;> first | exact g1 k.2.1 | (have := k.1; omega))) hv
          have HX := Lib.hid (fun (w : World) (h : Ints w A n hs) => rnoX_any qu sr st en va ov A n c hs true (decide_eq_true g2) w h.1)
          have HM := Lib.hid (fun w : World => ritem_any se ti sq false (decide_eq_false g1) w)
          clear hv g1 g2 g3
          go_enter Try.func14, Try.ntmps14
          go_wp2_with fail
          refine (HX.out _ (HI.out.below (hb _))).mono ?_; rintro e w1 ⟨rfl, c1⟩
          have b1 := (hb _).trans (c1.mono (by simp))
          have B1 : Has w1 w.heap.size 30 _ := (Has.made w _ _).below c1 (by simp)
          clear c1
          have cc1 : ∀ i, w1.cell? ⟨w.heap.size, i, none⟩ = (#[.int .i64 1, .int .i64 qu, .int .i64 sr, .int .i64 st, .int .i64 en, .int .i64 va, .bool ov, .slice A n c, .int .i64 se, .int .i64 ti, .int .i64 sq, .int .i64 bd] : Array Value)[i]? := fun i => B1.cell i
          go_wp2_with fail
          refine (HM.out _).mono ?_; rintro e w2 ⟨rfl, c2⟩
          have b2 := b1.trans (c2.mono b1.size)
          clear c2
          go_wp2_with fail
          go_ret
          exact ⟨rfl, b2⟩
      · have q4 : (bd == 0) = false := by simpa using g3
        obtain rfl := bool_eq (mayR_no (show ¬ MayR ⟨1, qu, sr, st, en, va, ov, hs, se, ti, sq, bd⟩ by unfold MayR; simp only; rintro (k | k | k | k) <;> first | exact g3 k.2.2.2 | (have := k.1; omega))) hv
        have HX := Lib.hid (fun (w : World) (h : Ints w A n hs) => rnoX_any qu sr st en va ov A n c hs true (decide_eq_true g2) w h.1)
        clear hv g2 g3
        go_enter Try.func14, Try.ntmps14
        go_wp2_with fail
        refine (HX.out _ (HI.out.below (hb _))).mono ?_; rintro e w1 ⟨rfl, c1⟩
        have b1 := (hb _).trans (c1.mono (by simp))
        have B1 : Has w1 w.heap.size 30 _ := (Has.made w _ _).below c1 (by simp)
        clear c1
        have cc1 : ∀ i, w1.cell? ⟨w.heap.size, i, none⟩ = (#[.int .i64 1, .int .i64 qu, .int .i64 sr, .int .i64 st, .int .i64 en, .int .i64 va, .bool ov, .slice A n c, .int .i64 se, .int .i64 ti, .int .i64 sq, .int .i64 bd] : Array Value)[i]? := fun i => B1.cell i
        go_wp2_with fail
        go_ret
        exact ⟨rfl, b1⟩
    · obtain rfl := bool_eq (mayR_no (show ¬ MayR ⟨1, qu, sr, st, en, va, ov, hs, se, ti, sq, bd⟩ by unfold MayR; simp only; rintro (k | k | k | k) <;> first | exact g2 k.2.2.1 | (have := k.1; omega))) hv
      have HX := Lib.hid (fun (w : World) (h : Ints w A n hs) => rnoX_any qu sr st en va ov A n c hs false (decide_eq_false g2) w h.1)
      clear hv g2
      go_enter Try.func14, Try.ntmps14
      go_wp2_with fail
      refine (HX.out _ (HI.out.below (hb _))).mono ?_; rintro e w1 ⟨rfl, c1⟩
      have b1 := (hb _).trans (c1.mono (by simp))
      have B1 : Has w1 w.heap.size 30 _ := (Has.made w _ _).below c1 (by simp)
      clear c1
      have cc1 : ∀ i, w1.cell? ⟨w.heap.size, i, none⟩ = (#[.int .i64 1, .int .i64 qu, .int .i64 sr, .int .i64 st, .int .i64 en, .int .i64 va, .bool ov, .slice A n c, .int .i64 se, .int .i64 ti, .int .i64 sq, .int .i64 bd] : Array Value)[i]? := fun i => B1.cell i
      go_wp2_with fail
      go_ret
      exact ⟨rfl, b1⟩

set_option maxRecDepth 100000 in
set_option maxHeartbeats 2000000 in
theorem rmay_k2 (qu sr st en va : Int) (ov : Bool) (hs : List Int) (A : Option Addr) (n c : Nat) (se ti sq bd : Int) (v : Bool) (hv : mayR ⟨2, qu, sr, st, en, va, ov, hs, se, ti, sq, bd⟩ = v) (w : World) (hI : Ints w A n hs) :
    Calls Try.prog 14 #[.agg #[.int .i64 2, .int .i64 qu, .int .i64 sr, .int .i64 st, .int .i64 en, .int .i64 va, .bool ov, .slice A n c, .int .i64 se, .int .i64 ti, .int .i64 sq, .int .i64 bd]] w fun e w' => e = .returned (.bool v) ∧ Below w.heap.size w w' := by
  have hb := fun o => (Below.refl w.heap.size w).alloc (Nat.le_refl _) o
  have HI := Lib.hid hI
  clear hI
  rcases plain_cases se ti sq with ⟨g0, q1, q2, q3⟩ | ⟨g0, q1⟩ | ⟨g0, q1, q2⟩ | ⟨g0, q1, q2, q3⟩ <;> clear g0
  · by_cases g2 : NoX qu sr st en va ov hs
    · by_cases g3 : bd = 0
      · have q4 : (bd == 0) = true := by simpa using g3
        by_cases g1 : SamM se ti sq
        · obtain rfl := bool_eq (mayR_yes (r := ⟨2, qu, sr, st, en, va, ov, hs, se, ti, sq, bd⟩) (Or.inr (Or.inl ⟨by simp, g1, g2, g3⟩))) hv
          have HX := Lib.hid (fun (w : World) (h : Ints w A n hs) => rnoX_any qu sr st en va ov A n c hs true (decide_eq_true g2) w h.1)
          have HM := Lib.hid (fun w : World => ritem_any se ti sq true (decide_eq_true g1) w)
          clear hv g1 g2 g3
          go_enter Try.func14, Try.ntmps14
          go_wp2_with fail
          refine (HX.out _ (HI.out.below (hb _))).mono ?_; rintro e w1 ⟨rfl, c1⟩
          have b1 := (hb _).trans (c1.mono (by simp))
          have B1 : Has w1 w.heap.size 30 _ := (Has.made w _ _).below c1 (by simp)
          clear c1
          have cc1 : ∀ i, w1.cell? ⟨w.heap.size, i, none⟩ = (#[.int .i64 2, .int .i64 qu, .int .i64 sr, .int .i64 st, .int .i64 en, .int .i64 va, .bool ov, .slice A n c, .int .i64 se, .int .i64 ti, .int .i64 sq, .int .i64 bd] : Array Value)[i]? := fun i => B1.cell i
          go_wp2_with fail
          refine (HM.out _).mono ?_; rintro e w2 ⟨rfl, c2⟩
          have b2 := b1.trans (c2.mono b1.size)
          clear c2
          go_wp2_with fail
          go_ret
          exact ⟨rfl, b2⟩
        · obtain rfl := bool_eq (mayR_no (show ¬ MayR ⟨2, qu, sr, st, en, va, ov, hs, se, ti, sq, bd⟩ by unfold MayR; simp only; rintro (k | k | k | k) <;> first | exact g1 k.2.1 | (have := k.1; omega))) hv
          have HX := Lib.hid (fun (w : World) (h : Ints w A n hs) => rnoX_any qu sr st en va ov A n c hs true (decide_eq_true g2) w h.1)
          have HM := Lib.hid (fun w : World => ritem_any se ti sq false (decide_eq_false g1) w)
          clear hv g1 g2 g3
          go_enter Try.func14, Try.ntmps14
          go_wp2_with fail
          refine (HX.out _ (HI.out.below (hb _))).mono ?_; rintro e w1 ⟨rfl, c1⟩
          have b1 := (hb _).trans (c1.mono (by simp))
          have B1 : Has w1 w.heap.size 30 _ := (Has.made w _ _).below c1 (by simp)
          clear c1
          have cc1 : ∀ i, w1.cell? ⟨w.heap.size, i, none⟩ = (#[.int .i64 2, .int .i64 qu, .int .i64 sr, .int .i64 st, .int .i64 en, .int .i64 va, .bool ov, .slice A n c, .int .i64 se, .int .i64 ti, .int .i64 sq, .int .i64 bd] : Array Value)[i]? := fun i => B1.cell i
          go_wp2_with fail
          refine (HM.out _).mono ?_; rintro e w2 ⟨rfl, c2⟩
          have b2 := b1.trans (c2.mono b1.size)
          clear c2
          go_wp2_with fail
          go_ret
          exact ⟨rfl, b2⟩
      · have q4 : (bd == 0) = false := by simpa using g3
        obtain rfl := bool_eq (mayR_no (show ¬ MayR ⟨2, qu, sr, st, en, va, ov, hs, se, ti, sq, bd⟩ by unfold MayR; simp only; rintro (k | k | k | k) <;> first | exact g3 k.2.2.2 | (have := k.1; omega))) hv
        have HX := Lib.hid (fun (w : World) (h : Ints w A n hs) => rnoX_any qu sr st en va ov A n c hs true (decide_eq_true g2) w h.1)
        clear hv g2 g3
        go_enter Try.func14, Try.ntmps14
        go_wp2_with fail
        refine (HX.out _ (HI.out.below (hb _))).mono ?_; rintro e w1 ⟨rfl, c1⟩
        have b1 := (hb _).trans (c1.mono (by simp))
        have B1 : Has w1 w.heap.size 30 _ := (Has.made w _ _).below c1 (by simp)
        clear c1
        have cc1 : ∀ i, w1.cell? ⟨w.heap.size, i, none⟩ = (#[.int .i64 2, .int .i64 qu, .int .i64 sr, .int .i64 st, .int .i64 en, .int .i64 va, .bool ov, .slice A n c, .int .i64 se, .int .i64 ti, .int .i64 sq, .int .i64 bd] : Array Value)[i]? := fun i => B1.cell i
        go_wp2_with fail
        go_ret
        exact ⟨rfl, b1⟩
    · obtain rfl := bool_eq (mayR_no (show ¬ MayR ⟨2, qu, sr, st, en, va, ov, hs, se, ti, sq, bd⟩ by unfold MayR; simp only; rintro (k | k | k | k) <;> first | exact g2 k.2.2.1 | (have := k.1; omega))) hv
      have HX := Lib.hid (fun (w : World) (h : Ints w A n hs) => rnoX_any qu sr st en va ov A n c hs false (decide_eq_false g2) w h.1)
      clear hv g2
      go_enter Try.func14, Try.ntmps14
      go_wp2_with fail
      refine (HX.out _ (HI.out.below (hb _))).mono ?_; rintro e w1 ⟨rfl, c1⟩
      have b1 := (hb _).trans (c1.mono (by simp))
      have B1 : Has w1 w.heap.size 30 _ := (Has.made w _ _).below c1 (by simp)
      clear c1
      have cc1 : ∀ i, w1.cell? ⟨w.heap.size, i, none⟩ = (#[.int .i64 2, .int .i64 qu, .int .i64 sr, .int .i64 st, .int .i64 en, .int .i64 va, .bool ov, .slice A n c, .int .i64 se, .int .i64 ti, .int .i64 sq, .int .i64 bd] : Array Value)[i]? := fun i => B1.cell i
      go_wp2_with fail
      go_ret
      exact ⟨rfl, b1⟩
  · by_cases g2 : NoX qu sr st en va ov hs
    · by_cases g3 : bd = 0
      · have q4 : (bd == 0) = true := by simpa using g3
        by_cases g1 : SamM se ti sq
        · obtain rfl := bool_eq (mayR_yes (r := ⟨2, qu, sr, st, en, va, ov, hs, se, ti, sq, bd⟩) (Or.inr (Or.inl ⟨by simp, g1, g2, g3⟩))) hv
          have HX := Lib.hid (fun (w : World) (h : Ints w A n hs) => rnoX_any qu sr st en va ov A n c hs true (decide_eq_true g2) w h.1)
          have HM := Lib.hid (fun w : World => ritem_any se ti sq true (decide_eq_true g1) w)
          clear hv g1 g2 g3
          go_enter Try.func14, Try.ntmps14
          go_wp2_with fail
          refine (HX.out _ (HI.out.below (hb _))).mono ?_; rintro e w1 ⟨rfl, c1⟩
          have b1 := (hb _).trans (c1.mono (by simp))
          have B1 : Has w1 w.heap.size 30 _ := (Has.made w _ _).below c1 (by simp)
          clear c1
          have cc1 : ∀ i, w1.cell? ⟨w.heap.size, i, none⟩ = (#[.int .i64 2, .int .i64 qu, .int .i64 sr, .int .i64 st, .int .i64 en, .int .i64 va, .bool ov, .slice A n c, .int .i64 se, .int .i64 ti, .int .i64 sq, .int .i64 bd] : Array Value)[i]? := fun i => B1.cell i
          go_wp2_with fail
          refine (HM.out _).mono ?_; rintro e w2 ⟨rfl, c2⟩
          have b2 := b1.trans (c2.mono b1.size)
          clear c2
          go_wp2_with fail
          go_ret
          exact ⟨rfl, b2⟩
        · obtain rfl := bool_eq (mayR_no (show ¬ MayR ⟨2, qu, sr, st, en, va, ov, hs, se, ti, sq, bd⟩ by unfold MayR; simp only; rintro (k | k | k | k) <;> first | exact g1 k.2.1 | (have := k.1; omega))) hv
          have HX := Lib.hid (fun (w : World) (h : Ints w A n hs) => rnoX_any qu sr st en va ov A n c hs true (decide_eq_true g2) w h.1)
          have HM := Lib.hid (fun w : World => ritem_any se ti sq false (decide_eq_false g1) w)
          clear hv g1 g2 g3
          go_enter Try.func14, Try.ntmps14
          go_wp2_with fail
          refine (HX.out _ (HI.out.below (hb _))).mono ?_; rintro e w1 ⟨rfl, c1⟩
          have b1 := (hb _).trans (c1.mono (by simp))
          have B1 : Has w1 w.heap.size 30 _ := (Has.made w _ _).below c1 (by simp)
          clear c1
          have cc1 : ∀ i, w1.cell? ⟨w.heap.size, i, none⟩ = (#[.int .i64 2, .int .i64 qu, .int .i64 sr, .int .i64 st, .int .i64 en, .int .i64 va, .bool ov, .slice A n c, .int .i64 se, .int .i64 ti, .int .i64 sq, .int .i64 bd] : Array Value)[i]? := fun i => B1.cell i
          go_wp2_with fail
          refine (HM.out _).mono ?_; rintro e w2 ⟨rfl, c2⟩
          have b2 := b1.trans (c2.mono b1.size)
          clear c2
          go_wp2_with fail
          go_ret
          exact ⟨rfl, b2⟩
      · have q4 : (bd == 0) = false := by simpa using g3
        obtain rfl := bool_eq (mayR_no (show ¬ MayR ⟨2, qu, sr, st, en, va, ov, hs, se, ti, sq, bd⟩ by unfold MayR; simp only; rintro (k | k | k | k) <;> first | exact g3 k.2.2.2 | (have := k.1; omega))) hv
        have HX := Lib.hid (fun (w : World) (h : Ints w A n hs) => rnoX_any qu sr st en va ov A n c hs true (decide_eq_true g2) w h.1)
        clear hv g2 g3
        go_enter Try.func14, Try.ntmps14
        go_wp2_with fail
        refine (HX.out _ (HI.out.below (hb _))).mono ?_; rintro e w1 ⟨rfl, c1⟩
        have b1 := (hb _).trans (c1.mono (by simp))
        have B1 : Has w1 w.heap.size 30 _ := (Has.made w _ _).below c1 (by simp)
        clear c1
        have cc1 : ∀ i, w1.cell? ⟨w.heap.size, i, none⟩ = (#[.int .i64 2, .int .i64 qu, .int .i64 sr, .int .i64 st, .int .i64 en, .int .i64 va, .bool ov, .slice A n c, .int .i64 se, .int .i64 ti, .int .i64 sq, .int .i64 bd] : Array Value)[i]? := fun i => B1.cell i
        go_wp2_with fail
        go_ret
        exact ⟨rfl, b1⟩
    · obtain rfl := bool_eq (mayR_no (show ¬ MayR ⟨2, qu, sr, st, en, va, ov, hs, se, ti, sq, bd⟩ by unfold MayR; simp only; rintro (k | k | k | k) <;> first | exact g2 k.2.2.1 | (have := k.1; omega))) hv
      have HX := Lib.hid (fun (w : World) (h : Ints w A n hs) => rnoX_any qu sr st en va ov A n c hs false (decide_eq_false g2) w h.1)
      clear hv g2
      go_enter Try.func14, Try.ntmps14
      go_wp2_with fail
      refine (HX.out _ (HI.out.below (hb _))).mono ?_; rintro e w1 ⟨rfl, c1⟩
      have b1 := (hb _).trans (c1.mono (by simp))
      have B1 : Has w1 w.heap.size 30 _ := (Has.made w _ _).below c1 (by simp)
      clear c1
      have cc1 : ∀ i, w1.cell? ⟨w.heap.size, i, none⟩ = (#[.int .i64 2, .int .i64 qu, .int .i64 sr, .int .i64 st, .int .i64 en, .int .i64 va, .bool ov, .slice A n c, .int .i64 se, .int .i64 ti, .int .i64 sq, .int .i64 bd] : Array Value)[i]? := fun i => B1.cell i
      go_wp2_with fail
      go_ret
      exact ⟨rfl, b1⟩
  · by_cases g2 : NoX qu sr st en va ov hs
    · by_cases g3 : bd = 0
      · have q4 : (bd == 0) = true := by simpa using g3
        by_cases g1 : SamM se ti sq
        · obtain rfl := bool_eq (mayR_yes (r := ⟨2, qu, sr, st, en, va, ov, hs, se, ti, sq, bd⟩) (Or.inr (Or.inl ⟨by simp, g1, g2, g3⟩))) hv
          have HX := Lib.hid (fun (w : World) (h : Ints w A n hs) => rnoX_any qu sr st en va ov A n c hs true (decide_eq_true g2) w h.1)
          have HM := Lib.hid (fun w : World => ritem_any se ti sq true (decide_eq_true g1) w)
          clear hv g1 g2 g3
          go_enter Try.func14, Try.ntmps14
          go_wp2_with fail
          refine (HX.out _ (HI.out.below (hb _))).mono ?_; rintro e w1 ⟨rfl, c1⟩
          have b1 := (hb _).trans (c1.mono (by simp))
          have B1 : Has w1 w.heap.size 30 _ := (Has.made w _ _).below c1 (by simp)
          clear c1
          have cc1 : ∀ i, w1.cell? ⟨w.heap.size, i, none⟩ = (#[.int .i64 2, .int .i64 qu, .int .i64 sr, .int .i64 st, .int .i64 en, .int .i64 va, .bool ov, .slice A n c, .int .i64 se, .int .i64 ti, .int .i64 sq, .int .i64 bd] : Array Value)[i]? := fun i => B1.cell i
          go_wp2_with fail
          refine (HM.out _).mono ?_; rintro e w2 ⟨rfl, c2⟩
          have b2 := b1.trans (c2.mono b1.size)
          clear c2
          go_wp2_with fail
          go_ret
          exact ⟨rfl, b2⟩
        · obtain rfl := bool_eq (mayR_no (show ¬ MayR ⟨2, qu, sr, st, en, va, ov, hs, se, ti, sq, bd⟩ by unfold MayR; simp only; rintro (k | k | k | k) <;> first | exact g1 k.2.1 | (have := k.1; omega))) hv
          have HX := Lib.hid (fun (w : World) (h : Ints w A n hs) => rnoX_any qu sr st en va ov A n c hs true (decide_eq_true g2) w h.1)
          have HM := Lib.hid (fun w : World => ritem_any se ti sq false (decide_eq_false g1) w)
          clear hv g1 g2 g3
          go_enter Try.func14, Try.ntmps14
          go_wp2_with fail
          refine (HX.out _ (HI.out.below (hb _))).mono ?_; rintro e w1 ⟨rfl, c1⟩
          have b1 := (hb _).trans (c1.mono (by simp))
          have B1 : Has w1 w.heap.size 30 _ := (Has.made w _ _).below c1 (by simp)
          clear c1
          have cc1 : ∀ i, w1.cell? ⟨w.heap.size, i, none⟩ = (#[.int .i64 2, .int .i64 qu, .int .i64 sr, .int .i64 st, .int .i64 en, .int .i64 va, .bool ov, .slice A n c, .int .i64 se, .int .i64 ti, .int .i64 sq, .int .i64 bd] : Array Value)[i]? := fun i => B1.cell i
          go_wp2_with fail
          refine (HM.out _).mono ?_; rintro e w2 ⟨rfl, c2⟩
          have b2 := b1.trans (c2.mono b1.size)
          clear c2
          go_wp2_with fail
          go_ret
          exact ⟨rfl, b2⟩
      · have q4 : (bd == 0) = false := by simpa using g3
        obtain rfl := bool_eq (mayR_no (show ¬ MayR ⟨2, qu, sr, st, en, va, ov, hs, se, ti, sq, bd⟩ by unfold MayR; simp only; rintro (k | k | k | k) <;> first | exact g3 k.2.2.2 | (have := k.1; omega))) hv
        have HX := Lib.hid (fun (w : World) (h : Ints w A n hs) => rnoX_any qu sr st en va ov A n c hs true (decide_eq_true g2) w h.1)
        clear hv g2 g3
        go_enter Try.func14, Try.ntmps14
        go_wp2_with fail
        refine (HX.out _ (HI.out.below (hb _))).mono ?_; rintro e w1 ⟨rfl, c1⟩
        have b1 := (hb _).trans (c1.mono (by simp))
        have B1 : Has w1 w.heap.size 30 _ := (Has.made w _ _).below c1 (by simp)
        clear c1
        have cc1 : ∀ i, w1.cell? ⟨w.heap.size, i, none⟩ = (#[.int .i64 2, .int .i64 qu, .int .i64 sr, .int .i64 st, .int .i64 en, .int .i64 va, .bool ov, .slice A n c, .int .i64 se, .int .i64 ti, .int .i64 sq, .int .i64 bd] : Array Value)[i]? := fun i => B1.cell i
        go_wp2_with fail
        go_ret
        exact ⟨rfl, b1⟩
    · obtain rfl := bool_eq (mayR_no (show ¬ MayR ⟨2, qu, sr, st, en, va, ov, hs, se, ti, sq, bd⟩ by unfold MayR; simp only; rintro (k | k | k | k) <;> first | exact g2 k.2.2.1 | (have := k.1; omega))) hv
      have HX := Lib.hid (fun (w : World) (h : Ints w A n hs) => rnoX_any qu sr st en va ov A n c hs false (decide_eq_false g2) w h.1)
      clear hv g2
      go_enter Try.func14, Try.ntmps14
      go_wp2_with fail
      refine (HX.out _ (HI.out.below (hb _))).mono ?_; rintro e w1 ⟨rfl, c1⟩
      have b1 := (hb _).trans (c1.mono (by simp))
      have B1 : Has w1 w.heap.size 30 _ := (Has.made w _ _).below c1 (by simp)
      clear c1
      have cc1 : ∀ i, w1.cell? ⟨w.heap.size, i, none⟩ = (#[.int .i64 2, .int .i64 qu, .int .i64 sr, .int .i64 st, .int .i64 en, .int .i64 va, .bool ov, .slice A n c, .int .i64 se, .int .i64 ti, .int .i64 sq, .int .i64 bd] : Array Value)[i]? := fun i => B1.cell i
      go_wp2_with fail
      go_ret
      exact ⟨rfl, b1⟩
  · by_cases g2 : NoX qu sr st en va ov hs
    · by_cases g3 : bd = 0
      · have q4 : (bd == 0) = true := by simpa using g3
        by_cases g1 : SamM se ti sq
        · obtain rfl := bool_eq (mayR_yes (r := ⟨2, qu, sr, st, en, va, ov, hs, se, ti, sq, bd⟩) (Or.inr (Or.inl ⟨by simp, g1, g2, g3⟩))) hv
          have HX := Lib.hid (fun (w : World) (h : Ints w A n hs) => rnoX_any qu sr st en va ov A n c hs true (decide_eq_true g2) w h.1)
          have HM := Lib.hid (fun w : World => ritem_any se ti sq true (decide_eq_true g1) w)
          clear hv g1 g2 g3
          go_enter Try.func14, Try.ntmps14
          go_wp2_with fail
          refine (HX.out _ (HI.out.below (hb _))).mono ?_; rintro e w1 ⟨rfl, c1⟩
          have b1 := (hb _).trans (c1.mono (by simp))
          have B1 : Has w1 w.heap.size 30 _ := (Has.made w _ _).below c1 (by simp)
          clear c1
          have cc1 : ∀ i, w1.cell? ⟨w.heap.size, i, none⟩ = (#[.int .i64 2, .int .i64 qu, .int .i64 sr, .int .i64 st, .int .i64 en, .int .i64 va, .bool ov, .slice A n c, .int .i64 se, .int .i64 ti, .int .i64 sq, .int .i64 bd] : Array Value)[i]? := fun i => B1.cell i
          go_wp2_with fail
          refine (HM.out _).mono ?_; rintro e w2 ⟨rfl, c2⟩
          have b2 := b1.trans (c2.mono b1.size)
          clear c2
          go_wp2_with fail
          go_ret
          exact ⟨rfl, b2⟩
        · obtain rfl := bool_eq (mayR_no (show ¬ MayR ⟨2, qu, sr, st, en, va, ov, hs, se, ti, sq, bd⟩ by unfold MayR; simp only; rintro (k | k | k | k) <;> first | exact g1 k.2.1 | (have := k.1; omega))) hv
          have HX := Lib.hid (fun (w : World) (h : Ints w A n hs) => rnoX_any qu sr st en va ov A n c hs true (decide_eq_true g2) w h.1)
          have HM := Lib.hid (fun w : World => ritem_any se ti sq false (decide_eq_false g1) w)
          clear hv g1 g2 g3
          go_enter Try.func14, Try.ntmps14
          go_wp2_with fail
          refine (HX.out _ (HI.out.below (hb _))).mono ?_; rintro e w1 ⟨rfl, c1⟩
          have b1 := (hb _).trans (c1.mono (by simp))
          have B1 : Has w1 w.heap.size 30 _ := (Has.made w _ _).below c1 (by simp)
          clear c1
          have cc1 : ∀ i, w1.cell? ⟨w.heap.size, i, none⟩ = (#[.int .i64 2, .int .i64 qu, .int .i64 sr, .int .i64 st, .int .i64 en, .int .i64 va, .bool ov, .slice A n c, .int .i64 se, .int .i64 ti, .int .i64 sq, .int .i64 bd] : Array Value)[i]? := fun i => B1.cell i
          go_wp2_with fail
          refine (HM.out _).mono ?_; rintro e w2 ⟨rfl, c2⟩
          have b2 := b1.trans (c2.mono b1.size)
          clear c2
          go_wp2_with fail
          go_ret
          exact ⟨rfl, b2⟩
      · have q4 : (bd == 0) = false := by simpa using g3
        obtain rfl := bool_eq (mayR_no (show ¬ MayR ⟨2, qu, sr, st, en, va, ov, hs, se, ti, sq, bd⟩ by unfold MayR; simp only; rintro (k | k | k | k) <;> first | exact g3 k.2.2.2 | (have := k.1; omega))) hv
        have HX := Lib.hid (fun (w : World) (h : Ints w A n hs) => rnoX_any qu sr st en va ov A n c hs true (decide_eq_true g2) w h.1)
        clear hv g2 g3
        go_enter Try.func14, Try.ntmps14
        go_wp2_with fail
        refine (HX.out _ (HI.out.below (hb _))).mono ?_; rintro e w1 ⟨rfl, c1⟩
        have b1 := (hb _).trans (c1.mono (by simp))
        have B1 : Has w1 w.heap.size 30 _ := (Has.made w _ _).below c1 (by simp)
        clear c1
        have cc1 : ∀ i, w1.cell? ⟨w.heap.size, i, none⟩ = (#[.int .i64 2, .int .i64 qu, .int .i64 sr, .int .i64 st, .int .i64 en, .int .i64 va, .bool ov, .slice A n c, .int .i64 se, .int .i64 ti, .int .i64 sq, .int .i64 bd] : Array Value)[i]? := fun i => B1.cell i
        go_wp2_with fail
        go_ret
        exact ⟨rfl, b1⟩
    · obtain rfl := bool_eq (mayR_no (show ¬ MayR ⟨2, qu, sr, st, en, va, ov, hs, se, ti, sq, bd⟩ by unfold MayR; simp only; rintro (k | k | k | k) <;> first | exact g2 k.2.2.1 | (have := k.1; omega))) hv
      have HX := Lib.hid (fun (w : World) (h : Ints w A n hs) => rnoX_any qu sr st en va ov A n c hs false (decide_eq_false g2) w h.1)
      clear hv g2
      go_enter Try.func14, Try.ntmps14
      go_wp2_with fail
      refine (HX.out _ (HI.out.below (hb _))).mono ?_; rintro e w1 ⟨rfl, c1⟩
      have b1 := (hb _).trans (c1.mono (by simp))
      have B1 : Has w1 w.heap.size 30 _ := (Has.made w _ _).below c1 (by simp)
      clear c1
      have cc1 : ∀ i, w1.cell? ⟨w.heap.size, i, none⟩ = (#[.int .i64 2, .int .i64 qu, .int .i64 sr, .int .i64 st, .int .i64 en, .int .i64 va, .bool ov, .slice A n c, .int .i64 se, .int .i64 ti, .int .i64 sq, .int .i64 bd] : Array Value)[i]? := fun i => B1.cell i
      go_wp2_with fail
      go_ret
      exact ⟨rfl, b1⟩

set_option maxRecDepth 100000 in
set_option maxHeartbeats 2000000 in
theorem rmay_k3 (qu sr st en va : Int) (ov : Bool) (hs : List Int) (A : Option Addr) (n c : Nat) (se ti sq bd : Int) (v : Bool) (hv : mayR ⟨3, qu, sr, st, en, va, ov, hs, se, ti, sq, bd⟩ = v) (w : World) (hI : Ints w A n hs) :
    Calls Try.prog 14 #[.agg #[.int .i64 3, .int .i64 qu, .int .i64 sr, .int .i64 st, .int .i64 en, .int .i64 va, .bool ov, .slice A n c, .int .i64 se, .int .i64 ti, .int .i64 sq, .int .i64 bd]] w fun e w' => e = .returned (.bool v) ∧ Below w.heap.size w w' := by
  have hb := fun o => (Below.refl w.heap.size w).alloc (Nat.le_refl _) o
  have HI := Lib.hid hI
  clear hI
  rcases plain_cases se ti sq with ⟨g0, q1, q2, q3⟩ | ⟨g0, q1⟩ | ⟨g0, q1, q2⟩ | ⟨g0, q1, q2, q3⟩ <;> clear g0
  · by_cases g2 : NoX qu sr st en va ov hs
    · by_cases g3 : bd = 0
      · have q4 : (bd == 0) = true := by simpa using g3
        by_cases g1 : SamM se ti sq
        · obtain rfl := bool_eq (mayR_yes (r := ⟨3, qu, sr, st, en, va, ov, hs, se, ti, sq, bd⟩) (Or.inr (Or.inl ⟨by simp, g1, g2, g3⟩))) hv
          have HX := Lib.hid (fun (w : World) (h : Ints w A n hs) => rnoX_any qu sr st en va ov A n c hs true (decide_eq_true g2) w h.1)
          have HM := Lib.hid (fun w : World => ritem_any se ti sq true (decide_eq_true g1) w)
          clear hv g1 g2 g3
          go_enter Try.func14, Try.ntmps14
          go_wp2_with fail
          refine (HX.out _ (HI.out.below (hb _))).mono ?_; rintro e w1 ⟨rfl, c1⟩
          have b1 := (hb _).trans (c1.mono (by simp))
          have B1 : Has w1 w.heap.size 30 _ := (Has.made w _ _).below c1 (by simp)
          clear c1
          have cc1 : ∀ i, w1.cell? ⟨w.heap.size, i, none⟩ = (#[.int .i64 3, .int .i64 qu, .int .i64 sr, .int .i64 st, .int .i64 en, .int .i64 va, .bool ov, .slice A n c, .int .i64 se, .int .i64 ti, .int .i64 sq, .int .i64 bd] : Array Value)[i]? := fun i => B1.cell i
          go_wp2_with fail
          refine (HM.out _).mono ?_; rintro e w2 ⟨rfl, c2⟩
          have b2 := b1.trans (c2.mono b1.size)
          clear c2
          go_wp2_with fail
          go_ret
          exact ⟨rfl, b2⟩
        · obtain rfl := bool_eq (mayR_no (show ¬ MayR ⟨3, qu, sr, st, en, va, ov, hs, se, ti, sq, bd⟩ by unfold MayR; simp only; rintro (k | k | k | k) <;> first | exact g1 k.2.1 | (have := k.1; omega))) hv
          have HX := Lib.hid (fun (w : World) (h : Ints w A n hs) => rnoX_any qu sr st en va ov A n c hs true (decide_eq_true g2) w h.1)
          have HM := Lib.hid (fun w : World => ritem_any se ti sq false (decide_eq_false g1) w)
          clear hv g1 g2 g3
          go_enter Try.func14, Try.ntmps14
          go_wp2_with fail
          refine (HX.out _ (HI.out.below (hb _))).mono ?_; rintro e w1 ⟨rfl, c1⟩
          have b1 := (hb _).trans (c1.mono (by simp))
          have B1 : Has w1 w.heap.size 30 _ := (Has.made w _ _).below c1 (by simp)
          clear c1
          have cc1 : ∀ i, w1.cell? ⟨w.heap.size, i, none⟩ = (#[.int .i64 3, .int .i64 qu, .int .i64 sr, .int .i64 st, .int .i64 en, .int .i64 va, .bool ov, .slice A n c, .int .i64 se, .int .i64 ti, .int .i64 sq, .int .i64 bd] : Array Value)[i]? := fun i => B1.cell i
          go_wp2_with fail
          refine (HM.out _).mono ?_; rintro e w2 ⟨rfl, c2⟩
          have b2 := b1.trans (c2.mono b1.size)
          clear c2
          go_wp2_with fail
          go_ret
          exact ⟨rfl, b2⟩
      · have q4 : (bd == 0) = false := by simpa using g3
        obtain rfl := bool_eq (mayR_no (show ¬ MayR ⟨3, qu, sr, st, en, va, ov, hs, se, ti, sq, bd⟩ by unfold MayR; simp only; rintro (k | k | k | k) <;> first | exact g3 k.2.2.2 | (have := k.1; omega))) hv
        have HX := Lib.hid (fun (w : World) (h : Ints w A n hs) => rnoX_any qu sr st en va ov A n c hs true (decide_eq_true g2) w h.1)
        clear hv g2 g3
        go_enter Try.func14, Try.ntmps14
        go_wp2_with fail
        refine (HX.out _ (HI.out.below (hb _))).mono ?_; rintro e w1 ⟨rfl, c1⟩
        have b1 := (hb _).trans (c1.mono (by simp))
        have B1 : Has w1 w.heap.size 30 _ := (Has.made w _ _).below c1 (by simp)
        clear c1
        have cc1 : ∀ i, w1.cell? ⟨w.heap.size, i, none⟩ = (#[.int .i64 3, .int .i64 qu, .int .i64 sr, .int .i64 st, .int .i64 en, .int .i64 va, .bool ov, .slice A n c, .int .i64 se, .int .i64 ti, .int .i64 sq, .int .i64 bd] : Array Value)[i]? := fun i => B1.cell i
        go_wp2_with fail
        go_ret
        exact ⟨rfl, b1⟩
    · obtain rfl := bool_eq (mayR_no (show ¬ MayR ⟨3, qu, sr, st, en, va, ov, hs, se, ti, sq, bd⟩ by unfold MayR; simp only; rintro (k | k | k | k) <;> first | exact g2 k.2.2.1 | (have := k.1; omega))) hv
      have HX := Lib.hid (fun (w : World) (h : Ints w A n hs) => rnoX_any qu sr st en va ov A n c hs false (decide_eq_false g2) w h.1)
      clear hv g2
      go_enter Try.func14, Try.ntmps14
      go_wp2_with fail
      refine (HX.out _ (HI.out.below (hb _))).mono ?_; rintro e w1 ⟨rfl, c1⟩
      have b1 := (hb _).trans (c1.mono (by simp))
      have B1 : Has w1 w.heap.size 30 _ := (Has.made w _ _).below c1 (by simp)
      clear c1
      have cc1 : ∀ i, w1.cell? ⟨w.heap.size, i, none⟩ = (#[.int .i64 3, .int .i64 qu, .int .i64 sr, .int .i64 st, .int .i64 en, .int .i64 va, .bool ov, .slice A n c, .int .i64 se, .int .i64 ti, .int .i64 sq, .int .i64 bd] : Array Value)[i]? := fun i => B1.cell i
      go_wp2_with fail
      go_ret
      exact ⟨rfl, b1⟩
  · by_cases g2 : NoX qu sr st en va ov hs
    · by_cases g3 : bd = 0
      · have q4 : (bd == 0) = true := by simpa using g3
        by_cases g1 : SamM se ti sq
        · obtain rfl := bool_eq (mayR_yes (r := ⟨3, qu, sr, st, en, va, ov, hs, se, ti, sq, bd⟩) (Or.inr (Or.inl ⟨by simp, g1, g2, g3⟩))) hv
          have HX := Lib.hid (fun (w : World) (h : Ints w A n hs) => rnoX_any qu sr st en va ov A n c hs true (decide_eq_true g2) w h.1)
          have HM := Lib.hid (fun w : World => ritem_any se ti sq true (decide_eq_true g1) w)
          clear hv g1 g2 g3
          go_enter Try.func14, Try.ntmps14
          go_wp2_with fail
          refine (HX.out _ (HI.out.below (hb _))).mono ?_; rintro e w1 ⟨rfl, c1⟩
          have b1 := (hb _).trans (c1.mono (by simp))
          have B1 : Has w1 w.heap.size 30 _ := (Has.made w _ _).below c1 (by simp)
          clear c1
          have cc1 : ∀ i, w1.cell? ⟨w.heap.size, i, none⟩ = (#[.int .i64 3, .int .i64 qu, .int .i64 sr, .int .i64 st, .int .i64 en, .int .i64 va, .bool ov, .slice A n c, .int .i64 se, .int .i64 ti, .int .i64 sq, .int .i64 bd] : Array Value)[i]? := fun i => B1.cell i
          go_wp2_with fail
          refine (HM.out _).mono ?_; rintro e w2 ⟨rfl, c2⟩
          have b2 := b1.trans (c2.mono b1.size)
          clear c2
          go_wp2_with fail
          go_ret
          exact ⟨rfl, b2⟩
        · obtain rfl := bool_eq (mayR_no (show ¬ MayR ⟨3, qu, sr, st, en, va, ov, hs, se, ti, sq, bd⟩ by unfold MayR; simp only; rintro (k | k | k | k) <;> first | exact g1 k.2.1 | (have := k.1; omega))) hv
          have HX := Lib.hid (fun (w : World) (h : Ints w A n hs) => rnoX_any qu sr st en va ov A n c hs true (decide_eq_true g2) w h.1)
          have HM := Lib.hid (fun w : World => ritem_any se ti sq false (decide_eq_false g1) w)
          clear hv g1 g2 g3
          go_enter Try.func14, Try.ntmps14
          go_wp2_with fail
          refine (HX.out _ (HI.out.below (hb _))).mono ?_; rintro e w1 ⟨rfl, c1⟩
          have b1 := (hb _).trans (c1.mono (by simp))
          have B1 : Has w1 w.heap.size 30 _ := (Has.made w _ _).below c1 (by simp)
          clear c1
          have cc1 : ∀ i, w1.cell? ⟨w.heap.size, i, none⟩ = (#[.int .i64 3, .int .i64 qu, .int .i64 sr, .int .i64 st, .int .i64 en, .int .i64 va, .bool ov, .slice A n c, .int .i64 se, .int .i64 ti, .int .i64 sq, .int .i64 bd] : Array Value)[i]? := fun i => B1.cell i
          go_wp2_with fail
          refine (HM.out _).mono ?_; rintro e w2 ⟨rfl, c2⟩
          have b2 := b1.trans (c2.mono b1.size)
          clear c2
          go_wp2_with fail
          go_ret
          exact ⟨rfl, b2⟩
      · have q4 : (bd == 0) = false := by simpa using g3
        obtain rfl := bool_eq (mayR_no (show ¬ MayR ⟨3, qu, sr, st, en, va, ov, hs, se, ti, sq, bd⟩ by unfold MayR; simp only; rintro (k | k | k | k) <;> first | exact g3 k.2.2.2 | (have := k.1; omega))) hv
        have HX := Lib.hid (fun (w : World) (h : Ints w A n hs) => rnoX_any qu sr st en va ov A n c hs true (decide_eq_true g2) w h.1)
        clear hv g2 g3
        go_enter Try.func14, Try.ntmps14
        go_wp2_with fail
        refine (HX.out _ (HI.out.below (hb _))).mono ?_; rintro e w1 ⟨rfl, c1⟩
        have b1 := (hb _).trans (c1.mono (by simp))
        have B1 : Has w1 w.heap.size 30 _ := (Has.made w _ _).below c1 (by simp)
        clear c1
        have cc1 : ∀ i, w1.cell? ⟨w.heap.size, i, none⟩ = (#[.int .i64 3, .int .i64 qu, .int .i64 sr, .int .i64 st, .int .i64 en, .int .i64 va, .bool ov, .slice A n c, .int .i64 se, .int .i64 ti, .int .i64 sq, .int .i64 bd] : Array Value)[i]? := fun i => B1.cell i
        go_wp2_with fail
        go_ret
        exact ⟨rfl, b1⟩
    · obtain rfl := bool_eq (mayR_no (show ¬ MayR ⟨3, qu, sr, st, en, va, ov, hs, se, ti, sq, bd⟩ by unfold MayR; simp only; rintro (k | k | k | k) <;> first | exact g2 k.2.2.1 | (have := k.1; omega))) hv
      have HX := Lib.hid (fun (w : World) (h : Ints w A n hs) => rnoX_any qu sr st en va ov A n c hs false (decide_eq_false g2) w h.1)
      clear hv g2
      go_enter Try.func14, Try.ntmps14
      go_wp2_with fail
      refine (HX.out _ (HI.out.below (hb _))).mono ?_; rintro e w1 ⟨rfl, c1⟩
      have b1 := (hb _).trans (c1.mono (by simp))
      have B1 : Has w1 w.heap.size 30 _ := (Has.made w _ _).below c1 (by simp)
      clear c1
      have cc1 : ∀ i, w1.cell? ⟨w.heap.size, i, none⟩ = (#[.int .i64 3, .int .i64 qu, .int .i64 sr, .int .i64 st, .int .i64 en, .int .i64 va, .bool ov, .slice A n c, .int .i64 se, .int .i64 ti, .int .i64 sq, .int .i64 bd] : Array Value)[i]? := fun i => B1.cell i
      go_wp2_with fail
      go_ret
      exact ⟨rfl, b1⟩
  · by_cases g2 : NoX qu sr st en va ov hs
    · by_cases g3 : bd = 0
      · have q4 : (bd == 0) = true := by simpa using g3
        by_cases g1 : SamM se ti sq
        · obtain rfl := bool_eq (mayR_yes (r := ⟨3, qu, sr, st, en, va, ov, hs, se, ti, sq, bd⟩) (Or.inr (Or.inl ⟨by simp, g1, g2, g3⟩))) hv
          have HX := Lib.hid (fun (w : World) (h : Ints w A n hs) => rnoX_any qu sr st en va ov A n c hs true (decide_eq_true g2) w h.1)
          have HM := Lib.hid (fun w : World => ritem_any se ti sq true (decide_eq_true g1) w)
          clear hv g1 g2 g3
          go_enter Try.func14, Try.ntmps14
          go_wp2_with fail
          refine (HX.out _ (HI.out.below (hb _))).mono ?_; rintro e w1 ⟨rfl, c1⟩
          have b1 := (hb _).trans (c1.mono (by simp))
          have B1 : Has w1 w.heap.size 30 _ := (Has.made w _ _).below c1 (by simp)
          clear c1
          have cc1 : ∀ i, w1.cell? ⟨w.heap.size, i, none⟩ = (#[.int .i64 3, .int .i64 qu, .int .i64 sr, .int .i64 st, .int .i64 en, .int .i64 va, .bool ov, .slice A n c, .int .i64 se, .int .i64 ti, .int .i64 sq, .int .i64 bd] : Array Value)[i]? := fun i => B1.cell i
          go_wp2_with fail
          refine (HM.out _).mono ?_; rintro e w2 ⟨rfl, c2⟩
          have b2 := b1.trans (c2.mono b1.size)
          clear c2
          go_wp2_with fail
          go_ret
          exact ⟨rfl, b2⟩
        · obtain rfl := bool_eq (mayR_no (show ¬ MayR ⟨3, qu, sr, st, en, va, ov, hs, se, ti, sq, bd⟩ by unfold MayR; simp only; rintro (k | k | k | k) <;> first | exact g1 k.2.1 | (have := k.1; omega))) hv
          have HX := Lib.hid (fun (w : World) (h : Ints w A n hs) => rnoX_any qu sr st en va ov A n c hs true (decide_eq_true g2) w h.1)
          have HM := Lib.hid (fun w : World => ritem_any se ti sq false (decide_eq_false g1) w)
          clear hv g1 g2 g3
          go_enter Try.func14, Try.ntmps14
          go_wp2_with fail
          refine (HX.out _ (HI.out.below (hb _))).mono ?_; rintro e w1 ⟨rfl, c1⟩
          have b1 := (hb _).trans (c1.mono (by simp))
          have B1 : Has w1 w.heap.size 30 _ := (Has.made w _ _).below c1 (by simp)
          clear c1
          have cc1 : ∀ i, w1.cell? ⟨w.heap.size, i, none⟩ = (#[.int .i64 3, .int .i64 qu, .int .i64 sr, .int .i64 st, .int .i64 en, .int .i64 va, .bool ov, .slice A n c, .int .i64 se, .int .i64 ti, .int .i64 sq, .int .i64 bd] : Array Value)[i]? := fun i => B1.cell i
          go_wp2_with fail
          refine (HM.out _).mono ?_; rintro e w2 ⟨rfl, c2⟩
          have b2 := b1.trans (c2.mono b1.size)
          clear c2
          go_wp2_with fail
          go_ret
          exact ⟨rfl, b2⟩
      · have q4 : (bd == 0) = false := by simpa using g3
        obtain rfl := bool_eq (mayR_no (show ¬ MayR ⟨3, qu, sr, st, en, va, ov, hs, se, ti, sq, bd⟩ by unfold MayR; simp only; rintro (k | k | k | k) <;> first | exact g3 k.2.2.2 | (have := k.1; omega))) hv
        have HX := Lib.hid (fun (w : World) (h : Ints w A n hs) => rnoX_any qu sr st en va ov A n c hs true (decide_eq_true g2) w h.1)
        clear hv g2 g3
        go_enter Try.func14, Try.ntmps14
        go_wp2_with fail
        refine (HX.out _ (HI.out.below (hb _))).mono ?_; rintro e w1 ⟨rfl, c1⟩
        have b1 := (hb _).trans (c1.mono (by simp))
        have B1 : Has w1 w.heap.size 30 _ := (Has.made w _ _).below c1 (by simp)
        clear c1
        have cc1 : ∀ i, w1.cell? ⟨w.heap.size, i, none⟩ = (#[.int .i64 3, .int .i64 qu, .int .i64 sr, .int .i64 st, .int .i64 en, .int .i64 va, .bool ov, .slice A n c, .int .i64 se, .int .i64 ti, .int .i64 sq, .int .i64 bd] : Array Value)[i]? := fun i => B1.cell i
        go_wp2_with fail
        go_ret
        exact ⟨rfl, b1⟩
    · obtain rfl := bool_eq (mayR_no (show ¬ MayR ⟨3, qu, sr, st, en, va, ov, hs, se, ti, sq, bd⟩ by unfold MayR; simp only; rintro (k | k | k | k) <;> first | exact g2 k.2.2.1 | (have := k.1; omega))) hv
      have HX := Lib.hid (fun (w : World) (h : Ints w A n hs) => rnoX_any qu sr st en va ov A n c hs false (decide_eq_false g2) w h.1)
      clear hv g2
      go_enter Try.func14, Try.ntmps14
      go_wp2_with fail
      refine (HX.out _ (HI.out.below (hb _))).mono ?_; rintro e w1 ⟨rfl, c1⟩
      have b1 := (hb _).trans (c1.mono (by simp))
      have B1 : Has w1 w.heap.size 30 _ := (Has.made w _ _).below c1 (by simp)
      clear c1
      have cc1 : ∀ i, w1.cell? ⟨w.heap.size, i, none⟩ = (#[.int .i64 3, .int .i64 qu, .int .i64 sr, .int .i64 st, .int .i64 en, .int .i64 va, .bool ov, .slice A n c, .int .i64 se, .int .i64 ti, .int .i64 sq, .int .i64 bd] : Array Value)[i]? := fun i => B1.cell i
      go_wp2_with fail
      go_ret
      exact ⟨rfl, b1⟩
  · by_cases g2 : NoX qu sr st en va ov hs
    · by_cases g3 : bd = 0
      · have q4 : (bd == 0) = true := by simpa using g3
        by_cases g1 : SamM se ti sq
        · obtain rfl := bool_eq (mayR_yes (r := ⟨3, qu, sr, st, en, va, ov, hs, se, ti, sq, bd⟩) (Or.inr (Or.inl ⟨by simp, g1, g2, g3⟩))) hv
          have HX := Lib.hid (fun (w : World) (h : Ints w A n hs) => rnoX_any qu sr st en va ov A n c hs true (decide_eq_true g2) w h.1)
          have HM := Lib.hid (fun w : World => ritem_any se ti sq true (decide_eq_true g1) w)
          clear hv g1 g2 g3
          go_enter Try.func14, Try.ntmps14
          go_wp2_with fail
          refine (HX.out _ (HI.out.below (hb _))).mono ?_; rintro e w1 ⟨rfl, c1⟩
          have b1 := (hb _).trans (c1.mono (by simp))
          have B1 : Has w1 w.heap.size 30 _ := (Has.made w _ _).below c1 (by simp)
          clear c1
          have cc1 : ∀ i, w1.cell? ⟨w.heap.size, i, none⟩ = (#[.int .i64 3, .int .i64 qu, .int .i64 sr, .int .i64 st, .int .i64 en, .int .i64 va, .bool ov, .slice A n c, .int .i64 se, .int .i64 ti, .int .i64 sq, .int .i64 bd] : Array Value)[i]? := fun i => B1.cell i
          go_wp2_with fail
          refine (HM.out _).mono ?_; rintro e w2 ⟨rfl, c2⟩
          have b2 := b1.trans (c2.mono b1.size)
          clear c2
          go_wp2_with fail
          go_ret
          exact ⟨rfl, b2⟩
        · obtain rfl := bool_eq (mayR_no (show ¬ MayR ⟨3, qu, sr, st, en, va, ov, hs, se, ti, sq, bd⟩ by unfold MayR; simp only; rintro (k | k | k | k) <;> first | exact g1 k.2.1 | (have := k.1; omega))) hv
          have HX := Lib.hid (fun (w : World) (h : Ints w A n hs) => rnoX_any qu sr st en va ov A n c hs true (decide_eq_true g2) w h.1)
          have HM := Lib.hid (fun w : World => ritem_any se ti sq false (decide_eq_false g1) w)
          clear hv g1 g2 g3
          go_enter Try.func14, Try.ntmps14
          go_wp2_with fail
          refine (HX.out _ (HI.out.below (hb _))).mono ?_; rintro e w1 ⟨rfl, c1⟩
          have b1 := (hb _).trans (c1.mono (by simp))
          have B1 : Has w1 w.heap.size 30 _ := (Has.made w _ _).below c1 (by simp)
          clear c1
          have cc1 : ∀ i, w1.cell? ⟨w.heap.size, i, none⟩ = (#[.int .i64 3, .int .i64 qu, .int .i64 sr, .int .i64 st, .int .i64 en, .int .i64 va, .bool ov, .slice A n c, .int .i64 se, .int .i64 ti, .int .i64 sq, .int .i64 bd] : Array Value)[i]? := fun i => B1.cell i
          go_wp2_with fail
          refine (HM.out _).mono ?_; rintro e w2 ⟨rfl, c2⟩
          have b2 := b1.trans (c2.mono b1.size)
          clear c2
          go_wp2_with fail
          go_ret
          exact ⟨rfl, b2⟩
      · have q4 : (bd == 0) = false := by simpa using g3
        obtain rfl := bool_eq (mayR_no (show ¬ MayR ⟨3, qu, sr, st, en, va, ov, hs, se, ti, sq, bd⟩ by unfold MayR; simp only; rintro (k | k | k | k) <;> first | exact g3 k.2.2.2 | (have := k.1; omega))) hv
        have HX := Lib.hid (fun (w : World) (h : Ints w A n hs) => rnoX_any qu sr st en va ov A n c hs true (decide_eq_true g2) w h.1)
        clear hv g2 g3
        go_enter Try.func14, Try.ntmps14
        go_wp2_with fail
        refine (HX.out _ (HI.out.below (hb _))).mono ?_; rintro e w1 ⟨rfl, c1⟩
        have b1 := (hb _).trans (c1.mono (by simp))
        have B1 : Has w1 w.heap.size 30 _ := (Has.made w _ _).below c1 (by simp)
        clear c1
        have cc1 : ∀ i, w1.cell? ⟨w.heap.size, i, none⟩ = (#[.int .i64 3, .int .i64 qu, .int .i64 sr, .int .i64 st, .int .i64 en, .int .i64 va, .bool ov, .slice A n c, .int .i64 se, .int .i64 ti, .int .i64 sq, .int .i64 bd] : Array Value)[i]? := fun i => B1.cell i
        go_wp2_with fail
        go_ret
        exact ⟨rfl, b1⟩
    · obtain rfl := bool_eq (mayR_no (show ¬ MayR ⟨3, qu, sr, st, en, va, ov, hs, se, ti, sq, bd⟩ by unfold MayR; simp only; rintro (k | k | k | k) <;> first | exact g2 k.2.2.1 | (have := k.1; omega))) hv
      have HX := Lib.hid (fun (w : World) (h : Ints w A n hs) => rnoX_any qu sr st en va ov A n c hs false (decide_eq_false g2) w h.1)
      clear hv g2
      go_enter Try.func14, Try.ntmps14
      go_wp2_with fail
      refine (HX.out _ (HI.out.below (hb _))).mono ?_; rintro e w1 ⟨rfl, c1⟩
      have b1 := (hb _).trans (c1.mono (by simp))
      have B1 : Has w1 w.heap.size 30 _ := (Has.made w _ _).below c1 (by simp)
      clear c1
      have cc1 : ∀ i, w1.cell? ⟨w.heap.size, i, none⟩ = (#[.int .i64 3, .int .i64 qu, .int .i64 sr, .int .i64 st, .int .i64 en, .int .i64 va, .bool ov, .slice A n c, .int .i64 se, .int .i64 ti, .int .i64 sq, .int .i64 bd] : Array Value)[i]? := fun i => B1.cell i
      go_wp2_with fail
      go_ret
      exact ⟨rfl, b1⟩

set_option maxRecDepth 100000 in
set_option maxHeartbeats 2000000 in
theorem rmay_k5 (qu sr st en va : Int) (ov : Bool) (hs : List Int) (A : Option Addr) (n c : Nat) (se ti sq bd : Int) (v : Bool) (hv : mayR ⟨5, qu, sr, st, en, va, ov, hs, se, ti, sq, bd⟩ = v) (w : World) (hI : Ints w A n hs) :
    Calls Try.prog 14 #[.agg #[.int .i64 5, .int .i64 qu, .int .i64 sr, .int .i64 st, .int .i64 en, .int .i64 va, .bool ov, .slice A n c, .int .i64 se, .int .i64 ti, .int .i64 sq, .int .i64 bd]] w fun e w' => e = .returned (.bool v) ∧ Below w.heap.size w w' := by
  have hb := fun o => (Below.refl w.heap.size w).alloc (Nat.le_refl _) o
  have HI := Lib.hid hI
  clear hI
  rcases plain_cases se ti sq with ⟨g1, q1, q2, q3⟩ | ⟨g1, q1⟩ | ⟨g1, q1, q2⟩ | ⟨g1, q1, q2, q3⟩
  · by_cases g2 : NoX qu sr st en va ov hs
    · by_cases g3 : 1 ≤ bd
      · have q4 : decide (1 ≤ bd) = true := by simpa using g3
        by_cases g4 : bd ≤ 1073741823
        · have q5 : decide (bd ≤ 1073741823) = true := by simpa using g4
          obtain rfl := bool_eq (mayR_yes (r := ⟨5, qu, sr, st, en, va, ov, hs, se, ti, sq, bd⟩) (Or.inr (Or.inr (Or.inr ⟨rfl, ⟨g3, g4⟩, g2, g1⟩)))) hv
          have HX := Lib.hid (fun (w : World) (h : Ints w A n hs) => rnoX_any qu sr st en va ov A n c hs true (decide_eq_true g2) w h.1)
          clear hv g1 g2 g3 g4
          go_enter Try.func14, Try.ntmps14
          go_wp2_with fail
          refine (HX.out _ (HI.out.below (hb _))).mono ?_; rintro e w1 ⟨rfl, c1⟩
          have b1 := (hb _).trans (c1.mono (by simp))
          have B1 : Has w1 w.heap.size 30 _ := (Has.made w _ _).below c1 (by simp)
          clear c1
          have cc1 : ∀ i, w1.cell? ⟨w.heap.size, i, none⟩ = (#[.int .i64 5, .int .i64 qu, .int .i64 sr, .int .i64 st, .int .i64 en, .int .i64 va, .bool ov, .slice A n c, .int .i64 se, .int .i64 ti, .int .i64 sq, .int .i64 bd] : Array Value)[i]? := fun i => B1.cell i
          go_wp2_with fail
          go_ret
          exact ⟨rfl, b1⟩
        · have q5 : decide (bd ≤ 1073741823) = false := by simpa using g4
          obtain rfl := bool_eq (mayR_no (show ¬ MayR ⟨5, qu, sr, st, en, va, ov, hs, se, ti, sq, bd⟩ by unfold MayR; simp only; rintro (k | k | k | k) <;> first | exact g4 k.2.1.2 | (have := k.1; omega))) hv
          have HX := Lib.hid (fun (w : World) (h : Ints w A n hs) => rnoX_any qu sr st en va ov A n c hs true (decide_eq_true g2) w h.1)
          clear hv g1 g2 g3 g4
          go_enter Try.func14, Try.ntmps14
          go_wp2_with fail
          refine (HX.out _ (HI.out.below (hb _))).mono ?_; rintro e w1 ⟨rfl, c1⟩
          have b1 := (hb _).trans (c1.mono (by simp))
          have B1 : Has w1 w.heap.size 30 _ := (Has.made w _ _).below c1 (by simp)
          clear c1
          have cc1 : ∀ i, w1.cell? ⟨w.heap.size, i, none⟩ = (#[.int .i64 5, .int .i64 qu, .int .i64 sr, .int .i64 st, .int .i64 en, .int .i64 va, .bool ov, .slice A n c, .int .i64 se, .int .i64 ti, .int .i64 sq, .int .i64 bd] : Array Value)[i]? := fun i => B1.cell i
          go_wp2_with fail
          go_ret
          exact ⟨rfl, b1⟩
      · have q4 : decide (1 ≤ bd) = false := by simpa using g3
        obtain rfl := bool_eq (mayR_no (show ¬ MayR ⟨5, qu, sr, st, en, va, ov, hs, se, ti, sq, bd⟩ by unfold MayR; simp only; rintro (k | k | k | k) <;> first | exact g3 k.2.1.1 | (have := k.1; omega))) hv
        have HX := Lib.hid (fun (w : World) (h : Ints w A n hs) => rnoX_any qu sr st en va ov A n c hs true (decide_eq_true g2) w h.1)
        clear hv g1 g2 g3
        go_enter Try.func14, Try.ntmps14
        go_wp2_with fail
        refine (HX.out _ (HI.out.below (hb _))).mono ?_; rintro e w1 ⟨rfl, c1⟩
        have b1 := (hb _).trans (c1.mono (by simp))
        have B1 : Has w1 w.heap.size 30 _ := (Has.made w _ _).below c1 (by simp)
        clear c1
        have cc1 : ∀ i, w1.cell? ⟨w.heap.size, i, none⟩ = (#[.int .i64 5, .int .i64 qu, .int .i64 sr, .int .i64 st, .int .i64 en, .int .i64 va, .bool ov, .slice A n c, .int .i64 se, .int .i64 ti, .int .i64 sq, .int .i64 bd] : Array Value)[i]? := fun i => B1.cell i
        go_wp2_with fail
        go_ret
        exact ⟨rfl, b1⟩
    · obtain rfl := bool_eq (mayR_no (show ¬ MayR ⟨5, qu, sr, st, en, va, ov, hs, se, ti, sq, bd⟩ by unfold MayR; simp only; rintro (k | k | k | k) <;> first | exact g2 k.2.2.1 | (have := k.1; omega))) hv
      have HX := Lib.hid (fun (w : World) (h : Ints w A n hs) => rnoX_any qu sr st en va ov A n c hs false (decide_eq_false g2) w h.1)
      clear hv g1 g2
      go_enter Try.func14, Try.ntmps14
      go_wp2_with fail
      refine (HX.out _ (HI.out.below (hb _))).mono ?_; rintro e w1 ⟨rfl, c1⟩
      have b1 := (hb _).trans (c1.mono (by simp))
      have B1 : Has w1 w.heap.size 30 _ := (Has.made w _ _).below c1 (by simp)
      clear c1
      have cc1 : ∀ i, w1.cell? ⟨w.heap.size, i, none⟩ = (#[.int .i64 5, .int .i64 qu, .int .i64 sr, .int .i64 st, .int .i64 en, .int .i64 va, .bool ov, .slice A n c, .int .i64 se, .int .i64 ti, .int .i64 sq, .int .i64 bd] : Array Value)[i]? := fun i => B1.cell i
      go_wp2_with fail
      go_ret
      exact ⟨rfl, b1⟩
  · obtain rfl := bool_eq (mayR_no (show ¬ MayR ⟨5, qu, sr, st, en, va, ov, hs, se, ti, sq, bd⟩ by unfold MayR; simp only; rintro (k | k | k | k) <;> first | exact g1 k.2.2.2 | (have := k.1; omega))) hv
    clear hv g1
    go_enter Try.func14, Try.ntmps14
    go_wp2_with fail
    go_ret
    exact ⟨rfl, hb _⟩
  · obtain rfl := bool_eq (mayR_no (show ¬ MayR ⟨5, qu, sr, st, en, va, ov, hs, se, ti, sq, bd⟩ by unfold MayR; simp only; rintro (k | k | k | k) <;> first | exact g1 k.2.2.2 | (have := k.1; omega))) hv
    clear hv g1
    go_enter Try.func14, Try.ntmps14
    go_wp2_with fail
    go_ret
    exact ⟨rfl, hb _⟩
  · obtain rfl := bool_eq (mayR_no (show ¬ MayR ⟨5, qu, sr, st, en, va, ov, hs, se, ti, sq, bd⟩ by unfold MayR; simp only; rintro (k | k | k | k) <;> first | exact g1 k.2.2.2 | (have := k.1; omega))) hv
    clear hv g1
    go_enter Try.func14, Try.ntmps14
    go_wp2_with fail
    go_ret
    exact ⟨rfl, hb _⟩

set_option maxRecDepth 100000 in
set_option maxHeartbeats 2000000 in
theorem rmay_kn (kd : Int) (qu sr st en va : Int) (ov : Bool) (hs : List Int) (A : Option Addr) (n c : Nat) (se ti sq bd : Int) (v : Bool) (hv : mayR ⟨kd, qu, sr, st, en, va, ov, hs, se, ti, sq, bd⟩ = v) (n0 : kd ≠ 0) (n1 : kd ≠ 1) (n2 : kd ≠ 2) (n3 : kd ≠ 3) (n4 : kd ≠ 4) (n5 : kd ≠ 5) (w : World) :
    Calls Try.prog 14 #[.agg #[.int .i64 kd, .int .i64 qu, .int .i64 sr, .int .i64 st, .int .i64 en, .int .i64 va, .bool ov, .slice A n c, .int .i64 se, .int .i64 ti, .int .i64 sq, .int .i64 bd]] w fun e w' => e = .returned (.bool v) ∧ Below w.heap.size w w' := by
  have hb := fun o => (Below.refl w.heap.size w).alloc (Nat.le_refl _) o
  obtain rfl := bool_eq (mayR_no (show ¬ MayR ⟨kd, qu, sr, st, en, va, ov, hs, se, ti, sq, bd⟩ by unfold MayR; simp only; omega)) hv
  have k0 : (kd == 0) = false := by simpa using n0
  have k1 : (kd == 1) = false := by simpa using n1
  have k2 : (kd == 2) = false := by simpa using n2
  have k3 : (kd == 3) = false := by simpa using n3
  have k4 : (kd == 4) = false := by simpa using n4
  have k5 : (kd == 5) = false := by simpa using n5
  clear hv n0 n1 n2 n3 n4 n5
  rcases plain_cases se ti sq with ⟨g0, q1, q2, q3⟩ | ⟨g0, q1⟩ | ⟨g0, q1, q2⟩ | ⟨g0, q1, q2, q3⟩ <;> clear g0
  · go_enter Try.func14, Try.ntmps14
    go_wp2_with fail
    go_ret
    exact ⟨rfl, hb _⟩
  · go_enter Try.func14, Try.ntmps14
    go_wp2_with fail
    go_ret
    exact ⟨rfl, hb _⟩
  · go_enter Try.func14, Try.ntmps14
    go_wp2_with fail
    go_ret
    exact ⟨rfl, hb _⟩
  · go_enter Try.func14, Try.ntmps14
    go_wp2_with fail
    go_ret
    exact ⟨rfl, hb _⟩

/-- RecMay, of any record. -/
theorem rmay_any (r : Rc) (A : Option Addr) (n c : Nat) (v : Bool) (hv : mayR r = v) (w : World) (hI : Ints w A n r.hs) :
    Calls Try.prog 14 #[.agg (recC r A n c)] w fun e w' => e = .returned (.bool v) ∧ Below w.heap.size w w' := by
  obtain ⟨kd, qu, sr, st, en, va, ov, hs, se, ti, sq, bd⟩ := r
  by_cases n0 : kd = 0
  · subst n0; exact rmay_k0 qu sr st en va ov hs A n c se ti sq bd v hv w hI
  by_cases n1 : kd = 1
  · subst n1; exact rmay_k1 qu sr st en va ov hs A n c se ti sq bd v hv w hI
  by_cases n2 : kd = 2
  · subst n2; exact rmay_k2 qu sr st en va ov hs A n c se ti sq bd v hv w hI
  by_cases n3 : kd = 3
  · subst n3; exact rmay_k3 qu sr st en va ov hs A n c se ti sq bd v hv w hI
  by_cases n4 : kd = 4
  · subst n4; exact rmay_k4 qu sr st en va ov hs A n c se ti sq bd v hv w hI
  by_cases n5 : kd = 5
  · subst n5; exact rmay_k5 qu sr st en va ov hs A n c se ti sq bd v hv w hI
  exact rmay_kn kd qu sr st en va ov hs A n c se ti sq bd v hv n0 n1 n2 n3 n4 n5 w


end Go.Proofs.Ytdbcmcdmipehgaa
