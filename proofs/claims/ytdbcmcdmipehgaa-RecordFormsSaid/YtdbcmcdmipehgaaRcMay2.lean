/-
  Walk: record.May (written by gen/rcmay2.py).
-/
import Derived.Test.YtdbcmcdmipehgaaRcMay
namespace Go.Proofs.Ytdbcmcdmipehgaa
open Go.RowKit


set_option maxRecDepth 100000 in
set_option maxHeartbeats 1000000 in
theorem may_k0 (qu sr st en va : Int) (ov : Bool) (hs : List Int) (A : Option Addr) (n c : Nat) (se ti sq bd : Int)(v : Bool) (hv : mayR ⟨0, qu, sr, st, en, va, ov, hs, se, ti, sq, bd⟩ = v) (w : World) (hI : Ints w A n hs) :
    Calls Try.prog 13 #[.agg #[.int .i64 0, .int .i64 qu, .int .i64 sr, .int .i64 st, .int .i64 en, .int .i64 va, .bool ov, .slice A n c, .int .i64 se, .int .i64 ti, .int .i64 sq, .int .i64 bd]] w fun e w' => e = .returned (.bool v) ∧ Below w.heap.size w w' := by
  by_cases g1 : ResM qu sr st en va ov hs
  · by_cases g2 : NoS se ti sq
    · by_cases g3 : bd = 0
      · obtain rfl := bool_eq (mayR_yes (r := ⟨0, qu, sr, st, en, va, ov, hs, se, ti, sq, bd⟩) (Or.inl ⟨rfl, g1, g2, g3⟩)) hv
        clear hv
        have HX := Lib.hid (fun (w : World) (h : Ints w A n hs) => res_any qu sr st en va ov A n c hs true (decide_eq_true g1) w h)
        clear g1
        have HS := Lib.hid (fun w : World => noS_any 0 qu sr st en va ov A n c se ti sq bd true (decide_eq_true g2) w)
        clear g2
        have q : (bd == 0) = true := by simpa using g3
        clear g3
        have HI := Lib.hid hI
        clear hI
        go_enter Try.func13, Try.ntmps13
        go_wp2_with fail
        refine (HX.out _ (HI.out.below ((Below.refl w.heap.size w).alloc (Nat.le_refl _) _))).mono ?_; rintro e w1 ⟨rfl, c1⟩
        have b1 := ((Below.refl w.heap.size w).alloc (Nat.le_refl _) _).trans (c1.mono (by simp))
        have B1 : Has w1 w.heap.size 30 #[.int .i64 0, .int .i64 qu, .int .i64 sr, .int .i64 st, .int .i64 en, .int .i64 va, .bool ov, .slice A n c, .int .i64 se, .int .i64 ti, .int .i64 sq, .int .i64 bd] := (Has.made w _ _).below c1 (by simp)
        have cc1 : ∀ i, w1.cell? ⟨w.heap.size, i, none⟩ = (#[.int .i64 0, .int .i64 qu, .int .i64 sr, .int .i64 st, .int .i64 en, .int .i64 va, .bool ov, .slice A n c, .int .i64 se, .int .i64 ti, .int .i64 sq, .int .i64 bd] : Array Value)[i]? := fun i => B1.cell i
        clear c1
        go_wp2_with fail
        refine (HS.out _).mono ?_; rintro e w2 ⟨rfl, c2⟩
        have b2 := b1.trans (c2.mono b1.size)
        have B2 := B1.below c2 B1.lt
        have cc2 : ∀ i, w2.cell? ⟨w.heap.size, i, none⟩ = (#[.int .i64 0, .int .i64 qu, .int .i64 sr, .int .i64 st, .int .i64 en, .int .i64 va, .bool ov, .slice A n c, .int .i64 se, .int .i64 ti, .int .i64 sq, .int .i64 bd] : Array Value)[i]? := fun i => B2.cell i
        clear c2 b1 B1 cc1
        go_wp2_with fail
        go_ret
        exact ⟨rfl, b2⟩
      · obtain rfl := bool_eq (mayR_no (show ¬ MayR ⟨0, qu, sr, st, en, va, ov, hs, se, ti, sq, bd⟩ by unfold MayR; simp only; rintro (k | k | k | k) <;> first | exact g3 k.2.2.2 | (have := k.1; omega))) hv
        clear hv
        have HX := Lib.hid (fun (w : World) (h : Ints w A n hs) => res_any qu sr st en va ov A n c hs true (decide_eq_true g1) w h)
        clear g1
        have HS := Lib.hid (fun w : World => noS_any 0 qu sr st en va ov A n c se ti sq bd true (decide_eq_true g2) w)
        clear g2
        have q : (bd == 0) = false := by simpa using g3
        have HI := Lib.hid hI
        clear hI
        go_enter Try.func13, Try.ntmps13
        go_wp2_with fail
        refine (HX.out _ (HI.out.below ((Below.refl w.heap.size w).alloc (Nat.le_refl _) _))).mono ?_; rintro e w1 ⟨rfl, c1⟩
        have b1 := ((Below.refl w.heap.size w).alloc (Nat.le_refl _) _).trans (c1.mono (by simp))
        have B1 : Has w1 w.heap.size 30 #[.int .i64 0, .int .i64 qu, .int .i64 sr, .int .i64 st, .int .i64 en, .int .i64 va, .bool ov, .slice A n c, .int .i64 se, .int .i64 ti, .int .i64 sq, .int .i64 bd] := (Has.made w _ _).below c1 (by simp)
        have cc1 : ∀ i, w1.cell? ⟨w.heap.size, i, none⟩ = (#[.int .i64 0, .int .i64 qu, .int .i64 sr, .int .i64 st, .int .i64 en, .int .i64 va, .bool ov, .slice A n c, .int .i64 se, .int .i64 ti, .int .i64 sq, .int .i64 bd] : Array Value)[i]? := fun i => B1.cell i
        clear c1
        go_wp2_with fail
        refine (HS.out _).mono ?_; rintro e w2 ⟨rfl, c2⟩
        have b2 := b1.trans (c2.mono b1.size)
        have B2 := B1.below c2 B1.lt
        have cc2 : ∀ i, w2.cell? ⟨w.heap.size, i, none⟩ = (#[.int .i64 0, .int .i64 qu, .int .i64 sr, .int .i64 st, .int .i64 en, .int .i64 va, .bool ov, .slice A n c, .int .i64 se, .int .i64 ti, .int .i64 sq, .int .i64 bd] : Array Value)[i]? := fun i => B2.cell i
        clear c2 b1 B1 cc1
        go_wp2_with fail
        go_ret
        exact ⟨rfl, b2⟩
    · obtain rfl := bool_eq (mayR_no (show ¬ MayR ⟨0, qu, sr, st, en, va, ov, hs, se, ti, sq, bd⟩ by unfold MayR; simp only; rintro (k | k | k | k) <;> first | exact g2 k.2.2.1 | (have := k.1; omega))) hv
      clear hv
      have HX := Lib.hid (fun (w : World) (h : Ints w A n hs) => res_any qu sr st en va ov A n c hs true (decide_eq_true g1) w h)
      clear g1
      have HS := Lib.hid (fun w : World => noS_any 0 qu sr st en va ov A n c se ti sq bd false (decide_eq_false g2) w)
      have HI := Lib.hid hI
      clear hI
      go_enter Try.func13, Try.ntmps13
      go_wp2_with fail
      refine (HX.out _ (HI.out.below ((Below.refl w.heap.size w).alloc (Nat.le_refl _) _))).mono ?_; rintro e w1 ⟨rfl, c1⟩
      have b1 := ((Below.refl w.heap.size w).alloc (Nat.le_refl _) _).trans (c1.mono (by simp))
      have B1 : Has w1 w.heap.size 30 #[.int .i64 0, .int .i64 qu, .int .i64 sr, .int .i64 st, .int .i64 en, .int .i64 va, .bool ov, .slice A n c, .int .i64 se, .int .i64 ti, .int .i64 sq, .int .i64 bd] := (Has.made w _ _).below c1 (by simp)
      have cc1 : ∀ i, w1.cell? ⟨w.heap.size, i, none⟩ = (#[.int .i64 0, .int .i64 qu, .int .i64 sr, .int .i64 st, .int .i64 en, .int .i64 va, .bool ov, .slice A n c, .int .i64 se, .int .i64 ti, .int .i64 sq, .int .i64 bd] : Array Value)[i]? := fun i => B1.cell i
      clear c1
      go_wp2_with fail
      refine (HS.out _).mono ?_; rintro e w2 ⟨rfl, c2⟩
      have b2 := b1.trans (c2.mono b1.size)
      have B2 := B1.below c2 B1.lt
      have cc2 : ∀ i, w2.cell? ⟨w.heap.size, i, none⟩ = (#[.int .i64 0, .int .i64 qu, .int .i64 sr, .int .i64 st, .int .i64 en, .int .i64 va, .bool ov, .slice A n c, .int .i64 se, .int .i64 ti, .int .i64 sq, .int .i64 bd] : Array Value)[i]? := fun i => B2.cell i
      clear c2 b1 B1 cc1
      go_wp2_with fail
      go_ret
      exact ⟨rfl, b2⟩
  · obtain rfl := bool_eq (mayR_no (show ¬ MayR ⟨0, qu, sr, st, en, va, ov, hs, se, ti, sq, bd⟩ by unfold MayR; simp only; rintro (k | k | k | k) <;> first | exact g1 k.2.1 | (have := k.1; omega))) hv
    clear hv
    have HX := Lib.hid (fun (w : World) (h : Ints w A n hs) => res_any qu sr st en va ov A n c hs false (decide_eq_false g1) w h)
    have HI := Lib.hid hI
    clear hI
    go_enter Try.func13, Try.ntmps13
    go_wp2_with fail
    refine (HX.out _ (HI.out.below ((Below.refl w.heap.size w).alloc (Nat.le_refl _) _))).mono ?_; rintro e w1 ⟨rfl, c1⟩
    have b1 := ((Below.refl w.heap.size w).alloc (Nat.le_refl _) _).trans (c1.mono (by simp))
    have B1 : Has w1 w.heap.size 30 #[.int .i64 0, .int .i64 qu, .int .i64 sr, .int .i64 st, .int .i64 en, .int .i64 va, .bool ov, .slice A n c, .int .i64 se, .int .i64 ti, .int .i64 sq, .int .i64 bd] := (Has.made w _ _).below c1 (by simp)
    have cc1 : ∀ i, w1.cell? ⟨w.heap.size, i, none⟩ = (#[.int .i64 0, .int .i64 qu, .int .i64 sr, .int .i64 st, .int .i64 en, .int .i64 va, .bool ov, .slice A n c, .int .i64 se, .int .i64 ti, .int .i64 sq, .int .i64 bd] : Array Value)[i]? := fun i => B1.cell i
    clear c1
    go_wp2_with fail
    go_ret
    exact ⟨rfl, b1⟩

set_option maxRecDepth 100000 in
set_option maxHeartbeats 1000000 in
theorem may_k1 (qu sr st en va : Int) (ov : Bool) (hs : List Int) (A : Option Addr) (n c : Nat) (se ti sq bd : Int)(v : Bool) (hv : mayR ⟨1, qu, sr, st, en, va, ov, hs, se, ti, sq, bd⟩ = v) (w : World) (hI : Ints w A n hs) :
    Calls Try.prog 13 #[.agg #[.int .i64 1, .int .i64 qu, .int .i64 sr, .int .i64 st, .int .i64 en, .int .i64 va, .bool ov, .slice A n c, .int .i64 se, .int .i64 ti, .int .i64 sq, .int .i64 bd]] w fun e w' => e = .returned (.bool v) ∧ Below w.heap.size w w' := by
  by_cases g1 : SamM se ti sq
  · by_cases g2 : NoX qu sr st en va ov hs
    · by_cases g3 : bd = 0
      · obtain rfl := bool_eq (mayR_yes (r := ⟨1, qu, sr, st, en, va, ov, hs, se, ti, sq, bd⟩) (Or.inr (Or.inl ⟨by simp, g1, g2, g3⟩))) hv
        clear hv
        have HM := Lib.hid (fun w : World => sam_any 1 qu sr st en va ov A n c se ti sq bd true (decide_eq_true g1) w)
        clear g1
        have HN := Lib.hid (fun (w : World) (h : Ints w A n hs) => noX_any qu sr st en va ov A n c hs true (decide_eq_true g2) w h.1)
        clear g2
        have q : (bd == 0) = true := by simpa using g3
        clear g3
        have HI := Lib.hid hI
        clear hI
        go_enter Try.func13, Try.ntmps13
        go_wp2_with fail
        refine (HM.out _).mono ?_; rintro e w1 ⟨rfl, c1⟩
        have b1 := ((Below.refl w.heap.size w).alloc (Nat.le_refl _) _).trans (c1.mono (by simp))
        have B1 : Has w1 w.heap.size 30 #[.int .i64 1, .int .i64 qu, .int .i64 sr, .int .i64 st, .int .i64 en, .int .i64 va, .bool ov, .slice A n c, .int .i64 se, .int .i64 ti, .int .i64 sq, .int .i64 bd] := (Has.made w _ _).below c1 (by simp)
        have cc1 : ∀ i, w1.cell? ⟨w.heap.size, i, none⟩ = (#[.int .i64 1, .int .i64 qu, .int .i64 sr, .int .i64 st, .int .i64 en, .int .i64 va, .bool ov, .slice A n c, .int .i64 se, .int .i64 ti, .int .i64 sq, .int .i64 bd] : Array Value)[i]? := fun i => B1.cell i
        clear c1
        go_wp2_with fail
        refine (HN.out _ (HI.out.below b1)).mono ?_; rintro e w2 ⟨rfl, c2⟩
        have b2 := b1.trans (c2.mono b1.size)
        have B2 := B1.below c2 B1.lt
        have cc2 : ∀ i, w2.cell? ⟨w.heap.size, i, none⟩ = (#[.int .i64 1, .int .i64 qu, .int .i64 sr, .int .i64 st, .int .i64 en, .int .i64 va, .bool ov, .slice A n c, .int .i64 se, .int .i64 ti, .int .i64 sq, .int .i64 bd] : Array Value)[i]? := fun i => B2.cell i
        clear c2 b1 B1 cc1
        go_wp2_with fail
        go_ret
        exact ⟨rfl, b2⟩
      · obtain rfl := bool_eq (mayR_no (show ¬ MayR ⟨1, qu, sr, st, en, va, ov, hs, se, ti, sq, bd⟩ by unfold MayR; simp only; rintro (k | k | k | k) <;> first | exact g3 k.2.2.2 | (have := k.1; omega))) hv
        clear hv
        have HM := Lib.hid (fun w : World => sam_any 1 qu sr st en va ov A n c se ti sq bd true (decide_eq_true g1) w)
        clear g1
        have HN := Lib.hid (fun (w : World) (h : Ints w A n hs) => noX_any qu sr st en va ov A n c hs true (decide_eq_true g2) w h.1)
        clear g2
        have q : (bd == 0) = false := by simpa using g3
        have HI := Lib.hid hI
        clear hI
        go_enter Try.func13, Try.ntmps13
        go_wp2_with fail
        refine (HM.out _).mono ?_; rintro e w1 ⟨rfl, c1⟩
        have b1 := ((Below.refl w.heap.size w).alloc (Nat.le_refl _) _).trans (c1.mono (by simp))
        have B1 : Has w1 w.heap.size 30 #[.int .i64 1, .int .i64 qu, .int .i64 sr, .int .i64 st, .int .i64 en, .int .i64 va, .bool ov, .slice A n c, .int .i64 se, .int .i64 ti, .int .i64 sq, .int .i64 bd] := (Has.made w _ _).below c1 (by simp)
        have cc1 : ∀ i, w1.cell? ⟨w.heap.size, i, none⟩ = (#[.int .i64 1, .int .i64 qu, .int .i64 sr, .int .i64 st, .int .i64 en, .int .i64 va, .bool ov, .slice A n c, .int .i64 se, .int .i64 ti, .int .i64 sq, .int .i64 bd] : Array Value)[i]? := fun i => B1.cell i
        clear c1
        go_wp2_with fail
        refine (HN.out _ (HI.out.below b1)).mono ?_; rintro e w2 ⟨rfl, c2⟩
        have b2 := b1.trans (c2.mono b1.size)
        have B2 := B1.below c2 B1.lt
        have cc2 : ∀ i, w2.cell? ⟨w.heap.size, i, none⟩ = (#[.int .i64 1, .int .i64 qu, .int .i64 sr, .int .i64 st, .int .i64 en, .int .i64 va, .bool ov, .slice A n c, .int .i64 se, .int .i64 ti, .int .i64 sq, .int .i64 bd] : Array Value)[i]? := fun i => B2.cell i
        clear c2 b1 B1 cc1
        go_wp2_with fail
        go_ret
        exact ⟨rfl, b2⟩
    · obtain rfl := bool_eq (mayR_no (show ¬ MayR ⟨1, qu, sr, st, en, va, ov, hs, se, ti, sq, bd⟩ by unfold MayR; simp only; rintro (k | k | k | k) <;> first | exact g2 k.2.2.1 | (have := k.1; omega))) hv
      clear hv
      have HM := Lib.hid (fun w : World => sam_any 1 qu sr st en va ov A n c se ti sq bd true (decide_eq_true g1) w)
      clear g1
      have HN := Lib.hid (fun (w : World) (h : Ints w A n hs) => noX_any qu sr st en va ov A n c hs false (decide_eq_false g2) w h.1)
      have HI := Lib.hid hI
      clear hI
      go_enter Try.func13, Try.ntmps13
      go_wp2_with fail
      refine (HM.out _).mono ?_; rintro e w1 ⟨rfl, c1⟩
      have b1 := ((Below.refl w.heap.size w).alloc (Nat.le_refl _) _).trans (c1.mono (by simp))
      have B1 : Has w1 w.heap.size 30 #[.int .i64 1, .int .i64 qu, .int .i64 sr, .int .i64 st, .int .i64 en, .int .i64 va, .bool ov, .slice A n c, .int .i64 se, .int .i64 ti, .int .i64 sq, .int .i64 bd] := (Has.made w _ _).below c1 (by simp)
      have cc1 : ∀ i, w1.cell? ⟨w.heap.size, i, none⟩ = (#[.int .i64 1, .int .i64 qu, .int .i64 sr, .int .i64 st, .int .i64 en, .int .i64 va, .bool ov, .slice A n c, .int .i64 se, .int .i64 ti, .int .i64 sq, .int .i64 bd] : Array Value)[i]? := fun i => B1.cell i
      clear c1
      go_wp2_with fail
      refine (HN.out _ (HI.out.below b1)).mono ?_; rintro e w2 ⟨rfl, c2⟩
      have b2 := b1.trans (c2.mono b1.size)
      have B2 := B1.below c2 B1.lt
      have cc2 : ∀ i, w2.cell? ⟨w.heap.size, i, none⟩ = (#[.int .i64 1, .int .i64 qu, .int .i64 sr, .int .i64 st, .int .i64 en, .int .i64 va, .bool ov, .slice A n c, .int .i64 se, .int .i64 ti, .int .i64 sq, .int .i64 bd] : Array Value)[i]? := fun i => B2.cell i
      clear c2 b1 B1 cc1
      go_wp2_with fail
      go_ret
      exact ⟨rfl, b2⟩
  · obtain rfl := bool_eq (mayR_no (show ¬ MayR ⟨1, qu, sr, st, en, va, ov, hs, se, ti, sq, bd⟩ by unfold MayR; simp only; rintro (k | k | k | k) <;> first | exact g1 k.2.1 | (have := k.1; omega))) hv
    clear hv
    have HM := Lib.hid (fun w : World => sam_any 1 qu sr st en va ov A n c se ti sq bd false (decide_eq_false g1) w)
    have HI := Lib.hid hI
    clear hI
    go_enter Try.func13, Try.ntmps13
    go_wp2_with fail
    refine (HM.out _).mono ?_; rintro e w1 ⟨rfl, c1⟩
    have b1 := ((Below.refl w.heap.size w).alloc (Nat.le_refl _) _).trans (c1.mono (by simp))
    have B1 : Has w1 w.heap.size 30 #[.int .i64 1, .int .i64 qu, .int .i64 sr, .int .i64 st, .int .i64 en, .int .i64 va, .bool ov, .slice A n c, .int .i64 se, .int .i64 ti, .int .i64 sq, .int .i64 bd] := (Has.made w _ _).below c1 (by simp)
    have cc1 : ∀ i, w1.cell? ⟨w.heap.size, i, none⟩ = (#[.int .i64 1, .int .i64 qu, .int .i64 sr, .int .i64 st, .int .i64 en, .int .i64 va, .bool ov, .slice A n c, .int .i64 se, .int .i64 ti, .int .i64 sq, .int .i64 bd] : Array Value)[i]? := fun i => B1.cell i
    clear c1
    go_wp2_with fail
    go_ret
    exact ⟨rfl, b1⟩

set_option maxRecDepth 100000 in
set_option maxHeartbeats 1000000 in
theorem may_k2 (qu sr st en va : Int) (ov : Bool) (hs : List Int) (A : Option Addr) (n c : Nat) (se ti sq bd : Int)(v : Bool) (hv : mayR ⟨2, qu, sr, st, en, va, ov, hs, se, ti, sq, bd⟩ = v) (w : World) (hI : Ints w A n hs) :
    Calls Try.prog 13 #[.agg #[.int .i64 2, .int .i64 qu, .int .i64 sr, .int .i64 st, .int .i64 en, .int .i64 va, .bool ov, .slice A n c, .int .i64 se, .int .i64 ti, .int .i64 sq, .int .i64 bd]] w fun e w' => e = .returned (.bool v) ∧ Below w.heap.size w w' := by
  by_cases g1 : SamM se ti sq
  · by_cases g2 : NoX qu sr st en va ov hs
    · by_cases g3 : bd = 0
      · obtain rfl := bool_eq (mayR_yes (r := ⟨2, qu, sr, st, en, va, ov, hs, se, ti, sq, bd⟩) (Or.inr (Or.inl ⟨by simp, g1, g2, g3⟩))) hv
        clear hv
        have HM := Lib.hid (fun w : World => sam_any 2 qu sr st en va ov A n c se ti sq bd true (decide_eq_true g1) w)
        clear g1
        have HN := Lib.hid (fun (w : World) (h : Ints w A n hs) => noX_any qu sr st en va ov A n c hs true (decide_eq_true g2) w h.1)
        clear g2
        have q : (bd == 0) = true := by simpa using g3
        clear g3
        have HI := Lib.hid hI
        clear hI
        go_enter Try.func13, Try.ntmps13
        go_wp2_with fail
        refine (HM.out _).mono ?_; rintro e w1 ⟨rfl, c1⟩
        have b1 := ((Below.refl w.heap.size w).alloc (Nat.le_refl _) _).trans (c1.mono (by simp))
        have B1 : Has w1 w.heap.size 30 #[.int .i64 2, .int .i64 qu, .int .i64 sr, .int .i64 st, .int .i64 en, .int .i64 va, .bool ov, .slice A n c, .int .i64 se, .int .i64 ti, .int .i64 sq, .int .i64 bd] := (Has.made w _ _).below c1 (by simp)
        have cc1 : ∀ i, w1.cell? ⟨w.heap.size, i, none⟩ = (#[.int .i64 2, .int .i64 qu, .int .i64 sr, .int .i64 st, .int .i64 en, .int .i64 va, .bool ov, .slice A n c, .int .i64 se, .int .i64 ti, .int .i64 sq, .int .i64 bd] : Array Value)[i]? := fun i => B1.cell i
        clear c1
        go_wp2_with fail
        refine (HN.out _ (HI.out.below b1)).mono ?_; rintro e w2 ⟨rfl, c2⟩
        have b2 := b1.trans (c2.mono b1.size)
        have B2 := B1.below c2 B1.lt
        have cc2 : ∀ i, w2.cell? ⟨w.heap.size, i, none⟩ = (#[.int .i64 2, .int .i64 qu, .int .i64 sr, .int .i64 st, .int .i64 en, .int .i64 va, .bool ov, .slice A n c, .int .i64 se, .int .i64 ti, .int .i64 sq, .int .i64 bd] : Array Value)[i]? := fun i => B2.cell i
        clear c2 b1 B1 cc1
        go_wp2_with fail
        go_ret
        exact ⟨rfl, b2⟩
      · obtain rfl := bool_eq (mayR_no (show ¬ MayR ⟨2, qu, sr, st, en, va, ov, hs, se, ti, sq, bd⟩ by unfold MayR; simp only; rintro (k | k | k | k) <;> first | exact g3 k.2.2.2 | (have := k.1; omega))) hv
        clear hv
        have HM := Lib.hid (fun w : World => sam_any 2 qu sr st en va ov A n c se ti sq bd true (decide_eq_true g1) w)
        clear g1
        have HN := Lib.hid (fun (w : World) (h : Ints w A n hs) => noX_any qu sr st en va ov A n c hs true (decide_eq_true g2) w h.1)
        clear g2
        have q : (bd == 0) = false := by simpa using g3
        have HI := Lib.hid hI
        clear hI
        go_enter Try.func13, Try.ntmps13
        go_wp2_with fail
        refine (HM.out _).mono ?_; rintro e w1 ⟨rfl, c1⟩
        have b1 := ((Below.refl w.heap.size w).alloc (Nat.le_refl _) _).trans (c1.mono (by simp))
        have B1 : Has w1 w.heap.size 30 #[.int .i64 2, .int .i64 qu, .int .i64 sr, .int .i64 st, .int .i64 en, .int .i64 va, .bool ov, .slice A n c, .int .i64 se, .int .i64 ti, .int .i64 sq, .int .i64 bd] := (Has.made w _ _).below c1 (by simp)
        have cc1 : ∀ i, w1.cell? ⟨w.heap.size, i, none⟩ = (#[.int .i64 2, .int .i64 qu, .int .i64 sr, .int .i64 st, .int .i64 en, .int .i64 va, .bool ov, .slice A n c, .int .i64 se, .int .i64 ti, .int .i64 sq, .int .i64 bd] : Array Value)[i]? := fun i => B1.cell i
        clear c1
        go_wp2_with fail
        refine (HN.out _ (HI.out.below b1)).mono ?_; rintro e w2 ⟨rfl, c2⟩
        have b2 := b1.trans (c2.mono b1.size)
        have B2 := B1.below c2 B1.lt
        have cc2 : ∀ i, w2.cell? ⟨w.heap.size, i, none⟩ = (#[.int .i64 2, .int .i64 qu, .int .i64 sr, .int .i64 st, .int .i64 en, .int .i64 va, .bool ov, .slice A n c, .int .i64 se, .int .i64 ti, .int .i64 sq, .int .i64 bd] : Array Value)[i]? := fun i => B2.cell i
        clear c2 b1 B1 cc1
        go_wp2_with fail
        go_ret
        exact ⟨rfl, b2⟩
    · obtain rfl := bool_eq (mayR_no (show ¬ MayR ⟨2, qu, sr, st, en, va, ov, hs, se, ti, sq, bd⟩ by unfold MayR; simp only; rintro (k | k | k | k) <;> first | exact g2 k.2.2.1 | (have := k.1; omega))) hv
      clear hv
      have HM := Lib.hid (fun w : World => sam_any 2 qu sr st en va ov A n c se ti sq bd true (decide_eq_true g1) w)
      clear g1
      have HN := Lib.hid (fun (w : World) (h : Ints w A n hs) => noX_any qu sr st en va ov A n c hs false (decide_eq_false g2) w h.1)
      have HI := Lib.hid hI
      clear hI
      go_enter Try.func13, Try.ntmps13
      go_wp2_with fail
      refine (HM.out _).mono ?_; rintro e w1 ⟨rfl, c1⟩
      have b1 := ((Below.refl w.heap.size w).alloc (Nat.le_refl _) _).trans (c1.mono (by simp))
      have B1 : Has w1 w.heap.size 30 #[.int .i64 2, .int .i64 qu, .int .i64 sr, .int .i64 st, .int .i64 en, .int .i64 va, .bool ov, .slice A n c, .int .i64 se, .int .i64 ti, .int .i64 sq, .int .i64 bd] := (Has.made w _ _).below c1 (by simp)
      have cc1 : ∀ i, w1.cell? ⟨w.heap.size, i, none⟩ = (#[.int .i64 2, .int .i64 qu, .int .i64 sr, .int .i64 st, .int .i64 en, .int .i64 va, .bool ov, .slice A n c, .int .i64 se, .int .i64 ti, .int .i64 sq, .int .i64 bd] : Array Value)[i]? := fun i => B1.cell i
      clear c1
      go_wp2_with fail
      refine (HN.out _ (HI.out.below b1)).mono ?_; rintro e w2 ⟨rfl, c2⟩
      have b2 := b1.trans (c2.mono b1.size)
      have B2 := B1.below c2 B1.lt
      have cc2 : ∀ i, w2.cell? ⟨w.heap.size, i, none⟩ = (#[.int .i64 2, .int .i64 qu, .int .i64 sr, .int .i64 st, .int .i64 en, .int .i64 va, .bool ov, .slice A n c, .int .i64 se, .int .i64 ti, .int .i64 sq, .int .i64 bd] : Array Value)[i]? := fun i => B2.cell i
      clear c2 b1 B1 cc1
      go_wp2_with fail
      go_ret
      exact ⟨rfl, b2⟩
  · obtain rfl := bool_eq (mayR_no (show ¬ MayR ⟨2, qu, sr, st, en, va, ov, hs, se, ti, sq, bd⟩ by unfold MayR; simp only; rintro (k | k | k | k) <;> first | exact g1 k.2.1 | (have := k.1; omega))) hv
    clear hv
    have HM := Lib.hid (fun w : World => sam_any 2 qu sr st en va ov A n c se ti sq bd false (decide_eq_false g1) w)
    have HI := Lib.hid hI
    clear hI
    go_enter Try.func13, Try.ntmps13
    go_wp2_with fail
    refine (HM.out _).mono ?_; rintro e w1 ⟨rfl, c1⟩
    have b1 := ((Below.refl w.heap.size w).alloc (Nat.le_refl _) _).trans (c1.mono (by simp))
    have B1 : Has w1 w.heap.size 30 #[.int .i64 2, .int .i64 qu, .int .i64 sr, .int .i64 st, .int .i64 en, .int .i64 va, .bool ov, .slice A n c, .int .i64 se, .int .i64 ti, .int .i64 sq, .int .i64 bd] := (Has.made w _ _).below c1 (by simp)
    have cc1 : ∀ i, w1.cell? ⟨w.heap.size, i, none⟩ = (#[.int .i64 2, .int .i64 qu, .int .i64 sr, .int .i64 st, .int .i64 en, .int .i64 va, .bool ov, .slice A n c, .int .i64 se, .int .i64 ti, .int .i64 sq, .int .i64 bd] : Array Value)[i]? := fun i => B1.cell i
    clear c1
    go_wp2_with fail
    go_ret
    exact ⟨rfl, b1⟩

set_option maxRecDepth 100000 in
set_option maxHeartbeats 1000000 in
theorem may_k3 (qu sr st en va : Int) (ov : Bool) (hs : List Int) (A : Option Addr) (n c : Nat) (se ti sq bd : Int)(v : Bool) (hv : mayR ⟨3, qu, sr, st, en, va, ov, hs, se, ti, sq, bd⟩ = v) (w : World) (hI : Ints w A n hs) :
    Calls Try.prog 13 #[.agg #[.int .i64 3, .int .i64 qu, .int .i64 sr, .int .i64 st, .int .i64 en, .int .i64 va, .bool ov, .slice A n c, .int .i64 se, .int .i64 ti, .int .i64 sq, .int .i64 bd]] w fun e w' => e = .returned (.bool v) ∧ Below w.heap.size w w' := by
  by_cases g1 : SamM se ti sq
  · by_cases g2 : NoX qu sr st en va ov hs
    · by_cases g3 : bd = 0
      · obtain rfl := bool_eq (mayR_yes (r := ⟨3, qu, sr, st, en, va, ov, hs, se, ti, sq, bd⟩) (Or.inr (Or.inl ⟨by simp, g1, g2, g3⟩))) hv
        clear hv
        have HM := Lib.hid (fun w : World => sam_any 3 qu sr st en va ov A n c se ti sq bd true (decide_eq_true g1) w)
        clear g1
        have HN := Lib.hid (fun (w : World) (h : Ints w A n hs) => noX_any qu sr st en va ov A n c hs true (decide_eq_true g2) w h.1)
        clear g2
        have q : (bd == 0) = true := by simpa using g3
        clear g3
        have HI := Lib.hid hI
        clear hI
        go_enter Try.func13, Try.ntmps13
        go_wp2_with fail
        refine (HM.out _).mono ?_; rintro e w1 ⟨rfl, c1⟩
        have b1 := ((Below.refl w.heap.size w).alloc (Nat.le_refl _) _).trans (c1.mono (by simp))
        have B1 : Has w1 w.heap.size 30 #[.int .i64 3, .int .i64 qu, .int .i64 sr, .int .i64 st, .int .i64 en, .int .i64 va, .bool ov, .slice A n c, .int .i64 se, .int .i64 ti, .int .i64 sq, .int .i64 bd] := (Has.made w _ _).below c1 (by simp)
        have cc1 : ∀ i, w1.cell? ⟨w.heap.size, i, none⟩ = (#[.int .i64 3, .int .i64 qu, .int .i64 sr, .int .i64 st, .int .i64 en, .int .i64 va, .bool ov, .slice A n c, .int .i64 se, .int .i64 ti, .int .i64 sq, .int .i64 bd] : Array Value)[i]? := fun i => B1.cell i
        clear c1
        go_wp2_with fail
        refine (HN.out _ (HI.out.below b1)).mono ?_; rintro e w2 ⟨rfl, c2⟩
        have b2 := b1.trans (c2.mono b1.size)
        have B2 := B1.below c2 B1.lt
        have cc2 : ∀ i, w2.cell? ⟨w.heap.size, i, none⟩ = (#[.int .i64 3, .int .i64 qu, .int .i64 sr, .int .i64 st, .int .i64 en, .int .i64 va, .bool ov, .slice A n c, .int .i64 se, .int .i64 ti, .int .i64 sq, .int .i64 bd] : Array Value)[i]? := fun i => B2.cell i
        clear c2 b1 B1 cc1
        go_wp2_with fail
        go_ret
        exact ⟨rfl, b2⟩
      · obtain rfl := bool_eq (mayR_no (show ¬ MayR ⟨3, qu, sr, st, en, va, ov, hs, se, ti, sq, bd⟩ by unfold MayR; simp only; rintro (k | k | k | k) <;> first | exact g3 k.2.2.2 | (have := k.1; omega))) hv
        clear hv
        have HM := Lib.hid (fun w : World => sam_any 3 qu sr st en va ov A n c se ti sq bd true (decide_eq_true g1) w)
        clear g1
        have HN := Lib.hid (fun (w : World) (h : Ints w A n hs) => noX_any qu sr st en va ov A n c hs true (decide_eq_true g2) w h.1)
        clear g2
        have q : (bd == 0) = false := by simpa using g3
        have HI := Lib.hid hI
        clear hI
        go_enter Try.func13, Try.ntmps13
        go_wp2_with fail
        refine (HM.out _).mono ?_; rintro e w1 ⟨rfl, c1⟩
        have b1 := ((Below.refl w.heap.size w).alloc (Nat.le_refl _) _).trans (c1.mono (by simp))
        have B1 : Has w1 w.heap.size 30 #[.int .i64 3, .int .i64 qu, .int .i64 sr, .int .i64 st, .int .i64 en, .int .i64 va, .bool ov, .slice A n c, .int .i64 se, .int .i64 ti, .int .i64 sq, .int .i64 bd] := (Has.made w _ _).below c1 (by simp)
        have cc1 : ∀ i, w1.cell? ⟨w.heap.size, i, none⟩ = (#[.int .i64 3, .int .i64 qu, .int .i64 sr, .int .i64 st, .int .i64 en, .int .i64 va, .bool ov, .slice A n c, .int .i64 se, .int .i64 ti, .int .i64 sq, .int .i64 bd] : Array Value)[i]? := fun i => B1.cell i
        clear c1
        go_wp2_with fail
        refine (HN.out _ (HI.out.below b1)).mono ?_; rintro e w2 ⟨rfl, c2⟩
        have b2 := b1.trans (c2.mono b1.size)
        have B2 := B1.below c2 B1.lt
        have cc2 : ∀ i, w2.cell? ⟨w.heap.size, i, none⟩ = (#[.int .i64 3, .int .i64 qu, .int .i64 sr, .int .i64 st, .int .i64 en, .int .i64 va, .bool ov, .slice A n c, .int .i64 se, .int .i64 ti, .int .i64 sq, .int .i64 bd] : Array Value)[i]? := fun i => B2.cell i
        clear c2 b1 B1 cc1
        go_wp2_with fail
        go_ret
        exact ⟨rfl, b2⟩
    · obtain rfl := bool_eq (mayR_no (show ¬ MayR ⟨3, qu, sr, st, en, va, ov, hs, se, ti, sq, bd⟩ by unfold MayR; simp only; rintro (k | k | k | k) <;> first | exact g2 k.2.2.1 | (have := k.1; omega))) hv
      clear hv
      have HM := Lib.hid (fun w : World => sam_any 3 qu sr st en va ov A n c se ti sq bd true (decide_eq_true g1) w)
      clear g1
      have HN := Lib.hid (fun (w : World) (h : Ints w A n hs) => noX_any qu sr st en va ov A n c hs false (decide_eq_false g2) w h.1)
      have HI := Lib.hid hI
      clear hI
      go_enter Try.func13, Try.ntmps13
      go_wp2_with fail
      refine (HM.out _).mono ?_; rintro e w1 ⟨rfl, c1⟩
      have b1 := ((Below.refl w.heap.size w).alloc (Nat.le_refl _) _).trans (c1.mono (by simp))
      have B1 : Has w1 w.heap.size 30 #[.int .i64 3, .int .i64 qu, .int .i64 sr, .int .i64 st, .int .i64 en, .int .i64 va, .bool ov, .slice A n c, .int .i64 se, .int .i64 ti, .int .i64 sq, .int .i64 bd] := (Has.made w _ _).below c1 (by simp)
      have cc1 : ∀ i, w1.cell? ⟨w.heap.size, i, none⟩ = (#[.int .i64 3, .int .i64 qu, .int .i64 sr, .int .i64 st, .int .i64 en, .int .i64 va, .bool ov, .slice A n c, .int .i64 se, .int .i64 ti, .int .i64 sq, .int .i64 bd] : Array Value)[i]? := fun i => B1.cell i
      clear c1
      go_wp2_with fail
      refine (HN.out _ (HI.out.below b1)).mono ?_; rintro e w2 ⟨rfl, c2⟩
      have b2 := b1.trans (c2.mono b1.size)
      have B2 := B1.below c2 B1.lt
      have cc2 : ∀ i, w2.cell? ⟨w.heap.size, i, none⟩ = (#[.int .i64 3, .int .i64 qu, .int .i64 sr, .int .i64 st, .int .i64 en, .int .i64 va, .bool ov, .slice A n c, .int .i64 se, .int .i64 ti, .int .i64 sq, .int .i64 bd] : Array Value)[i]? := fun i => B2.cell i
      clear c2 b1 B1 cc1
      go_wp2_with fail
      go_ret
      exact ⟨rfl, b2⟩
  · obtain rfl := bool_eq (mayR_no (show ¬ MayR ⟨3, qu, sr, st, en, va, ov, hs, se, ti, sq, bd⟩ by unfold MayR; simp only; rintro (k | k | k | k) <;> first | exact g1 k.2.1 | (have := k.1; omega))) hv
    clear hv
    have HM := Lib.hid (fun w : World => sam_any 3 qu sr st en va ov A n c se ti sq bd false (decide_eq_false g1) w)
    have HI := Lib.hid hI
    clear hI
    go_enter Try.func13, Try.ntmps13
    go_wp2_with fail
    refine (HM.out _).mono ?_; rintro e w1 ⟨rfl, c1⟩
    have b1 := ((Below.refl w.heap.size w).alloc (Nat.le_refl _) _).trans (c1.mono (by simp))
    have B1 : Has w1 w.heap.size 30 #[.int .i64 3, .int .i64 qu, .int .i64 sr, .int .i64 st, .int .i64 en, .int .i64 va, .bool ov, .slice A n c, .int .i64 se, .int .i64 ti, .int .i64 sq, .int .i64 bd] := (Has.made w _ _).below c1 (by simp)
    have cc1 : ∀ i, w1.cell? ⟨w.heap.size, i, none⟩ = (#[.int .i64 3, .int .i64 qu, .int .i64 sr, .int .i64 st, .int .i64 en, .int .i64 va, .bool ov, .slice A n c, .int .i64 se, .int .i64 ti, .int .i64 sq, .int .i64 bd] : Array Value)[i]? := fun i => B1.cell i
    clear c1
    go_wp2_with fail
    go_ret
    exact ⟨rfl, b1⟩

set_option maxRecDepth 100000 in
set_option maxHeartbeats 1000000 in
theorem may_k4 (qu sr st en va : Int) (ov : Bool) (hs : List Int) (A : Option Addr) (n c : Nat) (se ti sq bd : Int)(v : Bool) (hv : mayR ⟨4, qu, sr, st, en, va, ov, hs, se, ti, sq, bd⟩ = v) (w : World) (hI : Ints w A n hs) :
    Calls Try.prog 13 #[.agg #[.int .i64 4, .int .i64 qu, .int .i64 sr, .int .i64 st, .int .i64 en, .int .i64 va, .bool ov, .slice A n c, .int .i64 se, .int .i64 ti, .int .i64 sq, .int .i64 bd]] w fun e w' => e = .returned (.bool v) ∧ Below w.heap.size w w' := by
  by_cases g1 : NoX qu sr st en va ov hs
  · by_cases g2 : NoS se ti sq
    · by_cases g3 : bd = 0
      · obtain rfl := bool_eq (mayR_yes (r := ⟨4, qu, sr, st, en, va, ov, hs, se, ti, sq, bd⟩) (Or.inr (Or.inr (Or.inl ⟨rfl, g1, g2, g3⟩)))) hv
        clear hv
        have HN := Lib.hid (fun (w : World) (h : Ints w A n hs) => noX_any qu sr st en va ov A n c hs true (decide_eq_true g1) w h.1)
        clear g1
        have HS := Lib.hid (fun w : World => noS_any 4 qu sr st en va ov A n c se ti sq bd true (decide_eq_true g2) w)
        clear g2
        have q : (bd == 0) = true := by simpa using g3
        clear g3
        have HI := Lib.hid hI
        clear hI
        go_enter Try.func13, Try.ntmps13
        go_wp2_with fail
        refine (HN.out _ (HI.out.below ((Below.refl w.heap.size w).alloc (Nat.le_refl _) _))).mono ?_; rintro e w1 ⟨rfl, c1⟩
        have b1 := ((Below.refl w.heap.size w).alloc (Nat.le_refl _) _).trans (c1.mono (by simp))
        have B1 : Has w1 w.heap.size 30 #[.int .i64 4, .int .i64 qu, .int .i64 sr, .int .i64 st, .int .i64 en, .int .i64 va, .bool ov, .slice A n c, .int .i64 se, .int .i64 ti, .int .i64 sq, .int .i64 bd] := (Has.made w _ _).below c1 (by simp)
        have cc1 : ∀ i, w1.cell? ⟨w.heap.size, i, none⟩ = (#[.int .i64 4, .int .i64 qu, .int .i64 sr, .int .i64 st, .int .i64 en, .int .i64 va, .bool ov, .slice A n c, .int .i64 se, .int .i64 ti, .int .i64 sq, .int .i64 bd] : Array Value)[i]? := fun i => B1.cell i
        clear c1
        go_wp2_with fail
        refine (HS.out _).mono ?_; rintro e w2 ⟨rfl, c2⟩
        have b2 := b1.trans (c2.mono b1.size)
        have B2 := B1.below c2 B1.lt
        have cc2 : ∀ i, w2.cell? ⟨w.heap.size, i, none⟩ = (#[.int .i64 4, .int .i64 qu, .int .i64 sr, .int .i64 st, .int .i64 en, .int .i64 va, .bool ov, .slice A n c, .int .i64 se, .int .i64 ti, .int .i64 sq, .int .i64 bd] : Array Value)[i]? := fun i => B2.cell i
        clear c2 b1 B1 cc1
        go_wp2_with fail
        go_ret
        exact ⟨rfl, b2⟩
      · obtain rfl := bool_eq (mayR_no (show ¬ MayR ⟨4, qu, sr, st, en, va, ov, hs, se, ti, sq, bd⟩ by unfold MayR; simp only; rintro (k | k | k | k) <;> first | exact g3 k.2.2.2 | (have := k.1; omega))) hv
        clear hv
        have HN := Lib.hid (fun (w : World) (h : Ints w A n hs) => noX_any qu sr st en va ov A n c hs true (decide_eq_true g1) w h.1)
        clear g1
        have HS := Lib.hid (fun w : World => noS_any 4 qu sr st en va ov A n c se ti sq bd true (decide_eq_true g2) w)
        clear g2
        have q : (bd == 0) = false := by simpa using g3
        have HI := Lib.hid hI
        clear hI
        go_enter Try.func13, Try.ntmps13
        go_wp2_with fail
        refine (HN.out _ (HI.out.below ((Below.refl w.heap.size w).alloc (Nat.le_refl _) _))).mono ?_; rintro e w1 ⟨rfl, c1⟩
        have b1 := ((Below.refl w.heap.size w).alloc (Nat.le_refl _) _).trans (c1.mono (by simp))
        have B1 : Has w1 w.heap.size 30 #[.int .i64 4, .int .i64 qu, .int .i64 sr, .int .i64 st, .int .i64 en, .int .i64 va, .bool ov, .slice A n c, .int .i64 se, .int .i64 ti, .int .i64 sq, .int .i64 bd] := (Has.made w _ _).below c1 (by simp)
        have cc1 : ∀ i, w1.cell? ⟨w.heap.size, i, none⟩ = (#[.int .i64 4, .int .i64 qu, .int .i64 sr, .int .i64 st, .int .i64 en, .int .i64 va, .bool ov, .slice A n c, .int .i64 se, .int .i64 ti, .int .i64 sq, .int .i64 bd] : Array Value)[i]? := fun i => B1.cell i
        clear c1
        go_wp2_with fail
        refine (HS.out _).mono ?_; rintro e w2 ⟨rfl, c2⟩
        have b2 := b1.trans (c2.mono b1.size)
        have B2 := B1.below c2 B1.lt
        have cc2 : ∀ i, w2.cell? ⟨w.heap.size, i, none⟩ = (#[.int .i64 4, .int .i64 qu, .int .i64 sr, .int .i64 st, .int .i64 en, .int .i64 va, .bool ov, .slice A n c, .int .i64 se, .int .i64 ti, .int .i64 sq, .int .i64 bd] : Array Value)[i]? := fun i => B2.cell i
        clear c2 b1 B1 cc1
        go_wp2_with fail
        go_ret
        exact ⟨rfl, b2⟩
    · obtain rfl := bool_eq (mayR_no (show ¬ MayR ⟨4, qu, sr, st, en, va, ov, hs, se, ti, sq, bd⟩ by unfold MayR; simp only; rintro (k | k | k | k) <;> first | exact g2 k.2.2.1 | (have := k.1; omega))) hv
      clear hv
      have HN := Lib.hid (fun (w : World) (h : Ints w A n hs) => noX_any qu sr st en va ov A n c hs true (decide_eq_true g1) w h.1)
      clear g1
      have HS := Lib.hid (fun w : World => noS_any 4 qu sr st en va ov A n c se ti sq bd false (decide_eq_false g2) w)
      have HI := Lib.hid hI
      clear hI
      go_enter Try.func13, Try.ntmps13
      go_wp2_with fail
      refine (HN.out _ (HI.out.below ((Below.refl w.heap.size w).alloc (Nat.le_refl _) _))).mono ?_; rintro e w1 ⟨rfl, c1⟩
      have b1 := ((Below.refl w.heap.size w).alloc (Nat.le_refl _) _).trans (c1.mono (by simp))
      have B1 : Has w1 w.heap.size 30 #[.int .i64 4, .int .i64 qu, .int .i64 sr, .int .i64 st, .int .i64 en, .int .i64 va, .bool ov, .slice A n c, .int .i64 se, .int .i64 ti, .int .i64 sq, .int .i64 bd] := (Has.made w _ _).below c1 (by simp)
      have cc1 : ∀ i, w1.cell? ⟨w.heap.size, i, none⟩ = (#[.int .i64 4, .int .i64 qu, .int .i64 sr, .int .i64 st, .int .i64 en, .int .i64 va, .bool ov, .slice A n c, .int .i64 se, .int .i64 ti, .int .i64 sq, .int .i64 bd] : Array Value)[i]? := fun i => B1.cell i
      clear c1
      go_wp2_with fail
      refine (HS.out _).mono ?_; rintro e w2 ⟨rfl, c2⟩
      have b2 := b1.trans (c2.mono b1.size)
      have B2 := B1.below c2 B1.lt
      have cc2 : ∀ i, w2.cell? ⟨w.heap.size, i, none⟩ = (#[.int .i64 4, .int .i64 qu, .int .i64 sr, .int .i64 st, .int .i64 en, .int .i64 va, .bool ov, .slice A n c, .int .i64 se, .int .i64 ti, .int .i64 sq, .int .i64 bd] : Array Value)[i]? := fun i => B2.cell i
      clear c2 b1 B1 cc1
      go_wp2_with fail
      go_ret
      exact ⟨rfl, b2⟩
  · obtain rfl := bool_eq (mayR_no (show ¬ MayR ⟨4, qu, sr, st, en, va, ov, hs, se, ti, sq, bd⟩ by unfold MayR; simp only; rintro (k | k | k | k) <;> first | exact g1 k.2.1 | (have := k.1; omega))) hv
    clear hv
    have HN := Lib.hid (fun (w : World) (h : Ints w A n hs) => noX_any qu sr st en va ov A n c hs false (decide_eq_false g1) w h.1)
    have HI := Lib.hid hI
    clear hI
    go_enter Try.func13, Try.ntmps13
    go_wp2_with fail
    refine (HN.out _ (HI.out.below ((Below.refl w.heap.size w).alloc (Nat.le_refl _) _))).mono ?_; rintro e w1 ⟨rfl, c1⟩
    have b1 := ((Below.refl w.heap.size w).alloc (Nat.le_refl _) _).trans (c1.mono (by simp))
    have B1 : Has w1 w.heap.size 30 #[.int .i64 4, .int .i64 qu, .int .i64 sr, .int .i64 st, .int .i64 en, .int .i64 va, .bool ov, .slice A n c, .int .i64 se, .int .i64 ti, .int .i64 sq, .int .i64 bd] := (Has.made w _ _).below c1 (by simp)
    have cc1 : ∀ i, w1.cell? ⟨w.heap.size, i, none⟩ = (#[.int .i64 4, .int .i64 qu, .int .i64 sr, .int .i64 st, .int .i64 en, .int .i64 va, .bool ov, .slice A n c, .int .i64 se, .int .i64 ti, .int .i64 sq, .int .i64 bd] : Array Value)[i]? := fun i => B1.cell i
    clear c1
    go_wp2_with fail
    go_ret
    exact ⟨rfl, b1⟩

set_option maxRecDepth 100000 in
set_option maxHeartbeats 1000000 in
theorem may_k5 (qu sr st en va : Int) (ov : Bool) (hs : List Int) (A : Option Addr) (n c : Nat) (se ti sq bd : Int)(v : Bool) (hv : mayR ⟨5, qu, sr, st, en, va, ov, hs, se, ti, sq, bd⟩ = v) (w : World) (hI : Ints w A n hs) :
    Calls Try.prog 13 #[.agg #[.int .i64 5, .int .i64 qu, .int .i64 sr, .int .i64 st, .int .i64 en, .int .i64 va, .bool ov, .slice A n c, .int .i64 se, .int .i64 ti, .int .i64 sq, .int .i64 bd]] w fun e w' => e = .returned (.bool v) ∧ Below w.heap.size w w' := by
  by_cases g1 : 1 ≤ bd ∧ bd ≤ 1073741823
  · by_cases g2 : NoX qu sr st en va ov hs
    · by_cases g3 : NoS se ti sq
      · obtain rfl := bool_eq (mayR_yes (r := ⟨5, qu, sr, st, en, va, ov, hs, se, ti, sq, bd⟩) (Or.inr (Or.inr (Or.inr ⟨rfl, g1, g2, g3⟩)))) hv
        clear hv
        have HN := Lib.hid (fun (w : World) (h : Ints w A n hs) => noX_any qu sr st en va ov A n c hs true (decide_eq_true g2) w h.1)
        clear g2
        have HS := Lib.hid (fun w : World => noS_any 5 qu sr st en va ov A n c se ti sq bd true (decide_eq_true g3) w)
        clear g3
        have HI := Lib.hid hI
        clear hI
        go_enter Try.func13, Try.ntmps13
        go_wp2_with (go_at_call 30; refine (within_yes _ _ _ _ (by omega) (by omega)).mono ?_; rintro e w' ⟨rfl, rfl⟩)
        refine (HN.out _ (HI.out.below ((Below.refl w.heap.size w).alloc (Nat.le_refl _) _))).mono ?_; rintro e w1 ⟨rfl, c1⟩
        have b1 := ((Below.refl w.heap.size w).alloc (Nat.le_refl _) _).trans (c1.mono (by simp))
        have B1 : Has w1 w.heap.size 30 #[.int .i64 5, .int .i64 qu, .int .i64 sr, .int .i64 st, .int .i64 en, .int .i64 va, .bool ov, .slice A n c, .int .i64 se, .int .i64 ti, .int .i64 sq, .int .i64 bd] := (Has.made w _ _).below c1 (by simp)
        have cc1 : ∀ i, w1.cell? ⟨w.heap.size, i, none⟩ = (#[.int .i64 5, .int .i64 qu, .int .i64 sr, .int .i64 st, .int .i64 en, .int .i64 va, .bool ov, .slice A n c, .int .i64 se, .int .i64 ti, .int .i64 sq, .int .i64 bd] : Array Value)[i]? := fun i => B1.cell i
        clear c1
        go_wp2_with fail
        refine (HS.out _).mono ?_; rintro e w2 ⟨rfl, c2⟩
        have b2 := b1.trans (c2.mono b1.size)
        have B2 := B1.below c2 B1.lt
        have cc2 : ∀ i, w2.cell? ⟨w.heap.size, i, none⟩ = (#[.int .i64 5, .int .i64 qu, .int .i64 sr, .int .i64 st, .int .i64 en, .int .i64 va, .bool ov, .slice A n c, .int .i64 se, .int .i64 ti, .int .i64 sq, .int .i64 bd] : Array Value)[i]? := fun i => B2.cell i
        clear c2 b1 B1 cc1
        go_wp2_with fail
        go_ret
        exact ⟨rfl, b2⟩
      · obtain rfl := bool_eq (mayR_no (show ¬ MayR ⟨5, qu, sr, st, en, va, ov, hs, se, ti, sq, bd⟩ by unfold MayR; simp only; rintro (k | k | k | k) <;> first | exact g3 k.2.2.2 | (have := k.1; omega))) hv
        clear hv
        have HN := Lib.hid (fun (w : World) (h : Ints w A n hs) => noX_any qu sr st en va ov A n c hs true (decide_eq_true g2) w h.1)
        clear g2
        have HS := Lib.hid (fun w : World => noS_any 5 qu sr st en va ov A n c se ti sq bd false (decide_eq_false g3) w)
        have HI := Lib.hid hI
        clear hI
        go_enter Try.func13, Try.ntmps13
        go_wp2_with (go_at_call 30; refine (within_yes _ _ _ _ (by omega) (by omega)).mono ?_; rintro e w' ⟨rfl, rfl⟩)
        refine (HN.out _ (HI.out.below ((Below.refl w.heap.size w).alloc (Nat.le_refl _) _))).mono ?_; rintro e w1 ⟨rfl, c1⟩
        have b1 := ((Below.refl w.heap.size w).alloc (Nat.le_refl _) _).trans (c1.mono (by simp))
        have B1 : Has w1 w.heap.size 30 #[.int .i64 5, .int .i64 qu, .int .i64 sr, .int .i64 st, .int .i64 en, .int .i64 va, .bool ov, .slice A n c, .int .i64 se, .int .i64 ti, .int .i64 sq, .int .i64 bd] := (Has.made w _ _).below c1 (by simp)
        have cc1 : ∀ i, w1.cell? ⟨w.heap.size, i, none⟩ = (#[.int .i64 5, .int .i64 qu, .int .i64 sr, .int .i64 st, .int .i64 en, .int .i64 va, .bool ov, .slice A n c, .int .i64 se, .int .i64 ti, .int .i64 sq, .int .i64 bd] : Array Value)[i]? := fun i => B1.cell i
        clear c1
        go_wp2_with fail
        refine (HS.out _).mono ?_; rintro e w2 ⟨rfl, c2⟩
        have b2 := b1.trans (c2.mono b1.size)
        have B2 := B1.below c2 B1.lt
        have cc2 : ∀ i, w2.cell? ⟨w.heap.size, i, none⟩ = (#[.int .i64 5, .int .i64 qu, .int .i64 sr, .int .i64 st, .int .i64 en, .int .i64 va, .bool ov, .slice A n c, .int .i64 se, .int .i64 ti, .int .i64 sq, .int .i64 bd] : Array Value)[i]? := fun i => B2.cell i
        clear c2 b1 B1 cc1
        go_wp2_with fail
        go_ret
        exact ⟨rfl, b2⟩
    · obtain rfl := bool_eq (mayR_no (show ¬ MayR ⟨5, qu, sr, st, en, va, ov, hs, se, ti, sq, bd⟩ by unfold MayR; simp only; rintro (k | k | k | k) <;> first | exact g2 k.2.2.1 | (have := k.1; omega))) hv
      clear hv
      have HN := Lib.hid (fun (w : World) (h : Ints w A n hs) => noX_any qu sr st en va ov A n c hs false (decide_eq_false g2) w h.1)
      have HI := Lib.hid hI
      clear hI
      go_enter Try.func13, Try.ntmps13
      go_wp2_with (go_at_call 30; refine (within_yes _ _ _ _ (by omega) (by omega)).mono ?_; rintro e w' ⟨rfl, rfl⟩)
      refine (HN.out _ (HI.out.below ((Below.refl w.heap.size w).alloc (Nat.le_refl _) _))).mono ?_; rintro e w1 ⟨rfl, c1⟩
      have b1 := ((Below.refl w.heap.size w).alloc (Nat.le_refl _) _).trans (c1.mono (by simp))
      have B1 : Has w1 w.heap.size 30 #[.int .i64 5, .int .i64 qu, .int .i64 sr, .int .i64 st, .int .i64 en, .int .i64 va, .bool ov, .slice A n c, .int .i64 se, .int .i64 ti, .int .i64 sq, .int .i64 bd] := (Has.made w _ _).below c1 (by simp)
      have cc1 : ∀ i, w1.cell? ⟨w.heap.size, i, none⟩ = (#[.int .i64 5, .int .i64 qu, .int .i64 sr, .int .i64 st, .int .i64 en, .int .i64 va, .bool ov, .slice A n c, .int .i64 se, .int .i64 ti, .int .i64 sq, .int .i64 bd] : Array Value)[i]? := fun i => B1.cell i
      clear c1
      go_wp2_with fail
      go_ret
      exact ⟨rfl, b1⟩
  · obtain rfl := bool_eq (mayR_no (show ¬ MayR ⟨5, qu, sr, st, en, va, ov, hs, se, ti, sq, bd⟩ by unfold MayR; simp only; rintro (k | k | k | k) <;> first | exact g1 k.2.1 | (have := k.1; omega))) hv
    clear hv hI
    go_enter Try.func13, Try.ntmps13
    go_wp2_with (go_at_call 30; refine (within_no _ _ _ _ (by omega)).mono ?_; rintro e w' ⟨rfl, rfl⟩)
    go_ret
    exact ⟨rfl, (Below.refl w.heap.size w).alloc (Nat.le_refl _) _⟩

set_option maxRecDepth 100000 in
set_option maxHeartbeats 1000000 in
theorem may_kn (kd : Int) (qu sr st en va : Int) (ov : Bool) (hs : List Int) (A : Option Addr) (n c : Nat) (se ti sq bd : Int) (v : Bool) (hv : mayR ⟨kd, qu, sr, st, en, va, ov, hs, se, ti, sq, bd⟩ = v) (n0 : kd ≠ 0) (n1 : kd ≠ 1) (n2 : kd ≠ 2) (n3 : kd ≠ 3) (n4 : kd ≠ 4) (n5 : kd ≠ 5) (w : World) :
    Calls Try.prog 13 #[.agg #[.int .i64 kd, .int .i64 qu, .int .i64 sr, .int .i64 st, .int .i64 en, .int .i64 va, .bool ov, .slice A n c, .int .i64 se, .int .i64 ti, .int .i64 sq, .int .i64 bd]] w fun e w' => e = .returned (.bool v) ∧ Below w.heap.size w w' := by
  obtain rfl := bool_eq (mayR_no (show ¬ MayR ⟨kd, qu, sr, st, en, va, ov, hs, se, ti, sq, bd⟩ by unfold MayR; simp only; omega)) hv
  have q0 : (kd == 0) = false := by simpa using n0
  have q1 : (kd == 1) = false := by simpa using n1
  have q2 : (kd == 2) = false := by simpa using n2
  have q3 : (kd == 3) = false := by simpa using n3
  have q4 : (kd == 4) = false := by simpa using n4
  have q5 : (kd == 5) = false := by simpa using n5
  clear hv n0 n1 n2 n3 n4 n5
  go_enter Try.func13, Try.ntmps13
  go_wp2_with fail
  go_ret
  exact ⟨rfl, (Below.refl w.heap.size w).alloc (Nat.le_refl _) _⟩

/-- May, of any record. -/
theorem may_any (r : Rc) (A : Option Addr) (n c : Nat) (v : Bool) (hv : mayR r = v) (w : World) (hI : Ints w A n r.hs) :
    Calls Try.prog 13 #[.agg (recC r A n c)] w fun e w' => e = .returned (.bool v) ∧ Below w.heap.size w w' := by
  obtain ⟨kd, qu, sr, st, en, va, ov, hs, se, ti, sq, bd⟩ := r
  by_cases n0 : kd = 0
  · subst n0; exact may_k0 qu sr st en va ov hs A n c se ti sq bd v hv w hI
  by_cases n1 : kd = 1
  · subst n1; exact may_k1 qu sr st en va ov hs A n c se ti sq bd v hv w hI
  by_cases n2 : kd = 2
  · subst n2; exact may_k2 qu sr st en va ov hs A n c se ti sq bd v hv w hI
  by_cases n3 : kd = 3
  · subst n3; exact may_k3 qu sr st en va ov hs A n c se ti sq bd v hv w hI
  by_cases n4 : kd = 4
  · subst n4; exact may_k4 qu sr st en va ov hs A n c se ti sq bd v hv w hI
  by_cases n5 : kd = 5
  · subst n5; exact may_k5 qu sr st en va ov hs A n c se ti sq bd v hv w hI
  exact may_kn kd qu sr st en va ov hs A n c se ti sq bd v hv n0 n1 n2 n3 n4 n5 w


end Go.Proofs.Ytdbcmcdmipehgaa
