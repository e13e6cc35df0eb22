/-
  Walks: acc.fits, acc.May.
-/
import Derived.Test.YtdoflmphkalicaaFits
namespace Go.Proofs.Ytdoflmphkalicaa
open Go.RowKit

set_option maxRecDepth 100000 in
set_option maxHeartbeats 1000000 in
theorem fits_any (a : Ac) (A : Option Addr) (n c : Nat) (m : Int) (w : World) (hr : Ints w A n a.h) (hm : 0 ≤ m ∧ m ≤ 9) (hn : n ≤ maxLen) :
    Calls Try.prog 65 #[.agg #[.int .i64 a.n, .int .i64 a.s, .int .i64 a.mn, .int .i64 a.mx, .int .i64 a.f.s, .int .i64 a.f.t, .int .i64 a.f.q, .int .i64 a.f.v, .int .i64 a.l.s, .int .i64 a.l.t, .int .i64 a.l.q, .int .i64 a.l.v, .slice A n c], .int .i64 m] w
      fun e w' => e = .returned (.bool (fitB a m)) ∧ Below w.heap.size w w' := by
  have hbox : ∀ o, Below w.heap.size w (w.alloc o) := fun o => (Below.refl _ _).alloc (Nat.le_refl _) o
  have HBOX := Lib.hid hbox; clear hbox
  cases h1 : wi a.n 0 8192
  · go_enter Try.func65, Try.ntmps65
    go_wp2_with (go_at_call 70; refine (within_any _ _ _ _).mono ?_; rintro e w' ⟨rfl, rfl⟩)
    go_ret
    exact ⟨ret_bool (by simp [fitB, h1]), HBOX.out _⟩
  · obtain ⟨g1, g2⟩ := wi_true h1
    go_enter Try.func65, Try.ntmps65
    go_wp2_with fail
    refine (within_any _ _ _ _).mono ?_
    rintro e w1 ⟨rfl, rfl⟩
    go_wp2_with fail
    refine (histFits_any a A n c m _ (hr.below (HBOX.out _)) hm hn).mono ?_
    rintro e w2 ⟨rfl, hb2⟩
    have hB2 : Below w.heap.size w w2 := (HBOX.out _).trans (hb2.mono (by simp))
    have hc2 : ∀ b o, b < w.heap.size + 1 → w2.cell? ⟨b, o, none⟩ = _ := fun b o h => oldCells hb2 (Nat.le_refl _) b o (by simpa using h)
    cases h2 : histB a m
    · go_wp2
      go_ret
      exact ⟨ret_bool (by simp [fitB, h2]), hB2⟩
    · by_cases h3 : a.n = 0
      · have h3' : (a.n == 0) = true := by simp [h3]
        have H3 := Lib.hid h3; clear h3
        go_wp2_with fail
        refine (zero_any a A n c _).mono ?_
        rintro e w3 ⟨rfl, hb3⟩
        have hB3 : Below w.heap.size w w3 := hB2.trans (hb3.mono hB2.size)
        go_wp2
        go_ret
        exact ⟨ret_bool (by unfold fitB; rw [h1, h2, if_pos H3.out]; simp), hB3⟩
      · have h3' : (a.n == 0) = false := by simp [h3]
        have H3 := Lib.hid h3; clear h3
        go_wp2_with fail
        refine (endsFit_any a A n c _).mono ?_
        rintro e w3 ⟨rfl, hb3⟩
        have hB3 : Below w.heap.size w w3 := hB2.trans (hb3.mono hB2.size)
        have hc3 : ∀ b o, b < w.heap.size + 1 → w3.cell? ⟨b, o, none⟩ = w2.cell? ⟨b, o, none⟩ := fun b o h => oldCells hb3 (Nat.le_refl _) b o (by have := hb2.size; simp at this; omega)
        cases h4 : endsB a
        · go_wp2
          go_ret
          exact ⟨ret_bool (by simp [fitB, h1, h2, h4, H3.out]), hB3⟩
        · go_wp2_with fail
          refine (vals_any a A n c _ ⟨g1, g2⟩).mono ?_
          rintro e w4 ⟨rfl, hb4⟩
          have hB4 : Below w.heap.size w w4 := hB3.trans (hb4.mono hB3.size)
          go_wp2
          go_ret
          exact ⟨ret_bool (by simp [fitB, h1, h2, h4, H3.out]), hB4⟩

set_option maxRecDepth 100000 in
set_option maxHeartbeats 1000000 in
theorem may_any (a : Ac) (A : Option Addr) (n c : Nat) (B : Option Addr) (m d : Nat) (bs : List Int) (w : World) (hr : Ints w A n a.h) (hbs : Ints w B m bs) (hn : n ≤ maxLen) (hm : m ≤ maxLen) :
    Calls Try.prog 34 #[.agg #[.int .i64 a.n, .int .i64 a.s, .int .i64 a.mn, .int .i64 a.mx, .int .i64 a.f.s, .int .i64 a.f.t, .int .i64 a.f.q, .int .i64 a.f.v, .int .i64 a.l.s, .int .i64 a.l.t, .int .i64 a.l.q, .int .i64 a.l.v, .slice A n c], .slice B m d] w
      fun e w' => e = .returned (.bool (accB a bs)) ∧ Below w.heap.size w w' := by
  have hbox : ∀ o, Below w.heap.size w (w.alloc o) := fun o => (Below.refl _ _).alloc (Nat.le_refl _) o
  have HBOX := Lib.hid hbox; clear hbox
  go_enter Try.func34, Try.ntmps34
  go_wp2_with fail
  refine (bounds_any B m d bs _ (hbs.below (HBOX.out _)) hm).mono ?_
  rintro e w1 ⟨rfl, k, rfl⟩
  cases h1 : boundsB bs
  · go_wp2
    go_ret
    exact ⟨ret_bool (by simp [accB, h1]), below_drewN (HBOX.out _) _⟩
  · have h8 := (boundsB_true h1).1
    have hlen := hbs.1
    have hm8 : m ≤ 8 := by omega
    have HM := Lib.hid hlen; clear hlen h8
    go_wp2_with fail
    refine (fits_any a A n c _ _ ((hr.below (HBOX.out _)).drewN _) (by omega) hn).mono ?_
    rintro e w2 ⟨rfl, hb2⟩
    go_wp2
    go_ret
    exact ⟨ret_bool (by simp [accB, h1, HM.out]), (below_drewN (HBOX.out _) _).trans (hb2.mono (by simp))⟩

end Go.Proofs.Ytdoflmphkalicaa
