/-
  Walks: slice.Unit, slice.At.
-/
import Derived.Test.YtkbocjmdbfddhaaSlDef
namespace Go.Proofs.Ytkbocjmdbfddhaa
open Go.RowKit

set_option maxRecDepth 100000 in
set_option maxHeartbeats 1000000 in
theorem unit_bad (kd ag sz sl rk : Int) (B : Option Addr) (m d : Nat) (bs : List Int) (w : World) (hb : Ints w B m bs) (hm : m ≤ maxLen) (h : (mayQ kd ag sz sl bs rk && decide (kd ≠ 2)) = false) :
    Calls Try.prog 22 #[.agg #[.int .i64 kd, .int .i64 ag, .int .i64 sz, .int .i64 sl, .slice B m d, .int .i64 rk]] w (NoUnit w) := by
  have hbox : ∀ o, Below w.heap.size w (w.alloc o) := fun o => (Below.refl _ _).alloc (Nat.le_refl _) o
  have HBOX := Lib.hid hbox; clear hbox
  have HH := Lib.hid h; clear h
  go_enter Try.func22, Try.ntmps22
  go_wp2_with fail
  refine (may4_any kd ag sz sl rk B m d bs _ (hb.below (HBOX.out _)) hm).mono ?_
  rintro e w1 ⟨rfl, b1⟩
  have hB1 : Below w.heap.size w w1 := (HBOX.out _).trans (b1.mono (by simp))
  have hc1 : ∀ b o, b < w.heap.size + 1 → w1.cell? ⟨b, o, none⟩ = _ := fun b o h => oldCells b1 (Nat.le_refl _) b o (by simpa using h)
  clear b1
  cases k1 : mayQ kd ag sz sl bs rk
  · go_wp2_with fail
    go_ret2
    exact ⟨rfl, hB1⟩
  · obtain rfl : kd = 2 := by
      have := HH.out
      rw [k1] at this
      simpa using this
    go_wp2_with fail
    go_ret2
    exact ⟨rfl, hB1⟩

set_option maxRecDepth 100000 in
set_option maxHeartbeats 1000000 in
theorem unit_ok (kd ag sz sl rk : Int) (B : Option Addr) (m d : Nat) (bs : List Int) (w : World) (hb : Ints w B m bs) (hm : m ≤ maxLen) (h1 : mayQ kd ag sz sl bs rk = true) (h2 : kd ≠ 2) :
    Calls Try.prog 22 #[.agg #[.int .i64 kd, .int .i64 ag, .int .i64 sz, .int .i64 sl, .slice B m d, .int .i64 rk]] w (OutUnit (unitQ kd sz sl) w) := by
  have hbox : ∀ o, Below w.heap.size w (w.alloc o) := fun o => (Below.refl _ _).alloc (Nat.le_refl _) o
  have HBOX := Lib.hid hbox; clear hbox
  obtain ⟨s1, s2, s3, s4, s5⟩ := stepQ_bd h1
  have hk01 : kd = 0 ∨ kd = 1 := by
    unfold mayQ at h1
    simp only [Bool.and_eq_true] at h1
    have := wi_true h1.1
    omega
  go_enter Try.func22, Try.ntmps22
  go_wp2_with fail
  refine (may4_any kd ag sz sl rk B m d bs _ (hb.below (HBOX.out _)) hm).mono ?_
  rw [h1]
  rintro e w1 ⟨rfl, b1⟩
  have hB1 : Below w.heap.size w w1 := (HBOX.out _).trans (b1.mono (by simp))
  have hc1 : ∀ b o, b < w.heap.size + 1 → w1.cell? ⟨b, o, none⟩ = _ := fun b o h => oldCells b1 (Nat.le_refl _) b o (by simpa using h)
  clear b1
  rcases hk01 with rfl | rfl
  · go_wp2_with fail
    go_ret2
    exact ⟨rfl, hB1⟩
  · have HG : Hid (unitQ 1 sz sl = gcdI sz sl) := rfl
    rw [HG.out]
    have e : stepQ 1 sz sl = sl := rfl
    rw [e] at s1 s2
    clear e h2 s5
    go_wp2_with fail
    refine (gcd_ok sz sl _ s3 (by omega) s1 (by omega) rfl _).mono ?_
    rintro e w2 ⟨rfl, k, rfl⟩
    go_wp2_with fail
    go_ret2
    exact ⟨rfl, below_drewN hB1 k⟩

set_option maxRecDepth 100000 in
set_option maxHeartbeats 1000000 in
theorem at_bad (kd ag sz sl rk t : Int) (B : Option Addr) (m d : Nat) (bs : List Int) (w : World) (hb : Ints w B m bs) (hm : m ≤ maxLen) (h : (mayQ kd ag sz sl bs rk && (decide (kd ≠ 2) && wi t (-1099511627776) 1099511627776)) = false) :
    Calls Try.prog 24 #[.agg #[.int .i64 kd, .int .i64 ag, .int .i64 sz, .int .i64 sl, .slice B m d, .int .i64 rk], .int .i64 t] w (NoAt w) := by
  have HBOX : Hid (∀ o1 o2, Below w.heap.size w ((w.alloc o1).alloc o2)) := fun o1 o2 => below_alloc ((Below.refl _ _).alloc (Nat.le_refl _) _) (Nat.le_refl _) _
  have HNEW : Hid (∀ o1 cs, Has ((w.alloc o1).alloc (.cells cs 38)) (w.heap.size + 1) 38 cs) := fun o1 cs => heap_alloc2_new w _ _
  have HH := Lib.hid h; clear h
  go_enter Try.func24, Try.ntmps24
  go_wp2_with fail
  cases k0 : (mayQ kd ag sz sl bs rk && decide (kd ≠ 2))
  · refine (unit_bad kd ag sz sl rk B m d bs _ (hb.below (HBOX.out _ _)) hm k0).mono ?_
    rintro e w1 ⟨rfl, b1⟩
    have HR := (HNEW.out _ _).below b1 (by simp)
    have hB1 : Below w.heap.size w w1 := (HBOX.out _ _).trans (b1.mono (by simp; omega))
    clear b1
    go_wp2_with (refine store_span rfl _ _ rfl _ rfl rfl HR rfl ?_)
    refine bodyPost_ret (ret_span rfl _ _ _ 0 0 rfl (HR.row _)) rfl ?_
    exact ⟨rfl, below_row hB1 (by omega) _⟩
  · have k1 := k0
    simp only [Bool.and_eq_true] at k1
    have k2 := of_decide_eq_true k1.2
    have k3 : wi t (-1099511627776) 1099511627776 = false := by
      have := HH.out
      rw [← Bool.and_assoc, k0] at this
      simpa using this
    refine (unit_ok kd ag sz sl rk B m d bs _ (hb.below (HBOX.out _ _)) hm k1.1 k2).mono ?_
    rintro e w1 ⟨rfl, b1⟩
    clear k0 k1 k2
    have HR := (HNEW.out _ _).below b1 (by simp)
    have hB1 : Below w.heap.size w w1 := (HBOX.out _ _).trans (b1.mono (by simp; omega))
    clear b1
    go_wp2_with (first
      | (go_at_call 42; refine (within_any _ _ _ _).mono ?_; rintro e w' ⟨rfl, rfl⟩)
      | (refine store_span rfl _ _ rfl _ rfl rfl HR rfl ?_))
    refine bodyPost_ret (ret_span rfl _ _ _ 0 0 rfl (HR.row _)) rfl ?_
    exact ⟨rfl, below_row hB1 (by omega) _⟩

set_option maxRecDepth 100000 in
set_option maxHeartbeats 1000000 in
theorem at_ok (kd ag sz sl rk t : Int) (B : Option Addr) (m d : Nat) (bs : List Int) (w : World) (hb : Ints w B m bs) (hm : m ≤ maxLen) (h1 : mayQ kd ag sz sl bs rk = true) (h2 : kd ≠ 2) (h3 : wi t (-1099511627776) 1099511627776 = true) :
    Calls Try.prog 24 #[.agg #[.int .i64 kd, .int .i64 ag, .int .i64 sz, .int .i64 sl, .slice B m d, .int .i64 rk], .int .i64 t] w (OutAt (t / unitQ kd sz sl * unitQ kd sz sl) (unitQ kd sz sl) w) := by
  have HBOX : Hid (∀ o1 o2, Below w.heap.size w ((w.alloc o1).alloc o2)) := fun o1 o2 => below_alloc ((Below.refl _ _).alloc (Nat.le_refl _) _) (Nat.le_refl _) _
  have HNEW : Hid (∀ o1 cs, Has ((w.alloc o1).alloc (.cells cs 38)) (w.heap.size + 1) 38 cs) := fun o1 cs => heap_alloc2_new w _ _
  obtain ⟨u1, u2, _, _, _⟩ := unitQ_bd h1 h2
  obtain ⟨_, _, s3, s4, _⟩ := stepQ_bd h1
  obtain ⟨t1, t2⟩ := wi_true h3
  obtain ⟨a1, a2⟩ := at_bd t (unitQ kd sz sl) u1
  have HU := Lib.hid (fun W hI => unit_ok kd ag sz sl rk B m d bs W hI hm h1 h2)
  have HD := Lib.hid (div_ok t (unitQ kd sz sl) _ (by omega) (by omega) u1 rfl)
  have e1 : (t / unitQ kd sz sl + 1) * unitQ kd sz sl = t / unitQ kd sz sl * unitQ kd sz sl + unitQ kd sz sl := by rw [Int.add_mul, Int.one_mul]
  have l3 : t / unitQ kd sz sl ≤ 1099511627776 := Int.ediv_le_of_le_mul (by omega) (by have := Int.mul_le_mul_of_nonneg_left u1 (show (0 : Int) ≤ 1099511627776 by decide); omega)
  have l4 : -1099511627776 ≤ t / unitQ kd sz sl := Int.le_ediv_of_mul_le (by omega) (by have := Int.mul_le_mul_of_nonneg_left u1 (show (0 : Int) ≤ 1099511627776 by decide); omega)
  generalize unitQ kd sz sl = u at *
  generalize t / u = p at *
  obtain ⟨z, hz⟩ : ∃ z, p * u = z := ⟨_, rfl⟩
  rw [hz] at a1 a2 e1 ⊢
  have z1 : wrap64 (p * u) = z := by rw [hz]; unfold wrap64; omega
  have z2 : wrap64 ((p + 1) * u) = z + u := by rw [e1]; unfold wrap64; omega
  clear h1 h2 hz e1
  go_enter Try.func24, Try.ntmps24
  go_wp2_with fail
  refine (HU.out _ (hb.below (HBOX.out _ _))).mono ?_
  rintro e w1 ⟨rfl, b1⟩
  have HR := (HNEW.out _ _).below b1 (by simp)
  have hB1 : Below w.heap.size w w1 := (HBOX.out _ _).trans (b1.mono (by simp; omega))
  clear b1 HU
  go_wp2_with (go_at_call 42; refine (within_any _ _ _ _).mono ?_; rintro e w' ⟨rfl, rfl⟩)
  refine (HD.out _).mono ?_
  rintro e w' ⟨rfl, rfl⟩
  go_wp2_with (refine store_span rfl _ _ rfl _ rfl rfl HR rfl ?_)
  refine bodyPost_ret (ret_span rfl _ _ _ _ _ rfl (HR.row _)) rfl ?_
  exact ⟨rfl, below_row hB1 (by omega) _⟩

end Go.Proofs.Ytkbocjmdbfddhaa
