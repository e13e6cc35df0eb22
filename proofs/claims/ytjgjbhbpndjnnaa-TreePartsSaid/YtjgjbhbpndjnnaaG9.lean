/-
  Plain facts on what Join gives.
  Walks: acc.Join.
-/
import Derived.Test.YtjgjbhbpndjnnaaG8
namespace Go.Proofs.Ytjgjbhbpndjnnaa
open Go.RowKit

theorem togB_fit {m s : Int} {xs : List Ac} (h : togB m s xs = true) {i : Nat} (hi : i < xs.length) : fitB (nthA xs i) m = true := by
  induction xs generalizing s i with
  | nil => simp at hi
  | cons a r ih =>
    simp only [togB, Bool.and_eq_true] at h
    cases i with
    | zero => exact h.1
    | succ i =>
      have e : nthA (a :: r) (i + 1) = nthA r i := by simp [nthA]
      rw [e]
      have h2 := h.2
      split at h2
      · exact ih h2 (by simpa using hi)
      · split at h2
        · cases h2
        · exact ih h2 (by simpa using hi)

theorem isum_nonneg {h : List Int} (hh : ∀ i, i < h.length → 0 ≤ nth h i) : 0 ≤ isum h := by
  induction h with
  | nil => simp [isum]
  | cons b r ih =>
    have h0 := hh 0 (by simp)
    rw [nth_cons_zero] at h0
    have h1 := ih (fun i hi => by have := hh (i + 1) (by simpa using hi); rwa [nth_cons_succ] at this)
    simp only [isum]; omega
theorem nth_le_isum {h : List Int} (hh : ∀ i, i < h.length → 0 ≤ nth h i) {i : Nat} (hi : i < h.length) : nth h i ≤ isum h := by
  induction h generalizing i with
  | nil => simp at hi
  | cons b r ih =>
    have h0 := hh 0 (by simp)
    rw [nth_cons_zero] at h0
    have hr : ∀ i, i < r.length → 0 ≤ nth r i := fun i hi => by have := hh (i + 1) (by simpa using hi); rwa [nth_cons_succ] at this
    cases i with
    | zero => have := isum_nonneg hr; simp only [isum, nth_cons_zero]; omega
    | succ i =>
      have := ih hr (i := i) (by simpa using hi)
      simp only [isum, nth_cons_succ]; omega
theorem isum_append (p q : List Int) : isum (p ++ q) = isum p + isum q := by
  induction p with
  | nil => simp [isum]
  | cons b r ih => simp only [List.cons_append, isum, ih]; omega
theorem isum_take_le {h : List Int} (hh : ∀ i, i < h.length → 0 ≤ nth h i) (j : Nat) : isum (h.take j) ≤ isum h := by
  have e := isum_append (h.take j) (h.drop j)
  rw [List.take_append_drop] at e
  have := isum_nonneg (h := h.drop j) (fun i hi => by
    have e2 : nth (h.drop j) i = nth h (j + i) := by simp [nth]
    rw [e2]; exact hh _ (by simp at hi; omega))
  omega

/-- What a fitting aggregate that is not empty is known for. -/
structure Fit (m : Nat) (a : Ac) : Prop where
  n0 : 0 ≤ a.n
  n1 : a.n ≤ 8192
  s0 : -1099511627776 * a.n ≤ a.s
  s1 : a.s ≤ 1099511627776 * a.n
  len : a.h.length = m
  low : ∀ i, i < m → 0 ≤ nth a.h i
  top : ∀ i, i < m → nth a.h i ≤ a.n
theorem fit_of {m : Nat} {a : Ac} (h : fitB a m = true) : Fit m a := by
  simp only [fitB, Bool.and_eq_true] at h
  obtain ⟨h1, h2, h3⟩ := h
  have hn := wi_true h1
  have hh := of_decide_eq_true h2
  have hl : a.h.length = m := by have := hh.1; omega
  have low : ∀ i, i < a.h.length → 0 ≤ nth a.h i := fun i hi => (hh.2.1 i hi).1
  have hs : -1099511627776 * a.n ≤ a.s ∧ a.s ≤ 1099511627776 * a.n := by
    split at h3
    · rename_i hz
      have hz2 := of_decide_eq_true h3
      rw [hz, hz2.1]; omega
    · simp only [Bool.and_eq_true] at h3
      obtain ⟨g1, g2, g3, -, -, -, -, g8, g9⟩ := of_decide_eq_true h3.2
      have e1 : a.n * (-1099511627776) ≤ a.n * a.mn := Int.mul_le_mul_of_nonneg_left g1 hn.1
      have e2 : a.n * a.mx ≤ a.n * 1099511627776 := Int.mul_le_mul_of_nonneg_left g3 hn.1
      omega
  exact ⟨hn.1, hn.2, hs.1, hs.2, hl, fun i hi => low i (by omega), fun i hi => by have := nth_le_isum low (i := i) (by omega); rw [hh.2.2] at this; exact this⟩
theorem fit_add {m : Nat} {o a : Ac} (ho : Fit m o) (ha : Fit m a) (hs : o.n + a.n ≤ 8192) : Fit m (addAc o a) := by
  obtain ⟨o1, o2, o3, o4, o5, o6, o7⟩ := ho
  obtain ⟨a1, a2, a3, a4, a5, a6, a7⟩ := ha
  refine ⟨?_, ?_, ?_, ?_, ?_, ?_, ?_⟩
  · simp only [addAc]; omega
  · simp only [addAc]; omega
  · simp only [addAc]; omega
  · simp only [addAc]; omega
  · simp [addAc, o5]
  · intro i hi
    simp only [addAc]
    rw [nth_range_map _ _ (by omega)]
    have := o6 i hi; have := a6 i hi; omega
  · intro i hi
    simp only [addAc]
    rw [nth_range_map _ _ (by omega)]
    have := o7 i hi; have := a7 i hi; omega
theorem fit_start (m : Nat) : Fit m ⟨0, 0, 0, 0, zeroIt, zeroIt, List.replicate m 0⟩ := by
  have e : ∀ i, i < m → nth (List.replicate m 0) i = 0 := fun i hi => by simp [nth, hi]
  refine ⟨by simp, by simp, by simp, by simp, by simp, fun i hi => ?_, fun i hi => ?_⟩
  · simp only; rw [e i hi]; omega
  · simp only; rw [e i hi]; omega
/-- The first j joined. -/
def joinTo (m : Nat) (xs : List Ac) (j : Nat) : Ac := (xs.take j).foldl joinStep ⟨0, 0, 0, 0, zeroIt, zeroIt, List.replicate m 0⟩
theorem joinTo_succ {m : Nat} {xs : List Ac} {j : Nat} (h : j < xs.length) : joinTo m xs (j + 1) = joinStep (joinTo m xs j) (nthA xs j) := by
  unfold joinTo
  rw [List.take_succ_eq_append_getElem h, List.foldl_append]
  simp [nthA, h]
theorem joinTo_all {bs : List Int} {xs : List Ac} {j : Nat} (h : xs.length ≤ j) : joinTo (bs.length + 1) xs j = joinAc bs xs := by
  unfold joinTo joinAc
  rw [List.take_of_length_le h]
theorem joinTo_n {m : Nat} {xs : List Ac} {j : Nat} (h : j ≤ xs.length) : (joinTo m xs j).n = isum ((xs.take j).map (·.n)) := by
  induction j with
  | zero => simp [joinTo, isum]
  | succ j ih =>
    rw [joinTo_succ (by omega), isum_map_take (by omega), ← ih (by omega)]
    unfold joinStep
    split
    · rename_i hz; rw [hz]; omega
    · simp [addAc]
theorem joinTo_fit {m : Nat} {xs : List Ac} (ha : ∀ i, i < xs.length → Fit m (nthA xs i)) (ht : totalA xs ≤ 8192) {j : Nat} (h : j ≤ xs.length) : Fit m (joinTo m xs j) := by
  induction j with
  | zero => exact fit_start m
  | succ j ih =>
    have hj := ih (by omega)
    have e := joinTo_n (m := m) (xs := xs) (j := j + 1) h
    have e0 := joinTo_n (m := m) (xs := xs) (j := j) (by omega)
    have es := isum_map_take (xs := xs) (j := j) (by omega)
    have hle : isum ((xs.take (j + 1)).map (·.n)) ≤ totalA xs := by
      rw [List.map_take]
      exact isum_take_le (fun i hi => by
        have := (ha i (by simpa using hi)).n0
        simpa [nth, nthA, show i < xs.length by simpa using hi] using this) _
    rw [joinTo_succ (by omega)] at e ⊢
    unfold joinStep at e ⊢
    split
    · exact hj
    · exact fit_add hj (ha j (by omega)) (by omega)
theorem addAc_hlen (o a : Ac) : (addAc o a).h.length = o.h.length := by simp [addAc]

end Go.Proofs.Ytjgjbhbpndjnnaa

namespace Go.Proofs.Ytjgjbhbpndjnnaa
open Go.RowKit

set_option maxRecDepth 100000 in
set_option maxHeartbeats 1000000 in
theorem add_none (a : Ac) (g : Nat) (A : Option Addr) (k c : Nat) (w : World) (hn : (a.n == 0) = true) :
    Calls Try.prog 48 #[.pointer (some ⟨g, 0, none⟩), accV a A k c] w fun e w' => e = .returned (.tuple #[]) ∧ Below w.heap.size w w' := by
  unfold accV
  go_enter Try.func48, Try.ntmps48
  go_wp2
  refine bodyPost_ret (results_none rfl _ _ _) rfl ?_
  exact ⟨rfl, (Below.refl _ _).alloc (Nat.le_refl _) _⟩

set_option maxRecDepth 100000 in
set_option maxHeartbeats 1000000 in
theorem join_form (B : Option Addr) (m d : Nat) (bs : List Int) (A : Option Addr) (n c : Nat) (xs : List Ac) (w : World) (hbs : Ints w B m bs) (hm : m ≤ maxLen) (hr : Accs w A n xs) (hn : n ≤ 17592186044416) (hno : (boundsB bs && togB (bs.length + 1) (-1) xs) = false) :
    Calls Try.prog 13 #[.slice B m d, .slice A n c] w (BadAcc 100 w) := by
  have HN := Lib.hid hno; clear hno
  have HL := Lib.hid hbs.1
  have HBS := Lib.hid hbs; clear hbs
  have HR := Lib.hid hr; clear hr
  have hbox : ∀ o, Below w.heap.size w (w.alloc o) := fun o => (Below.refl _ _).alloc (Nat.le_refl _) o
  have HBOX := Lib.hid hbox; clear hbox
  go_enter Try.func13, Try.ntmps13
  go_wp2_with fail
  refine (bounds_any B m d bs _ (HBS.out.below (HBOX.out _)) hm).mono ?_
  rintro e w1 ⟨rfl, k, hk⟩
  have hb1 : Below w.heap.size w w1 := hk ▸ below_drewN (HBOX.out _) k
  have H4 : Has w1 w.heap.size 29 _ := hk ▸ (Has.made w _ _).drewN k
  clear hk
  cases h1 : boundsB bs
  · go_wp2_with (refine store_has rfl _ _ rfl w.heap.size (ac := zeroAc) (A := none) (k := 0) (c := 0) rfl rfl H4 rfl ?_)
    refine bodyPost_ret (ret_row rfl _ _ _ 29 (accC zeroAc none 0 0) _ rfl (H4.row _) Try.underlying29 rfl (by exact Try.sizeAcc)) rfl ?_
    exact ⟨rfl, below_row hb1 (Nat.le_refl _) _⟩
  · have h8 : m ≤ 8 := by have := (boundsB_true h1).1; rw [HL.out] at this; exact this
    have hm1 : 0 ≤ (m : Int) + 1 ∧ (m : Int) + 1 ≤ 9 := by omega
    go_wp2_with fail
    refine (together_any A n c xs ((m : Int) + 1) _ (HR.out.below hb1) hm1 hn).mono ?_
    rintro e w2 ⟨rfl, hb2⟩
    have hB2 : Below w.heap.size w w2 := hb1.trans (hb2.mono hb1.size)
    have H42 : Has w2 w.heap.size 29 _ := H4.below hb2 H4.lt
    have h2 : togB ((m : Int) + 1) (-1) xs = false := by have := HN.out; rw [h1, HL.out] at this; simpa using this
    rw [h2]
    clear H4
    go_wp2_with (refine store_has rfl _ _ rfl w.heap.size (ac := zeroAc) (A := none) (k := 0) (c := 0) rfl rfl H42 rfl ?_)
    refine bodyPost_ret (ret_row rfl _ _ _ 29 (accC zeroAc none 0 0) _ rfl (H42.row _) Try.underlying29 rfl (by exact Try.sizeAcc)) rfl ?_
    exact ⟨rfl, below_row hB2 (Nat.le_refl _) _⟩

set_option maxRecDepth 100000 in
set_option maxHeartbeats 1000000 in
theorem join_total (B : Option Addr) (m d : Nat) (bs : List Int) (A : Option Addr) (n c : Nat) (xs : List Ac) (w : World) (hbs : Ints w B m bs) (hr : Accs w A n xs) (hn : n ≤ 17592186044416) (h1 : boundsB bs = true) (h2 : togB (bs.length + 1) (-1) xs = true) (h3 : 8192 < totalA xs) :
    Calls Try.prog 13 #[.slice B m d, .slice A n c] w (BadAcc 101 w) := by
  have HL := Lib.hid hbs.1
  have h8 : m ≤ 8 := by have := (boundsB_true h1).1; rw [HL.out] at this; exact this
  have hm1 : 0 ≤ (m : Int) + 1 ∧ (m : Int) + 1 ≤ 9 := by omega
  have HF : Hid (∀ i, i < n → 0 ≤ (nthA xs i).n ∧ (nthA xs i).n ≤ 8192) := fun i hi => by
    have := fit_of (m := bs.length + 1) (togB_fit h2 (i := i) (by rw [hr.1]; exact hi)); exact ⟨this.n0, this.n1⟩
  have H1 := Lib.hid h1; clear h1
  have H2 := Lib.hid h2; clear h2
  have HBS := Lib.hid hbs; clear hbs
  have HR := Lib.hid hr; clear hr
  have hbox : ∀ o, Below w.heap.size w (w.alloc o) := fun o => (Below.refl _ _).alloc (Nat.le_refl _) o
  have HBOX := Lib.hid hbox; clear hbox
  go_enter Try.func13, Try.ntmps13
  go_wp2_with fail
  refine (bounds_any B m d bs _ (HBS.out.below (HBOX.out _)) (by unfold maxLen; omega)).mono ?_
  rintro e w1 ⟨rfl, k, hk⟩
  have hb1 : Below w.heap.size w w1 := hk ▸ below_drewN (HBOX.out _) k
  have H4 : Has w1 w.heap.size 29 _ := hk ▸ (Has.made w _ _).drewN k
  clear hk
  rw [H1.out]
  go_wp2_with fail
  refine (together_any A n c xs ((m : Int) + 1) _ (HR.out.below hb1) hm1 hn).mono ?_
  rintro e w2 ⟨rfl, hb2⟩
  have hB2 : Below w.heap.size w w2 := hb1.trans (hb2.mono hb1.size)
  have H42 : Has w2 w.heap.size 29 _ := H4.below hb2 H4.lt
  clear H4
  rw [show togB ((m : Int) + 1) (-1) xs = true from by have := H2.out; rw [HL.out] at this; exact this]
  go_wp2_with fail
  refine (total_any A n c xs _ (HR.out.below hB2) hn HF.out).mono ?_
  rintro e w3 ⟨rfl, hb3⟩
  have hB3 : Below w.heap.size w w3 := hB2.trans (hb3.mono hB2.size)
  have H43 : Has w3 w.heap.size 29 _ := H42.below hb3 H42.lt
  clear H42
  go_wp2_with (refine store_has rfl _ _ rfl w.heap.size (ac := zeroAc) (A := none) (k := 0) (c := 0) rfl rfl H43 rfl ?_)
  refine bodyPost_ret (ret_row rfl _ _ _ 29 (accC zeroAc none 0 0) _ rfl (H43.row _) Try.underlying29 rfl (by exact Try.sizeAcc)) rfl ?_
  exact ⟨rfl, below_row hB3 (Nat.le_refl _) _⟩

end Go.Proofs.Ytjgjbhbpndjnnaa
