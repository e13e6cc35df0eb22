/-
  Plain facts on what Join gives.
  Walks: acc.Join.
  Walks: acc.Join, all well.
  Items in rows, light: an item's cells; rows of items as they lie in memory; a row of items that the call itself appends to. (Out of XItL, XItemsR, XItemsO, XSame.)
  Slices of aggregates written out: []T{a}, []T{a, b}, []T{a, b, c, d}.
  Variables that hold aggregates; rows of two.
  Small words that the laws' walks share.
-/
import Derived.Test.YtbpaepkcchpmbaaGreatG5
import Derived.Test.YtbpaepkcchpmbaaGreatProg
import Derived.Test.YtbpaepkcchpmbaaGreatG1
import Derived.Test.YtbpaepkcchpmbaaGreatG0
import Derived.Deep.MidRow
import Derived.Lib.LazyBuf
import Derived.Maps.AppendAt
namespace Go.Proofs.YtbpaepkcchpmbaaGreat
open Go.RowKit

theorem togB_fit {m s : Int} {xs : List Ac} (h : togB m s xs = true) {i : Nat} (hi : i < xs.length) : fitB (nthA xs i) m = true := by
  induction xs generalizing s i with
  | nil => simp at hi
  | cons a r ih =>
    simp only [togB, Bool.and_eq_true] at h
    cases i with
    | zero => exact h.1
    | succ i =>
      have e : nthA (a :: r) (i + 1) = nthA r i := by simp [nthA]
      rw [e]
      have h2 := h.2
      split at h2
      · exact ih h2 (by simpa using hi)
      · split at h2
        · cases h2
        · exact ih h2 (by simpa using hi)

theorem isum_nonneg {h : List Int} (hh : ∀ i, i < h.length → 0 ≤ nth h i) : 0 ≤ isum h := by
  induction h with
  | nil => simp [isum]
  | cons b r ih =>
    have h0 := hh 0 (by simp)
    rw [nth_cons_zero] at h0
    have h1 := ih (fun i hi => by have := hh (i + 1) (by simpa using hi); rwa [nth_cons_succ] at this)
    simp only [isum]; omega
theorem nth_le_isum {h : List Int} (hh : ∀ i, i < h.length → 0 ≤ nth h i) {i : Nat} (hi : i < h.length) : nth h i ≤ isum h := by
  induction h generalizing i with
  | nil => simp at hi
  | cons b r ih =>
    have h0 := hh 0 (by simp)
    rw [nth_cons_zero] at h0
    have hr : ∀ i, i < r.length → 0 ≤ nth r i := fun i hi => by have := hh (i + 1) (by simpa using hi); rwa [nth_cons_succ] at this
    cases i with
    | zero => have := isum_nonneg hr; simp only [isum, nth_cons_zero]; omega
    | succ i =>
      have := ih hr (i := i) (by simpa using hi)
      simp only [isum, nth_cons_succ]; omega
theorem isum_append (p q : List Int) : isum (p ++ q) = isum p + isum q := by
  induction p with
  | nil => simp [isum]
  | cons b r ih => simp only [List.cons_append, isum, ih]; omega
theorem isum_take_le {h : List Int} (hh : ∀ i, i < h.length → 0 ≤ nth h i) (j : Nat) : isum (h.take j) ≤ isum h := by
  have e := isum_append (h.take j) (h.drop j)
  rw [List.take_append_drop] at e
  have := isum_nonneg (h := h.drop j) (fun i hi => by
    have e2 : nth (h.drop j) i = nth h (j + i) := by simp [nth]
    rw [e2]; exact hh _ (by simp at hi; omega))
  omega

/-- What a fitting aggregate that is not empty is known for. -/
structure Fit (m : Nat) (a : Ac) : Prop where
  n0 : 0 ≤ a.n
  n1 : a.n ≤ 8192
  s0 : -1099511627776 * a.n ≤ a.s
  s1 : a.s ≤ 1099511627776 * a.n
  len : a.h.length = m
  low : ∀ i, i < m → 0 ≤ nth a.h i
  top : ∀ i, i < m → nth a.h i ≤ a.n
theorem fit_of {m : Nat} {a : Ac} (h : fitB a m = true) : Fit m a := by
  simp only [fitB, Bool.and_eq_true] at h
  obtain ⟨h1, h2, h3⟩ := h
  have hn := wi_true h1
  have hh := of_decide_eq_true h2
  have hl : a.h.length = m := by have := hh.1; omega
  have low : ∀ i, i < a.h.length → 0 ≤ nth a.h i := fun i hi => (hh.2.1 i hi).1
  have hs : -1099511627776 * a.n ≤ a.s ∧ a.s ≤ 1099511627776 * a.n := by
    split at h3
    · rename_i hz
      have hz2 := of_decide_eq_true h3
      rw [hz, hz2.1]; omega
    · simp only [Bool.and_eq_true] at h3
      obtain ⟨g1, g2, g3, -, -, -, -, g8, g9⟩ := of_decide_eq_true h3.2
      have e1 : a.n * (-1099511627776) ≤ a.n * a.mn := Int.mul_le_mul_of_nonneg_left g1 hn.1
      have e2 : a.n * a.mx ≤ a.n * 1099511627776 := Int.mul_le_mul_of_nonneg_left g3 hn.1
      omega
  exact ⟨hn.1, hn.2, hs.1, hs.2, hl, fun i hi => low i (by omega), fun i hi => by have := nth_le_isum low (i := i) (by omega); rw [hh.2.2] at this; exact this⟩
theorem fit_add {m : Nat} {o a : Ac} (ho : Fit m o) (ha : Fit m a) (hs : o.n + a.n ≤ 8192) : Fit m (addAc o a) := by
  obtain ⟨o1, o2, o3, o4, o5, o6, o7⟩ := ho
  obtain ⟨a1, a2, a3, a4, a5, a6, a7⟩ := ha
  refine ⟨?_, ?_, ?_, ?_, ?_, ?_, ?_⟩
  · simp only [addAc]; omega
  · simp only [addAc]; omega
  · simp only [addAc]; omega
  · simp only [addAc]; omega
  · simp [addAc, o5]
  · intro i hi
    simp only [addAc]
    rw [nth_range_map _ _ (by omega)]
    have := o6 i hi; have := a6 i hi; omega
  · intro i hi
    simp only [addAc]
    rw [nth_range_map _ _ (by omega)]
    have := o7 i hi; have := a7 i hi; omega
theorem fit_start (m : Nat) : Fit m ⟨0, 0, 0, 0, zeroIt, zeroIt, List.replicate m 0⟩ := by
  have e : ∀ i, i < m → nth (List.replicate m 0) i = 0 := fun i hi => by simp [nth, hi]
  refine ⟨by simp, by simp, by simp, by simp, by simp, fun i hi => ?_, fun i hi => ?_⟩
  · simp only; rw [e i hi]; omega
  · simp only; rw [e i hi]; omega
/-- The first j joined. -/
def joinTo (m : Nat) (xs : List Ac) (j : Nat) : Ac := (xs.take j).foldl joinStep ⟨0, 0, 0, 0, zeroIt, zeroIt, List.replicate m 0⟩
theorem joinTo_succ {m : Nat} {xs : List Ac} {j : Nat} (h : j < xs.length) : joinTo m xs (j + 1) = joinStep (joinTo m xs j) (nthA xs j) := by
  unfold joinTo
  rw [List.take_succ_eq_append_getElem h, List.foldl_append]
  simp [nthA, h]
theorem joinTo_all {bs : List Int} {xs : List Ac} {j : Nat} (h : xs.length ≤ j) : joinTo (bs.length + 1) xs j = joinAc bs xs := by
  unfold joinTo joinAc
  rw [List.take_of_length_le h]
theorem joinTo_n {m : Nat} {xs : List Ac} {j : Nat} (h : j ≤ xs.length) : (joinTo m xs j).n = isum ((xs.take j).map (·.n)) := by
  induction j with
  | zero => simp [joinTo, isum]
  | succ j ih =>
    rw [joinTo_succ (by omega), isum_map_take (by omega), ← ih (by omega)]
    unfold joinStep
    split
    · rename_i hz; rw [hz]; omega
    · simp [addAc]
theorem joinTo_fit {m : Nat} {xs : List Ac} (ha : ∀ i, i < xs.length → Fit m (nthA xs i)) (ht : totalA xs ≤ 8192) {j : Nat} (h : j ≤ xs.length) : Fit m (joinTo m xs j) := by
  induction j with
  | zero => exact fit_start m
  | succ j ih =>
    have hj := ih (by omega)
    have e := joinTo_n (m := m) (xs := xs) (j := j + 1) h
    have e0 := joinTo_n (m := m) (xs := xs) (j := j) (by omega)
    have es := isum_map_take (xs := xs) (j := j) (by omega)
    have hle : isum ((xs.take (j + 1)).map (·.n)) ≤ totalA xs := by
      rw [List.map_take]
      exact isum_take_le (fun i hi => by
        have := (ha i (by simpa using hi)).n0
        simpa [nth, nthA, show i < xs.length by simpa using hi] using this) _
    rw [joinTo_succ (by omega)] at e ⊢
    unfold joinStep at e ⊢
    split
    · exact hj
    · exact fit_add hj (ha j (by omega)) (by omega)
theorem addAc_hlen (o a : Ac) : (addAc o a).h.length = o.h.length := by simp [addAc]

end Go.Proofs.YtbpaepkcchpmbaaGreat

namespace Go.Proofs.YtbpaepkcchpmbaaGreat
open Go.RowKit

set_option maxRecDepth 100000 in
set_option maxHeartbeats 1000000 in
theorem add_none (a : Ac) (g : Nat) (A : Option Addr) (k c : Nat) (w : World) (hn : (a.n == 0) = true) :
    Calls Tryz.prog 236 #[.pointer (some ⟨g, 0, none⟩), accV a A k c] w fun e w' => e = .returned (.tuple #[]) ∧ Below w.heap.size w w' := by
  unfold accV
  go_enter Tryz.func236, Tryz.ntmps236
  go_wp2
  refine bodyPost_ret (results_none rfl _ _ _) rfl ?_
  exact ⟨rfl, (Below.refl _ _).alloc (Nat.le_refl _) _⟩

set_option maxRecDepth 100000 in
set_option maxHeartbeats 1000000 in
theorem join_form (B : Option Addr) (m d : Nat) (bs : List Int) (A : Option Addr) (n c : Nat) (xs : List Ac) (w : World) (hbs : Ints w B m bs) (hm : m ≤ maxLen) (hr : Accs w A n xs) (hn : n ≤ 17592186044416) (hno : (boundsB bs && togB (bs.length + 1) (-1) xs) = false) :
    Calls Tryz.prog 219 #[.slice B m d, .slice A n c] w (BadAcc 100 w) := by
  have HN := Lib.hid hno; clear hno
  have HL := Lib.hid hbs.1
  have HBS := Lib.hid hbs; clear hbs
  have HR := Lib.hid hr; clear hr
  have hbox : ∀ o, Below w.heap.size w (w.alloc o) := fun o => (Below.refl _ _).alloc (Nat.le_refl _) o
  have HBOX := Lib.hid hbox; clear hbox
  go_enter Tryz.func219, Tryz.ntmps219
  go_wp2_with fail
  refine (bounds_any B m d bs _ (HBS.out.below (HBOX.out _)) hm).mono ?_
  rintro e w1 ⟨rfl, k, hk⟩
  have hb1 : Below w.heap.size w w1 := hk ▸ below_drewN (HBOX.out _) k
  have H4 : Has w1 w.heap.size 144 _ := hk ▸ (Has.made w _ _).drewN k
  clear hk
  cases h1 : boundsB bs
  · go_wp2_with (refine store_has rfl _ _ rfl w.heap.size (ac := zeroAc) (A := none) (k := 0) (c := 0) rfl rfl H4 rfl ?_)
    refine bodyPost_ret (ret_row rfl _ _ _ 144 (accC zeroAc none 0 0) _ rfl (H4.row _) Tryz.underlying144 rfl (by exact Tryz.sizeAcc)) rfl ?_
    exact ⟨rfl, below_row hb1 (Nat.le_refl _) _⟩
  · have h8 : m ≤ 8 := by have := (boundsB_true h1).1; rw [HL.out] at this; exact this
    have hm1 : 0 ≤ (m : Int) + 1 ∧ (m : Int) + 1 ≤ 9 := by omega
    go_wp2_with fail
    refine (together_any A n c xs ((m : Int) + 1) _ (HR.out.below hb1) hm1 hn).mono ?_
    rintro e w2 ⟨rfl, hb2⟩
    have hB2 : Below w.heap.size w w2 := hb1.trans (hb2.mono hb1.size)
    have H42 : Has w2 w.heap.size 144 _ := H4.below hb2 H4.lt
    have h2 : togB ((m : Int) + 1) (-1) xs = false := by have := HN.out; rw [h1, HL.out] at this; simpa using this
    rw [h2]
    clear H4
    go_wp2_with (refine store_has rfl _ _ rfl w.heap.size (ac := zeroAc) (A := none) (k := 0) (c := 0) rfl rfl H42 rfl ?_)
    refine bodyPost_ret (ret_row rfl _ _ _ 144 (accC zeroAc none 0 0) _ rfl (H42.row _) Tryz.underlying144 rfl (by exact Tryz.sizeAcc)) rfl ?_
    exact ⟨rfl, below_row hB2 (Nat.le_refl _) _⟩

set_option maxRecDepth 100000 in
set_option maxHeartbeats 1000000 in
theorem join_total (B : Option Addr) (m d : Nat) (bs : List Int) (A : Option Addr) (n c : Nat) (xs : List Ac) (w : World) (hbs : Ints w B m bs) (hr : Accs w A n xs) (hn : n ≤ 17592186044416) (h1 : boundsB bs = true) (h2 : togB (bs.length + 1) (-1) xs = true) (h3 : 8192 < totalA xs) :
    Calls Tryz.prog 219 #[.slice B m d, .slice A n c] w (BadAcc 101 w) := by
  have HL := Lib.hid hbs.1
  have h8 : m ≤ 8 := by have := (boundsB_true h1).1; rw [HL.out] at this; exact this
  have hm1 : 0 ≤ (m : Int) + 1 ∧ (m : Int) + 1 ≤ 9 := by omega
  have HF : Hid (∀ i, i < n → 0 ≤ (nthA xs i).n ∧ (nthA xs i).n ≤ 8192) := fun i hi => by
    have := fit_of (m := bs.length + 1) (togB_fit h2 (i := i) (by rw [hr.1]; exact hi)); exact ⟨this.n0, this.n1⟩
  have H1 := Lib.hid h1; clear h1
  have H2 := Lib.hid h2; clear h2
  have HBS := Lib.hid hbs; clear hbs
  have HR := Lib.hid hr; clear hr
  have hbox : ∀ o, Below w.heap.size w (w.alloc o) := fun o => (Below.refl _ _).alloc (Nat.le_refl _) o
  have HBOX := Lib.hid hbox; clear hbox
  go_enter Tryz.func219, Tryz.ntmps219
  go_wp2_with fail
  refine (bounds_any B m d bs _ (HBS.out.below (HBOX.out _)) (by unfold maxLen; omega)).mono ?_
  rintro e w1 ⟨rfl, k, hk⟩
  have hb1 : Below w.heap.size w w1 := hk ▸ below_drewN (HBOX.out _) k
  have H4 : Has w1 w.heap.size 144 _ := hk ▸ (Has.made w _ _).drewN k
  clear hk
  rw [H1.out]
  go_wp2_with fail
  refine (together_any A n c xs ((m : Int) + 1) _ (HR.out.below hb1) hm1 hn).mono ?_
  rintro e w2 ⟨rfl, hb2⟩
  have hB2 : Below w.heap.size w w2 := hb1.trans (hb2.mono hb1.size)
  have H42 : Has w2 w.heap.size 144 _ := H4.below hb2 H4.lt
  clear H4
  rw [show togB ((m : Int) + 1) (-1) xs = true from by have := H2.out; rw [HL.out] at this; exact this]
  go_wp2_with fail
  refine (total_any A n c xs _ (HR.out.below hB2) hn HF.out).mono ?_
  rintro e w3 ⟨rfl, hb3⟩
  have hB3 : Below w.heap.size w w3 := hB2.trans (hb3.mono hB2.size)
  have H43 : Has w3 w.heap.size 144 _ := H42.below hb3 H42.lt
  clear H42
  go_wp2_with (refine store_has rfl _ _ rfl w.heap.size (ac := zeroAc) (A := none) (k := 0) (c := 0) rfl rfl H43 rfl ?_)
  refine bodyPost_ret (ret_row rfl _ _ _ 144 (accC zeroAc none 0 0) _ rfl (H43.row _) Tryz.underlying144 rfl (by exact Tryz.sizeAcc)) rfl ?_
  exact ⟨rfl, below_row hB3 (Nat.le_refl _) _⟩

end Go.Proofs.YtbpaepkcchpmbaaGreat

namespace Go.Proofs.YtbpaepkcchpmbaaGreat
open Go.RowKit

def startJ (bs : List Int) : Ac := ⟨0, 0, 0, 0, zeroIt, zeroIt, List.replicate (bs.length + 1) 0⟩
/-- What stands at the head of each round of Join's loop: g the result's cell, y the buckets' block, y + 1 the sum's. -/
structure Joining (w : World) (g y : Nat) (o : Ac) (m : Nat) (wr : World) : Prop where
  res : Has wr g 144 (accC zeroAc none 0 0)
  out : Has wr (y + 1) 144 (accC o (some ⟨y, 0, none⟩) m m)
  hist : Has wr y 3 (ints o.h)
  keep : Below w.heap.size w wr

set_option maxRecDepth 100000 in
set_option maxHeartbeats 2000000 in
theorem join_ok (B : Option Addr) (m d : Nat) (bs : List Int) (A : Option Addr) (n c : Nat) (xs : List Ac) (w : World) (hbs : Ints w B m bs) (hr : Accs w A n xs) (hn : n ≤ 17592186044416) (h1 : boundsB bs = true) (h2 : togB (bs.length + 1) (-1) xs = true) (h3 : totalA xs ≤ 8192) :
    Calls Tryz.prog 219 #[.slice B m d, .slice A n c] w (GoodAcc (joinAc bs xs) w) := by
  have HL := Lib.hid hbs.1
  have HN := Lib.hid hr.1
  have h8 : m ≤ 8 := by have := (boundsB_true h1).1; rw [HL.out] at this; exact this
  have hm1 : 0 ≤ (m : Int) + 1 ∧ (m : Int) + 1 ≤ 9 := by omega
  have HFT : Hid (∀ i, i < n → Fit (m + 1) (nthA xs i)) := fun i hi => by
    have := fit_of (m := bs.length + 1) (togB_fit h2 (i := i) (by rw [hr.1]; exact hi)); rw [HL.out] at this; exact this
  have HF : Hid (∀ i, i < n → 0 ≤ (nthA xs i).n ∧ (nthA xs i).n ≤ 8192) := fun i hi => ⟨(HFT.out i hi).n0, (HFT.out i hi).n1⟩
  have HJF : Hid (∀ j, j ≤ n → Fit (m + 1) (joinTo (m + 1) xs j)) := fun j hj => joinTo_fit (fun i hi => HFT.out i (by rw [HN.out] at hi; exact hi)) h3 (by rw [HN.out]; exact hj)
  have H1 := Lib.hid h1; clear h1
  have H2 := Lib.hid h2; clear h2
  have H3 := Lib.hid h3
  have HBS := Lib.hid hbs; clear hbs
  have HR := Lib.hid hr; clear hr
  have hbox : ∀ o, Below w.heap.size w (w.alloc o) := fun o => (Below.refl _ _).alloc (Nat.le_refl _) o
  have HBOX := Lib.hid hbox; clear hbox
  obtain ⟨i0, hi0, hz0, hs0, hy0⟩ := info_parts Tryz.infoInt
  have hmk := fun W => make_ints (P := Tryz.prog) 57 3 i0 Tryz.underlying57 hi0 hz0 hs0 hy0 m (by omega) W
  clear hi0 hz0 hs0 hy0
  go_enter Tryz.func219, Tryz.ntmps219
  go_wp2_with fail
  refine (bounds_any B m d bs _ (HBS.out.below (HBOX.out _)) (by unfold maxLen; omega)).mono ?_
  rintro e w1 ⟨rfl, k, hk⟩
  have hb1 : Below w.heap.size w w1 := hk ▸ below_drewN (HBOX.out _) k
  have H4 : Has w1 w.heap.size 144 _ := hk ▸ (Has.made w _ _).drewN k
  clear hk
  rw [H1.out]
  go_wp2_with fail
  refine (together_any A n c xs ((m : Int) + 1) _ (HR.out.below hb1) hm1 hn).mono ?_
  rintro e w2 ⟨rfl, hb2⟩
  have hB2 : Below w.heap.size w w2 := hb1.trans (hb2.mono hb1.size)
  have H42 : Has w2 w.heap.size 144 _ := H4.below hb2 H4.lt
  clear H4
  rw [show togB ((m : Int) + 1) (-1) xs = true from by have := H2.out; rw [HL.out] at this; exact this]
  go_wp2_with fail
  refine (total_any A n c xs _ (HR.out.below hB2) hn HF.out).mono ?_
  rintro e w3 ⟨rfl, hb3⟩
  have hB3 : Below w.heap.size w w3 := hB2.trans (hb3.mono hB2.size)
  have H43 := Lib.hid (H42.below hb3 H42.lt)
  clear H42 hb2 hb3 hb1
  go_wp2_with (refine store_made rfl _ _ rfl (ac := startJ bs) (A := some ⟨w3.heap.size, 0, none⟩) (k := m + 1) (c := m + 1) rfl rfl rfl ?_)
  clear hmk
  have HJ : Joining w w.heap.size w3.heap.size (joinTo (m + 1) xs 0) (m + 1) ((w3.alloc (.cells (zeros (m + 1)) 3)).alloc (.cells (accC (startJ bs) (some ⟨w3.heap.size, 0, none⟩) (m + 1) (m + 1)) 144)) :=
    ⟨(Has.alloc (Has.alloc H43.out _) _), heap_alloc2_new _ _ _, by have h := heap_alloc2_old w3 (.cells (zeros (m + 1)) 3) (.cells (accC (startJ bs) (some ⟨w3.heap.size, 0, none⟩) (m + 1) (m + 1)) 144); rw [zeros_ints] at h ⊢; exact h, below_alloc (below_alloc hB3 (Nat.le_refl _) _) (Nat.le_refl _) _⟩
  have HJ0 := Lib.hid HJ; clear HJ
  go_loopw [32] (fun i wr => ∃ j : Nat, j ≤ n ∧ i = .int .i64 j ∧ Hid (Joining w w.heap.size w3.heap.size (joinTo (m + 1) xs j) (m + 1) wr)) (fun i _ => n - (intOf i).toNat)
  case atStart => exact ⟨0, Nat.zero_le _, rfl, HJ0⟩
  case round =>
    obtain ⟨j, hj, rfl, HJ⟩ := hrel
    by_cases hlt : j < n
    · obtain ⟨b, o, rfl, hi⟩ := HR.out.at_ (by omega)
      obtain ⟨C, kk, cc, hx⟩ := hi j hlt
      have HX0 := Lib.hid hx; clear hx hi
      have HX : Hid _ := HX0.out.keep fun _ hp => HJ.out.keep.cell hp
      have hfa := HFT.out j hlt
      have hfo := HJF.out j hj
      have hfn := HJF.out (j + 1) hlt
      have hsucc := joinTo_succ (m := m + 1) (xs := xs) (j := j) (by rw [HN.out]; exact hlt)
      obtain rfl : kk = m + 1 := by have := HX.out.2.1.1; rw [hfa.len] at this; omega
      have HS := Lib.hid hsucc; clear hsucc
      have HFA := Lib.hid hfa; clear hfa
      have HFO := Lib.hid hfo; clear hfo
      have HFN := Lib.hid hfn; clear hfn
      go_wp2_with (first | (refine load_acc rfl _ rfl b (o + j * 13) rfl HX.out ?_) | (refine store_made rfl _ _ rfl rfl rfl rfl ?_) | (refine load_has rfl _ rfl wr.heap.size rfl (Has.made _ _ _) ?_))
      generalize nthA xs j = a at HX0 HX HS HFA ⊢
      generalize joinTo (m + 1) xs j = q at HJ HS HFO
      have hblk : ∀ ad, C = some ad → ad.block < w.heap.size + 1 := by
        intro ad e
        obtain ⟨b', o', e', hc⟩ := HX0.out.2.1.at_ (k := 0) (by omega)
        rw [e'] at e
        obtain rfl := Option.some.inj e
        have := block_lt_of_cell (hc 0 (by omega))
        show b' < _
        simp only at this
        omega
      by_cases hz : a.n = 0
      · refine (add_none a _ C _ _ _ (by simp [hz])).mono ?_
        rintro e w5 ⟨rfl, hb5⟩
        have HJ5 : Hid (Joining w w.heap.size w3.heap.size (joinTo (m + 1) xs (j + 1)) (m + 1) w5) := by
          rw [Hid, HS.out]
          simp only [joinStep, hz, if_true]
          have hJ := HJ.out
          exact ⟨(hJ.res.alloc _).below hb5 (hJ.res.alloc _).lt, (hJ.out.alloc _).below hb5 (hJ.out.alloc _).lt, (hJ.hist.alloc _).below hb5 (hJ.hist.alloc _).lt, (hJ.keep.alloc hJ.keep.size _).trans (hb5.mono (by have := hJ.keep.size; simp; omega))⟩
        clear hb5 hz
        go_wp2
        go_roundw
        case rel => exact ⟨j + 1, by omega, by go_num, HJ5⟩
        case measure => simp [intOf]; omega
      · have HZ := Lib.hid hz
        have hJ := HJ.out
        refine (add_any q a (w.heap.size + 1) (w3.heap.size + 1) w3.heap.size C (m + 1) cc _ (by omega) (hJ.out.alloc _) (hJ.hist.alloc _) ((HX.out.2.1).below ((Below.refl _ _).alloc (Nat.le_refl _) _)) HFO.out.len (by have := hB3.size; have := H43.out.lt; omega) (by have := H43.out.lt; omega) hblk (by simp [hz]) HFO.out.n0 HFO.out.n1 HFA.out.n0 HFA.out.n1
          (by have := HFO.out.s0; have := HFO.out.n1; omega) (by have := HFO.out.s1; have := HFO.out.n1; omega) (by have := HFA.out.s0; have := HFA.out.n1; omega) (by have := HFA.out.s1; have := HFA.out.n1; omega)
          (fun i hi => ⟨HFO.out.low i hi, by have := HFO.out.top i hi; have := HFO.out.n1; omega, HFA.out.low i hi, by have := HFA.out.top i hi; have := HFA.out.n1; omega⟩) (by omega)).mono ?_
        rintro e w5 ⟨rfl, hT⟩
        have HJ5 : Hid (Joining w w.heap.size w3.heap.size (joinTo (m + 1) xs (j + 1)) (m + 1) w5) := by
          rw [Hid, HS.out]
          simp only [joinStep, hz, if_false]
          exact ⟨(hJ.res.alloc _).below hT.keep (by omega), hT.hasO, hT.hasH, (hJ.keep.alloc hJ.keep.size _).trans (hT.keep.mono (by omega))⟩
        clear hT hz hJ
        go_wp2
        go_roundw
        case rel => exact ⟨j + 1, by omega, by go_num, HJ5⟩
        case measure => simp [intOf]; omega
    · have hjn : j = n := by omega
      subst hjn
      have HE : Hid (joinTo (m + 1) xs j = joinAc bs xs) := by have := joinTo_all (bs := bs) (xs := xs) (j := j) (by rw [HN.out]; omega); rw [HL.out] at this; exact this
      have hfo := HJF.out j hj
      rw [HE.out] at HJ hfo
      have HLEN := Lib.hid hfo.len; clear hfo
      go_wp2_with (first | (refine load_has rfl _ rfl (w3.heap.size + 1) rfl HJ.out.out ?_) | (refine store_has rfl _ _ rfl w.heap.size rfl rfl HJ.out.res rfl ?_))
      refine bodyPost_ret (ret_row rfl _ _ _ 144 (accC (joinAc bs xs) (some ⟨w3.heap.size, 0, none⟩) (m + 1) (m + 1)) _ rfl (HJ.out.res.row _) Tryz.underlying144 rfl (by exact Tryz.sizeAcc)) rfl ?_
      refine ⟨w3.heap.size, hB3.size, by rw [HLEN.out]; rfl, HJ.out.hist.rowFar (by have := H43.out.lt; omega) _, below_row HJ.out.keep (Nat.le_refl _) _⟩

end Go.Proofs.YtbpaepkcchpmbaaGreat

namespace Go.Proofs.YtbpaepkcchpmbaaGreat
open Go.RowKit

set_option maxRecDepth 100000 in
theorem Tryz.sizeItem : (Tryz.prog.info? 61).map (·.size) = some 4 := by kernel_rfl
def itemL (x : It) : List Value := [.int .i64 x.s, .int .i64 x.t, .int .i64 x.q, .int .i64 x.v]
set_option maxRecDepth 100000 in
theorem range_item {w : World} {g : Nat} {x : It} (h : Has w g 61 #[.int .i64 x.s, .int .i64 x.t, .int .i64 x.q, .int .i64 x.v]) : w.rangeAt g 0 (itemL x) := fun j v hj => by
  rw [h.cell]
  match j, hj with
  | 0, hj => exact hj
  | 1, hj => exact hj
  | 2, hj => exact hj
  | 3, hj => exact hj
  | j + 4, hj => simp [itemL] at hj

/-- The slice value '.slice A n _' reads as the items xs. -/
def Items (w : World) (A : Option Addr) (n : Nat) (xs : List It) : Prop :=
  xs.length = n ∧ (0 < n → ∃ b o : Nat, A = some ⟨b, o, none⟩ ∧ ∀ i, i < n → w.rangeAt b (o + i * 4) (itemL (nthI xs i)))
set_option maxRecDepth 100000 in
theorem rangeAt_keep {w w' : World} {b o : Nat} {l : List Value} (h : w.rangeAt b o l) (hl : 0 < l.length) (hk : ∀ p : Addr, p.block < w.heap.size → w'.cell? p = w.cell? p) : w'.rangeAt b o l := fun j v hv => by
  have h0 := h 0 (l[0]) (by simp)
  have hb : b < w.heap.size := block_lt_of_cell h0
  exact (hk ⟨b, o + j, none⟩ hb).trans (h j v hv)
set_option maxRecDepth 100000 in
theorem Items.keep {w w' : World} {A : Option Addr} {n : Nat} {xs : List It} (h : Items w A n xs) (hk : ∀ p : Addr, p.block < w.heap.size → w'.cell? p = w.cell? p) : Items w' A n xs :=
  ⟨h.1, fun hn => by
    obtain ⟨b, o, e, hi⟩ := h.2 hn
    exact ⟨b, o, e, fun i hlt => rangeAt_keep (hi i hlt) (by simp [itemL]) hk⟩⟩
set_option maxRecDepth 100000 in
theorem Items.below {w w' : World} {A : Option Addr} {n : Nat} {xs : List It} (h : Items w A n xs) (hb : Below w.heap.size w w') : Items w' A n xs := h.keep fun _ hp => hb.cell hp
set_option maxRecDepth 100000 in
theorem Items.at_ {w : World} {A : Option Addr} {n : Nat} {xs : List It} (h : Items w A n xs) (hn : 0 < n) : ∃ b o : Nat, A = some ⟨b, o, none⟩ ∧ ∀ i, i < n → w.rangeAt b (o + i * 4) (itemL (nthI xs i)) := h.2 hn
set_option maxRecDepth 100000 in
theorem Items.nil (w : World) (A : Option Addr) : Items w A 0 [] := ⟨rfl, fun h => absurd h (by omega)⟩
set_option maxRecDepth 100000 in
/-- The load of a whole item out of a row. -/
theorem load_item {ops : Array Oper} {rest : List Oper} {op : Oper} {a : Act} {w : World} {Q : Exit → Act → World → Prop} (hgd : op.guard = none) (x : Operand) (ho : op.op = .load 61 x)
    (b o : Nat) (hx : a.eval x = .pointer (some ⟨b, o, none⟩)) {y : It} (hc : w.rangeAt b o (itemL y))
    (h : wpList Tryz.prog ops Q rest (a.put op.dst (.agg #[.int .i64 y.s, .int .i64 y.t, .int .i64 y.q, .int .i64 y.v])) w) : wpList Tryz.prog ops Q (op :: rest) a w :=
  wpList_load_mid hgd 61 x ho b o hx _ _ hc Tryz.underlying61 rfl Tryz.sizeItem (by simpa [itemL] using h)

set_option maxRecDepth 100000 in
theorem Tryz.infoItem : (Tryz.prog.info? 61).map (fun i => (i.zero, i.size, i.bytes)) = some (some (.agg #[.int .i64 0, .int .i64 0, .int .i64 0, .int .i64 0]), 4, 32) := by kernel_rfl
set_option maxRecDepth 100000 in
theorem flat_len (xs : List It) : (xs.flatMap itemL).length = xs.length * 4 := by
  induction xs with
  | nil => rfl
  | cons y r ih => rw [List.flatMap_cons, List.length_append, ih, List.length_cons]; simp [itemL]; omega
set_option maxRecDepth 100000 in
theorem flat_at (ys : List It) : ∀ i, i < ys.length → ∀ j v, (itemL (nthI ys i))[j]? = some v → (ys.flatMap itemL)[i * 4 + j]? = some v := by
  induction ys with
  | nil => intro i hi; simp at hi
  | cons y r ih =>
    intro i hi j v hv
    have hl : (itemL y).length = 4 := rfl
    rw [List.flatMap_cons]
    cases i with
    | zero =>
      have hy : nthI (y :: r) 0 = y := rfl
      rw [hy] at hv
      have hj : j < 4 := by have := (List.getElem?_eq_some_iff.1 hv).1; rwa [hl] at this
      rw [List.getElem?_append_left (by rw [hl]; omega)]
      simpa using hv
    | succ i =>
      have hy : nthI (y :: r) (i + 1) = nthI r i := by simp [nthI]
      rw [hy] at hv
      rw [List.getElem?_append_right (by rw [hl]; omega), hl, show (i + 1) * 4 + j - 4 = i * 4 + j by omega]
      exact ih i (by simpa using hi) j v hv
/-- v is a row of items that the call owns, from block base on. -/
def OwnIt (w : World) (base : Nat) (v : Value) (xs : List It) : Prop := w.ownsRow base 61 4 v xs.length (xs.flatMap itemL)
set_option maxRecDepth 100000 in
theorem OwnIt.nil (w : World) (base : Nat) : OwnIt w base (.slice none 0 0) [] := World.ownsRow_nil _ _ _ _
set_option maxRecDepth 100000 in
theorem OwnIt.form {w : World} {base : Nat} {v : Value} {xs : List It} (h : OwnIt w base v xs) : ∃ A c, v = .slice A xs.length c ∧ (∀ ad, A = some ad → base ≤ ad.block) := by
  rcases h.2 with ⟨e, h0⟩ | ⟨g, cap, cur, e, hg, _, hc1, hc2, _⟩
  · exact ⟨none, 0, by rw [e, h0], fun ad h => by cases h⟩
  · exact ⟨some ⟨g, 0, none⟩, cap, e, fun ad h => by injection h with h; subst h; exact hg⟩
set_option maxRecDepth 100000 in
theorem OwnIt.items {w : World} {base : Nat} {A : Option Addr} {n c : Nat} {xs : List It} (h : OwnIt w base (.slice A n c) xs) : Items w A n xs := by
  rcases h.2 with ⟨e, h0⟩ | ⟨g, cap, cur, e, hg, hh, hn, hc, hs, ht⟩
  · injection e with e1 e2 e3
    subst e2
    exact ⟨h0, fun h => absurd h (by omega)⟩
  · injection e with e1 e2 e3
    subst e1; subst e2; subst e3
    refine ⟨rfl, fun hpos => ⟨g, 0, rfl, fun i hi j v hv => ?_⟩⟩
    have hl : (itemL (nthI xs i)).length = 4 := rfl
    have hj : j < 4 := by have := (List.getElem?_eq_some_iff.1 hv).1; rwa [hl] at this
    rw [show 0 + i * 4 + j = i * 4 + j by omega, World.ownsRow.cellAt h _ (by omega)]
    exact flat_at xs i hi j v hv
set_option maxRecDepth 100000 in
theorem OwnIt.below {w w' : World} {base : Nat} {v : Value} {xs : List It} (h : OwnIt w base v xs) (hb : Below w.heap.size w w') : OwnIt w' base v xs :=
  World.ownsRow.kept h (row := none) ⟨hb.os, hb.tape, hb.output, hb.size, fun k hk _ => hb.block k hk⟩ (by
    cases e : v.ownBlock with
    | none => exact .inl rfl
    | some k => exact .inr (by simp))

end Go.Proofs.YtbpaepkcchpmbaaGreat

namespace Go.Proofs.YtbpaepkcchpmbaaGreat
open Go.RowKit

theorem lit2_run (a b : Ac) (A B : Option Addr) (k c l d : Nat) (w : World) :
    (Instr.buildSlice 272 2 #[(0, .agg (accC a A k c)), (1, .agg (accC b B l d))]).run Tryz.prog w = .ok (.slice (some ⟨w.heap.size, 0, none⟩) 2 2) (w.alloc (.cells (accC a A k c ++ accC b B l d) 144)) := by kernel_rfl

/-- '[]T{a, b}' in a walk. -/
theorem lit2 {ops : Array Oper} {rest : List Oper} {op : Oper} {p : Act} {w : World} {Q : Exit → Act → World → Prop} (hgd : op.guard = none) (x y : Operand) (ho : op.op = .buildSlice 272 2 #[(0, x), (1, y)])
    {a b : Ac} {A B : Option Addr} {k c l d : Nat} (hx : p.eval x = .agg (accC a A k c)) (hy : p.eval y = .agg (accC b B l d))
    (h : ∀ w', Below w.heap.size w w' → Has w' w.heap.size 144 (accC a A k c ++ accC b B l d) → wpList Tryz.prog ops Q rest (p.put op.dst (.slice (some ⟨w.heap.size, 0, none⟩) 2 2)) w') : wpList Tryz.prog ops Q (op :: rest) p w :=
  wpList_plain hgd fun _ hK => by
    unfold Oper.wp execOp
    simp only [ho, List.map_toArray, List.map_cons, List.map_nil, hx, hy, Sem.run_bind, lit2_run, Result.andThen_ok]
    exact hK _ _ (h _ ((Below.refl _ _).alloc (Nat.le_refl _) _) (Has.made _ _ _))

theorem lit1_run (a : Ac) (A : Option Addr) (k c : Nat) (w : World) :
    (Instr.buildSlice 272 1 #[(0, .agg (accC a A k c))]).run Tryz.prog w = .ok (.slice (some ⟨w.heap.size, 0, none⟩) 1 1) (w.alloc (.cells (accC a A k c) 144)) := by kernel_rfl
/-- '[]T{a}' in a walk. -/
theorem lit1 {ops : Array Oper} {rest : List Oper} {op : Oper} {p : Act} {w : World} {Q : Exit → Act → World → Prop} (hgd : op.guard = none) (x : Operand) (ho : op.op = .buildSlice 272 1 #[(0, x)])
    {a : Ac} {A : Option Addr} {k c : Nat} (hx : p.eval x = .agg (accC a A k c))
    (h : ∀ w', Below w.heap.size w w' → Has w' w.heap.size 144 (accC a A k c) → wpList Tryz.prog ops Q rest (p.put op.dst (.slice (some ⟨w.heap.size, 0, none⟩) 1 1)) w') : wpList Tryz.prog ops Q (op :: rest) p w :=
  wpList_plain hgd fun _ hK => by
    unfold Oper.wp execOp
    simp only [ho, List.map_toArray, List.map_cons, List.map_nil, hx, Sem.run_bind, lit1_run, Result.andThen_ok]
    exact hK _ _ (h _ ((Below.refl _ _).alloc (Nat.le_refl _) _) (Has.made _ _ _))

theorem lit4_run (a : Ac) (A : Option Addr) (k c : Nat) (w : World) :
    (Instr.buildSlice 272 4 #[(0, .agg (accC a A k c)), (1, .agg (accC a A k c)), (2, .agg (accC a A k c)), (3, .agg (accC a A k c))]).run Tryz.prog w = .ok (.slice (some ⟨w.heap.size, 0, none⟩) 4 4) (w.alloc (.cells (accC a A k c ++ accC a A k c ++ accC a A k c ++ accC a A k c) 144)) := by kernel_rfl
/-- '[]T{a, a, a, a}' in a walk. -/
theorem lit4 {ops : Array Oper} {rest : List Oper} {op : Oper} {p : Act} {w : World} {Q : Exit → Act → World → Prop} (hgd : op.guard = none) (x y z u : Operand) (ho : op.op = .buildSlice 272 4 #[(0, x), (1, y), (2, z), (3, u)])
    {a : Ac} {A : Option Addr} {k c : Nat} (hx : p.eval x = .agg (accC a A k c)) (hy : p.eval y = .agg (accC a A k c)) (hz : p.eval z = .agg (accC a A k c)) (hu : p.eval u = .agg (accC a A k c))
    (h : ∀ w', Below w.heap.size w w' → Has w' w.heap.size 144 (accC a A k c ++ accC a A k c ++ accC a A k c ++ accC a A k c) → wpList Tryz.prog ops Q rest (p.put op.dst (.slice (some ⟨w.heap.size, 0, none⟩) 4 4)) w') : wpList Tryz.prog ops Q (op :: rest) p w :=
  wpList_plain hgd fun _ hK => by
    unfold Oper.wp execOp
    simp only [ho, List.map_toArray, List.map_cons, List.map_nil, hx, hy, hz, hu, Sem.run_bind, lit4_run, Result.andThen_ok]
    exact hK _ _ (h _ ((Below.refl _ _).alloc (Nat.le_refl _) _) (Has.made _ _ _))

end Go.Proofs.YtbpaepkcchpmbaaGreat

namespace Go.Proofs.YtbpaepkcchpmbaaGreat
open Go.RowKit

/-- A variable that holds an aggregate: block g the cells, block y the buckets. -/
structure V (w : World) (g y : Nat) (a : Ac) : Prop where
  cells : Has w g 144 (accC a (some ⟨y, 0, none⟩) a.h.length a.h.length)
  hist : Has w y 3 (ints a.h)
theorem V.below {w w' : World} {g y : Nat} {a : Ac} (h : V w g y a) (hb : Below w.heap.size w w') : V w' g y a := ⟨h.cells.below hb h.cells.lt, h.hist.below hb h.hist.lt⟩
theorem V.alloc {w : World} {g y : Nat} {a : Ac} (h : V w g y a) (o : Obj) : V (w.alloc o) g y a := ⟨h.cells.alloc o, h.hist.alloc o⟩
theorem V.new {w : World} {y : Nat} {a : Ac} (h : Has w y 3 (ints a.h)) : V (w.alloc (.cells (accC a (some ⟨y, 0, none⟩) a.h.length a.h.length) 144)) w.heap.size y a := ⟨Has.made _ _ _, h.alloc _⟩
theorem ints_of_has {w : World} {y : Nat} {xs : List Int} {n : Nat} (h : Has w y 3 (ints xs)) (hn : xs.length = n) : Ints w (some ⟨y, 0, none⟩) n xs :=
  ⟨hn, fun _ => ⟨y, 0, rfl, fun k hk => by rw [Nat.zero_add, h.cell, ints_get _ (by omega)]⟩⟩
theorem V.ints {w : World} {g y : Nat} {a : Ac} (h : V w g y a) : Ints w (some ⟨y, 0, none⟩) a.h.length a.h := ints_of_has h.hist rfl
theorem has_below {w w' : World} {g : Nat} {t : TypeId} {cs : Array Value} (h : Has w g t cs) (hb : Below w.heap.size w w') : Has w' g t cs := h.below hb h.lt


theorem nthA_zero (a : Ac) (r : List Ac) : nthA (a :: r) 0 = a := rfl
/-- Two aggregates in a new row. -/
theorem accs_two {w : World} {g : Nat} {a b : Ac} {A B : Option Addr} {k c l d : Nat} {cs : Array Value} (h : Has w g 144 cs) (e : cs = accC a A k c ++ accC b B l d) (ha : Ints w A k a.h) (hb : Ints w B l b.h) (h1 : k ≤ c ∧ c ≤ maxLen) (h2 : l ≤ d ∧ d ≤ maxLen) :
    Accs w (some ⟨g, 0, none⟩) 2 [a, b] := by
  refine ⟨rfl, fun _ => ⟨g, 0, rfl, fun i hi => ?_⟩⟩
  subst e
  match i, hi with
  | 0, _ =>
    refine ⟨A, k, c, fun j v hv => ?_, ha, h1⟩
    rw [h.cell]
    have hj : j < 13 := by have := (List.getElem?_eq_some_iff.1 hv).1; rwa [nthA_zero, accC_len] at this
    rw [show 0 + 0 * 13 + j = j by omega, Array.getElem?_append_left (by simpa [accC] using hj)]
    simpa [nthA] using hv
  | 1, _ =>
    refine ⟨B, l, d, fun j v hv => ?_, hb, h2⟩
    rw [h.cell]
    have hs : (accC a A k c).size = 13 := rfl
    rw [show 0 + 1 * 13 + j = 13 + j by omega, Array.getElem?_append_right (by omega), hs, show 13 + j - 13 = j by omega]
    simpa [nthA] using hv


end Go.Proofs.YtbpaepkcchpmbaaGreat

namespace Go.Proofs.YtbpaepkcchpmbaaGreat
open Go.RowKit

/-- The load of a whole aggregate behind a guard that lets it by. -/
theorem load_hasG {ops : Array Oper} {rest : List Oper} {op : Oper} {a : Act} {w : World} {Q : Exit → Act → World → Prop} (hw : Region.wanted op (yielded ops a.tmps) = true) (x : Operand) (ho : op.op = .load 144 x)
    (g : Nat) (hx : a.eval x = .pointer (some ⟨g, 0, none⟩)) {ac : Ac} {A : Option Addr} {k c : Nat} (hc : Has w g 144 (accC ac A k c))
    (h : wpList Tryz.prog ops Q rest (a.put op.dst (.agg (accC ac A k c))) w) : wpList Tryz.prog ops Q (op :: rest) a w :=
  wpList_step fun _ hK => by
    rw [if_pos hw]
    exact wp_load_row 144 x ho g hx 144 _ (0, 0) _ hc Tryz.underlying144 rfl Tryz.sizeAcc (hK _ _ h)

end Go.Proofs.YtbpaepkcchpmbaaGreat
