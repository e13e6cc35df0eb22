/-
  Walks: acc.Join.
-/
import Derived.Test.YtdoflmphkalicaaJoinP
namespace Go.Proofs.Ytdoflmphkalicaa
open Go.RowKit

set_option maxRecDepth 100000 in
set_option maxHeartbeats 1000000 in
theorem add_none (a : Ac) (g : Nat) (A : Option Addr) (k c : Nat) (w : World) (hn : (a.n == 0) = true) :
    Calls Try.prog 64 #[.pointer (some ⟨g, 0, none⟩), accV a A k c] w fun e w' => e = .returned (.tuple #[]) ∧ Below w.heap.size w w' := by
  unfold accV
  go_enter Try.func64, Try.ntmps64
  go_wp2
  refine bodyPost_ret (results_none rfl _ _ _) rfl ?_
  exact ⟨rfl, (Below.refl _ _).alloc (Nat.le_refl _) _⟩

set_option maxRecDepth 100000 in
set_option maxHeartbeats 1000000 in
theorem join_form (B : Option Addr) (m d : Nat) (bs : List Int) (A : Option Addr) (n c : Nat) (xs : List Ac) (w : World) (hbs : Ints w B m bs) (hm : m ≤ maxLen) (hr : Accs w A n xs) (hn : n ≤ 17592186044416) (hno : (boundsB bs && togB (bs.length + 1) (-1) xs) = false) :
    Calls Try.prog 33 #[.slice B m d, .slice A n c] w (BadAcc 100 w) := by
  have HN := Lib.hid hno; clear hno
  have HL := Lib.hid hbs.1
  have HBS := Lib.hid hbs; clear hbs
  have HR := Lib.hid hr; clear hr
  have hbox : ∀ o, Below w.heap.size w (w.alloc o) := fun o => (Below.refl _ _).alloc (Nat.le_refl _) o
  have HBOX := Lib.hid hbox; clear hbox
  go_enter Try.func33, Try.ntmps33
  go_wp2_with fail
  refine (bounds_any B m d bs _ (HBS.out.below (HBOX.out _)) hm).mono ?_
  rintro e w1 ⟨rfl, k, hk⟩
  have hb1 : Below w.heap.size w w1 := hk ▸ below_drewN (HBOX.out _) k
  have H4 : Has w1 w.heap.size 49 _ := hk ▸ (Has.made w _ _).drewN k
  clear hk
  cases h1 : boundsB bs
  · go_wp2_with (refine store_has rfl _ _ rfl w.heap.size (ac := zeroAc) (A := none) (k := 0) (c := 0) rfl rfl H4 rfl ?_)
    refine bodyPost_ret (ret_row rfl _ _ _ 49 (accC zeroAc none 0 0) _ rfl (H4.row _) Try.underlying49 rfl (by exact Try.sizeAcc)) rfl ?_
    exact ⟨rfl, below_row hb1 (Nat.le_refl _) _⟩
  · have h8 : m ≤ 8 := by have := (boundsB_true h1).1; rw [HL.out] at this; exact this
    have hm1 : 0 ≤ (m : Int) + 1 ∧ (m : Int) + 1 ≤ 9 := by omega
    go_wp2_with fail
    refine (together_any A n c xs ((m : Int) + 1) _ (HR.out.below hb1) hm1 hn).mono ?_
    rintro e w2 ⟨rfl, hb2⟩
    have hB2 : Below w.heap.size w w2 := hb1.trans (hb2.mono hb1.size)
    have H42 : Has w2 w.heap.size 49 _ := H4.below hb2 H4.lt
    have h2 : togB ((m : Int) + 1) (-1) xs = false := by have := HN.out; rw [h1, HL.out] at this; simpa using this
    rw [h2]
    clear H4
    go_wp2_with (refine store_has rfl _ _ rfl w.heap.size (ac := zeroAc) (A := none) (k := 0) (c := 0) rfl rfl H42 rfl ?_)
    refine bodyPost_ret (ret_row rfl _ _ _ 49 (accC zeroAc none 0 0) _ rfl (H42.row _) Try.underlying49 rfl (by exact Try.sizeAcc)) rfl ?_
    exact ⟨rfl, below_row hB2 (Nat.le_refl _) _⟩

set_option maxRecDepth 100000 in
set_option maxHeartbeats 1000000 in
theorem join_total (B : Option Addr) (m d : Nat) (bs : List Int) (A : Option Addr) (n c : Nat) (xs : List Ac) (w : World) (hbs : Ints w B m bs) (hr : Accs w A n xs) (hn : n ≤ 17592186044416) (h1 : boundsB bs = true) (h2 : togB (bs.length + 1) (-1) xs = true) (h3 : 8192 < totalA xs) :
    Calls Try.prog 33 #[.slice B m d, .slice A n c] w (BadAcc 101 w) := by
  have HL := Lib.hid hbs.1
  have h8 : m ≤ 8 := by have := (boundsB_true h1).1; rw [HL.out] at this; exact this
  have hm1 : 0 ≤ (m : Int) + 1 ∧ (m : Int) + 1 ≤ 9 := by omega
  have HF : Hid (∀ i, i < n → 0 ≤ (nthA xs i).n ∧ (nthA xs i).n ≤ 8192) := fun i hi => by
    have := fit_of (m := bs.length + 1) (togB_fit h2 (i := i) (by rw [hr.1]; exact hi)); exact ⟨this.n0, this.n1⟩
  have H1 := Lib.hid h1; clear h1
  have H2 := Lib.hid h2; clear h2
  have HBS := Lib.hid hbs; clear hbs
  have HR := Lib.hid hr; clear hr
  have hbox : ∀ o, Below w.heap.size w (w.alloc o) := fun o => (Below.refl _ _).alloc (Nat.le_refl _) o
  have HBOX := Lib.hid hbox; clear hbox
  go_enter Try.func33, Try.ntmps33
  go_wp2_with fail
  refine (bounds_any B m d bs _ (HBS.out.below (HBOX.out _)) (by unfold maxLen; omega)).mono ?_
  rintro e w1 ⟨rfl, k, hk⟩
  have hb1 : Below w.heap.size w w1 := hk ▸ below_drewN (HBOX.out _) k
  have H4 : Has w1 w.heap.size 49 _ := hk ▸ (Has.made w _ _).drewN k
  clear hk
  rw [H1.out]
  go_wp2_with fail
  refine (together_any A n c xs ((m : Int) + 1) _ (HR.out.below hb1) hm1 hn).mono ?_
  rintro e w2 ⟨rfl, hb2⟩
  have hB2 : Below w.heap.size w w2 := hb1.trans (hb2.mono hb1.size)
  have H42 : Has w2 w.heap.size 49 _ := H4.below hb2 H4.lt
  clear H4
  rw [show togB ((m : Int) + 1) (-1) xs = true from by have := H2.out; rw [HL.out] at this; exact this]
  go_wp2_with fail
  refine (total_any A n c xs _ (HR.out.below hB2) hn HF.out).mono ?_
  rintro e w3 ⟨rfl, hb3⟩
  have hB3 : Below w.heap.size w w3 := hB2.trans (hb3.mono hB2.size)
  have H43 : Has w3 w.heap.size 49 _ := H42.below hb3 H42.lt
  clear H42
  go_wp2_with (refine store_has rfl _ _ rfl w.heap.size (ac := zeroAc) (A := none) (k := 0) (c := 0) rfl rfl H43 rfl ?_)
  refine bodyPost_ret (ret_row rfl _ _ _ 49 (accC zeroAc none 0 0) _ rfl (H43.row _) Try.underlying49 rfl (by exact Try.sizeAcc)) rfl ?_
  exact ⟨rfl, below_row hB3 (Nat.le_refl _) _⟩

end Go.Proofs.Ytdoflmphkalicaa
