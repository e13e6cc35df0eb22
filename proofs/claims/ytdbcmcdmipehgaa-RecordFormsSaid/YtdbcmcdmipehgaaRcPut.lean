/-
  Walk: record.Put (written by gen/rcput.py).
-/
import Derived.Test.YtdbcmcdmipehgaaRcWr
import Derived.Test.YtdbcmcdmipehgaaRcMay2
namespace Go.Proofs.Ytdbcmcdmipehgaa
open Go.RowKit

theorem WrS.made {w0 w1 : World} (hb : Below w0.heap.size w0 w1) : WrS w0.heap.size w0 w1.heap.size [] (w1.alloc (.cells #[.slice none 0 0] 51)) :=
  ⟨hb.alloc hb.size _, hb.size, _, Has.made _ _ _, OwnB.nil _ _⟩

def InP (x : Int) : Prop := -9223372036854775808 ≤ x ∧ x ≤ 9223372036854775807
theorem numsR_wf {r : Rc} (hm : MayR r) : ∀ x ∈ numsR r, InP x := by
  intro x hx
  unfold MayR ResM OutM SamM NoX NoS at hm
  unfold numsR bitI at hx
  unfold InP
  split at hx
  · have h0 : r.kd = 0 := by assumption
    have hm' := hm.resolve_right (by omega)
    rw [List.mem_append] at hx
    rcases hx with hx | hx
    · simp only [List.mem_cons, List.not_mem_nil, or_false] at hx
      have hl := hm'.2.1.2.2.2.2.2.2.1
      split at hx <;> omega
    · have := hm'.2.1.2.2.2.2.2.2.2.1 x hx
      omega
  · split at hx
    · simp only [List.mem_cons, List.not_mem_nil, or_false] at hx
      omega
    · split at hx
      · simp only [List.mem_cons, List.not_mem_nil, or_false] at hx
        omega
      · simp only [List.mem_cons, List.not_mem_nil, or_false] at hx
        omega

set_option maxRecDepth 100000 in
set_option maxHeartbeats 1000000 in
theorem put_0 (qu sr st en va : Int) (ov : Bool) (hs : List Int) (A : Option Addr) (n c : Nat) (se ti sq bd : Int) (hm : MayR ⟨0, qu, sr, st, en, va, ov, hs, se, ti, sq, bd⟩) (w : World) (hI : Ints w A n hs) (hf : 0 < n → ∀ ad, A = some ad → ad.block < w.heap.size) :
    Calls Try.prog 6 #[.agg #[.int .i64 0, .int .i64 qu, .int .i64 sr, .int .i64 st, .int .i64 en, .int .i64 va, .bool ov, .slice A n c, .int .i64 se, .int .i64 ti, .int .i64 sq, .int .i64 bd]] w fun e w' => e = .returned (.tuple #[.string ⟨(encs (0 :: qu :: sr :: st :: en :: va :: bitI ov :: (n : Int) :: hs)).toArray⟩, .int .i64 0]) ∧ Below w.heap.size w w' := by
  have HM := Lib.hid (fun (w : World) h => may_any ⟨0, qu, sr, st, en, va, ov, hs, se, ti, sq, bd⟩ A n c true (mayR_yes hm) w h)
  have HV := Lib.hid (show ∀ x ∈ numsR ⟨0, qu, sr, st, en, va, ov, hs, se, ti, sq, bd⟩, InP x from numsR_wf hm)
  have HR := Lib.hid hm
  have HI := Lib.hid hI
  have HF := Lib.hid hf
  clear hm hI hf
  go_enter Try.func6, Try.ntmps6
  go_wp2_with fail
  refine (HM.out _ (HI.out.below ((Below.refl _ _).alloc (Nat.le_refl _) _))).mono ?_; rintro e w1 ⟨rfl, b1⟩
  have b0 : Below w.heap.size w w1 := ((Below.refl _ _).alloc (Nat.le_refl _) _).trans (b1.mono (by simp))
  have o1 : Has w1 w.heap.size 30 #[.int .i64 0, .int .i64 qu, .int .i64 sr, .int .i64 st, .int .i64 en, .int .i64 va, .bool ov, .slice A n c, .int .i64 se, .int .i64 ti, .int .i64 sq, .int .i64 bd] := (Has.made w _ _).below b1 (by simp)
  have S0 := WrS.made b0
  have O0 := o1.alloc (.cells #[.slice none 0 0] 51)
  have I1 := Lib.hid (HI.out.below b0)
  have hlt := o1.lt
  have c0 : w1.cell? ⟨w.heap.size, 0, none⟩ = some (.int .i64 0) := o1.cell 0
  clear b1 HM
  go_wp2_with fail
  have C0 := S0.call [0] 1 rfl (by omega) (by intro x hx; simp at hx; subst hx; omega) (by simp) (w1.heap.size + 1) (by simp) #[.int .i64 0] rfl
  refine C0.mono ?_; rintro e w2 ⟨rfl, k2, W2⟩
  have O2 : Has w2 w.heap.size 30 #[.int .i64 0, .int .i64 qu, .int .i64 sr, .int .i64 st, .int .i64 en, .int .i64 va, .bool ov, .slice A n c, .int .i64 se, .int .i64 ti, .int .i64 sq, .int .i64 bd] := O0.below k2.old hlt
  have cc2 : ∀ i, w2.cell? ⟨w.heap.size, i, none⟩ = (#[.int .i64 0, .int .i64 qu, .int .i64 sr, .int .i64 st, .int .i64 en, .int .i64 va, .bool ov, .slice A n c, .int .i64 se, .int .i64 ti, .int .i64 sq, .int .i64 bd] : Array Value)[i]? := fun i => O2.cell i
  have hlt2 := O2.lt
  clear C0 c0 S0 O0 o1 b0
  go_wp2_with fail
  have hR : ResM qu sr st en va ov hs := by have hq := HR.out; unfold MayR at hq; simp only at hq; exact (hq.resolve_right (by omega)).2.1
  have I2 : Ints w2 A n hs := ⟨I1.out.1, fun hn => by
    obtain ⟨b, o, e, hc⟩ := I1.out.2 hn
    exact ⟨b, o, e, fun k hkn => (k2.old.cell (p := ⟨b, o + k, none⟩) (show b < w1.heap.size from Nat.lt_trans (HF.out (by omega) ⟨b, o, none⟩ e) hlt)).trans ((((Below.refl w1.heap.size w1).alloc (Nat.le_refl _) _).cell (p := ⟨b, o + k, none⟩) (show b < w1.heap.size from Nat.lt_trans (HF.out (by omega) ⟨b, o, none⟩ e) hlt)).trans (hc k hkn))⟩⟩
  refine (putres_any w1.heap.size qu sr st en va ov A n c hs hR ([] ++ encs [0]) (by have := encs_len (xs := [0]) (by simp); simp at this ⊢; omega) w2 _ _ W2 I2 (fun h0 ad e => Nat.lt_trans (HF.out h0 ad e) hlt)).mono ?_; rintro e w3 ⟨rfl, k3, W3⟩
  have cc3 : ∀ i, w3.cell? ⟨w.heap.size, i, none⟩ = (#[.int .i64 0, .int .i64 qu, .int .i64 sr, .int .i64 st, .int .i64 en, .int .i64 va, .bool ov, .slice A n c, .int .i64 se, .int .i64 ti, .int .i64 sq, .int .i64 bd] : Array Value)[i]? := fun i => (O2.below k3.old hlt).cell i
  clear W2 I2 k2 k3 cc2 O2 hR
  obtain ⟨v, h1, h2⟩ := W3.wr
  have HB := Lib.hid W3.old
  obtain ⟨A2, c2, rfl, _⟩ := h2.form
  have e0 : [] ++ encs [0] ++ encs ([qu, sr, st, en, va, bitI ov, (n : Int)] ++ hs) = encs (0 :: qu :: sr :: st :: en :: va :: bitI ov :: (n : Int) :: hs) := by rw [List.nil_append, ← encs_append]; rfl
  rw [e0] at h1 h2
  have hne : encs (0 :: qu :: sr :: st :: en :: va :: bitI ov :: (n : Int) :: hs) ≠ [] := by simp [encs, encL_ne]
  have HT := Lib.hid (fun _ : Unit => wrtext_any _ _ _ _ _ _ hne h1 h2)
  clear h1 h2 hne e0 W3
  go_wp2_with (go_at_call 18; refine (HT.out ()).mono ?_; rintro e w' ⟨rfl, rfl⟩)
  go_ret2
  exact ⟨rfl, HB.out⟩

set_option maxRecDepth 100000 in
set_option maxHeartbeats 1000000 in
theorem put_1 (qu sr st en va : Int) (ov : Bool) (hs : List Int) (A : Option Addr) (n c : Nat) (se ti sq bd : Int) (hm : MayR ⟨1, qu, sr, st, en, va, ov, hs, se, ti, sq, bd⟩) (w : World) (hI : Ints w A n hs) (hf : 0 < n → ∀ ad, A = some ad → ad.block < w.heap.size) :
    Calls Try.prog 6 #[.agg #[.int .i64 1, .int .i64 qu, .int .i64 sr, .int .i64 st, .int .i64 en, .int .i64 va, .bool ov, .slice A n c, .int .i64 se, .int .i64 ti, .int .i64 sq, .int .i64 bd]] w fun e w' => e = .returned (.tuple #[.string ⟨(encs ([1, se, ti, sq])).toArray⟩, .int .i64 0]) ∧ Below w.heap.size w w' := by
  have HM := Lib.hid (fun (w : World) h => may_any ⟨1, qu, sr, st, en, va, ov, hs, se, ti, sq, bd⟩ A n c true (mayR_yes hm) w h)
  have HV := Lib.hid (show ∀ x ∈ numsR ⟨1, qu, sr, st, en, va, ov, hs, se, ti, sq, bd⟩, InP x from numsR_wf hm)
  have HR := Lib.hid hm
  have HI := Lib.hid hI
  have HF := Lib.hid hf
  clear hm hI hf
  go_enter Try.func6, Try.ntmps6
  go_wp2_with fail
  refine (HM.out _ (HI.out.below ((Below.refl _ _).alloc (Nat.le_refl _) _))).mono ?_; rintro e w1 ⟨rfl, b1⟩
  have b0 : Below w.heap.size w w1 := ((Below.refl _ _).alloc (Nat.le_refl _) _).trans (b1.mono (by simp))
  have o1 : Has w1 w.heap.size 30 #[.int .i64 1, .int .i64 qu, .int .i64 sr, .int .i64 st, .int .i64 en, .int .i64 va, .bool ov, .slice A n c, .int .i64 se, .int .i64 ti, .int .i64 sq, .int .i64 bd] := (Has.made w _ _).below b1 (by simp)
  have S0 := WrS.made b0
  have O0 := o1.alloc (.cells #[.slice none 0 0] 51)
  have I1 := Lib.hid (HI.out.below b0)
  have hlt := o1.lt
  have c0 : w1.cell? ⟨w.heap.size, 0, none⟩ = some (.int .i64 1) := o1.cell 0
  clear b1 HM
  go_wp2_with fail
  have C0 := S0.call [1] 1 rfl (by omega) (by intro x hx; simp at hx; subst hx; omega) (by simp) (w1.heap.size + 1) (by simp) #[.int .i64 1] rfl
  refine C0.mono ?_; rintro e w2 ⟨rfl, k2, W2⟩
  have O2 : Has w2 w.heap.size 30 #[.int .i64 1, .int .i64 qu, .int .i64 sr, .int .i64 st, .int .i64 en, .int .i64 va, .bool ov, .slice A n c, .int .i64 se, .int .i64 ti, .int .i64 sq, .int .i64 bd] := O0.below k2.old hlt
  have cc2 : ∀ i, w2.cell? ⟨w.heap.size, i, none⟩ = (#[.int .i64 1, .int .i64 qu, .int .i64 sr, .int .i64 st, .int .i64 en, .int .i64 va, .bool ov, .slice A n c, .int .i64 se, .int .i64 ti, .int .i64 sq, .int .i64 bd] : Array Value)[i]? := fun i => O2.cell i
  have hlt2 := O2.lt
  clear C0 c0 S0 O0 o1 b0
  go_wp2_with fail
  have C1 := W2.call [se, ti, sq] 3 rfl (by omega) (fun x hx => HV.out x (by simp [numsR] at hx ⊢; omega)) (by have := encs_len (xs := [1]) (by simp); simp at this ⊢; omega) w2.heap.size rfl #[.int .i64 se, .int .i64 ti, .int .i64 sq] rfl
  refine C1.mono ?_; rintro e w3 ⟨rfl, k3, W3⟩
  have cc3 : ∀ i, w3.cell? ⟨w.heap.size, i, none⟩ = (#[.int .i64 1, .int .i64 qu, .int .i64 sr, .int .i64 st, .int .i64 en, .int .i64 va, .bool ov, .slice A n c, .int .i64 se, .int .i64 ti, .int .i64 sq, .int .i64 bd] : Array Value)[i]? := fun i => (O2.below k3.old hlt).cell i
  clear C1 W2 k2 k3 cc2 O2
  obtain ⟨v, h1, h2⟩ := W3.wr
  have HB := Lib.hid W3.old
  obtain ⟨A2, c2, rfl, _⟩ := h2.form
  have e0 : [] ++ encs [1] ++ encs [se, ti, sq] = encs ([1, se, ti, sq]) := by rw [List.nil_append, ← encs_append]; rfl
  rw [e0] at h1 h2
  have hne : encs ([1, se, ti, sq]) ≠ [] := by simp [encs, encL_ne]
  have HT := Lib.hid (fun _ : Unit => wrtext_any _ _ _ _ _ _ hne h1 h2)
  clear h1 h2 hne e0 W3
  go_wp2_with (go_at_call 18; refine (HT.out ()).mono ?_; rintro e w' ⟨rfl, rfl⟩)
  go_ret2
  exact ⟨rfl, HB.out⟩

set_option maxRecDepth 100000 in
set_option maxHeartbeats 1000000 in
theorem put_2 (qu sr st en va : Int) (ov : Bool) (hs : List Int) (A : Option Addr) (n c : Nat) (se ti sq bd : Int) (hm : MayR ⟨2, qu, sr, st, en, va, ov, hs, se, ti, sq, bd⟩) (w : World) (hI : Ints w A n hs) (hf : 0 < n → ∀ ad, A = some ad → ad.block < w.heap.size) :
    Calls Try.prog 6 #[.agg #[.int .i64 2, .int .i64 qu, .int .i64 sr, .int .i64 st, .int .i64 en, .int .i64 va, .bool ov, .slice A n c, .int .i64 se, .int .i64 ti, .int .i64 sq, .int .i64 bd]] w fun e w' => e = .returned (.tuple #[.string ⟨(encs ([2, se, ti, sq])).toArray⟩, .int .i64 0]) ∧ Below w.heap.size w w' := by
  have HM := Lib.hid (fun (w : World) h => may_any ⟨2, qu, sr, st, en, va, ov, hs, se, ti, sq, bd⟩ A n c true (mayR_yes hm) w h)
  have HV := Lib.hid (show ∀ x ∈ numsR ⟨2, qu, sr, st, en, va, ov, hs, se, ti, sq, bd⟩, InP x from numsR_wf hm)
  have HR := Lib.hid hm
  have HI := Lib.hid hI
  have HF := Lib.hid hf
  clear hm hI hf
  go_enter Try.func6, Try.ntmps6
  go_wp2_with fail
  refine (HM.out _ (HI.out.below ((Below.refl _ _).alloc (Nat.le_refl _) _))).mono ?_; rintro e w1 ⟨rfl, b1⟩
  have b0 : Below w.heap.size w w1 := ((Below.refl _ _).alloc (Nat.le_refl _) _).trans (b1.mono (by simp))
  have o1 : Has w1 w.heap.size 30 #[.int .i64 2, .int .i64 qu, .int .i64 sr, .int .i64 st, .int .i64 en, .int .i64 va, .bool ov, .slice A n c, .int .i64 se, .int .i64 ti, .int .i64 sq, .int .i64 bd] := (Has.made w _ _).below b1 (by simp)
  have S0 := WrS.made b0
  have O0 := o1.alloc (.cells #[.slice none 0 0] 51)
  have I1 := Lib.hid (HI.out.below b0)
  have hlt := o1.lt
  have c0 : w1.cell? ⟨w.heap.size, 0, none⟩ = some (.int .i64 2) := o1.cell 0
  clear b1 HM
  go_wp2_with fail
  have C0 := S0.call [2] 1 rfl (by omega) (by intro x hx; simp at hx; subst hx; omega) (by simp) (w1.heap.size + 1) (by simp) #[.int .i64 2] rfl
  refine C0.mono ?_; rintro e w2 ⟨rfl, k2, W2⟩
  have O2 : Has w2 w.heap.size 30 #[.int .i64 2, .int .i64 qu, .int .i64 sr, .int .i64 st, .int .i64 en, .int .i64 va, .bool ov, .slice A n c, .int .i64 se, .int .i64 ti, .int .i64 sq, .int .i64 bd] := O0.below k2.old hlt
  have cc2 : ∀ i, w2.cell? ⟨w.heap.size, i, none⟩ = (#[.int .i64 2, .int .i64 qu, .int .i64 sr, .int .i64 st, .int .i64 en, .int .i64 va, .bool ov, .slice A n c, .int .i64 se, .int .i64 ti, .int .i64 sq, .int .i64 bd] : Array Value)[i]? := fun i => O2.cell i
  have hlt2 := O2.lt
  clear C0 c0 S0 O0 o1 b0
  go_wp2_with fail
  have C1 := W2.call [se, ti, sq] 3 rfl (by omega) (fun x hx => HV.out x (by simp [numsR] at hx ⊢; omega)) (by have := encs_len (xs := [2]) (by simp); simp at this ⊢; omega) w2.heap.size rfl #[.int .i64 se, .int .i64 ti, .int .i64 sq] rfl
  refine C1.mono ?_; rintro e w3 ⟨rfl, k3, W3⟩
  have cc3 : ∀ i, w3.cell? ⟨w.heap.size, i, none⟩ = (#[.int .i64 2, .int .i64 qu, .int .i64 sr, .int .i64 st, .int .i64 en, .int .i64 va, .bool ov, .slice A n c, .int .i64 se, .int .i64 ti, .int .i64 sq, .int .i64 bd] : Array Value)[i]? := fun i => (O2.below k3.old hlt).cell i
  clear C1 W2 k2 k3 cc2 O2
  obtain ⟨v, h1, h2⟩ := W3.wr
  have HB := Lib.hid W3.old
  obtain ⟨A2, c2, rfl, _⟩ := h2.form
  have e0 : [] ++ encs [2] ++ encs [se, ti, sq] = encs ([2, se, ti, sq]) := by rw [List.nil_append, ← encs_append]; rfl
  rw [e0] at h1 h2
  have hne : encs ([2, se, ti, sq]) ≠ [] := by simp [encs, encL_ne]
  have HT := Lib.hid (fun _ : Unit => wrtext_any _ _ _ _ _ _ hne h1 h2)
  clear h1 h2 hne e0 W3
  go_wp2_with (go_at_call 18; refine (HT.out ()).mono ?_; rintro e w' ⟨rfl, rfl⟩)
  go_ret2
  exact ⟨rfl, HB.out⟩

set_option maxRecDepth 100000 in
set_option maxHeartbeats 1000000 in
theorem put_3 (qu sr st en va : Int) (ov : Bool) (hs : List Int) (A : Option Addr) (n c : Nat) (se ti sq bd : Int) (hm : MayR ⟨3, qu, sr, st, en, va, ov, hs, se, ti, sq, bd⟩) (w : World) (hI : Ints w A n hs) (hf : 0 < n → ∀ ad, A = some ad → ad.block < w.heap.size) :
    Calls Try.prog 6 #[.agg #[.int .i64 3, .int .i64 qu, .int .i64 sr, .int .i64 st, .int .i64 en, .int .i64 va, .bool ov, .slice A n c, .int .i64 se, .int .i64 ti, .int .i64 sq, .int .i64 bd]] w fun e w' => e = .returned (.tuple #[.string ⟨(encs ([3, se, ti, sq])).toArray⟩, .int .i64 0]) ∧ Below w.heap.size w w' := by
  have HM := Lib.hid (fun (w : World) h => may_any ⟨3, qu, sr, st, en, va, ov, hs, se, ti, sq, bd⟩ A n c true (mayR_yes hm) w h)
  have HV := Lib.hid (show ∀ x ∈ numsR ⟨3, qu, sr, st, en, va, ov, hs, se, ti, sq, bd⟩, InP x from numsR_wf hm)
  have HR := Lib.hid hm
  have HI := Lib.hid hI
  have HF := Lib.hid hf
  clear hm hI hf
  go_enter Try.func6, Try.ntmps6
  go_wp2_with fail
  refine (HM.out _ (HI.out.below ((Below.refl _ _).alloc (Nat.le_refl _) _))).mono ?_; rintro e w1 ⟨rfl, b1⟩
  have b0 : Below w.heap.size w w1 := ((Below.refl _ _).alloc (Nat.le_refl _) _).trans (b1.mono (by simp))
  have o1 : Has w1 w.heap.size 30 #[.int .i64 3, .int .i64 qu, .int .i64 sr, .int .i64 st, .int .i64 en, .int .i64 va, .bool ov, .slice A n c, .int .i64 se, .int .i64 ti, .int .i64 sq, .int .i64 bd] := (Has.made w _ _).below b1 (by simp)
  have S0 := WrS.made b0
  have O0 := o1.alloc (.cells #[.slice none 0 0] 51)
  have I1 := Lib.hid (HI.out.below b0)
  have hlt := o1.lt
  have c0 : w1.cell? ⟨w.heap.size, 0, none⟩ = some (.int .i64 3) := o1.cell 0
  clear b1 HM
  go_wp2_with fail
  have C0 := S0.call [3] 1 rfl (by omega) (by intro x hx; simp at hx; subst hx; omega) (by simp) (w1.heap.size + 1) (by simp) #[.int .i64 3] rfl
  refine C0.mono ?_; rintro e w2 ⟨rfl, k2, W2⟩
  have O2 : Has w2 w.heap.size 30 #[.int .i64 3, .int .i64 qu, .int .i64 sr, .int .i64 st, .int .i64 en, .int .i64 va, .bool ov, .slice A n c, .int .i64 se, .int .i64 ti, .int .i64 sq, .int .i64 bd] := O0.below k2.old hlt
  have cc2 : ∀ i, w2.cell? ⟨w.heap.size, i, none⟩ = (#[.int .i64 3, .int .i64 qu, .int .i64 sr, .int .i64 st, .int .i64 en, .int .i64 va, .bool ov, .slice A n c, .int .i64 se, .int .i64 ti, .int .i64 sq, .int .i64 bd] : Array Value)[i]? := fun i => O2.cell i
  have hlt2 := O2.lt
  clear C0 c0 S0 O0 o1 b0
  go_wp2_with fail
  have C1 := W2.call [se, ti, sq] 3 rfl (by omega) (fun x hx => HV.out x (by simp [numsR] at hx ⊢; omega)) (by have := encs_len (xs := [3]) (by simp); simp at this ⊢; omega) w2.heap.size rfl #[.int .i64 se, .int .i64 ti, .int .i64 sq] rfl
  refine C1.mono ?_; rintro e w3 ⟨rfl, k3, W3⟩
  have cc3 : ∀ i, w3.cell? ⟨w.heap.size, i, none⟩ = (#[.int .i64 3, .int .i64 qu, .int .i64 sr, .int .i64 st, .int .i64 en, .int .i64 va, .bool ov, .slice A n c, .int .i64 se, .int .i64 ti, .int .i64 sq, .int .i64 bd] : Array Value)[i]? := fun i => (O2.below k3.old hlt).cell i
  clear C1 W2 k2 k3 cc2 O2
  obtain ⟨v, h1, h2⟩ := W3.wr
  have HB := Lib.hid W3.old
  obtain ⟨A2, c2, rfl, _⟩ := h2.form
  have e0 : [] ++ encs [3] ++ encs [se, ti, sq] = encs ([3, se, ti, sq]) := by rw [List.nil_append, ← encs_append]; rfl
  rw [e0] at h1 h2
  have hne : encs ([3, se, ti, sq]) ≠ [] := by simp [encs, encL_ne]
  have HT := Lib.hid (fun _ : Unit => wrtext_any _ _ _ _ _ _ hne h1 h2)
  clear h1 h2 hne e0 W3
  go_wp2_with (go_at_call 18; refine (HT.out ()).mono ?_; rintro e w' ⟨rfl, rfl⟩)
  go_ret2
  exact ⟨rfl, HB.out⟩

set_option maxRecDepth 100000 in
set_option maxHeartbeats 1000000 in
theorem put_4 (qu sr st en va : Int) (ov : Bool) (hs : List Int) (A : Option Addr) (n c : Nat) (se ti sq bd : Int) (hm : MayR ⟨4, qu, sr, st, en, va, ov, hs, se, ti, sq, bd⟩) (w : World) (hI : Ints w A n hs) (hf : 0 < n → ∀ ad, A = some ad → ad.block < w.heap.size) :
    Calls Try.prog 6 #[.agg #[.int .i64 4, .int .i64 qu, .int .i64 sr, .int .i64 st, .int .i64 en, .int .i64 va, .bool ov, .slice A n c, .int .i64 se, .int .i64 ti, .int .i64 sq, .int .i64 bd]] w fun e w' => e = .returned (.tuple #[.string ⟨(encs ([4])).toArray⟩, .int .i64 0]) ∧ Below w.heap.size w w' := by
  have HM := Lib.hid (fun (w : World) h => may_any ⟨4, qu, sr, st, en, va, ov, hs, se, ti, sq, bd⟩ A n c true (mayR_yes hm) w h)
  have HV := Lib.hid (show ∀ x ∈ numsR ⟨4, qu, sr, st, en, va, ov, hs, se, ti, sq, bd⟩, InP x from numsR_wf hm)
  have HR := Lib.hid hm
  have HI := Lib.hid hI
  have HF := Lib.hid hf
  clear hm hI hf
  go_enter Try.func6, Try.ntmps6
  go_wp2_with fail
  refine (HM.out _ (HI.out.below ((Below.refl _ _).alloc (Nat.le_refl _) _))).mono ?_; rintro e w1 ⟨rfl, b1⟩
  have b0 : Below w.heap.size w w1 := ((Below.refl _ _).alloc (Nat.le_refl _) _).trans (b1.mono (by simp))
  have o1 : Has w1 w.heap.size 30 #[.int .i64 4, .int .i64 qu, .int .i64 sr, .int .i64 st, .int .i64 en, .int .i64 va, .bool ov, .slice A n c, .int .i64 se, .int .i64 ti, .int .i64 sq, .int .i64 bd] := (Has.made w _ _).below b1 (by simp)
  have S0 := WrS.made b0
  have O0 := o1.alloc (.cells #[.slice none 0 0] 51)
  have I1 := Lib.hid (HI.out.below b0)
  have hlt := o1.lt
  have c0 : w1.cell? ⟨w.heap.size, 0, none⟩ = some (.int .i64 4) := o1.cell 0
  clear b1 HM
  go_wp2_with fail
  have C0 := S0.call [4] 1 rfl (by omega) (by intro x hx; simp at hx; subst hx; omega) (by simp) (w1.heap.size + 1) (by simp) #[.int .i64 4] rfl
  refine C0.mono ?_; rintro e w2 ⟨rfl, k2, W2⟩
  have O2 : Has w2 w.heap.size 30 #[.int .i64 4, .int .i64 qu, .int .i64 sr, .int .i64 st, .int .i64 en, .int .i64 va, .bool ov, .slice A n c, .int .i64 se, .int .i64 ti, .int .i64 sq, .int .i64 bd] := O0.below k2.old hlt
  have cc2 : ∀ i, w2.cell? ⟨w.heap.size, i, none⟩ = (#[.int .i64 4, .int .i64 qu, .int .i64 sr, .int .i64 st, .int .i64 en, .int .i64 va, .bool ov, .slice A n c, .int .i64 se, .int .i64 ti, .int .i64 sq, .int .i64 bd] : Array Value)[i]? := fun i => O2.cell i
  have hlt2 := O2.lt
  clear C0 c0 S0 O0 o1 b0
  clear k2 O2
  obtain ⟨v, h1, h2⟩ := W2.wr
  have HB := Lib.hid W2.old
  obtain ⟨A2, c2, rfl, _⟩ := h2.form
  have e0 : [] ++ encs [4] = encs ([4]) := by rfl
  rw [e0] at h1 h2
  have hne : encs ([4]) ≠ [] := by simp [encs, encL_ne]
  have HT := Lib.hid (fun _ : Unit => wrtext_any _ _ _ _ _ _ hne h1 h2)
  clear h1 h2 hne e0 W2
  go_wp2_with (go_at_call 18; refine (HT.out ()).mono ?_; rintro e w' ⟨rfl, rfl⟩)
  go_ret2
  exact ⟨rfl, HB.out⟩

set_option maxRecDepth 100000 in
set_option maxHeartbeats 1000000 in
theorem put_5 (qu sr st en va : Int) (ov : Bool) (hs : List Int) (A : Option Addr) (n c : Nat) (se ti sq bd : Int) (hm : MayR ⟨5, qu, sr, st, en, va, ov, hs, se, ti, sq, bd⟩) (w : World) (hI : Ints w A n hs) (hf : 0 < n → ∀ ad, A = some ad → ad.block < w.heap.size) :
    Calls Try.prog 6 #[.agg #[.int .i64 5, .int .i64 qu, .int .i64 sr, .int .i64 st, .int .i64 en, .int .i64 va, .bool ov, .slice A n c, .int .i64 se, .int .i64 ti, .int .i64 sq, .int .i64 bd]] w fun e w' => e = .returned (.tuple #[.string ⟨(encs ([5, bd])).toArray⟩, .int .i64 0]) ∧ Below w.heap.size w w' := by
  have HM := Lib.hid (fun (w : World) h => may_any ⟨5, qu, sr, st, en, va, ov, hs, se, ti, sq, bd⟩ A n c true (mayR_yes hm) w h)
  have HV := Lib.hid (show ∀ x ∈ numsR ⟨5, qu, sr, st, en, va, ov, hs, se, ti, sq, bd⟩, InP x from numsR_wf hm)
  have HR := Lib.hid hm
  have HI := Lib.hid hI
  have HF := Lib.hid hf
  clear hm hI hf
  go_enter Try.func6, Try.ntmps6
  go_wp2_with fail
  refine (HM.out _ (HI.out.below ((Below.refl _ _).alloc (Nat.le_refl _) _))).mono ?_; rintro e w1 ⟨rfl, b1⟩
  have b0 : Below w.heap.size w w1 := ((Below.refl _ _).alloc (Nat.le_refl _) _).trans (b1.mono (by simp))
  have o1 : Has w1 w.heap.size 30 #[.int .i64 5, .int .i64 qu, .int .i64 sr, .int .i64 st, .int .i64 en, .int .i64 va, .bool ov, .slice A n c, .int .i64 se, .int .i64 ti, .int .i64 sq, .int .i64 bd] := (Has.made w _ _).below b1 (by simp)
  have S0 := WrS.made b0
  have O0 := o1.alloc (.cells #[.slice none 0 0] 51)
  have I1 := Lib.hid (HI.out.below b0)
  have hlt := o1.lt
  have c0 : w1.cell? ⟨w.heap.size, 0, none⟩ = some (.int .i64 5) := o1.cell 0
  clear b1 HM
  go_wp2_with fail
  have C0 := S0.call [5] 1 rfl (by omega) (by intro x hx; simp at hx; subst hx; omega) (by simp) (w1.heap.size + 1) (by simp) #[.int .i64 5] rfl
  refine C0.mono ?_; rintro e w2 ⟨rfl, k2, W2⟩
  have O2 : Has w2 w.heap.size 30 #[.int .i64 5, .int .i64 qu, .int .i64 sr, .int .i64 st, .int .i64 en, .int .i64 va, .bool ov, .slice A n c, .int .i64 se, .int .i64 ti, .int .i64 sq, .int .i64 bd] := O0.below k2.old hlt
  have cc2 : ∀ i, w2.cell? ⟨w.heap.size, i, none⟩ = (#[.int .i64 5, .int .i64 qu, .int .i64 sr, .int .i64 st, .int .i64 en, .int .i64 va, .bool ov, .slice A n c, .int .i64 se, .int .i64 ti, .int .i64 sq, .int .i64 bd] : Array Value)[i]? := fun i => O2.cell i
  have hlt2 := O2.lt
  clear C0 c0 S0 O0 o1 b0
  go_wp2_with fail
  have C1 := W2.call [bd] 1 rfl (by omega) (fun x hx => HV.out x (by simp [numsR] at hx ⊢; omega)) (by have := encs_len (xs := [5]) (by simp); simp at this ⊢; omega) w2.heap.size rfl #[.int .i64 bd] rfl
  refine C1.mono ?_; rintro e w3 ⟨rfl, k3, W3⟩
  have cc3 : ∀ i, w3.cell? ⟨w.heap.size, i, none⟩ = (#[.int .i64 5, .int .i64 qu, .int .i64 sr, .int .i64 st, .int .i64 en, .int .i64 va, .bool ov, .slice A n c, .int .i64 se, .int .i64 ti, .int .i64 sq, .int .i64 bd] : Array Value)[i]? := fun i => (O2.below k3.old hlt).cell i
  clear C1 W2 k2 k3 cc2 O2
  obtain ⟨v, h1, h2⟩ := W3.wr
  have HB := Lib.hid W3.old
  obtain ⟨A2, c2, rfl, _⟩ := h2.form
  have e0 : [] ++ encs [5] ++ encs [bd] = encs ([5, bd]) := by rw [List.nil_append, ← encs_append]; rfl
  rw [e0] at h1 h2
  have hne : encs ([5, bd]) ≠ [] := by simp [encs, encL_ne]
  have HT := Lib.hid (fun _ : Unit => wrtext_any _ _ _ _ _ _ hne h1 h2)
  clear h1 h2 hne e0 W3
  go_wp2_with (go_at_call 18; refine (HT.out ()).mono ?_; rintro e w' ⟨rfl, rfl⟩)
  go_ret2
  exact ⟨rfl, HB.out⟩

set_option maxRecDepth 100000 in
set_option maxHeartbeats 400000 in
theorem put_bad (r : Rc) (A : Option Addr) (n c : Nat) (hm : mayR r = false) (w : World) (hI : Ints w A n r.hs) :
    Calls Try.prog 6 #[.agg (recC r A n c)] w fun e w' => e = .returned (.tuple #[.string ⟨#[]⟩, .int .i64 1000]) ∧ Below w.heap.size w w' := by
  have HM := Lib.hid (fun (w : World) h => may_any r A n c false hm w h)
  have HI := Lib.hid hI
  clear hm hI
  obtain ⟨kd, qu, sr, st, en, va, ov, hs, se, ti, sq, bd⟩ := r
  unfold recC at HM ⊢
  simp only at HM HI ⊢
  go_enter Try.func6, Try.ntmps6
  go_wp2_with fail
  refine (HM.out _ (HI.out.below ((Below.refl _ _).alloc (Nat.le_refl _) _))).mono ?_; rintro e w1 ⟨rfl, b1⟩
  have b0 : Below w.heap.size w w1 := ((Below.refl _ _).alloc (Nat.le_refl _) _).trans (b1.mono (by simp))
  clear b1 HM
  go_wp2_with fail
  go_ret2
  exact ⟨rfl, b0⟩

/-- What Put gives, by two names. -/
theorem put_rec (r : Rc) (A : Option Addr) (n c : Nat) (x : ByteArray) (z : Int) (h : putR r = (x, z)) (w : World) (hI : Ints w A n r.hs) :
    Calls Try.prog 6 #[.agg (recC r A n c)] w fun e w' => e = .returned (.tuple #[.string x, .int .i64 z]) ∧ Below w.heap.size w w' := by
  by_cases hm : mayR r = true
  · have hM := mayR_iff.1 hm
    rw [putR, if_pos hm] at h
    injection h with h1 h2
    subst h1 h2
    obtain ⟨kd, qu, sr, st, en, va, ov, hs, se, ti, sq, bd⟩ := r
    have hl : hs.length = n := hI.1
    have hk : kd = 0 ∨ kd = 1 ∨ kd = 2 ∨ kd = 3 ∨ kd = 4 ∨ kd = 5 := by have := hM.kinds; simp only at this; omega
    rcases hk with rfl | rfl | rfl | rfl | rfl | rfl
    · have := put_0 qu sr st en va ov hs A n c se ti sq bd hM w hI (fun h0 => Ints.far hI h0)
      rw [← hl] at this ⊢
      exact this
    · exact put_1 qu sr st en va ov hs A n c se ti sq bd hM w hI (fun h0 => Ints.far hI h0)
    · exact put_2 qu sr st en va ov hs A n c se ti sq bd hM w hI (fun h0 => Ints.far hI h0)
    · exact put_3 qu sr st en va ov hs A n c se ti sq bd hM w hI (fun h0 => Ints.far hI h0)
    · exact put_4 qu sr st en va ov hs A n c se ti sq bd hM w hI (fun h0 => Ints.far hI h0)
    · exact put_5 qu sr st en va ov hs A n c se ti sq bd hM w hI (fun h0 => Ints.far hI h0)
  · have hm : mayR r = false := by simpa using hm
    rw [putR, if_neg (by simp [hm])] at h
    injection h with h1 h2
    subst h1 h2
    exact put_bad r A n c hm w hI


end Go.Proofs.Ytdbcmcdmipehgaa
