/-
  An operation byte by byte; of a cut one each byte is told of: plain facts. No program here.
-/
import Derived.Test.YtoechlmahckchaaScFaP
namespace Go.Proofs.Ytoechlmahckchaa
open Go.RowKit

theorem run_byte {o : Po} (hM : MayP o) {i : Nat} (hi : i + 1 < (frameO o).length) : runL false ((frameO o).take (i + 1)) 0 = ([], (frameO o).take (i + 1), 0) := runL_cut (look_begin hM hi)
theorem run_last {o : Po} (hM : MayP o) {i : Nat} (hi : i + 1 = (frameO o).length) : runL false ((frameO o).take (i + 1)) 0 = ([o], [], 0) := by
  rw [List.take_of_length_le (by omega)]; exact run_frame hM
/-- How many bytes an operation tells of. -/
def sizeO (o : Po) : Int := if o.k = 3 then o.va else (frameO o).length
def sumO (os : List Po) : Int := (os.map sizeO).sum
theorem sumO_append (a b : List Po) : sumO (a ++ b) = sumO a + sumO b := by simp [sumO]
theorem sumO_cons (x : Po) (a : List Po) : sumO (x :: a) = sizeO x + sumO a := by simp [sumO]
theorem sumO_tell (b : Nat) : sumO (tellB b) = b := by
  unfold tellB
  split
  · rename_i h; subst h; rfl
  · simp [sumO, sizeO, badP]
theorem may_kind {o : Po} (h : MayP o) : o.k ≠ 3 := by have := h.wide; omega
/-- Each byte is told of once. -/
theorem runL_sum : ∀ (n : Nat) (l : List UInt8) (b : Nat), l.length ≤ n → b + l.length ≤ 1073741823 → sumO (runL true l b).1 + (runL true l b).2.2 = b + l.length
  | n, [], b, _, _ => by simp [runL_nil, sumO]
  | 0, _ :: _, _, h, _ => by simp at h
  | n + 1, x :: t, b, h, hb => by
    simp only [List.length_cons] at h hb
    have hu : upB b = b + 1 := by unfold upB; omega
    have none : runL true (x :: t) b = runL true t (upB b) → sumO (runL true (x :: t) b).1 + (runL true (x :: t) b).2.2 = b + (x :: t).length := fun e => by
      have := runL_sum n t (upB b) (by omega) (by omega)
      rw [e, this, hu, List.length_cons]; omega
    rcases look_cases (x :: t) with ⟨hl, _⟩ | ⟨hl, _⟩ | ⟨o, r, hM, e, hl, _⟩
    · exact none (runL_none hl (.inr ⟨rfl, rfl⟩))
    · exact none (runL_none hl (.inl rfl))
    · have h5 := frameO_len hM
      have hle : (x :: t).length = (frameO o).length + r.length := by rw [e]; simp
      have hd : (x :: t).drop (frameO o).length = r := by rw [e, List.drop_left' rfl]
      simp only [List.length_cons] at hle
      have := runL_sum n r 0 (by omega) (by omega)
      rw [runL_op hl (by omega), hd]
      simp only [sumO_append, sumO_cons, sumO_tell, List.length_cons]
      have hs : sizeO o = (frameO o).length := if_neg (may_kind hM)
      rw [hs]
      omega
theorem allL_sum (l : List UInt8) (b : Nat) (hb : b + l.length ≤ 1073741823) : sumO (allL l b) = b + l.length := by
  unfold allL
  rw [sumO_append, sumO_tell]
  exact runL_sum l.length l b (Nat.le_refl _) hb
/-- What was none ahead is told first. -/
theorem allL_first : ∀ (n : Nat) (l : List UInt8) (b : Nat), l.length ≤ n → 0 < b → ∃ k r, allL l b = badP k :: r
  | n, [], b, _, hb => ⟨b, [], by unfold allL tellB; rw [runL_nil, if_neg (by simp; omega)]; rfl⟩
  | 0, _ :: _, _, h, _ => by simp at h
  | n + 1, x :: t, b, h, hb => by
    simp only [List.length_cons] at h
    have none : runL true (x :: t) b = runL true t (upB b) → ∃ k r, allL (x :: t) b = badP k :: r := fun e => by
      obtain ⟨k, r, hk⟩ := allL_first n t (upB b) (by omega) (by unfold upB; omega)
      exact ⟨k, r, by unfold allL at hk ⊢; rw [e]; exact hk⟩
    rcases look_cases (x :: t) with ⟨hl, _⟩ | ⟨hl, _⟩ | ⟨o, r, hM, e, hl, _⟩
    · exact none (runL_none hl (.inr ⟨rfl, rfl⟩))
    · exact none (runL_none hl (.inl rfl))
    · have h5 := frameO_len hM
      refine ⟨b, o :: ((runL true ((x :: t).drop (frameO o).length) 0).1 ++ tellB (runL true ((x :: t).drop (frameO o).length) 0).2.2), ?_⟩
      unfold allL
      rw [runL_op hl (by omega)]
      have : tellB b = [badP b] := if_neg (by omega)
      rw [this]
      rfl
/-- What comes of a cut operation when nothing comes behind. -/
theorem all_cut {o : Po} (hM : MayP o) {n : Nat} (hn : n + 1 = (frameO o).length) : sumO (allL ((frameO o).take n) 0) = n ∧ ∃ k r, allL ((frameO o).take n) 0 = badP k :: r := by
  have h5 := frameO_len hM
  have hl : ((frameO o).take n).length = n := by rw [List.length_take]; omega
  refine ⟨by rw [allL_sum _ _ (by omega), hl]; omega, ?_⟩
  have hc := look_begin hM (n := n) (by omega)
  match ht : (frameO o).take n with
  | [] => rw [ht] at hl; simp only [List.length_nil] at hl; omega
  | x :: t =>
    rw [ht] at hc
    have e := runL_none (b := 0) hc (.inr ⟨rfl, rfl⟩)
    obtain ⟨k, r, hk⟩ := allL_first t.length t (upB 0) (Nat.le_refl _) (by decide)
    exact ⟨k, r, by unfold allL at hk ⊢; rw [e]; exact hk⟩
/-- Each is a number of bytes, or an operation that may be. -/
theorem allL_kinds (l : List UInt8) (b : Nat) (hb : b ≤ 1073741823) : ∀ o ∈ allL l b, MayP o ∨ ∃ k, 0 < k ∧ k ≤ 1073741823 ∧ o = badP k := by
  have h := runL_fits true l.length l b (Nat.le_refl _) hb
  intro o ho
  unfold allL at ho
  rcases List.mem_append.1 ho with ho | ho
  · exact h.2.2.2.2 o ho
  · unfold tellB at ho
    split at ho
    · cases ho
    · obtain rfl : o = badP (runL true l b).2.2 := by simpa using ho
      exact .inr ⟨_, by omega, h.2.2.1, rfl⟩

end Go.Proofs.Ytoechlmahckchaa
