/-
  Rubbish without a byte of a begin is none; a frame whose body is no operation is none, what stands within it comes: plain facts. No program here.
-/
import Derived.Test.YtoechlmahckchaaScP
namespace Go.Proofs.Ytoechlmahckchaa
open Go.RowKit

theorem runL_junk (last : Bool) : ∀ (js m : List UInt8) (b : Nat), (∀ x ∈ js, x ≠ 181) → b + js.length ≤ 1073741823 → runL last (js ++ m) b = runL last m (b + js.length)
  | [], m, b, _, _ => rfl
  | x :: r, m, b, h, hb => by
    simp only [List.length_cons] at hb
    have hu : upB b = b + 1 := by unfold upB; omega
    rw [List.cons_append, runL_none (look_far (h x (by simp)) _) (.inl rfl), runL_junk last r m (upB b) (fun y hy => h y (by simp [hy])) (by omega), hu, List.length_cons]
    congr 1
    omega
/-- Few bytes are none when nothing comes behind them. -/
theorem runL_short : ∀ (l : List UInt8) (b : Nat), l.length ≤ 4 → b + l.length ≤ 1073741823 → runL true l b = ([], [], b + l.length)
  | [], b, _, _ => rfl
  | x :: t, b, h, hb => by
    obtain ⟨st, o, k, hk⟩ : ∃ st o k, lookL (x :: t) = (st, o, k) := ⟨_, _, _, rfl⟩
    simp only [List.length_cons] at h hb
    have hu : upB b = b + 1 := by unfold upB; omega
    have hs : st = 0 ∨ (st = 2 ∧ true = true) := by
      rcases look_cases (x :: t) with ⟨h1, _⟩ | ⟨h1, _⟩ | ⟨o', r, hM, e, h1, _⟩
      · rw [hk] at h1; injection h1 with h1; exact .inr ⟨h1, rfl⟩
      · rw [hk] at h1; injection h1 with h1; exact .inl h1
      · have h5 := frameO_len hM
        have : (x :: t).length = (frameO o').length + r.length := by rw [e]; simp
        simp only [List.length_cons] at this
        omega
    rw [runL_none hk hs, runL_short t (upB b) (by omega) (by omega), hu, List.length_cons]
    simp only [Prod.mk.injEq, true_and]
    omega
theorem encX_head (x : Int) (c : UInt8) (hx : (foldI x).toNat = c.toNat) (hc : c.toNat < 128) : encX x = [c] := by
  show encL (foldI x).toNat = [c]
  rw [hx, encL_end hc]
  simp
/-- A body that begins with another kind is no operation. -/
theorem getO_99 (t : List UInt8) : ∃ x z, getO (99 :: t) = (x, z) ∧ z ≠ 0 := by
  rcases getO_back (99 :: t) with ⟨kd, so, se, ti, va, hM, hg, he⟩ | hg
  · exfalso
    have hk : kd = 0 ∨ kd = 1 ∨ kd = 2 := by have := hM.wide; omega
    rcases hk with rfl | rfl | rfl
    · rw [show numsO 0 so se ti va = 0 :: [so, se, ti, va] from rfl, encs_cons, encX_head 0 0 (by decide) (by decide)] at he
      simp at he
    · rw [show numsO 1 so se ti va = 1 :: [so, ti] from rfl, encs_cons, encX_head 1 2 (by decide) (by decide)] at he
      simp at he
    · rw [show numsO 2 so se ti va = 2 :: [] from rfl, encs_cons, encX_head 2 4 (by decide) (by decide)] at he
      simp at he
  · exact ⟨_, _, hg, by decide⟩
/-- The body of a frame that is no operation, with one within it. -/
def bodyF (k : Nat) (F : List UInt8) : List UInt8 := 99 :: (List.replicate k 0 ++ F)
theorem bodyF_len (k : Nat) (F : List UInt8) : (bodyF k F).length = 1 + k + F.length := by simp [bodyF]; omega
theorem all_false {o : Po} (hM : MayP o) (hl : (frameO o).length ≤ 40) {k : Nat} (hk : k ≤ 7) : allL (putL (bodyF k (frameO o))) 0 = [badP (3 + k), o, badP 2] := by
  have hB := bodyF_len k (frameO o)
  have h5 := frameO_len hM
  obtain ⟨x, z, hg, hz⟩ := getO_99 (List.replicate k 0 ++ frameO o)
  have hlook : lookL (putL (bodyF k (frameO o))) = (0, noP, 0) := by
    have h := getL_put (l := bodyF k (frameO o)) (by omega) (by omega) []
    rw [List.append_nil] at h
    exact look_no h hg hz
  obtain ⟨hh, ll, he⟩ : ∃ hh ll : UInt8, putL (bodyF k (frameO o)) = 181 :: ((UInt8.ofNat (1 + k + (frameO o).length) :: 99 :: List.replicate k 0) ++ (frameO o ++ [hh, ll])) := by
    refine ⟨UInt8.ofNat (sumL (lenL (bodyF k (frameO o))) / 256), UInt8.ofNat (sumL (lenL (bodyF k (frameO o))) % 256), ?_⟩
    rw [putL_eq, hB]
    generalize UInt8.ofNat (sumL (lenL (bodyF k (frameO o))) / 256) = p1
    generalize UInt8.ofNat (sumL (lenL (bodyF k (frameO o))) % 256) = p2
    simp only [bodyF, List.cons_append, List.append_assoc]
  unfold allL
  rw [he] at hlook ⊢
  have hu : upB 0 = 1 := by decide
  have hj : ∀ y ∈ UInt8.ofNat (1 + k + (frameO o).length) :: 99 :: List.replicate k 0, y ≠ 181 := by
    intro y hy
    simp only [List.mem_cons, List.mem_replicate] at hy
    rcases hy with rfl | rfl | ⟨_, rfl⟩
    · intro e
      have := congrArg UInt8.toNat e
      rw [UInt8.toNat_ofNat'] at this
      have h181 : (181 : UInt8).toNat = 181 := rfl
      omega
    · decide
    · decide
  have hjl : (UInt8.ofNat (1 + k + (frameO o).length) :: 99 :: List.replicate k 0).length = 2 + k := by simp; omega
  rw [runL_none hlook (.inl rfl), hu, runL_junk true _ _ 1 hj (by omega), hjl, runL_op (look_frame hM [hh, ll]) (by omega), List.drop_left' rfl, runL_short [hh, ll] 0 (by simp) (by simp)]
  have e1 : tellB (1 + (2 + k)) = [badP (3 + k)] := by
    unfold tellB
    rw [if_neg (by omega), show 1 + (2 + k) = 3 + k by omega]
  have e2 : tellB (0 + ([hh, ll] : List UInt8).length) = [badP 2] := rfl
  simp only [e1, e2]
  rfl
/-- An operation's bytes alone. -/
theorem run_frame {o : Po} (hM : MayP o) : runL false (frameO o) 0 = ([o], [], 0) := by
  have h := look_frame hM []
  rw [List.append_nil] at h
  have h5 := frameO_len hM
  rw [runL_op h (by omega), List.drop_length, runL_nil]
  rfl

end Go.Proofs.Ytoechlmahckchaa
