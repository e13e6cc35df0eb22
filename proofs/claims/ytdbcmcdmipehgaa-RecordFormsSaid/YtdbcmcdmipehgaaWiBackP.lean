/-
  There and back, cut, and back and there: plain facts of an operation's bytes. No program here.
-/
import Derived.Test.YtdbcmcdmipehgaaWiP
import Derived.Test.YtdbcmcdmipehgaaVBack
import Derived.Test.YtdbcmcdmipehgaaPure
namespace Go.Proofs.Ytdbcmcdmipehgaa

def InI (x : Int) : Prop := -9223372036854775808 ≤ x ∧ x ≤ 9223372036854775807
theorem encs_cons (x : Int) (r : List Int) : encs (x :: r) = encX x ++ encs r := rfl
theorem encs_one (x : Int) : encs [x] = encX x := by simp [encs, encX]
theorem encs_split (xs : List Int) {i : Nat} (h : i < xs.length) : encs xs = encs (xs.take i) ++ (encX xs[i] ++ encs (xs.drop (i + 1))) := by
  have e : xs = xs.take i ++ (xs[i] :: xs.drop (i + 1)) := by rw [← List.drop_eq_getElem_cons h, List.take_append_drop]
  conv => lhs; rw [e]
  rw [encs_append, encs_cons]
/-- Where the i-th number begins. -/
def posE (xs : List Int) (i : Nat) : Nat := (encs (xs.take i)).length
theorem posE_succ (xs : List Int) {i : Nat} (h : i < xs.length) : posE xs (i + 1) = posE xs i + (encX xs[i]).length := by
  unfold posE
  rw [List.take_succ_eq_append_getElem h, encs_append, List.length_append, encs_one]
theorem posE_zero (xs : List Int) : posE xs 0 = 0 := by simp [posE, encs]
theorem posE_all (xs : List Int) {i : Nat} (h : xs.length ≤ i) : posE xs i = (encs xs).length := by unfold posE; rw [List.take_of_length_le h]
theorem nextR_at {xs : List Int} (hx : ∀ x ∈ xs, InI x) {i : Nat} (h : i < xs.length) {n : Nat} (hn : posE xs (i + 1) ≤ n) : nextR ((encs xs).take n) (posE xs i) false = (xs[i], (posE xs (i + 1) : Int), false) := by
  have hi := hx xs[i] (List.getElem_mem h)
  have e := encs_split xs h
  have hp := posE_succ xs h
  rw [e]
  have e1 : (encs (xs.take i) ++ (encX xs[i] ++ encs (xs.drop (i + 1)))).take n = encs (xs.take i) ++ (encX xs[i] ++ (encs (xs.drop (i + 1))).take (n - posE xs (i + 1))) := by
    rw [List.take_append, List.take_of_length_le (show (encs (xs.take i)).length ≤ n by unfold posE at hn hp; omega), List.take_append, List.take_of_length_le (show (encX xs[i]).length ≤ n - (encs (xs.take i)).length by unfold posE at hn hp; omega)]
    congr 3
    unfold posE at hp ⊢
    omega
  rw [e1]
  have h2 := getT_encX hi.1 hi.2 (encs (xs.take i)) ((encs (xs.drop (i + 1))).take (n - posE xs (i + 1)))
  refine nextR_ok ?_
  have e2 : ((posE xs (i + 1) : Nat) : Int) = ((encs (xs.take i)).length : Int) + ((encX xs[i]).length : Int) := by rw [hp]; unfold posE; omega
  rw [e2]
  exact h2
theorem nextR_whole {xs : List Int} (hx : ∀ x ∈ xs, InI x) {i : Nat} (h : i < xs.length) : nextR (encs xs) (posE xs i) false = (xs[i], (posE xs (i + 1) : Int), false) := by
  have hle : posE xs (i + 1) ≤ (encs xs).length := by
    have e := encs_split xs h
    have hp := posE_succ xs h
    have : (encs xs).length = posE xs i + ((encX xs[i]).length + (encs (xs.drop (i + 1))).length) := by
      conv => lhs; rw [e]
      simp [posE]
    omega
  have := nextR_at hx h hle
  rwa [List.take_of_length_le (Nat.le_refl _)] at this
/-- A number that is cut. -/
theorem getT_short {pre : List UInt8} {x : Int} {m : Nat} (hx : InI x) (hm : m < (encX x).length) : getT (pre ++ (encX x).take m) pre.length = (0, 0, 701) := by
  obtain ⟨l, c, e, hl⟩ := encL_init _ (foldI x).toNat (Nat.le_refl _)
  have he : encX x = l ++ [c] := e
  have h10 := (encX_len hx.1 hx.2).2
  rw [he] at hm h10 ⊢
  simp only [List.length_append, List.length_cons, List.length_nil] at hm h10
  rw [List.take_append_of_le_length (by omega)]
  refine getT_err (e := 701) (by simp) (by decide) ?_
  rw [List.drop_left]
  exact decL_on _ 0 0 (fun b hb => hl b (List.mem_of_mem_take hb)) (by rw [List.length_take]; omega)
theorem nextR_cut {xs : List Int} (hx : ∀ x ∈ xs, InI x) {i : Nat} (h : i < xs.length) {n : Nat} (h1 : posE xs i ≤ n) (h2 : n < posE xs (i + 1)) : nextR ((encs xs).take n) (posE xs i) false = (0, (posE xs i : Int), true) := by
  have hi := hx xs[i] (List.getElem_mem h)
  have hp := posE_succ xs h
  have e1 : (encs xs).take n = encs (xs.take i) ++ (encX xs[i]).take (n - posE xs i) := by
    rw [encs_split xs h, List.take_append, List.take_of_length_le (show (encs (xs.take i)).length ≤ n by unfold posE at h1; omega), List.take_append_of_le_length (show n - (encs (xs.take i)).length ≤ (encX xs[i]).length by unfold posE at h1 h2 hp; omega)]
    rfl
  rw [e1]
  exact nextR_err (getT_short hi (by omega)) (by decide)

section
variable {kd so se ti va : Int} (hm : MayO kd so se ti va)
include hm
theorem numsO_in : ∀ x ∈ numsO kd so se ti va, InI x := by
  have h := hm.wide
  unfold numsO InI
  intro x hx
  split at hx
  · simp at hx; omega
  · split at hx
    · simp at hx; omega
    · simp at hx; omega
/-- What was written is read again. -/
theorem getO_put : getO (encs (numsO kd so se ti va)) = ((kd, so, se, ti, va), 0) := by
  have hin := numsO_in hm
  have hb := mayB_yes hm
  have hk : kd = 0 ∨ kd = 1 ∨ kd = 2 := by have := hm.wide; omega
  rcases hk with rfl | rfl | rfl
  · have e : numsO 0 so se ti va = [0, so, se, ti, va] := rfl
    rw [e] at hin ⊢
    have h0 := nextR_whole hin (i := 0) (by simp)
    have h1 := nextR_whole hin (i := 1) (by simp)
    have h2 := nextR_whole hin (i := 2) (by simp)
    have h3 := nextR_whole hin (i := 3) (by simp)
    have h4 := nextR_whole hin (i := 4) (by simp)
    rw [posE_zero] at h0
    rw [getO_0 h0 h1 h2 h3 h4]
    exact finO_yes (by rw [posE_all _ (by simp)]) hb
  · have e : numsO 1 so se ti va = [1, so, ti] := rfl
    have h3 : se = 0 ∧ va = 0 := by unfold MayO at hm; omega
    obtain ⟨rfl, rfl⟩ := h3
    rw [e] at hin ⊢
    have h0 := nextR_whole hin (i := 0) (by simp)
    have h1 := nextR_whole hin (i := 1) (by simp)
    have h2 := nextR_whole hin (i := 2) (by simp)
    rw [posE_zero] at h0
    rw [getO_1 h0 h1 h2]
    exact finO_yes (by rw [posE_all _ (by simp)]) hb
  · have e : numsO 2 so se ti va = [2] := rfl
    have h3 : so = 0 ∧ se = 0 ∧ ti = 0 ∧ va = 0 := by unfold MayO at hm; omega
    obtain ⟨rfl, rfl, rfl, rfl⟩ := h3
    rw [e] at hin ⊢
    have h0 := nextR_whole hin (i := 0) (by simp)
    rw [posE_zero] at h0
    rw [getO_2 h0 (by simp) (by simp)]
    exact finO_yes (by rw [posE_all _ (by simp)]) hb
/-- What is cut is none. -/
theorem getO_cut {n : Nat} (hn : n < (encs (numsO kd so se ti va)).length) : getO ((encs (numsO kd so se ti va)).take n) = ((0, 0, 0, 0, 0), 900) := by
  have hin := numsO_in hm
  have hk : kd = 0 ∨ kd = 1 ∨ kd = 2 := by have := hm.wide; omega
  rcases hk with rfl | rfl | rfl
  · have e : numsO 0 so se ti va = [0, so, se, ti, va] := rfl
    rw [e] at hin hn ⊢
    have z := posE_zero [0, so, se, ti, va]
    rw [← posE_all (i := 5) [0, so, se, ti, va] (by simp)] at hn
    by_cases c0 : n < posE [0, so, se, ti, va] 1
    · have h0 := nextR_cut hin (i := 0) (by simp) (by omega) c0
      rw [z] at h0
      rw [getO_0 h0 (nextR_bad _ _) (nextR_bad _ _) (nextR_bad _ _) (nextR_bad _ _)]
      exact finO_bad _ _ _ _ _ _ _
    · have h0 := nextR_at hin (i := 0) (by simp) (Nat.le_of_not_lt c0)
      rw [z] at h0
      by_cases c1 : n < posE [0, so, se, ti, va] 2
      · rw [getO_0 h0 (nextR_cut hin (i := 1) (by simp) (Nat.le_of_not_lt c0) c1) (nextR_bad _ _) (nextR_bad _ _) (nextR_bad _ _)]
        exact finO_bad _ _ _ _ _ _ _
      · have h1 := nextR_at hin (i := 1) (by simp) (Nat.le_of_not_lt c1)
        by_cases c2 : n < posE [0, so, se, ti, va] 3
        · rw [getO_0 h0 h1 (nextR_cut hin (i := 2) (by simp) (Nat.le_of_not_lt c1) c2) (nextR_bad _ _) (nextR_bad _ _)]
          exact finO_bad _ _ _ _ _ _ _
        · have h2 := nextR_at hin (i := 2) (by simp) (Nat.le_of_not_lt c2)
          by_cases c3 : n < posE [0, so, se, ti, va] 4
          · rw [getO_0 h0 h1 h2 (nextR_cut hin (i := 3) (by simp) (Nat.le_of_not_lt c2) c3) (nextR_bad _ _)]
            exact finO_bad _ _ _ _ _ _ _
          · have h3 := nextR_at hin (i := 3) (by simp) (Nat.le_of_not_lt c3)
            rw [getO_0 h0 h1 h2 h3 (nextR_cut hin (i := 4) (by simp) (Nat.le_of_not_lt c3) hn)]
            exact finO_bad _ _ _ _ _ _ _
  · have e : numsO 1 so se ti va = [1, so, ti] := rfl
    rw [e] at hin hn ⊢
    have z := posE_zero [1, so, ti]
    rw [← posE_all (i := 3) [1, so, ti] (by simp)] at hn
    by_cases c0 : n < posE [1, so, ti] 1
    · have h0 := nextR_cut hin (i := 0) (by simp) (by omega) c0
      rw [z] at h0
      rw [getO_0 h0 (nextR_bad _ _) (nextR_bad _ _) (nextR_bad _ _) (nextR_bad _ _)]
      exact finO_bad _ _ _ _ _ _ _
    · have h0 := nextR_at hin (i := 0) (by simp) (Nat.le_of_not_lt c0)
      rw [z] at h0
      by_cases c1 : n < posE [1, so, ti] 2
      · rw [getO_1 h0 (nextR_cut hin (i := 1) (by simp) (Nat.le_of_not_lt c0) c1) (nextR_bad _ _)]
        exact finO_bad _ _ _ _ _ _ _
      · have h1 := nextR_at hin (i := 1) (by simp) (Nat.le_of_not_lt c1)
        rw [getO_1 h0 h1 (nextR_cut hin (i := 2) (by simp) (Nat.le_of_not_lt c1) hn)]
        exact finO_bad _ _ _ _ _ _ _
  · have e : numsO 2 so se ti va = [2] := rfl
    rw [e] at hin hn ⊢
    have z := posE_zero [2]
    rw [← posE_all (i := 1) [2] (by simp)] at hn
    have h0 := nextR_cut hin (i := 0) (by simp) (by omega) hn
    rw [z] at h0
    rw [getO_0 h0 (nextR_bad _ _) (nextR_bad _ _) (nextR_bad _ _) (nextR_bad _ _)]
    exact finO_bad _ _ _ _ _ _ _
theorem encs_size : 0 < (encs (numsO kd so se ti va)).length ∧ (encs (numsO kd so se ti va)).length ≤ 50 := by
  have hin := numsO_in hm
  have pos : ∀ x r, (∀ y ∈ x :: r, InI y) → 0 < (encs (x :: r)).length := fun x r h => by
    have := (encX_len (h x (by simp)).1 (h x (by simp)).2).1
    rw [encs_cons, List.length_append]; omega
  have top : ∀ xs : List Int, (∀ y ∈ xs, InI y) → (encs xs).length ≤ 10 * xs.length := by
    intro xs
    induction xs with
    | nil => intro _; simp [encs]
    | cons x r ih =>
      intro h
      have h1 := ih (fun y hy => h y (by simp [hy]))
      have h2 := (encX_len (h x (by simp)).1 (h x (by simp)).2).2
      rw [encs_cons, List.length_append, List.length_cons]; omega
  have h2 := top _ hin
  refine ⟨?_, ?_⟩
  · unfold numsO at hin ⊢
    split at hin
    · rename_i h; rw [if_pos h]; exact pos _ _ hin
    · rename_i h
      rw [if_neg h]
      split at hin
      · rename_i h'; rw [if_pos h']; exact pos _ _ hin
      · rename_i h'; rw [if_neg h']; exact pos _ _ hin
  · have h3 : (numsO kd so se ti va).length ≤ 5 := by
      unfold numsO
      split
      · simp
      · split <;> simp
    omega
end

end Go.Proofs.Ytdbcmcdmipehgaa
