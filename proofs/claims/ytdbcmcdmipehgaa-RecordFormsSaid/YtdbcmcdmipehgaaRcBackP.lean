/-
  Records' bytes: there and back, cut, back and there: plain facts. No program here.
-/
import Derived.Test.YtdbcmcdmipehgaaWiBackR
import Derived.Test.YtdbcmcdmipehgaaRcP
namespace Go.Proofs.Ytdbcmcdmipehgaa

/-- Bytes that begin with numbers' bytes, and are numbers' bytes. -/
theorem encs_prefix : ∀ (ys xs : List Int) (t : List UInt8), (∀ y ∈ ys, InI y) → (∀ x ∈ xs, InI x) → encs ys ++ t = encs xs → ∃ zs, xs = ys ++ zs ∧ t = encs zs
  | [], xs, t, _, _, h => ⟨xs, rfl, h⟩
  | y :: r, [], t, hy, _, h => by
    have hp := (encX_len (hy y (by simp)).1 (hy y (by simp)).2).1
    have := congrArg List.length h
    rw [encs_cons] at this
    simp only [encs, List.length_append, List.length_nil] at this
    omega
  | y :: r, x :: q, t, hy, hx, h => by
    rw [encs_cons, encs_cons, List.append_assoc] at h
    have h1 := getT_encX (hy y (by simp)).1 (hy y (by simp)).2 [] (encs r ++ t)
    have h2 := getT_encX (hx x (by simp)).1 (hx x (by simp)).2 [] (encs q)
    rw [List.nil_append] at h1 h2
    rw [h, h2] at h1
    simp only [Prod.mk.injEq] at h1
    obtain rfl := h1.1
    have h3 := List.append_cancel_left h
    obtain ⟨zs, e, et⟩ := encs_prefix r q t (fun y hy' => hy y (by simp [hy'])) (fun x hx' => hx x (by simp [hx'])) h3
    exact ⟨zs, by rw [e]; rfl, et⟩

theorem readN_whole {xs : List Int} (hx : ∀ x ∈ xs, InI x) {i n : Nat} (h : i + n ≤ xs.length) : readN (encs xs) n (posE xs i) false = ((xs.drop i).take n, (posE xs (i + n) : Int), false) := by
  induction n with
  | zero => simp [readN]
  | succ n ih =>
    rw [readN_succ (ih (by omega)) (nextR_whole hx (i := i + n) (by omega))]
    have e : (xs.drop i).take (n + 1) = (xs.drop i).take n ++ [xs[i + n]] := by
      rw [List.take_succ_eq_append_getElem (by rw [List.length_drop]; omega), List.getElem_drop]
    rw [e]
    rfl
theorem readN_good {l : List UInt8} {xs : List Int} {a a' : Int} {b : Bool} {n : Nat} {hs : List Int} (hr : Red l xs a) (h : readN l n a b = (hs, a', false)) : b = false ∧ Red l (xs ++ hs) a' := by
  induction n generalizing a' hs with
  | zero =>
    simp only [readN, Prod.mk.injEq] at h
    obtain ⟨rfl, rfl, rfl⟩ := h
    exact ⟨rfl, by rw [List.append_nil]; exact hr⟩
  | succ n ih =>
    obtain ⟨h1, a1, b1, e1⟩ : ∃ h a' b', readN l n a b = (h, a', b') := ⟨_, _, _, rfl⟩
    obtain ⟨x, a2, b2, e2⟩ : ∃ x a b, nextR l a1 b1 = (x, a, b) := ⟨_, _, _, rfl⟩
    rw [readN_succ e1 e2] at h
    simp only [Prod.mk.injEq] at h
    obtain ⟨rfl, rfl, rfl⟩ := h
    obtain ⟨rfl, _⟩ := nextR_good e2
    obtain ⟨rfl, hr2⟩ := ih e1
    exact ⟨rfl, by rw [← List.append_assoc]; exact hr2.next e2⟩

section
variable {r : Rc} (hm : MayR r)
include hm
theorem numsR_in : ∀ x ∈ numsR r, InI x := by
  intro x hx
  unfold MayR ResM OutM SamM NoX NoS at hm
  unfold numsR bitI at hx
  unfold InI
  split at hx
  · have h0 : r.kd = 0 := by assumption
    have hm' := hm.resolve_right (by omega)
    rw [List.mem_append] at hx
    rcases hx with hx | hx
    · simp only [List.mem_cons, List.not_mem_nil, or_false] at hx
      have hl := hm'.2.1.2.2.2.2.2.2.1
      split at hx <;> omega
    · have := hm'.2.1.2.2.2.2.2.2.2.1 x hx
      omega
  · split at hx
    · simp only [List.mem_cons, List.not_mem_nil, or_false] at hx
      omega
    · split at hx
      · simp only [List.mem_cons, List.not_mem_nil, or_false] at hx
        omega
      · simp only [List.mem_cons, List.not_mem_nil, or_false] at hx
        omega
/-- What was written is read again. -/
theorem getR_put : getR (encs (numsR r)) = (r, 0) := by
  have hin := numsR_in hm
  have hb := mayR_yes hm
  obtain ⟨kd, qu, sr, st, en, va, ov, hs, se, ti, sq, bd⟩ := r
  have hk : kd = 0 ∨ (kd = 1 ∨ kd = 2 ∨ kd = 3) ∨ kd = 4 ∨ kd = 5 := by have := hm.kinds; simp only at this; omega
  unfold MayR at hm
  simp only at hm
  rcases hk with rfl | hk | rfl | rfl
  · have hm' := hm.resolve_right (by omega)
    obtain ⟨_, hR, hS, rfl⟩ := hm'
    obtain ⟨rfl, rfl, rfl⟩ := hS
    have e : numsR ⟨0, qu, sr, st, en, va, ov, hs, 0, 0, 0, 0⟩ = 0 :: qu :: sr :: st :: en :: va :: bitI ov :: (hs.length : Int) :: hs := rfl
    rw [e] at hin ⊢
    generalize hxs : (0 :: qu :: sr :: st :: en :: va :: bitI ov :: (hs.length : Int) :: hs : List Int) = xs at hin ⊢
    have hl : xs.length = hs.length + 8 := by rw [← hxs]; simp
    have h0 := nextR_whole hin (i := 0) (by omega)
    have h1 := nextR_whole hin (i := 1) (by omega)
    have h2 := nextR_whole hin (i := 2) (by omega)
    have h3 := nextR_whole hin (i := 3) (by omega)
    have h4 := nextR_whole hin (i := 4) (by omega)
    have h5 := nextR_whole hin (i := 5) (by omega)
    have h6 := nextR_whole hin (i := 6) (by omega)
    have h7 := nextR_whole hin (i := 7) (by omega)
    have h8 := readN_whole hin (i := 8) (n := hs.length) (by omega)
    have g0 : xs[0]'(by omega) = 0 := by subst hxs; rfl
    have g1 : xs[1]'(by omega) = qu := by subst hxs; rfl
    have g2 : xs[2]'(by omega) = sr := by subst hxs; rfl
    have g3 : xs[3]'(by omega) = st := by subst hxs; rfl
    have g4 : xs[4]'(by omega) = en := by subst hxs; rfl
    have g5 : xs[5]'(by omega) = va := by subst hxs; rfl
    have g6 : xs[6]'(by omega) = bitI ov := by subst hxs; rfl
    have g7 : xs[7]'(by omega) = (hs.length : Int) := by subst hxs; rfl
    have g8 : (xs.drop 8).take hs.length = hs := by subst hxs; simp
    rw [posE_zero, g0] at h0
    rw [g1] at h1; rw [g2] at h2; rw [g3] at h3; rw [g4] at h4; rw [g5] at h5; rw [g6] at h6; rw [g7] at h7; rw [g8] at h8
    have hf : FormX (bitI ov) hs.length := by
      have := hR.2.2.2.2.2.2.1
      unfold FormX bitI
      split <;> omega
    have eo : decide (bitI ov = 1) = ov := by cases ov <;> rfl
    have h8' : readN (encs xs) (hs.length : Int).toNat (posE xs 8) false = (hs, (posE xs (8 + hs.length) : Int), false) := by rw [Int.toNat_natCast]; exact h8
    rw [getR_0 h0 h1 h2 h3 h4 h5 h6 h7 hf h8', eo]
    exact finR_yes (by rw [posE_all _ (by omega)]) hb
  · have hm' := (hm.resolve_left (by omega)).resolve_right (by omega)
    obtain ⟨_, _, hN, rfl⟩ := hm'
    obtain ⟨rfl, rfl, rfl, rfl, rfl, rfl, rfl⟩ := hN
    have e : numsR ⟨kd, 0, 0, 0, 0, 0, false, [], se, ti, sq, 0⟩ = [kd, se, ti, sq] := by
      unfold numsR
      rw [if_neg (by simp only; omega), if_pos (by simpa using hk)]
    rw [e] at hin ⊢
    have h0 := nextR_whole hin (i := 0) (by simp)
    have h1 := nextR_whole hin (i := 1) (by simp)
    have h2 := nextR_whole hin (i := 2) (by simp)
    have h3 := nextR_whole hin (i := 3) (by simp)
    rw [posE_zero] at h0
    rw [getR_1 hk h0 h1 h2 h3]
    exact finR_yes (by rw [posE_all _ (by simp)]) hb
  · have hm' := ((hm.resolve_left (by omega)).resolve_left (by omega)).resolve_right (by omega)
    obtain ⟨_, hN, hS, rfl⟩ := hm'
    obtain ⟨rfl, rfl, rfl, rfl, rfl, rfl, rfl⟩ := hN
    obtain ⟨rfl, rfl, rfl⟩ := hS
    have e : numsR ⟨4, 0, 0, 0, 0, 0, false, [], 0, 0, 0, 0⟩ = [4] := by simp [numsR]
    rw [e] at hin ⊢
    have h0 := nextR_whole hin (i := 0) (by simp)
    rw [posE_zero] at h0
    rw [getR_n h0 (by simp) (by simp) (by simp)]
    exact finR_yes (by rw [posE_all _ (by simp)]) hb
  · have hm' := ((hm.resolve_left (by omega)).resolve_left (by omega)).resolve_left (by omega)
    obtain ⟨_, _, hN, hS⟩ := hm'
    obtain ⟨rfl, rfl, rfl, rfl, rfl, rfl, rfl⟩ := hN
    obtain ⟨rfl, rfl, rfl⟩ := hS
    have e : numsR ⟨5, 0, 0, 0, 0, 0, false, [], 0, 0, 0, bd⟩ = [5, bd] := by simp [numsR]
    rw [e] at hin ⊢
    have h0 := nextR_whole hin (i := 0) (by simp)
    have h1 := nextR_whole hin (i := 1) (by simp)
    rw [posE_zero] at h0
    rw [getR_5 h0 h1]
    exact finR_yes (by rw [posE_all _ (by simp)]) hb
end
/-- What is read is a record whose bytes these are; or nothing is read. -/
theorem getR_back (l : List UInt8) : (∃ r, MayR r ∧ getR l = (r, 0) ∧ encs (numsR r) = l) ∨ getR l = (zeroR, 1000) := by
  obtain ⟨x0, a0, b0, h0⟩ : ∃ x a b, nextR l 0 false = (x, a, b) := ⟨_, _, _, rfl⟩
  obtain ⟨x1, a1, b1, h1⟩ : ∃ x a b, nextR l a0 b0 = (x, a, b) := ⟨_, _, _, rfl⟩
  by_cases e0 : x0 = 0
  · subst e0
    obtain ⟨x2, a2, b2, h2⟩ : ∃ x a b, nextR l a1 b1 = (x, a, b) := ⟨_, _, _, rfl⟩
    obtain ⟨x3, a3, b3, h3⟩ : ∃ x a b, nextR l a2 b2 = (x, a, b) := ⟨_, _, _, rfl⟩
    obtain ⟨x4, a4, b4, h4⟩ : ∃ x a b, nextR l a3 b3 = (x, a, b) := ⟨_, _, _, rfl⟩
    obtain ⟨x5, a5, b5, h5⟩ : ∃ x a b, nextR l a4 b4 = (x, a, b) := ⟨_, _, _, rfl⟩
    obtain ⟨x6, a6, b6, h6⟩ : ∃ x a b, nextR l a5 b5 = (x, a, b) := ⟨_, _, _, rfl⟩
    obtain ⟨x7, a7, b7, h7⟩ : ∃ x a b, nextR l a6 b6 = (x, a, b) := ⟨_, _, _, rfl⟩
    by_cases hf : FormX x6 x7
    · obtain ⟨hs, a8, b8, h8⟩ : ∃ x a b, readN l x7.toNat a7 b7 = (x, a, b) := ⟨_, _, _, rfl⟩
      rw [getR_0 h0 h1 h2 h3 h4 h5 h6 h7 hf h8]
      rcases finR_cases l ⟨0, x1, x2, x3, x4, x5, decide (x6 = 1), hs, 0, 0, 0, 0⟩ a8 b8 with ⟨rfl, ha, hm, hf2⟩ | hf2
      · have hlen := readN_length h8
        have hb7 : b7 = false := by
          cases b7 with
          | false => rfl
          | true =>
            exfalso
            have stay : ∀ n, (readN l n a7 true).2.2 = true := by
              intro n
              induction n with
              | zero => rfl
              | succ n ih => simp [readN, ih, nextR_bad]
            have := stay x7.toNat
            rw [h8] at this
            simp at this
        subst hb7
        obtain ⟨rfl, _⟩ := nextR_good h7
        obtain ⟨rfl, _⟩ := nextR_good h6
        obtain ⟨rfl, _⟩ := nextR_good h5
        obtain ⟨rfl, _⟩ := nextR_good h4
        obtain ⟨rfl, _⟩ := nextR_good h3
        obtain ⟨rfl, _⟩ := nextR_good h2
        obtain ⟨rfl, _⟩ := nextR_good h1
        have hr := (readN_good ((((((((Red.zero l).next h0).next h1).next h2).next h3).next h4).next h5).next h6 |>.next h7) h8).2.all ha
        refine .inl ⟨_, hm, hf2, ?_⟩
        rw [hr]
        unfold FormX at hf
        have e7 : x7 = (hs.length : Int) := by omega
        have e6 : bitI (decide (x6 = 1)) = x6 := by
          unfold bitI
          by_cases h : x6 = 1
          · simp [h]
          · simp [h]; omega
        simp only [numsR, if_true, e6, e7, List.nil_append, List.cons_append]
      · exact .inr hf2
    · exact .inr (getR_0x h0 h1 h2 h3 h4 h5 h6 h7 hf)
  · by_cases e1 : x0 = 1 ∨ x0 = 2 ∨ x0 = 3
    · obtain ⟨x2, a2, b2, h2⟩ : ∃ x a b, nextR l a1 b1 = (x, a, b) := ⟨_, _, _, rfl⟩
      obtain ⟨x3, a3, b3, h3⟩ : ∃ x a b, nextR l a2 b2 = (x, a, b) := ⟨_, _, _, rfl⟩
      rw [getR_1 e1 h0 h1 h2 h3]
      rcases finR_cases l ⟨x0, 0, 0, 0, 0, 0, false, [], x1, x2, x3, 0⟩ a3 b3 with ⟨rfl, ha, hm, hf2⟩ | hf2
      · obtain ⟨rfl, _⟩ := nextR_good h3
        obtain ⟨rfl, _⟩ := nextR_good h2
        obtain ⟨rfl, _⟩ := nextR_good h1
        refine .inl ⟨_, hm, hf2, ?_⟩
        have hr := ((((Red.zero l).next h0).next h1).next h2 |>.next h3).all ha
        rw [hr]
        unfold numsR
        rw [if_neg e0, if_pos e1]
        rfl
      · exact .inr hf2
    · by_cases e5 : x0 = 5
      · subst e5
        rw [getR_5 h0 h1]
        rcases finR_cases l ⟨5, 0, 0, 0, 0, 0, false, [], 0, 0, 0, x1⟩ a1 b1 with ⟨rfl, ha, hm, hf2⟩ | hf2
        · obtain ⟨rfl, _⟩ := nextR_good h1
          refine .inl ⟨_, hm, hf2, ?_⟩
          have hr := (((Red.zero l).next h0).next h1).all ha
          rw [hr]
          simp [numsR]
        · exact .inr hf2
      · rw [getR_n h0 e0 e1 e5]
        rcases finR_cases l ⟨x0, 0, 0, 0, 0, 0, false, [], 0, 0, 0, 0⟩ a0 b0 with ⟨rfl, ha, hm, hf2⟩ | hf2
        · refine .inl ⟨_, hm, hf2, ?_⟩
          have hr := ((Red.zero l).next h0).all ha
          rw [hr]
          unfold numsR
          rw [if_neg e0, if_neg e1, if_neg e5]
          rfl
        · exact .inr hf2
/-- No record's numbers begin with another one's and go on. -/
theorem numsR_on {r q : Rc} {zs : List Int} (e : numsR r = numsR q ++ zs) : zs = [] := by
  have hk : q.kd = r.kd := by
    have : ∀ x : Rc, ∃ t, numsR x = x.kd :: t := by
      intro x
      unfold numsR
      split
      · rename_i h0; exact ⟨_, by rw [h0]; rfl⟩
      · split
        · exact ⟨_, rfl⟩
        · split
          · rename_i h0; exact ⟨_, by rw [h0]⟩
          · exact ⟨_, rfl⟩
    obtain ⟨t, et⟩ := this r
    obtain ⟨t', et'⟩ := this q
    rw [et, et'] at e
    simp only [List.cons_append, List.cons.injEq] at e
    exact e.1.symm
  have hl := congrArg List.length e
  unfold numsR at e hl
  rw [hk] at e hl
  split at e
  · rename_i h0
    rw [if_pos h0, if_pos h0] at hl
    simp only [List.cons_append, List.nil_append, List.cons.injEq] at e
    have e7 := e.2.2.2.2.2.2.2.1
    simp at hl
    exact List.eq_nil_of_length_eq_zero (by omega)
  · rename_i h0
    rw [if_neg h0, if_neg h0] at hl
    split at e
    · rename_i h1
      rw [if_pos h1, if_pos h1] at hl
      simpa using hl
    · rename_i h1
      rw [if_neg h1, if_neg h1] at hl
      split at e
      · rename_i h5
        rw [if_pos h5, if_pos h5] at hl
        simpa using hl
      · rename_i h5
        rw [if_neg h5, if_neg h5] at hl
        simpa using hl
/-- What is cut is none. -/
theorem getR_cut {r : Rc} (hm : MayR r) {n : Nat} (hn : n < (encs (numsR r)).length) : getR ((encs (numsR r)).take n) = (zeroR, 1000) := by
  rcases getR_back ((encs (numsR r)).take n) with ⟨q, hq, _, e⟩ | h
  · exfalso
    have e2 : encs (numsR q) ++ (encs (numsR r)).drop n = encs (numsR r) := by rw [e, List.take_append_drop]
    obtain ⟨zs, e3, e4⟩ := encs_prefix _ _ _ (numsR_in hq) (numsR_in hm) e2
    have := numsR_on e3
    subst this
    have h5 := congrArg List.length e4
    simp only [encs, List.length_drop, List.length_nil] at h5
    omega
  · exact h
end Go.Proofs.Ytdbcmcdmipehgaa
