/-
  There and back, cut, too long: plain facts of a number's bytes. No program here.
-/
import Derived.Test.YtdbcmcdmipehgaaVEnc
namespace Go.Proofs.Ytdbcmcdmipehgaa

theorem ofNat_lt {u : Nat} (h : u < 256) : (UInt8.ofNat u).toNat = u := by simp; omega

/-- What was written is read again, whatever comes behind it. -/
theorem decL_enc (rest : List UInt8) : ∀ (n u k X : Nat), u ≤ n → X + u * 2 ^ (7 * k) < 18446744073709551616 → (0 < k → 0 < u) →
    decL k X (encL u ++ rest) = (X + u * 2 ^ (7 * k), k + (encL u).length, 0) := by
  intro n
  induction n with
  | zero =>
    intro u k X hn hu hk
    obtain rfl : u = 0 := by omega
    obtain rfl : k = 0 := by omega
    rw [encL_end (by omega)]
    have e : endB 0 ((UInt8.ofNat 0).toNat : Int) = true := by decide
    show decL 0 X (UInt8.ofNat 0 :: rest) = _
    rw [decL_end (by decide) (by decide) e]
    simp
  | succ n ih =>
    intro u k X hn hu hk
    have hk10 : k < 10 := by
      by_cases h : k < 10
      · exact h
      · exfalso
        have h1 := hk (by omega)
        have h2 : (2 : Nat) ^ 70 ≤ 2 ^ (7 * k) := Nat.pow_le_pow_right (by decide) (by omega)
        have h3 : 1 * 2 ^ (7 * k) ≤ u * 2 ^ (7 * k) := Nat.mul_le_mul_right _ h1
        have h4 : (18446744073709551616 : Nat) < 2 ^ 70 := by decide
        omega
    by_cases h : u < 128
    · rw [encL_end h]
      have hb := ofNat_lt (show u < 256 by omega)
      have h9 : k < 9 ∨ (u : Int) ≤ 1 := by
        by_cases h9 : k < 9
        · exact .inl h9
        · obtain rfl : k = 9 := by omega
          simp only [show 7 * 9 = 63 by decide] at hu
          omega
      have he : endB k ((UInt8.ofNat u).toNat : Int) = true := by
        rw [hb]
        exact endB_true (by rintro ⟨h1, h2⟩; have := hk h1; omega) h9
      show decL k X (UInt8.ofNat u :: rest) = _
      rw [decL_end hk10 (by rw [hb]; omega) he, hb, Nat.mod_eq_of_lt h, Nat.mod_eq_of_lt (by omega)]
      rfl
    · have hb := ofNat_lt (show u % 128 + 128 < 256 by omega)
      have hp : 2 ^ (7 * (k + 1)) = 128 * 2 ^ (7 * k) := by rw [show 7 * (k + 1) = 7 + 7 * k by omega, Nat.pow_add]
      have hsum : u % 128 * 2 ^ (7 * k) + u / 128 * 2 ^ (7 * (k + 1)) = u * 2 ^ (7 * k) := by
        rw [hp, ← Nat.mul_assoc, ← Nat.add_mul]
        congr 1
        omega
      rw [encL_more h]
      show decL k X (UInt8.ofNat (u % 128 + 128) :: (encL (u / 128) ++ rest)) = _
      rw [decL_more hk10 (by rw [hb]; omega), hb, show (u % 128 + 128) % 128 = u % 128 by omega, Nat.mod_eq_of_lt (by omega),
        ih (u / 128) (k + 1) _ (by omega) (by omega) (fun _ => by omega)]
      simp only [List.length_cons]
      rw [Prod.mk.injEq, Prod.mk.injEq]
      refine ⟨by omega, by omega, rfl⟩

/-- Bytes that all go on: cut, or too long. -/
theorem decL_on : ∀ (l : List UInt8) (k X : Nat), (∀ b ∈ l, 128 ≤ b.toNat) → k + l.length < 10 → decL k X l = (0, 0, 701)
  | [], k, X, _, h => decL_cut (by simpa using h)
  | b :: l, k, X, hl, h => by
    simp only [List.length_cons] at h
    rw [decL_more (by omega) (hl b (by simp))]
    exact decL_on l (k + 1) _ (fun c hc => hl c (by simp [hc])) (by omega)
theorem decL_long : ∀ (l : List UInt8) (t : List UInt8) (k X : Nat), (∀ b ∈ l, 128 ≤ b.toNat) → 10 ≤ k + l.length → decL k X (l ++ t) = (0, 0, 700)
  | [], t, k, X, _, h => decL_form (by simpa using h) t
  | b :: l, t, k, X, hl, h => by
    simp only [List.length_cons] at h
    by_cases hk : 10 ≤ k
    · exact decL_form hk _
    · show decL k X (b :: (l ++ t)) = _
      rw [decL_more (by omega) (hl b (by simp))]
      exact decL_long l t (k + 1) _ (fun c hc => hl c (by simp [hc])) (by omega)
theorem decL_then : ∀ (l : List UInt8) (t : List UInt8) (c : UInt8) (k X : Nat), (∀ b ∈ l, 128 ≤ b.toNat) → k + l.length < 10 → ¬ 128 ≤ c.toNat →
    (endB (k + l.length) c.toNat = false → decL k X (l ++ c :: t) = (0, 0, 700)) ∧ (endB (k + l.length) c.toNat = true → ∃ u, decL k X (l ++ c :: t) = (u, k + l.length + 1, 0))
  | [], t, c, k, X, _, h, hc => by
    have h' : k < 10 := by simpa using h
    exact ⟨fun he => decL_bad h' hc he t, fun he => ⟨_, decL_end h' hc he t⟩⟩
  | b :: l, t, c, k, X, hl, h, hc => by
    simp only [List.length_cons] at h
    have ih := decL_then l t c (k + 1) (X + b.toNat % 128 * 2 ^ (7 * k) % 18446744073709551616) (fun c hc => hl c (by simp [hc])) (by omega) hc
    have e : (b :: l).length = l.length + 1 := rfl
    rw [e, show k + (l.length + 1) = k + 1 + l.length by omega]
    show (_ → decL k X (b :: (l ++ c :: t)) = _) ∧ (_ → ∃ u, decL k X (b :: (l ++ c :: t)) = _)
    rw [decL_more (by omega) (hl b (by simp))]
    exact ih
/-- All bytes but the last one go on. -/
theorem encL_init : ∀ (n u : Nat), u ≤ n → ∃ l c, encL u = l ++ [c] ∧ ∀ b ∈ l, 128 ≤ b.toNat
  | n, u, hn => by
    by_cases h : u < 128
    · exact ⟨[], _, encL_end h, by simp⟩
    · cases n with
      | zero => omega
      | succ n =>
        obtain ⟨l, c, e, hl⟩ := encL_init n (u / 128) (by omega)
        refine ⟨UInt8.ofNat (u % 128 + 128) :: l, c, by rw [encL_more h, e]; rfl, fun b hb => ?_⟩
        rcases List.mem_cons.1 hb with rfl | hb
        · rw [ofNat_lt (by omega)]; omega
        · exact hl b hb
/-- So many bytes. -/
theorem encL_count : ∀ (n u : Nat), 2 ^ (7 * (n + 1)) ≤ u → u < 2 ^ (7 * (n + 2)) → (encL u).length = n + 2
  | 0, u, h1, h2 => by
    simp only [show 7 * (0 + 1) = 7 by decide] at h1
    simp only [show 7 * (0 + 2) = 14 by decide] at h2
    rw [encL_more (by omega), encL_end (by omega)]
    rfl
  | n + 1, u, h1, h2 => by
    have p1 : 2 ^ (7 * (n + 1 + 1)) = 2 ^ (7 * (n + 1)) * 128 := by rw [show 7 * (n + 1 + 1) = 7 * (n + 1) + 7 by omega, Nat.pow_add]
    have p2 : 2 ^ (7 * (n + 1 + 2)) = 2 ^ (7 * (n + 2)) * 128 := by rw [show 7 * (n + 1 + 2) = 7 * (n + 2) + 7 by omega, Nat.pow_add]
    have p3 : 0 < 2 ^ (7 * (n + 1)) := Nat.two_pow_pos _
    rw [encL_more (by omega), List.length_cons, encL_count n (u / 128) (by omega) (by omega)]

/-- The bytes of x. -/
def encX (x : Int) : List UInt8 := encL (foldI x).toNat
theorem encS_list (x : Int) : (encS x).data.toList = encX x := by simp [encS, encX]
theorem encS_size (x : Int) : (encS x).size = (encX x).length := by
  show (encL (foldI x).toNat).toArray.size = _
  simp [encX]
section
variable {x y : Int} (l : -9223372036854775808 ≤ x) (u : x ≤ 9223372036854775807)
include l u
theorem encX_len : 0 < (encX x).length ∧ (encX x).length ≤ 10 := by
  have := foldI_bd l u
  refine ⟨List.length_pos_iff.2 (encL_ne _), encL_len (by omega)⟩
theorem dec_encX (rest : List UInt8) : decL 0 0 (encX x ++ rest) = ((foldI x).toNat, (encX x).length, 0) := by
  have := foldI_bd l u
  have h := decL_enc rest _ (foldI x).toNat 0 0 (Nat.le_refl _) (by simp; omega) (by omega)
  unfold encX
  rw [h]
  simp
theorem unf_encX : unfI ((foldI x).toNat : Int) = x := by
  have := foldI_bd l u
  rw [Int.toNat_of_nonneg (by omega), unf_fold]
theorem getT_encX (pre rest : List UInt8) : getT (pre ++ (encX x ++ rest)) pre.length = (x, (pre.length : Int) + (encX x).length, 0) := by
  have h : decL 0 0 ((pre ++ (encX x ++ rest)).drop pre.length) = ((foldI x).toNat, (encX x).length, 0) := by
    rw [List.drop_left]; exact dec_encX l u rest
  rw [getT_ok (by simp) h, unf_encX l u]
theorem getT_cut : getT ((encX x).take ((encX x).length - 1)) 0 = (0, 0, 701) := by
  obtain ⟨i, c, e, hi⟩ := encL_init _ (foldI x).toNat (Nat.le_refl _)
  have hl := (encX_len l u).2
  have he : encX x = i ++ [c] := e
  rw [he] at hl ⊢
  have e1 : (i ++ [c]).take ((i ++ [c]).length - 1) = i := by simp
  rw [e1]
  simp only [List.length_append, List.length_cons, List.length_nil] at hl
  exact getT_err (e := 701) (a := 0) (by omega) (by decide) (by rw [List.drop_zero]; exact decL_on i 0 0 hi (by omega))
theorem encX_inj (l2 : -9223372036854775808 ≤ y) (u2 : y ≤ 9223372036854775807) (h : encX x = encX y) : x = y := by
  have h1 := dec_encX l u []
  have h2 := dec_encX l2 u2 []
  rw [h, h2] at h1
  have h3 := unf_encX l u
  have h4 := unf_encX l2 u2
  injection h1 with h5
  rw [← h3, ← h4, h5]
end
theorem encS_inj {x y : Int} (l : -9223372036854775808 ≤ x) (u : x ≤ 9223372036854775807) (l2 : -9223372036854775808 ≤ y) (u2 : y ≤ 9223372036854775807) (h : encS x = encS y) : x = y :=
  encX_inj l u l2 u2 (by rw [← encS_list, ← encS_list, h])

end Go.Proofs.Ytdbcmcdmipehgaa
