/-
  What is read is written as it stood: plain facts. No program here.
-/
import Derived.Test.YtdbcmcdmipehgaaWiBackP
namespace Go.Proofs.Ytdbcmcdmipehgaa

/-- Bytes that are a number are just its bytes. -/
theorem decL_back : ∀ (l : List UInt8) (k X U K : Nat), k ≤ 9 → X < 2 ^ (7 * k) → decL k X l = (U, K, 0) →
    ∃ v t, l = encL v ++ t ∧ U = X + v * 2 ^ (7 * k) ∧ U < 18446744073709551616 ∧ K = k + (encL v).length ∧ (0 < k → 0 < v)
  | [], k, X, U, K, hk, _, h => by
    rw [decL_cut (by omega)] at h
    simp at h
  | b :: r, k, X, U, K, hk, hX, h => by
    have hk10 : k < 10 := by omega
    have hb := b.toNat_lt
    have hp : 2 ^ (7 * (k + 1)) = 128 * 2 ^ (7 * k) := by rw [show 7 * (k + 1) = 7 + 7 * k by omega, Nat.pow_add]
    have h63 : k ≤ 8 → 2 ^ (7 * (k + 1)) ≤ 9223372036854775808 := fun h8 => by
      have : 2 ^ (7 * (k + 1)) ≤ 2 ^ 63 := Nat.pow_le_pow_right (by decide) (by omega)
      have e : (2 : Nat) ^ 63 = 9223372036854775808 := by decide
      omega
    by_cases h128 : 128 ≤ b.toNat
    · rw [decL_more hk10 h128] at h
      by_cases h8 : k ≤ 8
      · have hle := h63 h8
        have hm : b.toNat % 128 * 2 ^ (7 * k) ≤ 127 * 2 ^ (7 * k) := Nat.mul_le_mul_right _ (by omega)
        rw [Nat.mod_eq_of_lt (a := b.toNat % 128 * 2 ^ (7 * k)) (by omega)] at h
        obtain ⟨v, t, e, hU, hU64, hK, hv⟩ := decL_back r (k + 1) _ U K (by omega) (by omega) h
        have hv := hv (by omega)
        have hn : ¬ b.toNat % 128 + 128 * v < 128 := by omega
        have e1 : (b.toNat % 128 + 128 * v) % 128 + 128 = b.toNat := by omega
        have e2 : (b.toNat % 128 + 128 * v) / 128 = v := by omega
        have e3 : encL (b.toNat % 128 + 128 * v) = b :: encL v := by
          rw [encL_more hn, e1, e2]
          simp
        refine ⟨b.toNat % 128 + 128 * v, t, by rw [e3, e]; rfl, ?_, hU64, by rw [e3, hK, List.length_cons]; omega, fun _ => by omega⟩
        rw [hU, hp, Nat.add_mul, Nat.mul_comm 128 v, Nat.mul_assoc, Nat.add_assoc]
      · rw [decL_form (by omega)] at h
        simp at h
    · by_cases he : endB k b.toNat = true
      · rw [decL_end hk10 h128 he] at h
        simp only [Prod.mk.injEq, and_true] at h
        obtain ⟨hU, hK⟩ := h
        have e1 : b.toNat % 128 = b.toNat := by omega
        have e3 : encL b.toNat = [b] := by rw [encL_end (by omega)]; simp
        have hsm : b.toNat * 2 ^ (7 * k) < 18446744073709551616 ∧ X + b.toNat * 2 ^ (7 * k) < 18446744073709551616 := by
          by_cases h8 : k ≤ 8
          · have hle := h63 h8
            have hm : b.toNat * 2 ^ (7 * k) ≤ 127 * 2 ^ (7 * k) := Nat.mul_le_mul_right _ (by omega)
            omega
          · obtain rfl : k = 9 := by omega
            have h1 : b.toNat ≤ 1 := by
              by_cases h1 : b.toNat ≤ 1
              · exact h1
              · rw [endB_last (by omega) (by omega)] at he
                cases he
            have e : (2 : Nat) ^ (7 * 9) = 9223372036854775808 := by decide
            rw [e] at hX ⊢
            have : b.toNat = 0 ∨ b.toNat = 1 := by omega
            rcases this with h | h <;> rw [h] <;> omega
        rw [e1, Nat.mod_eq_of_lt hsm.1] at hU
        refine ⟨b.toNat, r, by rw [e3]; rfl, hU.symm, by rw [← hU]; exact hsm.2, by rw [e3, ← hK]; rfl, fun h0 => ?_⟩
        by_cases hz : b.toNat = 0
        · rw [hz, endB_zero h0 (c := ((0 : Nat) : Int)) rfl] at he
          cases he
        · omega
      · rw [decL_bad hk10 h128 (by simpa using he)] at h
        simp at h

theorem unfI_in {u : Nat} (h : u < 18446744073709551616) : InI (unfI u) ∧ foldI (unfI u) = u := by
  unfold unfI InI
  by_cases ho : (u : Int) % 2 = 1
  · rw [if_pos ho]
    refine ⟨by omega, ?_⟩
    rw [foldI_neg (by omega)]; omega
  · rw [if_neg ho]
    refine ⟨by omega, ?_⟩
    rw [foldI_pos (by omega)]; omega

theorem getT_back {l : List UInt8} {n : Nat} {x e : Int} (hn : n ≤ l.length) (h : getT l n = (x, e, 0)) : InI x ∧ ∃ t, l.drop n = encX x ++ t ∧ e = ((n + (encX x).length : Nat) : Int) := by
  obtain ⟨u, k, z, hd⟩ : ∃ u k z, decL 0 0 (l.drop n) = (u, k, z) := ⟨_, _, _, rfl⟩
  by_cases hz : z = 0
  · subst hz
    rw [getT_ok hn hd] at h
    simp only [Prod.mk.injEq, and_true] at h
    obtain ⟨hx, he⟩ := h
    obtain ⟨v, t, e1, hU, h64, hK, _⟩ := decL_back _ 0 0 u k (by omega) (by decide) hd
    have huv : u = v := by simpa using hU
    subst huv
    obtain ⟨hin, hf⟩ := unfI_in h64
    rw [hx] at hin hf
    have ex : encX x = encL u := by unfold encX; rw [hf]; rfl
    exact ⟨hin, t, by rw [ex]; exact e1, by rw [← he, hK, ex]; simp⟩
  · unfold getT at h
    rw [if_neg (by omega), Int.toNat_natCast, hd] at h
    simp [hz] at h

/-- What was read so far: these numbers, to here. -/
structure Red (l : List UInt8) (xs : List Int) (a : Int) : Prop where
  ins : ∀ x ∈ xs, InI x
  pre : ∃ t, l = encs xs ++ t
  pos : a = ((encs xs).length : Nat)
theorem Red.zero (l : List UInt8) : Red l [] 0 := ⟨by simp, ⟨l, rfl⟩, rfl⟩
theorem nextR_good {l : List UInt8} {a a' x : Int} {b : Bool} (h : nextR l a b = (x, a', false)) : b = false ∧ getT l a = (x, a', 0) := by
  cases b with
  | true => rw [nextR_bad] at h; simp at h
  | false =>
    refine ⟨rfl, ?_⟩
    obtain ⟨y, e, z, ht⟩ : ∃ y e z, getT l a = (y, e, z) := ⟨_, _, _, rfl⟩
    by_cases hz : z = 0
    · subst hz
      rw [nextR_ok ht] at h
      simp only [Prod.mk.injEq, and_true] at h
      obtain ⟨rfl, rfl⟩ := h
      exact ht
    · rw [nextR_err ht hz] at h
      simp at h
theorem Red.next {l : List UInt8} {xs : List Int} {a a' x : Int} (hr : Red l xs a) (h : nextR l a false = (x, a', false)) : Red l (xs ++ [x]) a' := by
  obtain ⟨_, ht⟩ := nextR_good h
  obtain ⟨t, e⟩ := hr.pre
  have hn : (encs xs).length ≤ l.length := by rw [e]; simp
  rw [hr.pos] at ht
  obtain ⟨hin, t2, e2, hp⟩ := getT_back hn ht
  have e3 : t = encX x ++ t2 := by
    rw [← e2, e, List.drop_left]
  refine ⟨fun y hy => ?_, ⟨t2, by rw [encs_append, encs_one, List.append_assoc, ← e3]; exact e⟩, by rw [hp, encs_append, encs_one, List.length_append]⟩
  rcases List.mem_append.1 hy with h1 | h1
  · exact hr.ins y h1
  · obtain rfl : y = x := by simpa using h1
    exact hin
theorem Red.all {l : List UInt8} {xs : List Int} {a : Int} (hr : Red l xs a) (ha : a = l.length) : l = encs xs := by
  obtain ⟨t, e⟩ := hr.pre
  have h1 := hr.pos
  have h2 : t.length = 0 := by
    have : l.length = (encs xs).length + t.length := by conv => lhs; rw [e]; simp
    omega
  rw [List.eq_nil_of_length_eq_zero h2, List.append_nil] at e
  exact e
theorem finO_cases (l : List UInt8) (kd so se ti va a : Int) (b : Bool) : (b = false ∧ a = l.length ∧ MayO kd so se ti va ∧ finO l kd so se ti va a b = ((kd, so, se, ti, va), 0)) ∨ finO l kd so se ti va a b = ((0, 0, 0, 0, 0), 900) := by
  by_cases h : b = false ∧ a = l.length ∧ mayB kd so se ti va = true
  · exact .inl ⟨h.1, h.2.1, mayB_iff.1 h.2.2, if_pos h⟩
  · exact .inr (if_neg h)
/-- What is read is an operation whose bytes these are; or nothing is read. -/
theorem getO_back (l : List UInt8) : (∃ kd so se ti va, MayO kd so se ti va ∧ getO l = ((kd, so, se, ti, va), 0) ∧ encs (numsO kd so se ti va) = l) ∨ getO l = ((0, 0, 0, 0, 0), 900) := by
  obtain ⟨x0, a0, b0, h0⟩ : ∃ x a b, nextR l 0 false = (x, a, b) := ⟨_, _, _, rfl⟩
  by_cases e0 : x0 = 0
  · subst e0
    obtain ⟨so, a1, b1, h1⟩ : ∃ x a b, nextR l a0 b0 = (x, a, b) := ⟨_, _, _, rfl⟩
    obtain ⟨se, a2, b2, h2⟩ : ∃ x a b, nextR l a1 b1 = (x, a, b) := ⟨_, _, _, rfl⟩
    obtain ⟨ti, a3, b3, h3⟩ : ∃ x a b, nextR l a2 b2 = (x, a, b) := ⟨_, _, _, rfl⟩
    obtain ⟨va, a4, b4, h4⟩ : ∃ x a b, nextR l a3 b3 = (x, a, b) := ⟨_, _, _, rfl⟩
    rw [getO_0 h0 h1 h2 h3 h4]
    rcases finO_cases l 0 so se ti va a4 b4 with ⟨rfl, ha, hm, hf⟩ | hf
    · obtain ⟨rfl, _⟩ := nextR_good h4
      obtain ⟨rfl, _⟩ := nextR_good h3
      obtain ⟨rfl, _⟩ := nextR_good h2
      obtain ⟨rfl, _⟩ := nextR_good h1
      exact .inl ⟨0, so, se, ti, va, hm, hf, ((((((Red.zero l).next h0).next h1).next h2).next h3).next h4).all ha |>.symm⟩
    · exact .inr hf
  · by_cases e1 : x0 = 1
    · subst e1
      obtain ⟨so, a1, b1, h1⟩ : ∃ x a b, nextR l a0 b0 = (x, a, b) := ⟨_, _, _, rfl⟩
      obtain ⟨ti, a2, b2, h2⟩ : ∃ x a b, nextR l a1 b1 = (x, a, b) := ⟨_, _, _, rfl⟩
      rw [getO_1 h0 h1 h2]
      rcases finO_cases l 1 so 0 ti 0 a2 b2 with ⟨rfl, ha, hm, hf⟩ | hf
      · obtain ⟨rfl, _⟩ := nextR_good h2
        obtain ⟨rfl, _⟩ := nextR_good h1
        exact .inl ⟨1, so, 0, ti, 0, hm, hf, ((((Red.zero l).next h0).next h1).next h2).all ha |>.symm⟩
      · exact .inr hf
    · rw [getO_2 h0 e0 e1]
      rcases finO_cases l x0 0 0 0 0 a0 b0 with ⟨rfl, ha, hm, hf⟩ | hf
      · refine .inl ⟨x0, 0, 0, 0, 0, hm, hf, ?_⟩
        have h := ((Red.zero l).next h0).all ha
        unfold numsO
        rw [if_neg e0, if_neg e1]
        exact h.symm
      · exact .inr hf
/-- Of unlike operations the bytes are unlike. -/
theorem numsO_inj {k1 k2 k3 k4 k5 j1 j2 j3 j4 j5 : Int} (h : MayO k1 k2 k3 k4 k5) (h' : MayO j1 j2 j3 j4 j5) (he : encs (numsO k1 k2 k3 k4 k5) = encs (numsO j1 j2 j3 j4 j5)) : k1 = j1 ∧ k2 = j2 ∧ k3 = j3 ∧ k4 = j4 ∧ k5 = j5 := by
  have h1 := getO_put h
  rw [he, getO_put h'] at h1
  simp only [Prod.mk.injEq, and_true] at h1
  obtain ⟨a, b, c, d, e⟩ := h1
  exact ⟨a.symm, b.symm, c.symm, d.symm, e.symm⟩

end Go.Proofs.Ytdbcmcdmipehgaa
