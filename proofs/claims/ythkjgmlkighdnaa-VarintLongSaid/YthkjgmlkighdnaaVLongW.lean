/-
  Walk: VarintLong: as many bytes as its size asks for.
-/
import Derived.Test.YthkjgmlkighdnaaVAwake
import Derived.Test.YthkjgmlkighdnaaVLongP
import Derived.OpenShut
import Derived.Deep.CutBlock
namespace Go.Proofs.Ythkjgmlkighdnaa
open Go.RowKit

theorem encS_l1 : encS (-1) = ⟨#[1]⟩ := by
  have e : encL (foldI (-1)).toNat = [1] := by
    have h : (foldI (-1)).toNat = 1 := by decide
    rw [h, encL_end (by decide)]
    rfl
  unfold encS; rw [e]
theorem encS_l2 : encS 63 = ⟨#[126]⟩ := by
  have e : encL (foldI 63).toNat = [126] := by
    have h : (foldI 63).toNat = 126 := by decide
    rw [h, encL_end (by decide)]
    rfl
  unfold encS; rw [e]
theorem encS_l3 : encS 64 = ⟨#[128, 1]⟩ := by
  have e : encL (foldI 64).toNat = [128, 1] := by
    have h : (foldI 64).toNat = 128 := by decide
    rw [h, encL_more (by decide), encL_end (by decide)]
    rfl
  unfold encS; rw [e]
theorem long_k (b : Int) : ∃ k : Nat, wrap64 ((IntKind.u64.wrap b).tmod 62) = k ∧ k ≤ 61 := by
  have h0 : 0 ≤ IntKind.u64.wrap b := by rw [IntKind.wrap_u64]; omega
  rw [Int.tmod_eq_emod_of_nonneg h0]
  generalize IntKind.u64.wrap b = u at h0
  refine ⟨(u % 62).toNat, ?_, by omega⟩
  unfold wrap64
  omega
theorem long_pow (k : Nat) (hk : k ≤ 61) : wrap64 (2 ^ k) = ((2 ^ k : Nat) : Int) ∧ wrap64 (((2 ^ k : Nat) : Int) - 1) = ((2 ^ k : Nat) : Int) - 1 := by
  have hp : 0 < 2 ^ k := Nat.two_pow_pos k
  have hle : 2 ^ k ≤ 2 ^ 61 := Nat.pow_le_pow_right (by decide) hk
  have hc : ((2 : Int) ^ k) = ((2 ^ k : Nat) : Int) := by simp
  rw [hc]
  generalize 2 ^ k = p at *
  unfold wrap64
  omega
theorem pow_top (k : Nat) (hk : k ≤ 61) : 2 ^ (k + 1) ≤ 4611686018427387904 := Nat.le_trans (Nat.pow_le_pow_right (by decide) (show k + 1 ≤ 62 by omega)) (by decide)
theorem get_back {y : Int} (l : -9223372036854775808 ≤ y) (u : y ≤ 9223372036854775807) (w : World) :
    Calls Try.prog 7 #[.string (encS y), .int .i64 0] w fun e w' => e = .returned (.tuple #[.int .i64 y, .int .i64 (encS y).size, .int .i64 0]) ∧ w = w' := by
  have h := getT_encX l u [] []
  simp only [List.nil_append, List.append_nil, List.length_nil] at h
  have hl := (encX_len l u).2
  rw [← encS_size] at hl h
  rw [← encS_list] at h
  refine get_tri (encS y) 0 _ _ _ ?_ (by unfold maxLen; omega) w
  rw [show ((0 : Int)) = ((0 : Nat) : Int) from rfl, h]
  simp

set_option maxRecDepth 100000 in
set_option maxHeartbeats 1000000 in
theorem long_any (x b : Int) (g : Bool) (w : World) (_ : (Lit.int .i64 x).wf = true) (_ : (Lit.int .i64 b).wf = true) :
    Calls Try.prog 6 #[.int .i64 x, .int .i64 b, .bool g] w fun e w' => e = .returned (.bool true) ∧ Below w.heap.size w w' := by
  have HA := Lib.hid (fun w : World => awake_any w)
  have P1 := Lib.hid (fun w : World => put_lit (-1) _ encS_l1 (by decide) (by decide) w)
  have P2 := Lib.hid (fun w : World => put_lit 63 _ encS_l2 (by decide) (by decide) w)
  have P3 := Lib.hid (fun w : World => put_lit 64 _ encS_l3 (by decide) (by decide) w)
  cases g with
  | false =>
    go_enter Try.func6, Try.ntmps6
    go_wp2_with fail
    refine (HA.out _).mono ?_; rintro e w1 ⟨rfl, b1⟩
    go_upto_region 4 with fail
    obtain ⟨k, hk, hk61⟩ := long_k b
    rw [hk]
    clear hk
    go_upto_region 5 with fail
    obtain ⟨y, hy, hy1, hy2⟩ := long_y x k hk61
    rw [(long_pow k hk61).1, (long_pow k hk61).2, hy]
    clear hy
    have hc := encS_count hy1 hy2
    have ht := pow_top k hk61
    have hp : 0 < 2 ^ k := Nat.two_pow_pos k
    have y1 : 1 ≤ y := by omega
    have y2 : y ≤ 4611686018427387904 := by omega
    clear hy1 hy2 ht hp
    have HP := Lib.hid (fun w : World => put_any (y) (by omega) (by omega) w)
    have HG := Lib.hid (fun w : World => get_back (y := y) (by omega) (by omega) w)
    have hn : (((encS (y)).size : Int) == ((k : Int) + 1) / 7 + 1) = true := by rw [hc.1]; simp
    clear hc
    generalize encS (y) = S at HP HG hn
    go_wp2_with fail
    refine (HP.out _).mono ?_; rintro e w2 ⟨rfl, b2⟩
    go_wp2_with fail
    refine (HG.out _).mono ?_; rintro e w' ⟨rfl, rfl⟩
    go_wp2_with (first
      | (go_at_call 11; refine (num_any _ _).mono ?_; rintro e w' ⟨rfl, rfl⟩))
    refine (P1.out _).mono ?_; rintro e w3 ⟨rfl, b3⟩
    go_wp2_with fail
    refine (P2.out _).mono ?_; rintro e w4 ⟨rfl, b4⟩
    go_wp2_with fail
    refine (P3.out _).mono ?_; rintro e w5 ⟨rfl, b5⟩
    go_wp2_with fail
    go_ret
    have c2 := b1.trans (b2.mono b1.size)
    have c3 := c2.trans (b3.mono c2.size)
    have c4 := c3.trans (b4.mono c3.size)
    exact ⟨rfl, c4.trans (b5.mono c4.size)⟩
  | true =>
    go_enter Try.func6, Try.ntmps6
    go_wp2_with fail
    refine (HA.out _).mono ?_; rintro e w1 ⟨rfl, b1⟩
    go_upto_region 4 with fail
    obtain ⟨k, hk, hk61⟩ := long_k b
    rw [hk]
    clear hk
    go_upto_region 5 with fail
    obtain ⟨y, hy, hy1, hy2⟩ := long_y x k hk61
    rw [(long_pow k hk61).1, (long_pow k hk61).2, hy]
    clear hy
    have hc := encS_count hy1 hy2
    have ht := pow_top k hk61
    have hp : 0 < 2 ^ k := Nat.two_pow_pos k
    have y1 : 1 ≤ y := by omega
    have y2 : y ≤ 4611686018427387904 := by omega
    clear hy1 hy2 ht hp
    have HP := Lib.hid (fun w : World => put_any (-y - 1) (by omega) (by omega) w)
    have HG := Lib.hid (fun w : World => get_back (y := -y - 1) (by omega) (by omega) w)
    have hn : (((encS (-y - 1)).size : Int) == ((k : Int) + 1) / 7 + 1) = true := by rw [hc.2]; simp
    clear hc
    generalize encS (-y - 1) = S at HP HG hn
    go_wp2_with fail
    refine (HP.out _).mono ?_; rintro e w2 ⟨rfl, b2⟩
    go_wp2_with fail
    refine (HG.out _).mono ?_; rintro e w' ⟨rfl, rfl⟩
    go_wp2_with (first
      | (go_at_call 11; refine (num_any _ _).mono ?_; rintro e w' ⟨rfl, rfl⟩))
    refine (P1.out _).mono ?_; rintro e w3 ⟨rfl, b3⟩
    go_wp2_with fail
    refine (P2.out _).mono ?_; rintro e w4 ⟨rfl, b4⟩
    go_wp2_with fail
    refine (P3.out _).mono ?_; rintro e w5 ⟨rfl, b5⟩
    go_wp2_with fail
    go_ret
    have c2 := b1.trans (b2.mono b1.size)
    have c3 := c2.trans (b3.mono c2.size)
    have c4 := c3.trans (b4.mono c3.size)
    exact ⟨rfl, c4.trans (b5.mono c4.size)⟩

end Go.Proofs.Ythkjgmlkighdnaa
