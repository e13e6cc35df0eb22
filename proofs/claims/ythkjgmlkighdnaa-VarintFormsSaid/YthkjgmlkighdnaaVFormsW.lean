/-
  Walk: VarintForms: longer than need be, too long, cut.
-/
import Derived.Test.YthkjgmlkighdnaaVAwake
import Derived.Test.YthkjgmlkighdnaaFMask
import Derived.OpenShut
import Derived.Deep.CutBlock
namespace Go.Proofs.Ythkjgmlkighdnaa
open Go.RowKit

theorem getT_f1 : getT [128, 128, 128, 128, 128, 128, 128, 128, 128, 2] 0 = (0, 0, 700) := by decide

/-- k like bytes that go on. -/
def repS (c : UInt8) (k : Nat) : ByteArray := ⟨(List.replicate k c).toArray⟩
theorem rep_list (c : UInt8) (k : Nat) : (repS c k).data.toList = List.replicate k c := by simp [repS]
theorem rep_size (c : UInt8) (k : Nat) : (repS c k).size = k := by
  exact (by simp : (List.replicate k c).toArray.size = k)
theorem rep_succ (c : UInt8) (k : Nat) : repS c k ++ ⟨#[c]⟩ = repS c (k + 1) := by
  unfold repS
  rw [ByteArray.mk_append_mk, List.replicate_succ']
theorem rep_then (c b : UInt8) (k : Nat) : (repS c k ++ ⟨#[b]⟩).data.toList = List.replicate k c ++ [b] := by
  simp [ByteArray.data_append, repS]
theorem rep_then_size (c b : UInt8) (k : Nat) : (repS c k ++ ⟨#[b]⟩).size = k + 1 := by
  rw [ByteArray.size_append, rep_size]; rfl
section
variable {c : UInt8} (hc : 128 ≤ c.toNat)
include hc
theorem rep_on (k : Nat) : ∀ b ∈ List.replicate k c, 128 ≤ b.toNat := fun b hb => by rw [List.eq_of_mem_replicate hb]; exact hc
theorem get_f1 {k : Nat} (hk : k < 10) : getT (repS c k).data.toList 0 = (0, 0, 701) := by
  rw [rep_list]
  exact getT_err (e := 701) (a := 0) (by omega) (by decide) (by rw [List.drop_zero]; exact decL_on _ 0 0 (rep_on hc k) (by simpa using hk))
theorem get_f2 {k : Nat} (hk : 10 ≤ k) (t : List UInt8) : getT (List.replicate k c ++ t) 0 = (0, 0, 700) :=
  getT_err (e := 700) (a := 0) (by omega) (by decide) (by rw [List.drop_zero]; exact decL_long _ t 0 0 (rep_on hc k) (by simpa using hk))
theorem get_f3 {k : Nat} (hk1 : 1 ≤ k) (hk : k < 10) : getT (repS c k ++ ⟨#[0]⟩).data.toList 0 = (0, 0, 700) := by
  rw [rep_then]
  have h := (decL_then (List.replicate k c) [] 0 0 0 (rep_on hc k) (by simpa using hk) (by decide)).1 (by simp only [List.length_replicate]; exact endB_zero (by omega) rfl)
  exact getT_err (e := 700) (a := 0) (by omega) (by decide) (by rw [List.drop_zero]; exact h)
theorem get_f4 {k : Nat} (hk : k < 10) : ∃ v, getT (repS c k ++ ⟨#[1]⟩).data.toList 0 = (v, ((k + 1 : Nat) : Int), 0) := by
  rw [rep_then]
  obtain ⟨u, h⟩ := (decL_then (List.replicate k c) [] 1 0 0 (rep_on hc k) (by simpa using hk) (by decide)).2 (by simp only [List.length_replicate]; exact endB_true (by rintro ⟨_, h⟩; exact absurd h (by decide)) (.inr (by decide)))
  have h2 := getT_ok (l := List.replicate k c ++ [1]) (a := 0) (by omega) (by rw [List.drop_zero]; exact h)
  simp only [List.length_replicate] at h2
  refine ⟨unfI u, ?_⟩
  rw [show ((0 : Int)) = ((0 : Nat) : Int) from rfl, h2]
  simp
theorem get_ft {k : Nat} (hk : 10 ≤ k) (b : UInt8) : getT (repS c k ++ ⟨#[b]⟩).data.toList 0 = (0, 0, 700) := by
  rw [rep_then]; exact get_f2 hc hk [b]
theorem get_fl {k : Nat} (hk : 10 ≤ k) : getT (repS c k).data.toList 0 = (0, 0, 700) := by
  have h := get_f2 hc hk []
  rw [rep_list]
  simpa using h
end
theorem own_one {w : World} {base : Nat} {y : Int} {c : UInt8} (hy : y = c.toNat) (hb : base ≤ w.heap.size) : OwnB (w.alloc (.cells #[.int .u8 y] 5)) base (.slice (some ⟨w.heap.size, 0, none⟩) 1 1) [c] := by
  subst hy
  exact World.ownsRow_lit w #[.int .u8 c.toNat] 1 hb (by decide) rfl

set_option maxRecDepth 100000 in
set_option maxHeartbeats 1000000 in
theorem forms_any (x m : Int) (w : World) (_ : (Lit.int .i64 x).wf = true) (_ : (Lit.int .i64 m).wf = true) :
    Calls Try.prog 5 #[.int .i64 x, .int .i64 m] w fun e w' => e = .returned (.bool true) ∧ Below w.heap.size w w' := by
  have HA := Lib.hid (fun w : World => awake_any w)
  have G0 := Lib.hid (fun w : World => get_lit #[128, 128, 128, 128, 128, 128, 128, 128, 128, 2] 0 _ _ _ getT_f1 (by decide) w)
  have hm : bits .and .i64 m 15 = m % 16 := mask_of m 4 15 (by decide) (by decide)
  obtain ⟨k, hk⟩ : ∃ k : Nat, m % 16 + 1 = k := ⟨(m % 16 + 1).toNat, by omega⟩
  have hk1 : 1 ≤ k := by omega
  have hk16 : k ≤ 16 := by omega
  obtain ⟨c, hc, hc1⟩ : ∃ c : UInt8, x % 128 + 128 = (c.toNat : Int) ∧ 128 ≤ c.toNat := by
    refine ⟨UInt8.ofNat (x % 128 + 128).toNat, ?_, ?_⟩
    · rw [ofNat_lt (by omega)]; omega
    · rw [ofNat_lt (by omega)]; omega
  have hx : bits .and .i64 x 127 = x % 128 := mask_of x 7 127 (by decide) (by decide)
  have hor := or128_i64 (x % 128) (by omega) (by omega)
  have HX := Lib.hid (And.intro hx (And.intro hor hc))
  have hk' : 1 + m % 16 = (k : Int) := by omega
  clear hx hor hc hk
  have hm1 : (repS c k).size ≤ maxLen := by rw [rep_size]; unfold maxLen; omega
  have hm2 : ∀ b, (repS c k ++ ⟨#[b]⟩).size ≤ maxLen := fun b => by rw [rep_then_size]; unfold maxLen; omega
  have G4 := Lib.hid (fun w : World => get_tri (repS c k) ((k : Int) + 1) 0 0 700 (getT_none (.inr (by rw [rep_list]; simp; omega))) hm1 w)
  have G5 := Lib.hid (fun w : World => get_tri (repS c k) (-1) 0 0 700 (getT_none (.inl (by omega))) hm1 w)
  by_cases hkk : k < 10
  · obtain ⟨v, hv⟩ := get_f4 hc1 hkk
    have G1 := Lib.hid (fun w : World => get_tri _ 0 _ _ _ (get_f1 hc1 hkk) hm1 w)
    have G2 := Lib.hid (fun w : World => get_tri _ 0 _ _ _ (get_f3 hc1 hk1 hkk) (hm2 _) w)
    have G3 := Lib.hid (fun w : World => get_tri _ 0 v ((k : Int) + 1) 0 (by rw [hv]; simp) (hm2 _) w)
    clear hv hm1 hm2 hc1
    go_enter Try.func5, Try.ntmps5
    go_wp2_with fail
    refine (HA.out _).mono ?_; rintro e w1 ⟨rfl, b1⟩
    go_wp2_with fail
    go_loopw [6, 7] (fun s i wr => ∃ j : Nat, j ≤ k ∧ i = .int .i64 j ∧ s = .string (repS c j) ∧ Below w.heap.size w wr) (fun _ i _ => k - (intOf i).toNat)
    case atStart => exact ⟨0, by omega, rfl, rfl, b1⟩
    case round =>
      obtain ⟨j, hj, rfl, rfl, bj⟩ := hrel
      have hsz := bj.size
      have hz := rep_size c j
      by_cases hlt : j < k
      · have HO := Lib.hid (own_one (w := wr) HX.out.2.2 hsz)
        have hx1 := HX.out.1
        have hx2 := HX.out.2.1
        have hs' := rep_succ c j
        go_wp2_with (refine conv_byte rfl _ rfl rfl HO.out (by simp) ?_)
        exact ⟨⟨j + 1, by omega, by go_num, by simp, bj.alloc hsz _⟩, by simp [intOf]; omega⟩
      · obtain rfl : j = k := by omega
        clear HX hz
        have hz := rep_size c j
        go_wp2_with fail
        refine (G1.out _).mono ?_; rintro e w' ⟨rfl, rfl⟩
        go_wp2_with fail
        refine (G2.out _).mono ?_; rintro e w' ⟨rfl, rfl⟩
        go_wp2_with fail
        refine (G3.out _).mono ?_; rintro e w' ⟨rfl, rfl⟩
        go_wp2_with fail
        refine (G4.out _).mono ?_; rintro e w' ⟨rfl, rfl⟩
        go_wp2_with fail
        refine (G5.out _).mono ?_; rintro e w' ⟨rfl, rfl⟩
        go_wp2_with fail
        refine (G0.out _).mono ?_; rintro e w' ⟨rfl, rfl⟩
        go_wp2_with (go_at_call 11; refine (num_any _ _).mono ?_; rintro e w' ⟨rfl, rfl⟩)
        go_ret
        exact ⟨rfl, bj⟩
  · have G1 := Lib.hid (fun w : World => get_tri _ 0 _ _ _ (get_fl hc1 (show 10 ≤ k by omega)) hm1 w)
    have G2 := Lib.hid (fun w : World => get_tri _ 0 _ _ _ (get_ft hc1 (show 10 ≤ k by omega) 0) (hm2 _) w)
    have G3 := Lib.hid (fun w : World => get_tri _ 0 _ _ _ (get_ft hc1 (show 10 ≤ k by omega) 1) (hm2 _) w)
    have hkk' : (10 : Int) ≤ k := by omega
    clear hm1 hm2 hc1
    go_enter Try.func5, Try.ntmps5
    go_wp2_with fail
    refine (HA.out _).mono ?_; rintro e w1 ⟨rfl, b1⟩
    go_wp2_with fail
    go_loopw [6, 7] (fun s i wr => ∃ j : Nat, j ≤ k ∧ i = .int .i64 j ∧ s = .string (repS c j) ∧ Below w.heap.size w wr) (fun _ i _ => k - (intOf i).toNat)
    case atStart => exact ⟨0, by omega, rfl, rfl, b1⟩
    case round =>
      obtain ⟨j, hj, rfl, rfl, bj⟩ := hrel
      have hsz := bj.size
      have hz := rep_size c j
      by_cases hlt : j < k
      · have HO := Lib.hid (own_one (w := wr) HX.out.2.2 hsz)
        have hx1 := HX.out.1
        have hx2 := HX.out.2.1
        have hs' := rep_succ c j
        go_wp2_with (refine conv_byte rfl _ rfl rfl HO.out (by simp) ?_)
        exact ⟨⟨j + 1, by omega, by go_num, by simp, bj.alloc hsz _⟩, by simp [intOf]; omega⟩
      · obtain rfl : j = k := by omega
        clear HX hz
        have hz := rep_size c j
        go_wp2_with fail
        refine (G1.out _).mono ?_; rintro e w' ⟨rfl, rfl⟩
        go_wp2_with fail
        refine (G2.out _).mono ?_; rintro e w' ⟨rfl, rfl⟩
        go_wp2_with fail
        refine (G3.out _).mono ?_; rintro e w' ⟨rfl, rfl⟩
        go_wp2_with fail
        refine (G4.out _).mono ?_; rintro e w' ⟨rfl, rfl⟩
        go_wp2_with fail
        refine (G5.out _).mono ?_; rintro e w' ⟨rfl, rfl⟩
        go_wp2_with fail
        refine (G0.out _).mono ?_; rintro e w' ⟨rfl, rfl⟩
        go_wp2_with (go_at_call 11; refine (num_any _ _).mono ?_; rintro e w' ⟨rfl, rfl⟩)
        go_ret
        exact ⟨rfl, bj⟩

end Go.Proofs.Ythkjgmlkighdnaa
