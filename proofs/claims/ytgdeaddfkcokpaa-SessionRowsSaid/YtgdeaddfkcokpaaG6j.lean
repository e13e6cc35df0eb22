/-
  'x & (2^p - 1)' is the rest by 2^p. No program here.
  Walk: SessionBridge: an item between two sessions.
  Rows of integers and of items that grow beside one another.
-/
import Derived.Laws.BitsLemmas
import Derived.WalkKit
import Derived.Test.YtgdeaddfkcokpaaG6f
import Derived.Test.YtgdeaddfkcokpaaItemsO
namespace Go.Proofs.Ytgdeaddfkcokpaa

theorem mask_of (n : Int) (p : Nat) (q : Int) (hp : p ≤ 62) (h : (BitVec.ofInt 64 q).toNat = 2 ^ p - 1) : bits .and .i64 n q = n % ((2 ^ p : Nat) : Int) := by
  have e : (BitVec.ofInt 64 n &&& BitVec.ofInt 64 q).toNat = (n % ((2 ^ 64 : Nat) : Int)).toNat % 2 ^ p := by
    rw [BitVec.toNat_and, BitVec.toNat_ofInt, h, Nat.and_two_pow_sub_one_eq_mod]
  show IntKind.i64.wrap ((BitVec.ofInt 64 n &&& BitVec.ofInt 64 q).toNat : Nat) = _
  rw [e, IntKind.wrap_i64]
  have hd : (2 ^ p : Nat) ∣ 2 ^ 64 := Nat.pow_dvd_pow 2 (by omega)
  have hlt : (n % ((2 ^ 64 : Nat) : Int)).toNat % 2 ^ p < 2 ^ 62 + 1 := by
    have h1 := Nat.mod_lt (n % ((2 ^ 64 : Nat) : Int)).toNat (Nat.pow_pos (n := p) (show 0 < 2 by decide))
    have h2 : 2 ^ p ≤ 2 ^ 62 := Nat.pow_le_pow_right (by decide) hp
    omega
  have hn : 0 ≤ n % ((2 ^ 64 : Nat) : Int) := Int.emod_nonneg _ (by decide)
  have h3 : (((n % ((2 ^ 64 : Nat) : Int)).toNat % 2 ^ p : Nat) : Int) = n % ((2 ^ p : Nat) : Int) := by
    rw [Int.natCast_emod, Int.toNat_of_nonneg hn]
    exact Int.emod_emod_of_dvd n (Int.natCast_dvd_natCast.2 hd)
  rw [← h3]
  omega
theorem mask3 (n : Int) : bits .and .i64 n 3 = n % 4 := mask_of n 2 3 (by decide) (by decide)
theorem mask7 (n : Int) : bits .and .i64 n 7 = n % 8 := mask_of n 3 7 (by decide) (by decide)
theorem mask255 (n : Int) : bits .and .i64 n 255 = n % 256 := mask_of n 8 255 (by decide) (by decide)
theorem mask1023 (n : Int) : bits .and .i64 n 1023 = n % 1024 := mask_of n 10 1023 (by decide) (by decide)

end Go.Proofs.Ytgdeaddfkcokpaa

namespace Go.Proofs.Ytgdeaddfkcokpaa
open Go.RowKit

/-! Plain: which sessions there are, told by any blocks. -/
theorem ss_runs {g : Int} (hg : 0 < g) {xs : List It} {Bs : List (List It)} (ha : ∀ x, x ∈ xs → ∀ y, y ∈ xs → x = y ∨ Apart x y) (hR : Runs g Bs) (hp : Bs.flatten.Perm xs) : SS g xs = Bs.map (seOf []) := by
  obtain ⟨As, e1, r1, p1⟩ := all_nil hg (bs := []) xs
  rw [SS, e1]
  exact all_perm hg r1 hR (p1.trans hp.symm) fun x hx y hy => ha x (p1.mem_iff.1 hx) y (p1.mem_iff.1 hy)
theorem blk_first {B : List It} {x : It} (hx : x ∈ B) (h : ∀ y, y ∈ B → x.t ≤ y.t) : (seOf [] B).f = x.t := by
  obtain ⟨h1, h2⟩ := blk_f (bs := []) (B := B) (List.ne_nil_of_mem hx)
  have h3 := h _ h1
  have h4 := h2 x hx
  show (blkA [] B).f.t = x.t
  omega
theorem blk_last {B : List It} {x : It} (hx : x ∈ B) (h : ∀ y, y ∈ B → y.t ≤ x.t) : (seOf [] B).l = x.t := by
  obtain ⟨h1, h2⟩ := blk_l (bs := []) (B := B) (List.ne_nil_of_mem hx)
  have h3 := h _ h1
  have h4 := h2 x hx
  show (blkA [] B).l.t = x.t
  omega
abbrev brL (a : Int) : It := ⟨0, -a, 1, 1⟩
abbrev brR (b : Int) : It := ⟨0, b, 2, 1⟩
abbrev brM : It := ⟨0, 0, 3, 1⟩
theorem br_apart (a b : Int) : ∀ x, x ∈ [brL a, brR b, brM] → ∀ y, y ∈ [brL a, brR b, brM] → x = y ∨ Apart x y := fun x hx y hy => by
  simp only [List.mem_cons, List.not_mem_nil, or_false] at hx hy
  rcases hx with rfl | rfl | rfl <;> rcases hy with rfl | rfl | rfl <;> first | exact .inl rfl | exact .inr (.inr (by simp))
theorem br_two {g a b : Int} (hg : 0 < g) (h : g ≤ a + b) : (SS g [brL a, brR b]).length = 2 := by
  have up : ∀ x, x ∈ [brL a, brR b] → x ∈ [brL a, brR b, brM] := fun x hx => by
    simp only [List.mem_cons, List.not_mem_nil, or_false] at hx ⊢
    rcases hx with h | h
    · exact .inl h
    · exact .inr (.inl h)
  rw [ss_runs hg (Bs := [[brL a], [brR b]]) (fun x hx y hy => br_apart a b x (up x hx) y (up y hy)) ⟨by simp, conn_one _ _, fun x hx y hy => by
    simp only [List.flatten_cons, List.flatten_nil, List.append_nil, List.mem_singleton] at hx hy; subst hx hy; simp only; omega, by simp, conn_one _ _, (fun x hx y hy => by cases hy), trivial⟩ (List.Perm.refl _)]
  rfl
theorem br_three {g a b : Int} (hg : 0 < g) (ha : 1 ≤ a) (hb : 1 ≤ b) (h : g ≤ a + b) : ∃ n : Nat, (n : Int) = 3 - (if a < g then 1 else 0) - (if b < g then 1 else 0) ∧ (SS g [brL a, brR b, brM]).length = n ∧ (nthE (SS g [brL a, brR b, brM]) 0).f = -a ∧ (nthE (SS g [brL a, brR b, brM]) (n - 1)).l = b := by
  by_cases h1 : a < g
  · by_cases h2 : b < g
    · rw [ss_runs hg (Bs := [[brL a] ++ ([brM] ++ [brR b])]) (br_apart a b) ⟨by simp, conn_append (a := brL a) (c := brM) (conn_one _ _) (conn_append (a := brM) (c := brR b) (conn_one _ _) (conn_one _ _) (by simp) (by simp) (by simp only; omega) (by simp only; omega)) (by simp) (by simp) (by simp only; omega) (by simp only; omega), (fun x hx y hy => by cases hy), trivial⟩
        (by show ([brL a, brM, brR b] : List It).Perm _; exact (List.Perm.swap _ _ _).cons _)]
      refine ⟨1, by rw [if_pos h1, if_pos h2]; rfl, rfl, ?_, ?_⟩
      · exact (blk_first (x := brL a) (by simp) fun y hy => by simp only [List.cons_append, List.nil_append, List.mem_cons, List.not_mem_nil, or_false] at hy; rcases hy with rfl | rfl | rfl <;> simp only <;> omega)
      · exact (blk_last (x := brR b) (by simp) fun y hy => by simp only [List.cons_append, List.nil_append, List.mem_cons, List.not_mem_nil, or_false] at hy; rcases hy with rfl | rfl | rfl <;> simp only <;> omega)
    · rw [ss_runs hg (Bs := [[brL a] ++ [brM], [brR b]]) (br_apart a b) ⟨by simp, conn_append (a := brL a) (c := brM) (conn_one _ _) (conn_one _ _) (by simp) (by simp) (by simp only; omega) (by simp only; omega), (fun x hx y hy => by
        simp only [List.cons_append, List.nil_append, List.flatten_cons, List.flatten_nil, List.append_nil, List.mem_cons, List.not_mem_nil, or_false] at hx hy; subst hy; rcases hx with rfl | rfl <;> simp only <;> omega), by simp, conn_one _ _, (fun x hx y hy => by cases hy), trivial⟩
        (by show ([brL a, brM, brR b] : List It).Perm _; exact (List.Perm.swap _ _ _).cons _)]
      refine ⟨2, by rw [if_pos h1, if_neg h2]; rfl, rfl, ?_, ?_⟩
      · exact (blk_first (x := brL a) (by simp) fun y hy => by simp only [List.cons_append, List.nil_append, List.mem_cons, List.not_mem_nil, or_false] at hy; rcases hy with rfl | rfl <;> simp only <;> omega)
      · exact (blk_last (x := brR b) (by simp) fun y hy => by simp only [List.mem_cons, List.not_mem_nil, or_false] at hy; subst hy; simp only; omega)
  · by_cases h2 : b < g
    · rw [ss_runs hg (Bs := [[brL a], [brM] ++ [brR b]]) (br_apart a b) ⟨by simp, conn_one _ _, (fun x hx y hy => by
        simp only [List.cons_append, List.nil_append, List.flatten_cons, List.flatten_nil, List.append_nil, List.mem_cons, List.not_mem_nil, or_false] at hx hy; subst hx; rcases hy with rfl | rfl <;> simp only <;> omega), by simp, conn_append (a := brM) (c := brR b) (conn_one _ _) (conn_one _ _) (by simp) (by simp) (by simp only; omega) (by simp only; omega), (fun x hx y hy => by cases hy), trivial⟩
        (by show ([brL a, brM, brR b] : List It).Perm _; exact (List.Perm.swap _ _ _).cons _)]
      refine ⟨2, by rw [if_neg h1, if_pos h2]; rfl, rfl, ?_, ?_⟩
      · exact (blk_first (x := brL a) (by simp) fun y hy => by simp only [List.mem_cons, List.not_mem_nil, or_false] at hy; subst hy; simp only; omega)
      · exact (blk_last (x := brR b) (by simp) fun y hy => by simp only [List.cons_append, List.nil_append, List.mem_cons, List.not_mem_nil, or_false] at hy; rcases hy with rfl | rfl <;> simp only <;> omega)
    · rw [ss_runs hg (Bs := [[brL a], [brM], [brR b]]) (br_apart a b) ⟨by simp, conn_one _ _, (fun x hx y hy => by
        simp only [List.cons_append, List.nil_append, List.flatten_cons, List.flatten_nil, List.append_nil, List.mem_cons, List.not_mem_nil, or_false] at hx hy; subst hx; rcases hy with rfl | rfl <;> simp only <;> omega), by simp, conn_one _ _, (fun x hx y hy => by
        simp only [List.flatten_cons, List.flatten_nil, List.append_nil, List.mem_cons, List.not_mem_nil, or_false] at hx hy; subst hx hy; simp only; omega), by simp, conn_one _ _, (fun x hx y hy => by cases hy), trivial⟩
        (by show ([brL a, brM, brR b] : List It).Perm _; exact (List.Perm.swap _ _ _).cons _)]
      refine ⟨3, by rw [if_neg h1, if_neg h2]; rfl, rfl, ?_, ?_⟩
      · exact (blk_first (x := brL a) (by simp) fun y hy => by simp only [List.mem_cons, List.not_mem_nil, or_false] at hy; subst hy; simp only; omega)
      · exact (blk_last (x := brR b) (by simp) fun y hy => by simp only [List.mem_cons, List.not_mem_nil, or_false] at hy; subst hy; simp only; omega)
theorem mask63 (n : Int) : bits .and .i64 n 63 = n % 64 := mask_of n 6 63 (by decide) (by decide)
theorem mask127 (n : Int) : bits .and .i64 n 127 = n % 128 := mask_of n 7 127 (by decide) (by decide)
theorem mask31 (n : Int) : bits .and .i64 n 31 = n % 32 := mask_of n 5 31 (by decide) (by decide)
theorem mask15 (n : Int) : bits .and .i64 n 15 = n % 16 := mask_of n 4 15 (by decide) (by decide)

set_option maxRecDepth 100000 in
set_option maxHeartbeats 4000000 in
theorem bridge_any (a1 a2 a3 : Int) (w : World) :
    Calls Try.prog 7 #[.int .i64 a1, .int .i64 a2, .int .i64 a3] w fun e w' => e = .returned (.bool true) ∧ Below w.heap.size w w' := by
  obtain ⟨d1, m1, l1, u1⟩ : ∃ d : Int, bits .and .i64 a1 63 = d ∧ 0 ≤ d ∧ d ≤ 63 := ⟨a1 % 64, mask63 a1, by omega, by omega⟩
  obtain ⟨d2, m2, l2, u2⟩ : ∃ d : Int, bits .and .i64 a2 127 = d ∧ 0 ≤ d ∧ d ≤ 127 := ⟨a2 % 128, mask127 a2, by omega, by omega⟩
  obtain ⟨d3, m3, l3, u3⟩ : ∃ d : Int, bits .and .i64 a3 127 = d ∧ 0 ≤ d ∧ d ≤ 127 := ⟨a3 % 128, mask127 a3, by omega, by omega⟩
  have HI : Hid (∀ (s t q v : Int) (W : World), Calls Try.prog 34 #[.int .i64 s, .int .i64 t, .int .i64 q, .int .i64 v] W fun e w' => e = .returned (.agg #[.int .i64 s, .int .i64 t, .int .i64 q, .int .i64 v]) ∧ Below W.heap.size W w') := sitem_any
  have HAL : Hid (∀ (W : World) o, Below W.heap.size W (W.alloc o)) := fun W o => (Below.refl _ _).alloc (Nat.le_refl _) o
  go_enter Try.func7, Try.ntmps7
  go_wp2_with fail
  refine (sawake_any _).mono ?_
  rintro e v0 ⟨rfl, hb⟩
  have HW0 := Lib.hid hb
  clear hb
  go_upto_region 5 with fail
  by_cases hlt : (1 + d2) + (1 + d3) < 1 + d1
  · go_wp2_with fail
    go_ret
    exact ⟨rfl, HW0.out⟩
  · go_upto_region 7 with fail
    have bg : 1 ≤ 1 + d1 ∧ 1 + d1 ≤ 64 := by omega
    have ba : 1 ≤ 1 + d2 ∧ 1 + d2 ≤ 128 := by omega
    have bb : 1 ≤ 1 + d3 ∧ 1 + d3 ≤ 128 := by omega
    clear m1 m2 m3
    generalize 1 + d1 = g at hlt bg ⊢
    generalize 1 + d2 = a at hlt ba ⊢
    generalize 1 + d3 = b at hlt bb ⊢
    clear l1 u1 l2 u2 l3 u3
    obtain ⟨T1, hT1⟩ : ∃ T, SS g [brL a, brR b] = T := ⟨_, rfl⟩
    obtain ⟨T2, hT2⟩ : ∃ T, SS g [brL a, brR b, brM] = T := ⟨_, rfl⟩
    have t1 := br_two (g := g) (a := a) (b := b) (by omega) (by omega)
    obtain ⟨n, hn, t2, t3, t4⟩ := br_three (g := g) (a := a) (b := b) (by omega) (by omega) (by omega) (by omega)
    rw [hT1] at t1
    rw [hT2] at t2 t3 t4
    have hn3 : n ≤ 3 ∧ 1 ≤ n := by
      split at hn <;> split at hn <;> omega
    have ok1 : ItsOk 0 [brL a, brR b] := fun x hx => by
      simp only [List.mem_cons, List.not_mem_nil, or_false] at hx
      rcases hx with rfl | rfl <;> exact ⟨itemB_iff.2 (by simp only; omega), rfl⟩
    have ok2 : ItsOk 0 [brM] := fun x hx => by
      simp only [List.mem_cons, List.not_mem_nil, or_false] at hx
      subst hx; exact ⟨itemB_iff.2 (by simp only; omega), rfl⟩
    have C1 : Hid (∀ (W : World) (g0 : Nat), Has W g0 23 (([brL a, brR b] : List It).flatMap itemL).toArray → Calls Try.prog 26 #[.slice none 0 0, .int .i64 g, .slice none 0 0, .slice (some ⟨g0, 0, none⟩) 2 2] W fun e w' => ∃ A c, e = .returned (.tuple #[.slice A 2 c, .int .i64 0]) ∧ Sess w' A 2 T1 ∧ 2 ≤ c ∧ Below W.heap.size W w') := fun W g0 hg =>
      (add_items g 0 (by omega) [] [brL a, brR b] (fun x hx => by cases hx) ok1 (by simp) none 0 0 (some ⟨g0, 0, none⟩) 2 2 W (Sess.nil _ _) (Nat.le_refl _) (by decide) (items_has hg rfl) (fun e => by cases e) (Nat.le_refl _)).mono fun e w' h => by
        rw [List.nil_append, hT1] at h
        obtain ⟨A, c, rs, h1, h2, h3, h4, h5⟩ := good_lit t1 h
        exact ⟨A, c, h1, h2.sess h3, h4, h5⟩
    have C2 : Hid (∀ (W : World) (A : Option Addr) (c g0 : Nat), Sess W A 2 T1 → 2 ≤ c → Has W g0 23 (([brM] : List It).flatMap itemL).toArray → Calls Try.prog 26 #[.slice A 2 c, .int .i64 g, .slice none 0 0, .slice (some ⟨g0, 0, none⟩) 1 1] W fun e w' => ∃ A c, e = .returned (.tuple #[.slice A n c, .int .i64 0]) ∧ Sess w' A n T2 ∧ n ≤ c ∧ Below W.heap.size W w') := fun W A c g0 hs hc hg =>
      (add_items g 0 (by omega) [brL a, brR b] [brM] ok1 ok2 (by simp) A 2 c (some ⟨g0, 0, none⟩) 1 1 W (by rw [hT1]; exact hs) hc (by decide) (items_has hg rfl) (fun e => by cases e) (Nat.le_refl _)).mono fun e w' h => by
        rw [show [brL a, brR b] ++ [brM] = [brL a, brR b, brM] from rfl, hT2] at h
        obtain ⟨A, c, rs, h1, h2, h3, h4, h5⟩ := good_lit t2 h
        exact ⟨A, c, h1, h2.sess h3, h4, h5⟩
    have T3 := Lib.hid t3
    have T4 := Lib.hid t4
    have HN := Lib.hid hn
    clear hT1 hT2 t1 t2 t3 t4 ok1 ok2 hn
    go_wp2_with fail
    refine (HI.out _ _ _ _ _).mono ?_
    rintro e v1 ⟨rfl, hb⟩
    have HW1 := Lib.hid (HW0.out.trans (hb.mono HW0.out.size))
    clear hb
    go_wp2_with fail
    refine (HI.out _ _ _ _ _).mono ?_
    rintro e v2 ⟨rfl, hb⟩
    have HW2 := Lib.hid (HW1.out.trans (hb.mono HW1.out.size))
    clear hb HW0 HW1
    go_wp2_with fail
    refine (C1.out _ _ (Has.made _ _ _)).mono ?_
    rintro e w1 ⟨A1, c1, rfl, o1, n1, b1⟩
    have HS1 := Lib.hid o1
    have HW3 := Lib.hid (HW2.out.trans (((HAL.out _ _).trans (b1.mono (by simp))).mono HW2.out.size))
    clear o1 b1 HW2
    go_wp2_with fail
    refine (HI.out _ _ _ _ _).mono ?_
    rintro e v3 ⟨rfl, hb⟩
    have HS2 := Lib.hid (HS1.out.below hb)
    have HW4 := Lib.hid (HW3.out.trans (hb.mono HW3.out.size))
    clear hb HS1 HW3
    go_wp2_with fail
    refine (C2.out _ _ _ _ (HS2.out.below (HAL.out _ _)) n1 (Has.made _ _ _)).mono ?_
    rintro e w2 ⟨A2, c2, rfl, o2, n2, b2⟩
    have HT2 := Lib.hid o2
    have HW5 := Lib.hid (HW4.out.trans (((HAL.out _ _).trans (b2.mono (by simp))).mono HW4.out.size))
    clear o2 b2 HW4 HS2 C1 C2
    obtain ⟨p2, q2, rfl, hc2⟩ := HT2.out.cells (by omega)
    have x1 := (hc2 0 (by omega)).1
    have x2 := (hc2 (n - 1) (by omega)).2.1
    rw [T3.out, Nat.zero_mul, Nat.add_zero] at x1
    rw [T4.out] at x2
    clear hc2
    go_upto_region 12 with (go_at_call 17; refine (num_any _ _).mono ?_; rintro e w' ⟨rfl, rfl⟩)
    by_cases ha : a < g
    · by_cases hb : b < g
      · obtain rfl : n = 1 := by have := HN.out; rw [if_pos ha, if_pos hb] at this; omega
        simp only [Nat.sub_self, Nat.zero_mul, Nat.add_zero] at x2
        go_wp2_with fail
        go_ret
        exact ⟨rfl, HW5.out⟩
      · obtain rfl : n = 2 := by have := HN.out; rw [if_pos ha, if_neg hb] at this; omega
        simp only [Nat.reduceSub, Nat.reduceMul, Nat.add_assoc, Nat.reduceAdd] at x2
        go_wp2_with fail
        go_ret
        exact ⟨rfl, HW5.out⟩
    · by_cases hb : b < g
      · obtain rfl : n = 2 := by have := HN.out; rw [if_neg ha, if_pos hb] at this; omega
        simp only [Nat.reduceSub, Nat.reduceMul, Nat.add_assoc, Nat.reduceAdd] at x2
        go_wp2_with fail
        go_ret
        exact ⟨rfl, HW5.out⟩
      · obtain rfl : n = 3 := by have := HN.out; rw [if_neg ha, if_neg hb] at this; omega
        simp only [Nat.reduceSub, Nat.reduceMul, Nat.add_assoc, Nat.reduceAdd] at x2
        go_wp2_with fail
        go_ret
        exact ⟨rfl, HW5.out⟩

end Go.Proofs.Ytgdeaddfkcokpaa

namespace Go.Proofs.Ytgdeaddfkcokpaa
open Go.RowKit

theorem ownIt_one {w : World} {g : Nat} {x : It} (h : Has w g 23 #[.int .i64 x.s, .int .i64 x.t, .int .i64 x.q, .int .i64 x.v]) {base : Nat} (hb : base ≤ g) : OwnIt w base (.slice (some ⟨g, 0, none⟩) 1 1) [x] :=
  ⟨rfl, .inr ⟨g, 1, _, rfl, hb, h, Nat.le_refl _, by unfold maxLen; omega, rfl, rfl⟩⟩
theorem OwnIt.caps {w : World} {base : Nat} {A : Option Addr} {n c : Nat} {xs : List It} (h : OwnIt w base (.slice A n c) xs) : xs.length = n ∧ n ≤ c := by
  rcases h.2 with ⟨e, h0⟩ | ⟨g', cap, cur, e, _, _, hc, _⟩
  · injection e with _ e2 e3; omega
  · injection e with _ e2 e3; omega
theorem OwnIt.some_ {w : World} {base : Nat} {A : Option Addr} {n c : Nat} {xs : List It} (h : OwnIt w base (.slice A n c) xs) : A = none → c = 0 := fun e => by
  rcases h.2 with ⟨e0, _⟩ | ⟨g', cap, cur, e0, _⟩
  · injection e0
  · injection e0 with e1; rw [e1] at e; cases e
theorem OwnIt.grew {w w' : World} {base base' : Nat} {u v v' : Value} {xs : List It} (h : OwnIt w base u xs) (hg : Grew w w' base' v v') (hd : ∀ k, u.ownBlock = some k → v.ownBlock ≠ some k) : OwnIt w' base u xs := by
  refine ⟨h.1, ?_⟩
  rcases h.2 with h0 | ⟨g, cap, cur, e, hg2, hh, r⟩
  · exact .inl h0
  · have hk : u.ownBlock = some g := by rw [e]; rfl
    exact .inr ⟨g, cap, cur, e, hg2, (hg.far g (Has.lt (t := 23) hh) (hd g hk)).trans hh, r⟩
/-- A row of items lies where no row of integers does. -/
theorem OwnIt.other {w : World} {base base' : Nat} {v u : Value} {xs : List It} {ys : List Int} (h : OwnIt w base v xs) (hu : OwnI w base' u ys) : ∀ k, v.ownBlock = some k → u.ownBlock ≠ some k := fun k hk e => by
  rcases h.2 with ⟨ev, _⟩ | ⟨g', cap, cur, ev, _, hh, _⟩
  · simp [ev, Value.ownBlock] at hk
  · have e1 : g' = k := by simpa [ev, Value.ownBlock] using hk
    rcases hu.2 with ⟨eu, _⟩ | ⟨g2, cap2, cur2, eu, _, hh2, _⟩
    · simp [eu, Value.ownBlock] at e
    · have e2 : g2 = k := by simpa [eu, Value.ownBlock] using e
      subst e1
      subst e2
      exact has_types (show Has w _ 3 cur2 from hh2) (show Has w _ 23 cur from hh) (by decide)
/-- 's = append(s, y)' of integers in a walk: nothing else turns. -/
theorem app_intG {ops : Array Oper} {rest : List Oper} {op : Oper} {p : Act} {w : World} {Q : Exit → Act → World → Prop} (hgd : op.guard = none) (s x : Operand)
    (ho : op.op = .call { callee := .builtin .append, args := #[s, x], argTypes := #[25, 25] })
    {base g n c : Nat} {A : Option Addr} {xs : List Int} {y : Int} (hs : p.eval s = .slice A n c) (hown : OwnI w base (.slice A n c) xs) (hx : p.eval x = .slice (some ⟨g, 0, none⟩) 1 1) (hg : w.cell? ⟨g, 0, none⟩ = some (.int .i64 y))
    (hn : n ≤ 8192) (hbase : base ≤ w.heap.size)
    (h : ∀ A' c' w', OwnI w' base (.slice A' (n + 1) c') (xs ++ [y]) → Grew w w' base (.slice A n c) (.slice A' (n + 1) c') → wpList Try.prog ops Q rest (p.put op.dst (.slice A' (n + 1) c')) w') : wpList Try.prog ops Q (op :: rest) p w := by
  obtain ⟨i0, hi, hz, hs0, hy0⟩ := info_parts Try.infoInt
  have hl : xs.length = n := by
    obtain ⟨_, _, e, _⟩ := hown.form
    injection e with _ e2
    exact e2.symm
  refine wpList_append_own_at w hgd s x 25 ho base 3 i0 _ 1 8 Try.underlying25 hi hz hs0 hy0 rfl (by omega) (.slice A n c) xs.length (intL xs) hs hown ⟨g, 0, none⟩ 1 1 [.int .i64 y] hx rfl
    (fun j u hu => ?_) (fun u hu => ?_) (by unfold maxLen; omega) (by omega) hbase (fun v' w' h1 h2 _ h4 => ?_)
  · cases j with
    | zero => rw [Addr.add_mid]; simpa using hg.trans (by simpa using hu)
    | succ j => simp at hu
  · simp only [List.mem_cons, List.not_mem_nil, or_false] at hu
    subst hu; rfl
  · have h3 : OwnI w' base v' (xs ++ [y]) := by unfold OwnI; simpa [intL] using h1
    obtain ⟨A', c', rfl, _⟩ := h3.form
    have e : (xs ++ [y]).length = n + 1 := by simp [hl]
    rw [e] at h3 h4 ⊢
    refine h A' c' w' h3 ⟨⟨h2.os, h2.tape, h2.output, h2.size, fun k hk => h2.block k (by omega) (fun e => ?_)⟩, fun k hk hne => h2.block k hk (fun e => hne e.symm), h4⟩
    have := World.ownsRow.lt hown k e.symm
    omega
/-- The same of items. -/
theorem app_itemG {ops : Array Oper} {rest : List Oper} {op : Oper} {p : Act} {w : World} {Q : Exit → Act → World → Prop} (hgd : op.guard = none) (s x : Operand)
    (ho : op.op = .call { callee := .builtin .append, args := #[s, x], argTypes := #[46, 46] })
    {base g n c : Nat} {A : Option Addr} {xs : List It} (y : It) (hs : p.eval s = .slice A n c) (hown : OwnIt w base (.slice A n c) xs) (hx : p.eval x = .slice (some ⟨g, 0, none⟩) 1 1) (hg : Has w g 23 #[.int .i64 y.s, .int .i64 y.t, .int .i64 y.q, .int .i64 y.v])
    (hn : n ≤ 8192) (hbase : base ≤ w.heap.size)
    (h : ∀ A' c' w', OwnIt w' base (.slice A' (n + 1) c') (xs ++ [y]) → Grew w w' base (.slice A n c) (.slice A' (n + 1) c') → wpList Try.prog ops Q rest (p.put op.dst (.slice A' (n + 1) c')) w') : wpList Try.prog ops Q (op :: rest) p w := by
  obtain ⟨i0, hi, hz, hs0, hy0⟩ := info_parts Try.infoItem
  have hl : xs.length = n := hown.caps.1
  refine wpList_append_own_at w hgd s x 46 ho base 23 i0 _ 4 32 Try.underlying46 hi hz hs0 hy0 rfl (by omega) (.slice A n c) xs.length (xs.flatMap itemL) hs hown ⟨g, 0, none⟩ 1 1 (itemL y) hx rfl
    (fun j u hu => ?_) (fun u hu => ?_) (by unfold maxLen; omega) (by omega) hbase (fun v' w' h1 h2 _ h4 => ?_)
  · rw [Addr.add_mid, hg.cell, Nat.zero_add]
    simpa [itemL] using hu
  · simp only [itemL, List.mem_cons, List.not_mem_nil, or_false] at hu
    rcases hu with rfl | rfl | rfl | rfl <;> rfl
  · have h3 : OwnIt w' base v' (xs ++ [y]) := by unfold OwnIt; simpa [List.flatMap_append] using h1
    obtain ⟨A', c', rfl, _⟩ := h3.form
    have e : (xs ++ [y]).length = n + 1 := by simp [hl]
    rw [e] at h3 h4 ⊢
    refine h A' c' w' h3 ⟨⟨h2.os, h2.tape, h2.output, h2.size, fun k hk => h2.block k (by omega) (fun e => ?_)⟩, fun k hk hne => h2.block k hk (fun e => hne e.symm), h4⟩
    have := World.ownsRow.lt hown k e.symm
    omega

end Go.Proofs.Ytgdeaddfkcokpaa
