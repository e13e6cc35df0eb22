/-
  Walk: SessionBridge: an item between two sessions.
-/
import Derived.Test.YtgdeaddfkcokpaaG6f
import Derived.Test.YtgdeaddfkcokpaaMask
namespace Go.Proofs.Ytgdeaddfkcokpaa
open Go.RowKit

/-! Plain: which sessions there are, told by any blocks. -/
theorem ss_runs {g : Int} (hg : 0 < g) {xs : List It} {Bs : List (List It)} (ha : ∀ x, x ∈ xs → ∀ y, y ∈ xs → x = y ∨ Apart x y) (hR : Runs g Bs) (hp : Bs.flatten.Perm xs) : SS g xs = Bs.map (seOf []) := by
  obtain ⟨As, e1, r1, p1⟩ := all_nil hg (bs := []) xs
  rw [SS, e1]
  exact all_perm hg r1 hR (p1.trans hp.symm) fun x hx y hy => ha x (p1.mem_iff.1 hx) y (p1.mem_iff.1 hy)
theorem blk_first {B : List It} {x : It} (hx : x ∈ B) (h : ∀ y, y ∈ B → x.t ≤ y.t) : (seOf [] B).f = x.t := by
  obtain ⟨h1, h2⟩ := blk_f (bs := []) (B := B) (List.ne_nil_of_mem hx)
  have h3 := h _ h1
  have h4 := h2 x hx
  show (blkA [] B).f.t = x.t
  omega
theorem blk_last {B : List It} {x : It} (hx : x ∈ B) (h : ∀ y, y ∈ B → y.t ≤ x.t) : (seOf [] B).l = x.t := by
  obtain ⟨h1, h2⟩ := blk_l (bs := []) (B := B) (List.ne_nil_of_mem hx)
  have h3 := h _ h1
  have h4 := h2 x hx
  show (blkA [] B).l.t = x.t
  omega
abbrev brL (a : Int) : It := ⟨0, -a, 1, 1⟩
abbrev brR (b : Int) : It := ⟨0, b, 2, 1⟩
abbrev brM : It := ⟨0, 0, 3, 1⟩
theorem br_apart (a b : Int) : ∀ x, x ∈ [brL a, brR b, brM] → ∀ y, y ∈ [brL a, brR b, brM] → x = y ∨ Apart x y := fun x hx y hy => by
  simp only [List.mem_cons, List.not_mem_nil, or_false] at hx hy
  rcases hx with rfl | rfl | rfl <;> rcases hy with rfl | rfl | rfl <;> first | exact .inl rfl | exact .inr (.inr (by simp))
theorem br_two {g a b : Int} (hg : 0 < g) (h : g ≤ a + b) : (SS g [brL a, brR b]).length = 2 := by
  have up : ∀ x, x ∈ [brL a, brR b] → x ∈ [brL a, brR b, brM] := fun x hx => by
    simp only [List.mem_cons, List.not_mem_nil, or_false] at hx ⊢
    rcases hx with h | h
    · exact .inl h
    · exact .inr (.inl h)
  rw [ss_runs hg (Bs := [[brL a], [brR b]]) (fun x hx y hy => br_apart a b x (up x hx) y (up y hy)) ⟨by simp, conn_one _ _, fun x hx y hy => by
    simp only [List.flatten_cons, List.flatten_nil, List.append_nil, List.mem_singleton] at hx hy; subst hx hy; simp only; omega, by simp, conn_one _ _, (fun x hx y hy => by cases hy), trivial⟩ (List.Perm.refl _)]
  rfl
theorem br_three {g a b : Int} (hg : 0 < g) (ha : 1 ≤ a) (hb : 1 ≤ b) (h : g ≤ a + b) : ∃ n : Nat, (n : Int) = 3 - (if a < g then 1 else 0) - (if b < g then 1 else 0) ∧ (SS g [brL a, brR b, brM]).length = n ∧ (nthE (SS g [brL a, brR b, brM]) 0).f = -a ∧ (nthE (SS g [brL a, brR b, brM]) (n - 1)).l = b := by
  by_cases h1 : a < g
  · by_cases h2 : b < g
    · rw [ss_runs hg (Bs := [[brL a] ++ ([brM] ++ [brR b])]) (br_apart a b) ⟨by simp, conn_append (a := brL a) (c := brM) (conn_one _ _) (conn_append (a := brM) (c := brR b) (conn_one _ _) (conn_one _ _) (by simp) (by simp) (by simp only; omega) (by simp only; omega)) (by simp) (by simp) (by simp only; omega) (by simp only; omega), (fun x hx y hy => by cases hy), trivial⟩
        (by show ([brL a, brM, brR b] : List It).Perm _; exact (List.Perm.swap _ _ _).cons _)]
      refine ⟨1, by rw [if_pos h1, if_pos h2]; rfl, rfl, ?_, ?_⟩
      · exact (blk_first (x := brL a) (by simp) fun y hy => by simp only [List.cons_append, List.nil_append, List.mem_cons, List.not_mem_nil, or_false] at hy; rcases hy with rfl | rfl | rfl <;> simp only <;> omega)
      · exact (blk_last (x := brR b) (by simp) fun y hy => by simp only [List.cons_append, List.nil_append, List.mem_cons, List.not_mem_nil, or_false] at hy; rcases hy with rfl | rfl | rfl <;> simp only <;> omega)
    · rw [ss_runs hg (Bs := [[brL a] ++ [brM], [brR b]]) (br_apart a b) ⟨by simp, conn_append (a := brL a) (c := brM) (conn_one _ _) (conn_one _ _) (by simp) (by simp) (by simp only; omega) (by simp only; omega), (fun x hx y hy => by
        simp only [List.cons_append, List.nil_append, List.flatten_cons, List.flatten_nil, List.append_nil, List.mem_cons, List.not_mem_nil, or_false] at hx hy; subst hy; rcases hx with rfl | rfl <;> simp only <;> omega), by simp, conn_one _ _, (fun x hx y hy => by cases hy), trivial⟩
        (by show ([brL a, brM, brR b] : List It).Perm _; exact (List.Perm.swap _ _ _).cons _)]
      refine ⟨2, by rw [if_pos h1, if_neg h2]; rfl, rfl, ?_, ?_⟩
      · exact (blk_first (x := brL a) (by simp) fun y hy => by simp only [List.cons_append, List.nil_append, List.mem_cons, List.not_mem_nil, or_false] at hy; rcases hy with rfl | rfl <;> simp only <;> omega)
      · exact (blk_last (x := brR b) (by simp) fun y hy => by simp only [List.mem_cons, List.not_mem_nil, or_false] at hy; subst hy; simp only; omega)
  · by_cases h2 : b < g
    · rw [ss_runs hg (Bs := [[brL a], [brM] ++ [brR b]]) (br_apart a b) ⟨by simp, conn_one _ _, (fun x hx y hy => by
        simp only [List.cons_append, List.nil_append, List.flatten_cons, List.flatten_nil, List.append_nil, List.mem_cons, List.not_mem_nil, or_false] at hx hy; subst hx; rcases hy with rfl | rfl <;> simp only <;> omega), by simp, conn_append (a := brM) (c := brR b) (conn_one _ _) (conn_one _ _) (by simp) (by simp) (by simp only; omega) (by simp only; omega), (fun x hx y hy => by cases hy), trivial⟩
        (by show ([brL a, brM, brR b] : List It).Perm _; exact (List.Perm.swap _ _ _).cons _)]
      refine ⟨2, by rw [if_neg h1, if_pos h2]; rfl, rfl, ?_, ?_⟩
      · exact (blk_first (x := brL a) (by simp) fun y hy => by simp only [List.mem_cons, List.not_mem_nil, or_false] at hy; subst hy; simp only; omega)
      · exact (blk_last (x := brR b) (by simp) fun y hy => by simp only [List.cons_append, List.nil_append, List.mem_cons, List.not_mem_nil, or_false] at hy; rcases hy with rfl | rfl <;> simp only <;> omega)
    · rw [ss_runs hg (Bs := [[brL a], [brM], [brR b]]) (br_apart a b) ⟨by simp, conn_one _ _, (fun x hx y hy => by
        simp only [List.cons_append, List.nil_append, List.flatten_cons, List.flatten_nil, List.append_nil, List.mem_cons, List.not_mem_nil, or_false] at hx hy; subst hx; rcases hy with rfl | rfl <;> simp only <;> omega), by simp, conn_one _ _, (fun x hx y hy => by
        simp only [List.flatten_cons, List.flatten_nil, List.append_nil, List.mem_cons, List.not_mem_nil, or_false] at hx hy; subst hx hy; simp only; omega), by simp, conn_one _ _, (fun x hx y hy => by cases hy), trivial⟩
        (by show ([brL a, brM, brR b] : List It).Perm _; exact (List.Perm.swap _ _ _).cons _)]
      refine ⟨3, by rw [if_neg h1, if_neg h2]; rfl, rfl, ?_, ?_⟩
      · exact (blk_first (x := brL a) (by simp) fun y hy => by simp only [List.mem_cons, List.not_mem_nil, or_false] at hy; subst hy; simp only; omega)
      · exact (blk_last (x := brR b) (by simp) fun y hy => by simp only [List.mem_cons, List.not_mem_nil, or_false] at hy; subst hy; simp only; omega)
theorem mask63 (n : Int) : bits .and .i64 n 63 = n % 64 := mask_of n 6 63 (by decide) (by decide)
theorem mask127 (n : Int) : bits .and .i64 n 127 = n % 128 := mask_of n 7 127 (by decide) (by decide)
theorem mask31 (n : Int) : bits .and .i64 n 31 = n % 32 := mask_of n 5 31 (by decide) (by decide)
theorem mask15 (n : Int) : bits .and .i64 n 15 = n % 16 := mask_of n 4 15 (by decide) (by decide)

set_option maxRecDepth 100000 in
set_option maxHeartbeats 4000000 in
theorem bridge_any (a1 a2 a3 : Int) (w : World) :
    Calls Try.prog 7 #[.int .i64 a1, .int .i64 a2, .int .i64 a3] w fun e w' => e = .returned (.bool true) ∧ Below w.heap.size w w' := by
  obtain ⟨d1, m1, l1, u1⟩ : ∃ d : Int, bits .and .i64 a1 63 = d ∧ 0 ≤ d ∧ d ≤ 63 := ⟨a1 % 64, mask63 a1, by omega, by omega⟩
  obtain ⟨d2, m2, l2, u2⟩ : ∃ d : Int, bits .and .i64 a2 127 = d ∧ 0 ≤ d ∧ d ≤ 127 := ⟨a2 % 128, mask127 a2, by omega, by omega⟩
  obtain ⟨d3, m3, l3, u3⟩ : ∃ d : Int, bits .and .i64 a3 127 = d ∧ 0 ≤ d ∧ d ≤ 127 := ⟨a3 % 128, mask127 a3, by omega, by omega⟩
  have HI : Hid (∀ (s t q v : Int) (W : World), Calls Try.prog 34 #[.int .i64 s, .int .i64 t, .int .i64 q, .int .i64 v] W fun e w' => e = .returned (.agg #[.int .i64 s, .int .i64 t, .int .i64 q, .int .i64 v]) ∧ Below W.heap.size W w') := sitem_any
  have HAL : Hid (∀ (W : World) o, Below W.heap.size W (W.alloc o)) := fun W o => (Below.refl _ _).alloc (Nat.le_refl _) o
  go_enter Try.func7, Try.ntmps7
  go_wp2_with fail
  refine (sawake_any _).mono ?_
  rintro e v0 ⟨rfl, hb⟩
  have HW0 := Lib.hid hb
  clear hb
  go_upto_region 5 with fail
  by_cases hlt : (1 + d2) + (1 + d3) < 1 + d1
  · go_wp2_with fail
    go_ret
    exact ⟨rfl, HW0.out⟩
  · go_upto_region 7 with fail
    have bg : 1 ≤ 1 + d1 ∧ 1 + d1 ≤ 64 := by omega
    have ba : 1 ≤ 1 + d2 ∧ 1 + d2 ≤ 128 := by omega
    have bb : 1 ≤ 1 + d3 ∧ 1 + d3 ≤ 128 := by omega
    clear m1 m2 m3
    generalize 1 + d1 = g at hlt bg ⊢
    generalize 1 + d2 = a at hlt ba ⊢
    generalize 1 + d3 = b at hlt bb ⊢
    clear l1 u1 l2 u2 l3 u3
    obtain ⟨T1, hT1⟩ : ∃ T, SS g [brL a, brR b] = T := ⟨_, rfl⟩
    obtain ⟨T2, hT2⟩ : ∃ T, SS g [brL a, brR b, brM] = T := ⟨_, rfl⟩
    have t1 := br_two (g := g) (a := a) (b := b) (by omega) (by omega)
    obtain ⟨n, hn, t2, t3, t4⟩ := br_three (g := g) (a := a) (b := b) (by omega) (by omega) (by omega) (by omega)
    rw [hT1] at t1
    rw [hT2] at t2 t3 t4
    have hn3 : n ≤ 3 ∧ 1 ≤ n := by
      split at hn <;> split at hn <;> omega
    have ok1 : ItsOk 0 [brL a, brR b] := fun x hx => by
      simp only [List.mem_cons, List.not_mem_nil, or_false] at hx
      rcases hx with rfl | rfl <;> exact ⟨itemB_iff.2 (by simp only; omega), rfl⟩
    have ok2 : ItsOk 0 [brM] := fun x hx => by
      simp only [List.mem_cons, List.not_mem_nil, or_false] at hx
      subst hx; exact ⟨itemB_iff.2 (by simp only; omega), rfl⟩
    have C1 : Hid (∀ (W : World) (g0 : Nat), Has W g0 23 (([brL a, brR b] : List It).flatMap itemL).toArray → Calls Try.prog 26 #[.slice none 0 0, .int .i64 g, .slice none 0 0, .slice (some ⟨g0, 0, none⟩) 2 2] W fun e w' => ∃ A c, e = .returned (.tuple #[.slice A 2 c, .int .i64 0]) ∧ Sess w' A 2 T1 ∧ 2 ≤ c ∧ Below W.heap.size W w') := fun W g0 hg =>
      (add_items g 0 (by omega) [] [brL a, brR b] (fun x hx => by cases hx) ok1 (by simp) none 0 0 (some ⟨g0, 0, none⟩) 2 2 W (Sess.nil _ _) (Nat.le_refl _) (by decide) (items_has hg rfl) (fun e => by cases e) (Nat.le_refl _)).mono fun e w' h => by
        rw [List.nil_append, hT1] at h
        obtain ⟨A, c, rs, h1, h2, h3, h4, h5⟩ := good_lit t1 h
        exact ⟨A, c, h1, h2.sess h3, h4, h5⟩
    have C2 : Hid (∀ (W : World) (A : Option Addr) (c g0 : Nat), Sess W A 2 T1 → 2 ≤ c → Has W g0 23 (([brM] : List It).flatMap itemL).toArray → Calls Try.prog 26 #[.slice A 2 c, .int .i64 g, .slice none 0 0, .slice (some ⟨g0, 0, none⟩) 1 1] W fun e w' => ∃ A c, e = .returned (.tuple #[.slice A n c, .int .i64 0]) ∧ Sess w' A n T2 ∧ n ≤ c ∧ Below W.heap.size W w') := fun W A c g0 hs hc hg =>
      (add_items g 0 (by omega) [brL a, brR b] [brM] ok1 ok2 (by simp) A 2 c (some ⟨g0, 0, none⟩) 1 1 W (by rw [hT1]; exact hs) hc (by decide) (items_has hg rfl) (fun e => by cases e) (Nat.le_refl _)).mono fun e w' h => by
        rw [show [brL a, brR b] ++ [brM] = [brL a, brR b, brM] from rfl, hT2] at h
        obtain ⟨A, c, rs, h1, h2, h3, h4, h5⟩ := good_lit t2 h
        exact ⟨A, c, h1, h2.sess h3, h4, h5⟩
    have T3 := Lib.hid t3
    have T4 := Lib.hid t4
    have HN := Lib.hid hn
    clear hT1 hT2 t1 t2 t3 t4 ok1 ok2 hn
    go_wp2_with fail
    refine (HI.out _ _ _ _ _).mono ?_
    rintro e v1 ⟨rfl, hb⟩
    have HW1 := Lib.hid (HW0.out.trans (hb.mono HW0.out.size))
    clear hb
    go_wp2_with fail
    refine (HI.out _ _ _ _ _).mono ?_
    rintro e v2 ⟨rfl, hb⟩
    have HW2 := Lib.hid (HW1.out.trans (hb.mono HW1.out.size))
    clear hb HW0 HW1
    go_wp2_with fail
    refine (C1.out _ _ (Has.made _ _ _)).mono ?_
    rintro e w1 ⟨A1, c1, rfl, o1, n1, b1⟩
    have HS1 := Lib.hid o1
    have HW3 := Lib.hid (HW2.out.trans (((HAL.out _ _).trans (b1.mono (by simp))).mono HW2.out.size))
    clear o1 b1 HW2
    go_wp2_with fail
    refine (HI.out _ _ _ _ _).mono ?_
    rintro e v3 ⟨rfl, hb⟩
    have HS2 := Lib.hid (HS1.out.below hb)
    have HW4 := Lib.hid (HW3.out.trans (hb.mono HW3.out.size))
    clear hb HS1 HW3
    go_wp2_with fail
    refine (C2.out _ _ _ _ (HS2.out.below (HAL.out _ _)) n1 (Has.made _ _ _)).mono ?_
    rintro e w2 ⟨A2, c2, rfl, o2, n2, b2⟩
    have HT2 := Lib.hid o2
    have HW5 := Lib.hid (HW4.out.trans (((HAL.out _ _).trans (b2.mono (by simp))).mono HW4.out.size))
    clear o2 b2 HW4 HS2 C1 C2
    obtain ⟨p2, q2, rfl, hc2⟩ := HT2.out.cells (by omega)
    have x1 := (hc2 0 (by omega)).1
    have x2 := (hc2 (n - 1) (by omega)).2.1
    rw [T3.out, Nat.zero_mul, Nat.add_zero] at x1
    rw [T4.out] at x2
    clear hc2
    go_upto_region 12 with (go_at_call 17; refine (num_any _ _).mono ?_; rintro e w' ⟨rfl, rfl⟩)
    by_cases ha : a < g
    · by_cases hb : b < g
      · obtain rfl : n = 1 := by have := HN.out; rw [if_pos ha, if_pos hb] at this; omega
        simp only [Nat.sub_self, Nat.zero_mul, Nat.add_zero] at x2
        go_wp2_with fail
        go_ret
        exact ⟨rfl, HW5.out⟩
      · obtain rfl : n = 2 := by have := HN.out; rw [if_pos ha, if_neg hb] at this; omega
        simp only [Nat.reduceSub, Nat.reduceMul, Nat.add_assoc, Nat.reduceAdd] at x2
        go_wp2_with fail
        go_ret
        exact ⟨rfl, HW5.out⟩
    · by_cases hb : b < g
      · obtain rfl : n = 2 := by have := HN.out; rw [if_neg ha, if_pos hb] at this; omega
        simp only [Nat.reduceSub, Nat.reduceMul, Nat.add_assoc, Nat.reduceAdd] at x2
        go_wp2_with fail
        go_ret
        exact ⟨rfl, HW5.out⟩
      · obtain rfl : n = 3 := by have := HN.out; rw [if_neg ha, if_neg hb] at this; omega
        simp only [Nat.reduceSub, Nat.reduceMul, Nat.add_assoc, Nat.reduceAdd] at x2
        go_wp2_with fail
        go_ret
        exact ⟨rfl, HW5.out⟩

end Go.Proofs.Ytgdeaddfkcokpaa
