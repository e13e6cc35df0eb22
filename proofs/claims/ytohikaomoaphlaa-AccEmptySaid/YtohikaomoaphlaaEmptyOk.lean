/-
  Walk: AccEmpty, of an item and bounds that may be.
-/
import Derived.Test.YtohikaomoaphlaaEmpty
import Derived.Test.YtohikaomoaphlaaMask
import Derived.Test.YtohikaomoaphlaaEmptyEnd
namespace Go.Proofs.Ytohikaomoaphlaa
open Go.RowKit

theorem four_size (a : Ac) (A : Option Addr) (k c : Nat) : (accC a A k c ++ accC a A k c ++ accC a A k c ++ accC a A k c).size = 52 := by
  have hs : (accC a A k c).size = 13 := rfl
  rw [Array.size_append, Array.size_append, Array.size_append, hs]
theorem one_hlen (x : It) (bs : List Int) : (oneAc x bs).h.length = bs.length + 1 := by simp [oneAc]
theorem add_start (bs : List Int) (X : Ac) (h : X.h.length = bs.length + 1) : addAc (startJ bs) X = X := by
  obtain ⟨n, s, mn, mx, f, l, hh⟩ := X
  simp only [addAc, startJ, Int.zero_add, if_true, Ac.mk.injEq, true_and]
  refine nth_ext (by simpa using h.symm) fun i hi => ?_
  have hi' : i < bs.length + 1 := by simpa using hi
  rw [nth_range_map _ _ (by simpa using hi')]
  have e : nth (List.replicate (bs.length + 1) 0) i = 0 := by simp [nth, hi']
  rw [e]; simp
theorem isum_one (n : Nat) {k : Nat} (hk : k < n) : isum ((List.replicate n 0).set k 1) = 1 := by
  have h0 : ∀ n : Nat, isum (List.replicate n 0) = 0 := fun n => by induction n with
    | zero => rfl
    | succ n ih => simp only [List.replicate_succ, isum, ih]; rfl
  induction n generalizing k with
  | zero => omega
  | succ n ih =>
    cases k with
    | zero => simp only [List.replicate_succ, List.set_cons_zero, isum, h0]; rfl
    | succ k =>
      have := ih (k := k) (by omega)
      simp only [List.replicate_succ, List.set_cons_succ, isum, this]; rfl
theorem one_fit {x : It} {bs : List Int} (hx : itemB x = true) : fitB (oneAc x bs) (bs.length + 1) = true := by
  have hk : bkt bs x.v < bs.length + 1 := by have := bkt_le bs x.v; omega
  have hr : ∀ i, i < bs.length + 1 → 0 ≤ nth ((List.replicate (bs.length + 1) 0).set (bkt bs x.v) 1) i ∧ nth ((List.replicate (bs.length + 1) 0).set (bkt bs x.v) 1) i ≤ 8192 := fun i hi => by
    by_cases e : bkt bs x.v = i
    · subst e
      have e2 : nth ((List.replicate (bs.length + 1) 0).set (bkt bs x.v) 1) (bkt bs x.v) = 1 := by simp [nth, hi]
      omega
    · have e2 : nth ((List.replicate (bs.length + 1) 0).set (bkt bs x.v) 1) i = 0 := by simp [nth, e, hi]
      omega
  have hv := itemB_iff.1 hx
  have e1 : wi (oneAc x bs).n 0 8192 = true := wi_mk (by simp only [oneAc]; omega)
  have e2 : histB (oneAc x bs) (bs.length + 1) = true := decide_eq_true ⟨by simp [oneAc], fun i hi => hr i (by simpa [oneAc] using hi), isum_one _ hk⟩
  have e3 : endsB (oneAc x bs) = true := decide_eq_true ⟨hx, hx, rfl, by simp [oneAc, beforeB]⟩
  have e4 : valsB (oneAc x bs) = true := decide_eq_true (by simp only [oneAc]; omega)
  have e5 : ¬ (oneAc x bs).n = 0 := by simp only [oneAc]; decide
  unfold fitB
  rw [e1, e2, e3, e4, if_neg e5]
  rfl
theorem start_fit (bs : List Int) : fitB (startJ bs) (bs.length + 1) = true := by
  have hr : ∀ i, i < bs.length + 1 → nth (List.replicate (bs.length + 1) 0) i = 0 := fun i hi => by simp [nth, hi]
  have h0 : ∀ n : Nat, isum (List.replicate n 0) = 0 := fun n => by induction n with
    | zero => rfl
    | succ n ih => simp only [List.replicate_succ, isum, ih]; rfl
  have e2 : histB (startJ bs) (bs.length + 1) = true := decide_eq_true ⟨by simp [startJ], fun i hi => by
    have := hr i (by simpa [startJ] using hi)
    simp only [startJ]; omega, h0 _⟩
  have e3 : zeroB (startJ bs) = true := decide_eq_true (by simp [startJ, zeroIt])
  have e1 : wi (startJ bs).n 0 8192 = true := wi_mk (by simp only [startJ]; omega)
  have e5 : (startJ bs).n = 0 := rfl
  unfold fitB
  rw [e1, e2, if_pos e5, e3]
  rfl
theorem four_tog {m : Int} {N X : Ac} (hN : fitB N m = true) (hX : fitB X m = true) (h0 : N.n = 0) (h1 : ¬ X.n = 0) {i : Nat} (hi : i < 4) : togB m (-1) ([N, N, N, N].set i X) = true := by
  have h5 : i = 0 ∨ i = 1 ∨ i = 2 ∨ i = 3 := by omega
  rcases h5 with rfl | rfl | rfl | rfl <;> simp [togB, hN, hX, h0, h1]
theorem four_total {N X : Ac} (h0 : N.n = 0) {i : Nat} (hi : i < 4) : totalA ([N, N, N, N].set i X) = X.n := by
  have h5 : i = 0 ∨ i = 1 ∨ i = 2 ∨ i = 3 := by omega
  rcases h5 with rfl | rfl | rfl | rfl <;> simp [totalA, isum, h0]
theorem four_join {bs : List Int} {N X : Ac} (h0 : N.n = 0) (h1 : ¬ X.n = 0) (hl : X.h.length = bs.length + 1) {i : Nat} (hi : i < 4) : joinAc bs ([N, N, N, N].set i X) = X := by
  have e := add_start bs X hl
  have h5 : i = 0 ∨ i = 1 ∨ i = 2 ∨ i = 3 := by omega
  unfold startJ at e
  rcases h5 with rfl | rfl | rfl | rfl <;> simp [joinAc, joinStep, h0, h1, e]
theorem start_hlen (bs : List Int) : (startJ bs).h.length = bs.length + 1 := by simp [startJ]

set_option maxRecDepth 100000 in
set_option maxHeartbeats 4000000 in
theorem empty_ok (x : It) (B : Option Addr) (m d : Nat) (bs : List Int) (k : Int) (w : World) (hbs : Ints w B m bs) (hx : itemB x = true) (hb : boundsB bs = true) :
    Calls Try.prog 6 #[.agg #[.int .i64 x.s, .int .i64 x.t, .int .i64 x.q, .int .i64 x.v], .slice B m d, .int .i64 k] w fun e w' => e = .returned (.bool true) ∧ Below w.heap.size w w' := by
  have h8 : m ≤ 8 := by have := (boundsB_true hb).1; rw [hbs.1] at this; exact this
  go_enter Try.func6, Try.ntmps6
  go_wp2_with fail
  refine (awake_any _).mono ?_
  rintro e w1 ⟨rfl, hb1⟩
  have hB0 : Below w.heap.size w w1 := ((Below.refl _ _).alloc (Nat.le_refl _) _).trans (hb1.mono (by simp))
  have HX : Has w1 w.heap.size 23 _ := has_below (Has.made _ _ _) hb1
  have HBS := Lib.hid (hbs.below hB0)
  have hc1 : ∀ b o, b < w.heap.size + 1 → w1.cell? ⟨b, o, none⟩ = _ := oldCells hb1 (by simp)
  clear hb1
  go_wp2_with fail
  refine (one_ok x B m d bs _ HBS.out hx hb).mono ?_
  rintro e w2 ⟨y7, hy, rfl, hh7, hb2⟩
  clear hc1 hy
  replace hB0 := hB0.trans (hb2.mono hB0.size)
  replace HX := has_below HX hb2
  replace HBS := Lib.hid (HBS.out.below hb2)
  clear hb2
  obtain ⟨X, hX⟩ : ∃ a, oneAc x bs = a := ⟨_, rfl⟩
  have hXl := one_hlen x bs
  rw [hX] at hh7 hXl ⊢
  have HXL := Lib.hid hXl; clear hXl
  have HXE := Lib.hid hX; clear hX
  go_upto_region 4 with (refine store_new rfl _ _ rfl rfl rfl rfl ?_; intro wn hbn hvn)
  replace hB0 := hB0.trans (hbn.mono hB0.size)
  replace HX := has_below HX hbn
  replace HBS := Lib.hid (HBS.out.below hbn)
  replace hh7 := has_below hh7 hbn
  generalize w2.heap.size = g7 at hvn ⊢
  have V7 : V wn g7 y7 X := ⟨hvn, hh7⟩
  clear hvn hh7 hbn
  go_wp2_with fail
  refine (join_ok B m d bs none 0 0 [] _ HBS.out (Accs.nil _ none) (by omega) hb rfl (by simp [totalA, isum])).mono ?_
  rw [join_none]
  rintro e w3 ⟨y9, hy, rfl, hh9, hb3⟩
  clear hy
  replace hB0 := hB0.trans (hb3.mono hB0.size)
  replace HX := has_below HX hb3
  replace HBS := Lib.hid (HBS.out.below hb3)
  replace V7 := V7.below hb3
  obtain ⟨N, hN⟩ : ∃ a, startJ bs = a := ⟨_, rfl⟩
  have hNl := start_hlen bs
  rw [hN] at hh9 hNl ⊢
  have HNL := Lib.hid hNl; clear hNl
  have HNE := Lib.hid hN; clear hN
  clear hb3
  go_upto_region 5 with (refine store_new rfl _ _ rfl rfl rfl rfl ?_; intro wq hbq hvq)
  replace hB0 := hB0.trans (hbq.mono hB0.size)
  replace HX := has_below HX hbq
  replace HBS := Lib.hid (HBS.out.below hbq)
  replace V7 := V7.below hbq
  replace hh9 := has_below hh9 hbq
  generalize w3.heap.size = g9 at hvq ⊢
  have V9 : V wq g9 y9 N := ⟨hvq, hh9⟩
  clear hvq hh9 hbq
  go_upto_region 8 with (first | (go_at_call 17; refine (num_any _ _).mono ?_; rintro e w' ⟨rfl, rfl⟩) | (refine load_has rfl _ rfl _ rfl V9.cells ?_) | (refine lit4 rfl _ _ _ _ rfl rfl rfl rfl rfl ?_; intro wl hbl hvl))
  obtain ⟨i, hi4, hik⟩ : ∃ i : Nat, i < 4 ∧ k % 4 = i := ⟨(k % 4).toNat, by omega, by omega⟩
  have hmask : bits .and .i64 k 3 = (i : Int) := by rw [mask3, hik]
  clear hik
  have hb4 : (i : Int) < 4 := by omega
  have HT : wl.there wq.heap.size (i * 13) 13 := there_row hvl (by rw [four_size]; omega)
  have V7l := V7.below hbl
  go_upto_region 9 with (first | (refine load_has rfl _ rfl _ rfl V7l.cells ?_) | (refine wpList_store_mid rfl 29 _ _ rfl wq.heap.size (i * 13) (accC X (some ⟨y7, 0, none⟩) X.h.length X.h.length) rfl rfl HT Try.sizeAcc (accC_one _ _ _ _) ?_))
  have hX1 : X.n = 1 := by rw [← HXE.out]; rfl
  have hN0 : N.n = 0 := by rw [← HNE.out]; rfl
  have hXn : ¬ X.n = 0 := by omega
  have hXlen : X.h.length ≤ maxLen := by rw [HXL.out]; have := (boundsB_true hb).1; unfold maxLen; omega
  have hNlen : N.h.length ≤ maxLen := by rw [HNL.out]; have := (boundsB_true hb).1; unfold maxLen; omega
  have hAs := accs_four (i := i) hvl hi4 (fun w' hb => V9.ints.below (hbl.trans hb)) (fun w' hb => V7.ints.below (hbl.trans hb)) ⟨Nat.le_refl _, hNlen⟩ ⟨Nat.le_refl _, hXlen⟩
  have hbs2 : Below wq.heap.size wq (wl.setCells wq.heap.size (i * 13) (accC X (some ⟨y7, 0, none⟩) X.h.length X.h.length).toList) := below_cells (Nat.le_refl _) _ _ _ hbl
  clear HT V7l hmask hvl hbl
  generalize wl.setCells wq.heap.size (i * 13) (accC X (some ⟨y7, 0, none⟩) X.h.length X.h.length).toList = ws at hAs hbs2 ⊢
  replace hB0 := hB0.trans (hbs2.mono hB0.size)
  replace HX := has_below HX hbs2
  replace HBS := Lib.hid (HBS.out.below hbs2)
  replace V7 := V7.below hbs2
  replace V9 := V9.below hbs2
  clear hbs2
  have hfX : fitB X (bs.length + 1) = true := by rw [← HXE.out]; exact one_fit hx
  have hfN : fitB N (bs.length + 1) = true := by rw [← HNE.out]; exact start_fit bs
  have hC := join_ok B m d bs _ 4 4 ([N, N, N, N].set i X) ws HBS.out hAs (by omega) hb (four_tog hfN hfX hN0 hXn hi4) (by rw [four_total hN0 hi4]; omega)
  rw [four_join hN0 hXn HXL.out hi4] at hC
  have HC := Lib.hid hC
  have HFN := Lib.hid hfN
  have HN0 := Lib.hid hN0
  have HX1 := Lib.hid hX1
  clear hC hAs hX1 hN0 hXn hfX hfN
  go_wp2_with fail
  refine HC.out.mono ?_
  rintro e w4 ⟨y12, hy, rfl, hh12, hb4⟩
  clear hy HC
  replace hB0 := hB0.trans (hb4.mono hB0.size)
  replace HX := has_below HX hb4
  replace HBS := Lib.hid (HBS.out.below hb4)
  replace V7 := V7.below hb4
  replace V9 := V9.below hb4
  clear hb4
  go_upto_region 10 with (refine store_new rfl _ _ rfl rfl rfl rfl ?_; intro wn hbn hvn)
  replace hB0 := hB0.trans (hbn.mono hB0.size)
  replace HX := has_below HX hbn
  replace HBS := Lib.hid (HBS.out.below hbn)
  replace V7 := V7.below hbn
  replace V9 := V9.below hbn
  replace hh12 := has_below hh12 hbn
  generalize w4.heap.size = g12 at hvn ⊢
  have V12 : V wn g12 y12 X := ⟨hvn, hh12⟩
  clear hvn hh12 hbn
  go_wp2_with (first | (refine load_has rfl _ rfl _ rfl V9.cells ?_) | (refine lit2 rfl _ _ rfl rfl rfl ?_; intro wl hbl hvl))
  replace hB0 := hB0.trans (hbl.mono hB0.size)
  replace HX := has_below HX hbl
  replace HBS := Lib.hid (HBS.out.below hbl)
  replace V7 := V7.below hbl
  replace V9 := V9.below hbl
  replace V12 := V12.below hbl
  have hAs := accs_two hvl rfl V9.ints V9.ints ⟨Nat.le_refl _, hNlen⟩ ⟨Nat.le_refl _, hNlen⟩
  clear hvl hbl
  have hC := join_ok B m d bs _ 2 2 [N, N] _ HBS.out hAs (by omega) hb (by simp [togB, HFN.out, HN0.out]) (by simp [totalA, isum, HN0.out])
  rw [show joinAc bs [N, N] = N from by rw [← HNE.out]; rfl] at hC
  refine hC.mono ?_
  clear hC hAs
  rintro e w5 ⟨y14, hy, rfl, hh14, hb5⟩
  clear hy
  replace hB0 := hB0.trans (hb5.mono hB0.size)
  replace HX := has_below HX hb5
  replace V7 := V7.below hb5
  replace V9 := V9.below hb5
  replace V12 := V12.below hb5
  clear hb5 HBS
  go_upto_region 11 with (refine store_new rfl _ _ rfl rfl rfl rfl ?_; intro wn hbn hvn)
  replace hB0 := hB0.trans (hbn.mono hB0.size)
  replace HX := has_below HX hbn
  replace V7 := V7.below hbn
  replace V9 := V9.below hbn
  replace V12 := V12.below hbn
  replace hh14 := has_below hh14 hbn
  generalize w5.heap.size = g14 at hvn ⊢
  have V14 : V wn g14 y14 N := ⟨hvn, hh14⟩
  clear hvn hh14 hbn
  have hx0 : X.n = 1 ∧ X.s = x.v ∧ X.mn = x.v ∧ X.mx = x.v ∧ X.f = x ∧ X.l = x := by rw [← HXE.out]; exact ⟨rfl, rfl, rfl, rfl, rfl, rfl⟩
  obtain ⟨x1, x2, x3, x4, x5, x6⟩ := hx0
  go_upto_region 11 with fail
  refine emptyEnd_any (x := x) (X := X) (N := N) (g3 := w.heap.size) (g7 := g7) (g9 := g9) (g12 := g12) (g14 := g14) (y7 := y7) (y9 := y9) (y12 := y12) (y14 := y14) ⟨rfl, V7, V9, V12, V14, HX, x1, x2, x3, x4, x5, x6, HN0.out, hXlen, hNlen, rfl, rfl, rfl, rfl, rfl, rfl, rfl, rfl⟩ ?_
  intro ax wx hbx hdx hvx
  go_wp2_with fail
  have hv2 : ax.tmps[6]?.getD undef = .bool true := by simpa using hvx
  exact bodyPost_ret (v := .bool true) (by simp [results, Try.results6, hv2, go_sem]) hdx ⟨rfl, hB0.trans (hbx.mono hB0.size)⟩

end Go.Proofs.Ytohikaomoaphlaa
