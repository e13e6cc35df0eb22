/-
  Walks: balance, link, insert, evict.
  Walks: insert, evict.
-/
import Derived.Test.YtjgjbhbpndjnnaaTrTurn
namespace Go.Proofs.Ytjgjbhbpndjnnaa
open Go.RowKit

section
variable {P : Nat → Prop} {g m d : Nat} {A root : Option Addr} {bs : List Int} {w : World}
set_option maxRecDepth 100000 in
set_option maxHeartbeats 2000000 in
theorem tbal_any (hT : TBd P w g bs A m d root) (L R : Tr) (x : It) (hL : L.At bs P w) (hR : R.At bs P w) (hP : ∀ k, w.heap.size ≤ k → P k) (h : ItsT bs (L.row ++ x :: R.row)) :
    Calls Try.prog 82 #[.pointer (some ⟨g, 0, none⟩), .pointer L.ptr, .agg #[.int .i64 x.s, .int .i64 x.t, .int .i64 x.q, .int .i64 x.v], .pointer R.ptr] w (TrO bs P (L.row ++ x :: R.row) w) := by
  have HPUT := Lib.hid (fun w' (hb : Below w.heap.size w w') => put_later hT hP w' L R x hb (hL.below hb) (hR.below hb) h)
  have HBX := Lib.hid ((Below.refl _ w).alloc (Nat.le_refl _) (.cells #[.int .i64 x.s, .int .i64 x.t, .int .i64 x.q, .int .i64 x.v] 23))
  have n1 : L.row.length ≤ 8192 := by have := h.le; simp only [List.length_append, List.length_cons] at this; omega
  have n2 : R.row.length ≤ 8192 := by have := h.le; simp only [List.length_append, List.length_cons] at this; omega
  have HV1 := Lib.hid (fun w' (hb : Below w.heap.size w w') => theavy_any bs P R L w' (hR.below hb) (hL.below hb) n2 n1)
  have HV2 := Lib.hid (fun w' (hb : Below w.heap.size w w') => theavy_any bs P L R w' (hL.below hb) (hR.below hb) n1 n2)
  have HTA := Lib.hid (fun w' (hb : Below w.heap.size w w') hn => tturnA_any (hT.below hb) L R x (hL.below hb) (hR.below hb) hn (fun k hk => hP k (by have := hb.size; omega)) h)
  have HTB := Lib.hid (fun w' (hb : Below w.heap.size w w') hn => tturnB_any (hT.below hb) R L x (hR.below hb) (hL.below hb) hn (fun k hk => hP k (by have := hb.size; omega)) h)
  clear hT hL hR hP h
  generalize hR : L.row ++ x :: R.row = RR at HPUT HTA HTB ⊢
  clear hR
  by_cases hc1 : 3 * (L.row.length + 1) < R.row.length + 1
  · have hd1 : decide (3 * (L.row.length + 1) < R.row.length + 1) = true := decide_eq_true hc1
    have HC := Lib.hid (fun w' hb => HTA.out w' hb (by omega))
    clear HTA HTB HPUT HV2 hc1
    generalize decide (3 * (L.row.length + 1) < R.row.length + 1) = c1 at HV1 hd1
    generalize L.ptr = lp at HV1 HC ⊢
    generalize R.ptr = rp at HV1 HC ⊢
    go_enter Try.func82, Try.ntmps82
    go_wp2_with (first | (refine (HV1.out _ HBX.out).mono ?_; clear HV1; rintro e w2 ⟨rfl, rfl⟩) | (refine (HC.out _ HBX.out).mono ?_; clear HC; rintro e w3 ⟨T, rfl, h1, h2, h3⟩))
    go_ret
    exact ⟨T, rfl, h1, h2, HBX.out.trans (h3.mono (by simp))⟩
  · have hd1 : decide (3 * (L.row.length + 1) < R.row.length + 1) = false := decide_eq_false hc1
    by_cases hc2 : 3 * (R.row.length + 1) < L.row.length + 1
    · have hd2 : decide (3 * (R.row.length + 1) < L.row.length + 1) = true := decide_eq_true hc2
      have HC := Lib.hid (fun w' hb => HTB.out w' hb (by omega))
      clear HTA HTB HPUT hc1 hc2
      generalize decide (3 * (L.row.length + 1) < R.row.length + 1) = c1 at HV1 hd1
      generalize decide (3 * (R.row.length + 1) < L.row.length + 1) = c2 at HV2 hd2
      generalize L.ptr = lp at HV1 HV2 HC ⊢
      generalize R.ptr = rp at HV1 HV2 HC ⊢
      go_enter Try.func82, Try.ntmps82
      go_wp2_with (first | (refine (HV1.out _ HBX.out).mono ?_; clear HV1; rintro e w2 ⟨rfl, rfl⟩) | (refine (HV2.out _ HBX.out).mono ?_; clear HV2; rintro e w2 ⟨rfl, rfl⟩) | (refine (HC.out _ HBX.out).mono ?_; clear HC; rintro e w3 ⟨T, rfl, h1, h2, h3⟩))
      go_ret
      exact ⟨T, rfl, h1, h2, HBX.out.trans (h3.mono (by simp))⟩
    · have hd2 : decide (3 * (R.row.length + 1) < L.row.length + 1) = false := decide_eq_false hc2
      clear HTA HTB hc1 hc2
      generalize decide (3 * (L.row.length + 1) < R.row.length + 1) = c1 at HV1 hd1
      generalize decide (3 * (R.row.length + 1) < L.row.length + 1) = c2 at HV2 hd2
      generalize L.ptr = lp at HV1 HV2 HPUT ⊢
      generalize R.ptr = rp at HV1 HV2 HPUT ⊢
      go_enter Try.func82, Try.ntmps82
      go_wp2_with (first | (refine (HV1.out _ HBX.out).mono ?_; clear HV1; rintro e w2 ⟨rfl, rfl⟩) | (refine (HV2.out _ HBX.out).mono ?_; clear HV2; rintro e w2 ⟨rfl, rfl⟩) | (refine (HPUT.out _ HBX.out).mono ?_; clear HPUT; rintro e w3 ⟨T, rfl, h1, h2, h3⟩))
      go_ret
      exact ⟨T, rfl, h1, h2, HBX.out.trans (h3.mono (by simp))⟩

set_option maxRecDepth 100000 in
set_option maxHeartbeats 2000000 in
theorem tlink_any (L : Tr) (x : It) : ∀ (R : Tr) (w : World), TBd P w g bs A m d root → L.At bs P w → R.At bs P w → (∀ k, w.heap.size ≤ k → P k) → ItsT bs (L.row ++ x :: R.row) →
    Calls Try.prog 85 #[.pointer (some ⟨g, 0, none⟩), .pointer L.ptr, .agg #[.int .i64 x.s, .int .i64 x.t, .int .i64 x.q, .int .i64 x.v], .pointer R.ptr] w (TrO bs P (L.row ++ x :: R.row) w) := by
  intro R
  induction R with
  | nil =>
    intro w hT hL hR hP h
    have HPUT := Lib.hid (fun w' (hb : Below w.heap.size w w') => put_later hT hP w' L .nil x hb (hL.below hb) (hR.below hb) h)
    have HBX := Lib.hid ((Below.refl _ w).alloc (Nat.le_refl _) (.cells #[.int .i64 x.s, .int .i64 x.t, .int .i64 x.q, .int .i64 x.v] 23))
    have n1 : L.row.length ≤ 8192 := by have := h.le; simp only [List.length_append, List.length_cons] at this; omega
    have HV1 := Lib.hid (fun w' (hb : Below w.heap.size w w') => theavy_any bs P .nil L w' (hR.below hb) (hL.below hb) (by simp [Tr.row]) n1)
    have hd1 : decide (3 * (L.row.length + 1) < Tr.nil.row.length + 1) = false := decide_eq_false (by simp [Tr.row])
    clear hT hL hR hP h
    generalize hR : L.row ++ x :: Tr.nil.row = RR at HPUT ⊢
    clear hR
    generalize decide (3 * (L.row.length + 1) < Tr.nil.row.length + 1) = c1 at HV1 hd1
    generalize L.ptr = lp at HV1 HPUT ⊢
    generalize Tr.nil.ptr = rp at HV1 HPUT ⊢
    go_enter Try.func85, Try.ntmps85
    go_wp2_with (first | (refine (HV1.out _ HBX.out).mono ?_; clear HV1; rintro e w2 ⟨rfl, rfl⟩) | (refine (HPUT.out _ HBX.out).mono ?_; clear HPUT; rintro e w3 ⟨T, rfl, h1, h2, h3⟩))
    go_ret
    exact ⟨T, rfl, h1, h2, HBX.out.trans (h3.mono (by simp))⟩
  | node b H r1 v r2 ih1 _ =>
    intro w hT hL hR hP h
    have HPUT := Lib.hid (fun w' (hb : Below w.heap.size w w') => put_later hT hP w' L (.node b H r1 v r2) x hb (hL.below hb) (hR.below hb) h)
    have HBX : Hid (Has (w.alloc (.cells #[.int .i64 x.s, .int .i64 x.t, .int .i64 x.q, .int .i64 x.v] 23)) w.heap.size 23 #[.int .i64 x.s, .int .i64 x.t, .int .i64 x.q, .int .i64 x.v] ∧ Below w.heap.size w (w.alloc (.cells #[.int .i64 x.s, .int .i64 x.t, .int .i64 x.q, .int .i64 x.v] 23))) := ⟨Has.made _ _ _, (Below.refl _ _).alloc (Nat.le_refl _) _⟩
    have n1 : L.row.length ≤ 8192 := by have := h.le; simp only [List.length_append, List.length_cons] at this; omega
    have n2 : (Tr.node b H r1 v r2).row.length ≤ 8192 := by have := h.le; simp only [List.length_append, List.length_cons] at this; omega
    have HV1 := Lib.hid (fun w' (hb : Below w.heap.size w w') => theavy_any bs P (.node b H r1 v r2) L w' (hR.below hb) (hL.below hb) n2 n1)
    have hs : ItsT bs (L.row ++ x :: r1.row) := ItsT.left (ys := v :: r2.row) (by simpa [Tr.row] using h)
    have hPb : ∀ w', Below w.heap.size w w' → ∀ k, w'.heap.size ≤ k → P k := fun w' hb k hk => hP k (by have := hb.size; omega)
    have HL1 := Lib.hid (fun w' (hb : Below w.heap.size w w') => ih1 w' (hT.below hb) (hL.below hb) (hR.below hb).2.2.2.2.1 (hPb w' hb) hs)
    have HB2 := Lib.hid (fun w' (T : Tr) (hb : Below w.heap.size w w') (ht : T.At bs P w') (hr : T.row = L.row ++ x :: r1.row) => by
      have hh : ItsT bs (T.row ++ v :: r2.row) := by rw [hr]; simpa [Tr.row] using h
      have := tbal_any (hT.below hb) T r2 v ht (hR.below hb).2.2.2.2.2 (hPb w' hb) hh
      rw [hr] at this
      exact this)
    have HB3 := Lib.hid (fun w' (hb : Below w.heap.size w w') => (hR.below hb).2.2.1)
    clear hT hL hR hP h hPb ih1 hs n1 n2
    have hrow : (L.row ++ x :: r1.row) ++ v :: r2.row = L.row ++ x :: (Tr.node b H r1 v r2).row := by simp [Tr.row]
    rw [← hrow] at HPUT ⊢
    clear hrow
    have e0 : (Tr.node b H r1 v r2).ptr = some ⟨b, 0, none⟩ := rfl
    rw [e0] at HV1 HPUT ⊢
    clear e0
    generalize (L.row ++ x :: r1.row) ++ v :: r2.row = RR at HPUT HB2 ⊢
    by_cases hc1 : 3 * (L.row.length + 1) < (Tr.node b H r1 v r2).row.length + 1
    · have hd1 : decide (3 * (L.row.length + 1) < (Tr.node b H r1 v r2).row.length + 1) = true := decide_eq_true hc1
      clear hc1 HPUT
      generalize decide (3 * (L.row.length + 1) < (Tr.node b H r1 v r2).row.length + 1) = c1 at HV1 hd1
      go_enter Try.func85, Try.ntmps85
      go_upto_region 3 with (refine (HV1.out _ HBX.out.2).mono ?_; clear HV1; rintro e w2 ⟨rfl, rfl⟩)
      refine tlk_any (g := g) (z := 0) (y := w.heap.size) (b := b) (x := x) (v := v) (av := foldA bs (Tr.node b H r1 v r2).row) (hk := H) (p := r1.ptr) (q := r2.ptr) (bs := bs) (P := P) (R1 := L.row ++ x :: r1.row) (R2 := RR) (pl := L.ptr) ⟨rfl, rfl, rfl, rfl, rfl, HBX.out.1, HB3.out _ HBX.out.2, fun w' hb => HL1.out w' (HBX.out.2.trans (hb.mono (by simp))), fun w' T hb ht hr => HB2.out w' T (HBX.out.2.trans (hb.mono (by simp))) ht hr⟩ (by kernel_rfl) ?_
      intro T26 T35 T8 w9 hB9 _ _ h8
      have HB9 := Lib.hid (HBX.out.2.trans (hB9.mono (by simp)))
      have HT := Lib.hid h8
      clear hB9 h8 HL1 HB2 HB3 HBX
      simp only [putAll, Act.put, List.setIfInBounds_toArray, List.set_cons_succ, List.set_cons_zero]
      go_wp2_with fail
      go_ret
      exact ⟨T8, rfl, HT.out.1, HT.out.2, HB9.out⟩
    · have hd1 : decide (3 * (L.row.length + 1) < (Tr.node b H r1 v r2).row.length + 1) = false := decide_eq_false hc1
      clear hc1
      generalize decide (3 * (L.row.length + 1) < (Tr.node b H r1 v r2).row.length + 1) = c1 at HV1 hd1
      go_enter Try.func85, Try.ntmps85
      go_wp2_with (first | (refine (HV1.out _ HBX.out.2).mono ?_; clear HV1; rintro e w2 ⟨rfl, rfl⟩) | (refine (HPUT.out _ HBX.out.2).mono ?_; clear HPUT; rintro e w3 ⟨T, rfl, h1, h2, h3⟩))
      go_ret
      exact ⟨T, rfl, h1, h2, HBX.out.2.trans (h3.mono (by simp))⟩
end

end Go.Proofs.Ytjgjbhbpndjnnaa

namespace Go.Proofs.Ytjgjbhbpndjnnaa
open Go.RowKit

section
variable {P : Nat → Prop} {g m d : Nat} {A root : Option Addr} {bs : List Int} {w : World}
set_option maxRecDepth 100000 in
set_option maxHeartbeats 2000000 in
theorem tins_any (x : It) : ∀ (T : Tr) (w : World), TBd P w g bs A m d root → T.At bs P w → (∀ k, w.heap.size ≤ k → P k) → StrS T.row → ItsT bs (x :: T.row) →
    Calls Try.prog 61 #[.pointer (some ⟨g, 0, none⟩), .pointer T.ptr, .agg #[.int .i64 x.s, .int .i64 x.t, .int .i64 x.q, .int .i64 x.v]] w (TrO bs P (insB lt2 x T.row) w) := by
  intro T
  induction T with
  | nil =>
    intro w hT hA hP _ h
    have HBX := Lib.hid ((Below.refl _ w).alloc (Nat.le_refl _) (.cells #[.int .i64 x.s, .int .i64 x.t, .int .i64 x.q, .int .i64 x.v] 23))
    have HPUT := Lib.hid (fun w' (hb : Below w.heap.size w w') => show Calls Try.prog 81 #[.pointer (some ⟨g, 0, none⟩), .pointer none, .agg #[.int .i64 x.s, .int .i64 x.t, .int .i64 x.q, .int .i64 x.v], .pointer none] w' (TrO bs P [x] w') from put_later hT hP w' .nil .nil x hb trivial trivial h)
    clear hT hA hP h
    show Calls _ _ #[_, .pointer none, _] w (TrO bs P [x] w)
    go_enter Try.func61, Try.ntmps61
    go_wp2_with (refine (HPUT.out _ HBX.out).mono ?_; clear HPUT; rintro e w3 ⟨T, rfl, h1, h2, h3⟩)
    go_ret
    exact ⟨T, rfl, h1, h2, HBX.out.trans (h3.mono (by simp))⟩
  | node b H l v r ihl ihr =>
    intro w hT hA hP hS h
    have HBX : Hid (Has (w.alloc (.cells #[.int .i64 x.s, .int .i64 x.t, .int .i64 x.q, .int .i64 x.v] 23)) w.heap.size 23 #[.int .i64 x.s, .int .i64 x.t, .int .i64 x.q, .int .i64 x.v] ∧ Below w.heap.size w (w.alloc (.cells #[.int .i64 x.s, .int .i64 x.t, .int .i64 x.q, .int .i64 x.v] 23))) := ⟨Has.made _ _ _, (Below.refl _ _).alloc (Nat.le_refl _) _⟩
    have hPb : ∀ w', Below w.heap.size w w' → ∀ k, w'.heap.size ≤ k → P k := fun w' hb k hk => hP k (by have := hb.size; omega)
    have hSl : StrS l.row := StrS.left hS
    have hSr : StrS r.row := (StrS.right (xs := l.row ++ [v]) (by simpa [Tr.row] using hS))
    have hIl : ItsT bs (x :: l.row) := h.sublist (by simp [Tr.row])
    have hIr : ItsT bs (x :: r.row) := h.sublist (by simp [Tr.row])
    have HB3 := Lib.hid (fun w' (hb : Below w.heap.size w w') => (hA.below hb).2.2.1)
    have e0 : (Tr.node b H l v r).ptr = some ⟨b, 0, none⟩ := rfl
    rw [e0]
    clear e0
    cases hc : lt2 x v with
    | true =>
      have HI := Lib.hid (fun w' (hb : Below w.heap.size w w') => ihl w' (hT.below hb) (hA.below hb).2.2.2.2.1 (hPb w' hb) hSl hIl)
      have hrow : insB lt2 x (Tr.node b H l v r).row = insB lt2 x l.row ++ v :: r.row := insB_lo hS hc
      have hnew : ItsT bs (insB lt2 x l.row ++ v :: r.row) := hrow ▸ h.perm (insB_perm lt2 x _)
      have HBL := Lib.hid (fun w' (T : Tr) (hb : Below w.heap.size w w') (ht : T.At bs P w') (hr : T.row = insB lt2 x l.row) => by
        have := tbal_any (hT.below hb) T r v ht (hA.below hb).2.2.2.2.2 (hPb w' hb) (by rw [hr]; exact hnew)
        rw [hr] at this
        exact this)
      rw [hrow]
      have hβ : decide (cmpT x v < 0) = true := decide_eq_true (cmpT_neg.2 hc)
      clear hT hA hP hS h hPb hSl hSr hIl hIr hc hrow hnew ihl ihr
      go_enter Try.func61, Try.ntmps61
      go_upto_region 3 with fail
      refine tn3_any (g := g) (z := 0) (y := w.heap.size) (b := b) (x := x) (v := v) (av := foldA bs (Tr.node b H l v r).row) (hk := H) (p := l.ptr) (q := r.ptr) (β := true) ⟨rfl, rfl, rfl, HBX.out.1, HB3.out _ HBX.out.2, hβ⟩ (by kernel_rfl) ?_
      intro w4 hB4
      have HK := Lib.hid (HBX.out.2.trans (hB4.mono (by simp)))
      have HX4 := Lib.hid (HBX.out.1.below hB4 (by simp))
      clear hB4 HBX hβ
      simp only [putAll, Act.put, List.setIfInBounds_toArray, List.set_cons_succ, List.set_cons_zero]
      go_upto_region 4 with fail
      refine tn4_any (g := g) (z := 0) (y := w.heap.size) (b := b) (x := x) (v := v) (av := foldA bs (Tr.node b H l v r).row) (hk := H) (p := l.ptr) (q := r.ptr) (bs := bs) (P := P) (R1 := insB lt2 x l.row) (R2 := insB lt2 x l.row ++ v :: r.row) ⟨rfl, rfl, rfl, rfl, HX4.out, HB3.out _ HK.out, fun w' hb => HI.out w' (HK.out.trans (hb.mono HK.out.size)), fun w' T hb ht hr => HBL.out w' T (HK.out.trans (hb.mono HK.out.size)) ht hr⟩ (by kernel_rfl) ?_
      intro T26 T35 T6 w9 hB9 _ _ h8
      have HB9 := Lib.hid (HK.out.trans (hB9.mono HK.out.size))
      have HT := Lib.hid h8
      clear hB9 h8 HI HBL HB3 HX4 HK
      simp only [putAll, Act.put, List.setIfInBounds_toArray, List.set_cons_succ, List.set_cons_zero]
      go_wp2_with fail
      go_ret
      exact ⟨T6, rfl, HT.out.1, HT.out.2, HB9.out⟩
    | false =>
      have HI := Lib.hid (fun w' (hb : Below w.heap.size w w') => ihr w' (hT.below hb) (hA.below hb).2.2.2.2.2 (hPb w' hb) hSr hIr)
      have hrow : insB lt2 x (Tr.node b H l v r).row = l.row ++ v :: insB lt2 x r.row := insB_hi hS hc
      have hnew : ItsT bs (l.row ++ v :: insB lt2 x r.row) := hrow ▸ h.perm (insB_perm lt2 x _)
      have HBL := Lib.hid (fun w' (T : Tr) (hb : Below w.heap.size w w') (ht : T.At bs P w') (hr : T.row = insB lt2 x r.row) => by
        have := tbal_any (hT.below hb) l T v (hA.below hb).2.2.2.2.1 ht (hPb w' hb) (by rw [hr]; exact hnew)
        rw [hr] at this
        exact this)
      rw [hrow]
      have hβ : decide (cmpT x v < 0) = false := decide_eq_false (by rw [cmpT_neg, hc]; simp)
      clear hT hA hP hS h hPb hSl hSr hIl hIr hc hrow hnew ihl ihr
      go_enter Try.func61, Try.ntmps61
      go_upto_region 3 with fail
      refine tn3_any (g := g) (z := 0) (y := w.heap.size) (b := b) (x := x) (v := v) (av := foldA bs (Tr.node b H l v r).row) (hk := H) (p := l.ptr) (q := r.ptr) (β := false) ⟨rfl, rfl, rfl, HBX.out.1, HB3.out _ HBX.out.2, hβ⟩ (by kernel_rfl) ?_
      intro w4 hB4
      have HK := Lib.hid (HBX.out.2.trans (hB4.mono (by simp)))
      have HX4 := Lib.hid (HBX.out.1.below hB4 (by simp))
      clear hB4 HBX hβ
      simp only [putAll, Act.put, List.setIfInBounds_toArray, List.set_cons_succ, List.set_cons_zero]
      go_upto_region 5 with fail
      refine tn5_any (g := g) (z := 0) (y := w.heap.size) (b := b) (x := x) (v := v) (av := foldA bs (Tr.node b H l v r).row) (hk := H) (p := l.ptr) (q := r.ptr) (bs := bs) (P := P) (R1 := insB lt2 x r.row) (R2 := l.row ++ v :: insB lt2 x r.row) ⟨rfl, rfl, rfl, rfl, HX4.out, HB3.out _ HK.out, fun w' hb => HI.out w' (HK.out.trans (hb.mono HK.out.size)), fun w' T hb ht hr => HBL.out w' T (HK.out.trans (hb.mono HK.out.size)) ht hr⟩ (by kernel_rfl) ?_
      intro T51 T52 T6 w9 hB9 _ _ h8
      have HB9 := Lib.hid (HK.out.trans (hB9.mono HK.out.size))
      have HT := Lib.hid h8
      clear hB9 h8 HI HBL HB3 HX4 HK
      simp only [putAll, Act.put, List.setIfInBounds_toArray, List.set_cons_succ, List.set_cons_zero]
      go_wp2_with fail
      go_ret
      exact ⟨T6, rfl, HT.out.1, HT.out.2, HB9.out⟩

set_option maxRecDepth 100000 in
set_option maxHeartbeats 2000000 in
theorem tevict_any (u : Int) : ∀ (T : Tr) (w : World), TBd P w g bs A m d root → T.At bs P w → (∀ k, w.heap.size ≤ k → P k) → StrS T.row → ItsT bs T.row →
    Calls Try.prog 68 #[.pointer (some ⟨g, 0, none⟩), .pointer T.ptr, .int .i64 u] w (TrO bs P (stay u T.row) w) := by
  intro T
  induction T with
  | nil =>
    intro w _ _ _ _ _
    show Calls _ _ #[_, .pointer none, _] w (TrO bs P [] w)
    go_enter Try.func68, Try.ntmps68
    go_wp2_with fail
    go_ret
    exact ⟨.nil, rfl, trivial, rfl, Below.refl _ _⟩
  | node b H l v r ihl ihr =>
    intro w hT hA hP hS h
    have hends := foldA_ends h
    have htm := hS.times
    have hr5 : ItsT bs r.row := h.sublist (by simp [Tr.row])
    have hl5 : ItsT bs l.row := h.sublist (by simp [Tr.row])
    have hSl : StrS l.row := StrS.left hS
    have hSr : StrS r.row := (StrS.right (xs := l.row ++ [v]) (by simpa [Tr.row] using hS))
    have hb3 := hA.2.2.1
    have hc11 : w.cell? ⟨b, 11, none⟩ = some (.int .i64 (foldA bs (Tr.node b H l v r).row).f.t) := by rw [hb3.cell]; rfl
    have hc2 : w.cell? ⟨b, 2, none⟩ = some (.int .i64 v.t) := by rw [hb3.cell]; rfl
    have hc5 : w.cell? ⟨b, 5, none⟩ = some (.pointer r.ptr) := by rw [hb3.cell]; rfl
    have e0 : (Tr.node b H l v r).ptr = some ⟨b, 0, none⟩ := rfl
    rw [e0]
    clear e0
    by_cases h1 : u ≤ (foldA bs (Tr.node b H l v r).row).f.t
    · have hrow : stay u (Tr.node b H l v r).row = (Tr.node b H l v r).row := stay_all fun x hx => by have := hends x hx; omega
      rw [hrow]
      have HA := Lib.hid hA
      clear hT hA hP hS h hends htm hr5 hl5 hSl hSr hb3 hc2 hc5 hrow ihl ihr
      generalize (foldA bs (Tr.node b H l v r).row).f.t = ft at hc11 h1
      go_enter Try.func68, Try.ntmps68
      go_wp2_with fail
      go_ret
      exact ⟨.node b H l v r, rfl, HA.out, rfl, Below.refl _ _⟩
    · by_cases h2 : v.t < u
      · have hrow : stay u (Tr.node b H l v r).row = stay u r.row := by
          have e1 : stay u l.row = [] := stay_none fun a ha => by have := htm.1 a ha; omega
          have e2 : stay u (l.row ++ v :: r.row) = stay u l.row ++ stay u (v :: r.row) := List.filter_append ..
          have e3 : stay u (v :: r.row) = stay u r.row := List.filter_cons_of_neg (by simp; omega)
          show stay u (l.row ++ v :: r.row) = _
          rw [e2, e1, e3]
          rfl
        rw [hrow]
        have HI := Lib.hid (ihr w hT hA.2.2.2.2.2 hP hSr hr5)
        clear hT hA hP hS h hends htm hr5 hl5 hSl hSr hb3 hrow ihl ihr
        generalize (foldA bs (Tr.node b H l v r).row).f.t = ft at hc11 h1
        generalize v.t = vt at hc2 h2
        go_enter Try.func68, Try.ntmps68
        go_wp2_with (refine HI.out.mono ?_; clear HI; rintro e w3 ⟨T, rfl, k1, k2, k3⟩)
        go_ret
        exact ⟨T, rfl, k1, k2, k3⟩
      · have hrow : stay u (Tr.node b H l v r).row = stay u l.row ++ v :: r.row := by
          have e1 : stay u r.row = r.row := stay_all fun a ha => by have := htm.2 a ha; omega
          have e2 : stay u (l.row ++ v :: r.row) = stay u l.row ++ stay u (v :: r.row) := List.filter_append ..
          have e3 : stay u (v :: r.row) = v :: stay u r.row := List.filter_cons_of_pos (by simp; omega)
          show stay u (l.row ++ v :: r.row) = _
          rw [e2, e3, e1]
        have hnew : ItsT bs (stay u l.row ++ v :: r.row) := hrow ▸ h.sublist List.filter_sublist
        rw [hrow]
        have hPb : ∀ w', Below w.heap.size w w' → ∀ k, w'.heap.size ≤ k → P k := fun w' hb k hk => hP k (by have := hb.size; omega)
        have HI := Lib.hid (fun w' (hb : Below w.heap.size w w') => ihl w' (hT.below hb) (hA.below hb).2.2.2.2.1 (hPb w' hb) hSl hl5)
        have HLK := Lib.hid (fun w' (T : Tr) (hb : Below w.heap.size w w') (ht : T.At bs P w') (hr : T.row = stay u l.row) => by
          have := tlink_any T v r w' (hT.below hb) ht (hA.below hb).2.2.2.2.2 (hPb w' hb) (by rw [hr]; exact hnew)
          rw [hr] at this
          exact this)
        have HB3 := Lib.hid hb3
        clear hT hA hP hS h hends htm hr5 hl5 hSl hSr hb3 hrow hnew ihl ihr hPb hc5
        generalize hft : (foldA bs (Tr.node b H l v r).row).f.t = ft at hc11 h1
        clear hft
        generalize hvt : v.t = vt at hc2 h2
        clear hvt
        go_enter Try.func68, Try.ntmps68
        go_upto_region 5 with fail
        refine tev_any (g := g) (z := 0) (b := b) (u := u) (v := v) (av := foldA bs (Tr.node b H l v r).row) (hk := H) (p := l.ptr) (q := r.ptr) (bs := bs) (P := P) (R1 := stay u l.row) (R2 := stay u l.row ++ v :: r.row) ⟨rfl, rfl, rfl, rfl, HB3.out, fun w' hb => HI.out w' hb, fun w' T hb ht hr => HLK.out w' T hb ht hr⟩ (by kernel_rfl) ?_
        intro T41 T50 T6 w9 hB9 _ _ h8
        have HB9 := Lib.hid hB9
        have HT := Lib.hid h8
        clear hB9 h8 HI HLK HB3 hc11 hc2
        simp only [putAll, Act.put, List.setIfInBounds_toArray, List.set_cons_succ, List.set_cons_zero]
        go_wp2_with fail
        go_ret
        exact ⟨T6, rfl, HT.out.1, HT.out.2, HB9.out⟩
end

end Go.Proofs.Ytjgjbhbpndjnnaa
