/-
  Walk: the laws' awake.
-/
import Derived.Test.YtjmaeiilkbfnaaaStLaw
namespace Go.Proofs.Ytjmaeiilkbfnaaa
open Go.RowKit

theorem aw_1 : RowJ [] [oneAc ⟨0, 1, 1, 5⟩ []] := by decide
theorem aw_2 : RowJ [] [oneAc ⟨0, 1, 1, 5⟩ [], oneAc ⟨0, 2, 2, 7⟩ []] := by decide
theorem aw_3 : ¬ RowJ [] [oneAc ⟨0, 2, 2, 7⟩ [], oneAc ⟨1, 2, 2, 7⟩ []] := by decide
theorem aw_4 : (joinAc [] [oneAc ⟨0, 1, 1, 5⟩ [], oneAc ⟨0, 2, 2, 7⟩ []]).n = 2 ∧ (joinAc [] [oneAc ⟨0, 1, 1, 5⟩ [], oneAc ⟨0, 2, 2, 7⟩ []]).s = 12 := by decide
theorem aw_5 : RowJ [] [oneAc ⟨0, 2, 2, 7⟩ []] := by decide

set_option maxRecDepth 100000 in
set_option maxHeartbeats 4000000 in
theorem aw17_any (w : World) : Calls Try.prog 23 #[] w fun e w' => e = .returned (.bool true) ∧ Below w.heap.size w w' := by
  have H1 := Lib.hid aw_1
  have H2 := Lib.hid aw_2
  have H3 := Lib.hid aw_3
  have H4 := Lib.hid aw_4
  have H5 := Lib.hid aw_5
  have HO1 := Lib.hid (fun w' => one17_any ⟨0, 1, 1, 5⟩ none 0 0 [] w' Ints.nil rfl rfl)
  have HO2 := Lib.hid (fun w' => one17_any ⟨0, 2, 2, 7⟩ none 0 0 [] w' Ints.nil rfl rfl)
  have HO3 := Lib.hid (fun w' => one17_any ⟨1, 2, 2, 7⟩ none 0 0 [] w' Ints.nil rfl rfl)
  have HS := Lib.hid (show (oneAc ⟨0, 1, 1, 5⟩ []).s = 5 ∧ (oneAc ⟨0, 2, 2, 7⟩ []).s = 7 ∧ (oneAc ⟨0, 1, 1, 5⟩ []).h.length = 1 ∧ (oneAc ⟨0, 2, 2, 7⟩ []).h.length = 1 ∧ (oneAc ⟨1, 2, 2, 7⟩ []).h.length = 1 from by decide)
  generalize oneAc ⟨0, 1, 1, 5⟩ [] = a1 at H1 H2 H4 HO1 HS
  generalize oneAc ⟨0, 2, 2, 7⟩ [] = a2 at H2 H3 H4 H5 HO2 HS
  generalize oneAc ⟨1, 2, 2, 7⟩ [] = a3 at H3 HO3 HS
  go_enter Try.func23, Try.ntmps23
  go_wp2_with fail
  refine (qnew_ok none 0 0 [] w Ints.nil (fun _ => rfl) rfl).mono ?_
  intro e w1 hnew
  obtain ⟨g, rfl, hq, hb⟩ := pq_new hnew
  have L1 := Lib.hid (lq_new (Below.refl _ w) hq hb)
  clear hnew hq hb
  generalize (fun k => w.heap.size ≤ k ∧ k < w1.heap.size) = O1 at L1
  go_wp2_with fail
  refine (qnew_no _ 2 2 [2, 1] _ (ints_of_has (Has.made _ _ _) rfl) (by unfold maxLen; omega) rfl).mono ?_
  rintro e w2 ⟨rfl, hb⟩
  have L2 := Lib.hid ((L1.out.below ((Below.refl _ _).alloc (Nat.le_refl _) _)).below hb)
  clear hb L1
  go_wp2_with (go_at_call 14; refine (num_any _ _).mono ?_; rintro e w' ⟨rfl, rfl⟩)
  refine (item17_any _ _ _ _ _).mono ?_
  rintro e w3 ⟨rfl, hb⟩
  have L3 := Lib.hid (L2.out.below hb)
  clear hb L2
  go_wp2_with fail
  refine (HO1.out _).mono ?_
  rintro e w4 ⟨Ha, _, rfl, hh, hb⟩
  have L4 := Lib.hid (L3.out.below hb)
  have HH := Lib.hid (ints_of_has hh rfl)
  clear hh hb L3
  go_wp2_with fail
  refine (L4.out.push (a := a1) (by simp) HH.out (Nat.le_refl _) (by have := HS.out; unfold maxLen; omega) H1.out).mono ?_
  rintro e w5 ⟨rfl, l, _⟩
  have L5 := Lib.hid l
  clear l L4 HH
  generalize GrowO _ _ _ = O5 at L5
  go_wp2_with fail
  refine (item17_any _ _ _ _ _).mono ?_
  rintro e w6 ⟨rfl, hb⟩
  have L6 := Lib.hid (L5.out.below hb)
  clear hb L5
  go_wp2_with fail
  refine (HO2.out _).mono ?_
  rintro e w7 ⟨Hb, _, rfl, hh, hb⟩
  have L7 := Lib.hid (L6.out.below hb)
  have HH := Lib.hid (ints_of_has hh rfl)
  clear hh hb L6
  go_wp2_with fail
  refine (L7.out.push (a := a2) (by simp) HH.out (Nat.le_refl _) (by have := HS.out; unfold maxLen; omega) H2.out).mono ?_
  rintro e w8 ⟨rfl, l, _⟩
  have L8 := Lib.hid l
  clear l L7 HH
  generalize GrowO _ _ _ = O8 at L8
  go_wp2_with fail
  refine (L8.out.q.total H2.out (by simp)).mono ?_
  rintro e w9 ⟨Ht, _, rfl, _, hb⟩
  have L9 := Lib.hid (L8.out.below hb)
  clear hb L8
  have LA := Lib.hid (L9.out.below ((Below.refl _ _).alloc (Nat.le_refl _) (.cells (accC (joinAc [] [a1, a2]) (some ⟨Ht, 0, none⟩) (joinAc [] [a1, a2]).h.length (joinAc [] [a1, a2]).h.length) 29)))
  have B1 := Lib.hid (L9.out.fresh (accC (joinAc [] [a1, a2]) (some ⟨Ht, 0, none⟩) (joinAc [] [a1, a2]).h.length (joinAc [] [a1, a2]).h.length))
  clear L9
  simp only [List.nil_append, List.singleton_append] at LA B1 ⊢
  go_wp2_with (refine store_made rfl _ _ rfl rfl rfl rfl ?_)
  refine (LA.out.pop (a := a1) (ys := [a2]) H2.out (by simp)).mono ?_
  rintro e w10 ⟨hc, cc, rfl, _, hb, l, _, _⟩
  have LB := Lib.hid l
  have B1b := Lib.hid (B1.out.pop hb hc)
  clear l hb LA B1
  generalize PopdO _ _ _ _ = O10 at LB B1b
  have LC := Lib.hid (LB.out.below ((Below.refl _ _).alloc (Nat.le_refl _) (.cells (accC a1 (some ⟨hc, 0, none⟩) a1.h.length cc) 29)))
  have B1c := Lib.hid (B1b.out.below ((Below.refl _ _).alloc (Nat.le_refl _) (.cells (accC a1 (some ⟨hc, 0, none⟩) a1.h.length cc) 29)))
  have B2 := Lib.hid (LB.out.fresh (accC a1 (some ⟨hc, 0, none⟩) a1.h.length cc))
  clear LB B1b
  go_wp2_with (refine store_made rfl _ _ rfl rfl rfl rfl ?_)
  refine (item17_any _ _ _ _ _).mono ?_
  rintro e w11 ⟨rfl, hb⟩
  have LD := Lib.hid (LC.out.below hb)
  have B1d := Lib.hid (B1c.out.below hb)
  have B2d := Lib.hid (B2.out.below hb)
  clear hb LC B1c B2
  go_wp2_with fail
  refine (HO3.out _).mono ?_
  rintro e w12 ⟨Hd, _, rfl, hh, hb⟩
  have LE := Lib.hid (LD.out.below hb)
  have B1e := Lib.hid (B1d.out.below hb)
  have B2e := Lib.hid (B2d.out.below hb)
  have HH := Lib.hid (ints_of_has hh rfl)
  clear hh hb LD B1d B2d
  go_wp2_with fail
  refine (LE.out.q.push_no (a := a3) H5.out (by simp) HH.out (Nat.le_refl _) (by have := HS.out; unfold maxLen; omega) H3.out).mono ?_
  rintro e w13 ⟨rfl, hb⟩
  have LF := Lib.hid (LE.out.below hb)
  have B1f := Lib.hid (B1e.out.below hb)
  have B2f := Lib.hid (B2e.out.below hb)
  clear hb LE B1e B2e HH
  go_wp2_with fail
  refine (LF.out.pop (a := a2) (ys := []) H5.out (by simp)).mono ?_
  rintro e w14 ⟨hd, cd, rfl, _, hb, l, _, _⟩
  have LG := Lib.hid l
  have B1g := Lib.hid (B1f.out.pop hb hd)
  have B2g := Lib.hid (B2f.out.pop hb hd)
  clear l hb LF B1f B2f
  generalize PopdO _ _ _ _ = O14 at LG B1g B2g
  have hx := (Below.refl w14.heap.size w14).alloc (Nat.le_refl _) (.cells (accC a2 (some ⟨hd, 0, none⟩) a2.h.length cd) 29)
  have LH := Lib.hid (LG.out.below hx)
  have B1h := Lib.hid (B1g.out.below hx)
  have B2h := Lib.hid (B2g.out.below hx)
  have B3 := Lib.hid (LG.out.fresh (accC a2 (some ⟨hd, 0, none⟩) a2.h.length cd))
  clear hx LG B1g B2g
  go_wp2_with (refine store_made rfl _ _ rfl rfl rfl rfl ?_)
  refine LH.out.q.popNone.mono ?_
  rintro e w15 ⟨rfl, hb⟩
  have hx := hb.trans (((Below.refl w15.heap.size w15).alloc (Nat.le_refl _) (.cells (accC zeroAc none 0 0) 29)).mono hb.size)
  have LI := Lib.hid (LH.out.below hx)
  have q1 := B1h.out.below hx
  have q2 := B2h.out.below hx
  have q3 := B3.out.below hx
  have c1 : (w15.alloc (.cells (accC zeroAc none 0 0) 29)).cell? ⟨w9.heap.size, 0, none⟩ = some (.int .i64 2) := by rw [q1.has.cell, accC_0, H4.out.1]
  have c2 : (w15.alloc (.cells (accC zeroAc none 0 0) 29)).cell? ⟨w9.heap.size, 1, none⟩ = some (.int .i64 12) := by rw [q1.has.cell, accC_1, H4.out.2]
  have c3 : (w15.alloc (.cells (accC zeroAc none 0 0) 29)).cell? ⟨w10.heap.size, 1, none⟩ = some (.int .i64 5) := by rw [q2.has.cell, accC_1, HS.out.1]
  have c4 : (w15.alloc (.cells (accC zeroAc none 0 0) 29)).cell? ⟨w14.heap.size, 1, none⟩ = some (.int .i64 7) := by rw [q3.has.cell, accC_1, HS.out.2.1]
  clear hx hb q1 q2 q3 LH B1h B2h B3
  go_upto_region 11 with (refine store_made rfl _ _ rfl (ac := zeroAc) (A := none) (k := 0) (c := 0) rfl rfl rfl ?_)
  generalize w15.alloc _ = w16 at LI c1 c2 c3 c4 ⊢
  go_wp2_with (go_at_call 14; refine (num_any _ _).mono ?_; rintro e w' ⟨rfl, rfl⟩)
  refine (LI.out.q.len (by simp)).mono ?_
  rintro e w17 ⟨rfl, k, rfl⟩
  have HF := Lib.hid (below_drewN LI.out.keep k)
  clear LI c1 c2 c3 c4
  go_wp2_with fail
  go_ret
  exact ⟨rfl, HF.out⟩

end Go.Proofs.Ytjmaeiilkbfnaaa
