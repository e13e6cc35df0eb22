/-
  Walks: the turns (written by gen/trturn.py).
-/
import Derived.Test.YtjgjbhbpndjnnaaG29
namespace Go.Proofs.Ytjgjbhbpndjnnaa
open Go.RowKit

section
variable {P : Nat → Prop} {g m d : Nat} {A root : Option Addr} {bs : List Int} {w : World}
/-- A part may be made in any later world. -/
theorem put_later (hT : TBd P w g bs A m d root) (hP : ∀ k, w.heap.size ≤ k → P k) : ∀ (w' : World) (S T : Tr) (z : It), Below w.heap.size w w' → S.At bs P w' → T.At bs P w' → ItsT bs (S.row ++ z :: T.row) →
    Calls Try.prog 81 #[.pointer (some ⟨g, 0, none⟩), .pointer S.ptr, .agg #[.int .i64 z.s, .int .i64 z.t, .int .i64 z.q, .int .i64 z.v], .pointer T.ptr] w' (TrO bs P (S.row ++ z :: T.row) w') :=
  fun w' S T z hb hs ht h => tput_any (hT.below hb) S T z hs ht (fun k hk => hP k (by have := hb.size; omega)) h
set_option maxRecDepth 100000 in
set_option maxHeartbeats 2000000 in
theorem tturnA_any (hT : TBd P w g bs A m d root) (L B : Tr) (x : It) (hL : L.At bs P w) (hB : B.At bs P w) (hne : 0 < B.row.length) (hP : ∀ k, w.heap.size ≤ k → P k) (h : ItsT bs (L.row ++ x :: B.row)) :
    Calls Try.prog 94 #[.pointer (some ⟨g, 0, none⟩), .pointer L.ptr, .agg #[.int .i64 x.s, .int .i64 x.t, .int .i64 x.q, .int .i64 x.v], .pointer B.ptr] w (TrO bs P (L.row ++ x :: B.row) w) := by
  cases B with
  | nil => exact absurd hne (by simp [Tr.row])
  | node b H I v O =>
  obtain ⟨_, _, hb3, _, hc1, hc2⟩ := hB
  have HPUT := Lib.hid (put_later hT hP)
  have HBX : Hid (Has (w.alloc (.cells #[.int .i64 x.s, .int .i64 x.t, .int .i64 x.q, .int .i64 x.v] 23)) w.heap.size 23 #[.int .i64 x.s, .int .i64 x.t, .int .i64 x.q, .int .i64 x.v] ∧ Below w.heap.size w (w.alloc (.cells #[.int .i64 x.s, .int .i64 x.t, .int .i64 x.q, .int .i64 x.v] 23))) := ⟨Has.made _ _ _, (Below.refl _ _).alloc (Nat.le_refl _) _⟩
  have HL := Lib.hid (fun w' (hb : Below w.heap.size w w') => hL.below hb)
  have HI := Lib.hid (fun w' (hb : Below w.heap.size w w') => hc1.below hb)
  have HO := Lib.hid (fun w' (hb : Below w.heap.size w w') => hc2.below hb)
  have HB3 := Lib.hid (fun w' (hb : Below w.heap.size w w') => hb3.below hb hb3.lt)
  have HROW := Lib.hid h
  have n1 : I.row.length ≤ 8192 := by have := h.le; simp only [Tr.row, List.length_append, List.length_cons] at this; omega
  have n2 : O.row.length ≤ 8192 := by have := h.le; simp only [Tr.row, List.length_append, List.length_cons] at this; omega
  have HWI := Lib.hid (fun w' (hb : Below w.heap.size w w') => tweight_any bs P I w' (HI.out w' hb) n1)
  have HWO := Lib.hid (fun w' (hb : Below w.heap.size w w') => tweight_any bs P O w' (HO.out w' hb) n2)
  have n3 : (0 : Int) ≤ (I.row.length : Nat) ∧ ((I.row.length : Nat) : Int) ≤ 8192 ∧ (0 : Int) ≤ (O.row.length : Nat) ∧ ((O.row.length : Nat) : Int) ≤ 8192 := by omega
  clear hT hL hb3 hc1 hc2 hne hP h n1 n2
  have e0 : (Tr.node b H I v O).ptr = some ⟨b, 0, none⟩ := rfl
  rw [e0]; clear e0
  by_cases hW : I.row.length + 1 < 2 * (O.row.length + 1)
  · have hWB : decide ((I.row.length : Nat) + 1 < 2 * ((O.row.length : Nat) + 1 : Int)) = true := decide_eq_true (by omega)
    clear hW
    have HS1 := Lib.hid (show ItsT bs (L.row ++ x :: I.row) from ItsT.left (ys := v :: O.row) (by simpa [Tr.row] using HROW.out))
    generalize hip : I.ptr = ip at HWI
    generalize hop : O.ptr = op at HWO
    have EI := Lib.hid hip; clear hip
    have EO := Lib.hid hop; clear hop
    go_enter Try.func94, Try.ntmps94
    go_upto_region 1 with fail
    refine ta1_any (b := b) (v := v) (av := foldA bs (Tr.node b H I v O).row) (hk := H) (p := ip) (q := op) ⟨rfl, rfl, (by have := HB3.out _ HBX.out.2; rw [EI.out, EO.out] at this; exact this)⟩ (by kernel_rfl) ?_
    intro w3 hB3
    have HK := Lib.hid (HBX.out.2.trans (hB3.mono (by simp)))
    have HX3 := Lib.hid (HBX.out.1.below hB3 (by simp))
    clear hB3 HBX
    simp only [putAll, Act.put, List.setIfInBounds_toArray, List.set_cons_succ, List.set_cons_zero]
    go_upto_region 3 with (first | (refine (HWI.out _ HK.out).mono ?_; clear HWI; rintro e w4 ⟨rfl, rfl⟩) | (refine (HWO.out _ HK.out).mono ?_; clear HWO; rintro e w4 ⟨rfl, rfl⟩))
    refine tta_any (g := g) (z := 0) (y := w.heap.size) (b := b) (x := x) (v := v) (av := foldA bs (Tr.node b H I v O).row) (hk := H) (p := ip) (q := op) (bs := bs) (P := P) (R1 := L.row ++ x :: I.row) (R2 := (L.row ++ x :: I.row) ++ v :: O.row) (pl := L.ptr) (pi := ip) (po := op) ⟨rfl, rfl, rfl, rfl, rfl, rfl, rfl, HX3.out, (by have := HB3.out _ HK.out; rw [EI.out, EO.out] at this; exact this), fun w' hb => by rw [← EI.out]; exact HPUT.out w' L I x (HK.out.trans (hb.mono HK.out.size)) (HL.out _ (HK.out.trans (hb.mono HK.out.size))) (HI.out _ (HK.out.trans (hb.mono HK.out.size))) HS1.out, fun w' T hb ht hr => by rw [← EO.out, ← hr]; exact HPUT.out w' T O v (HK.out.trans (hb.mono HK.out.size)) ht (HO.out _ (HK.out.trans (hb.mono HK.out.size))) (by rw [hr]; simpa [Tr.row] using HROW.out)⟩ (by kernel_rfl) ?_
    intro T30 T36 T8 w9 hB9 _ _ h8
    have HB9 := Lib.hid (HK.out.trans (hB9.mono HK.out.size))
    have HT := Lib.hid h8
    clear hB9 h8 HPUT HL HO HB3 HX3 HK
    simp only [putAll, Act.put, List.setIfInBounds_toArray, List.set_cons_succ, List.set_cons_zero]
    go_wp2_with fail
    go_ret
    exact ⟨T8, rfl, HT.out.1, by rw [HT.out.2]; simp [Tr.row], HB9.out⟩
  · have hWB : decide ((I.row.length : Nat) + 1 < 2 * ((O.row.length : Nat) + 1 : Int)) = false := decide_eq_false (by omega)
    cases I with
    | nil => exact absurd (by simp [Tr.row]; omega) hW
    | node b2 H2 I1 v2 I2 =>
    have hi := HI.out w (Below.refl _ _)
    obtain ⟨_, _, hb4, _, hd1, hd2⟩ := hi
    have HB4 := Lib.hid (fun w' (hb : Below w.heap.size w w') => hb4.below hb hb4.lt)
    have HI1 := Lib.hid (fun w' (hb : Below w.heap.size w w') => hd1.below hb)
    have HI2 := Lib.hid (fun w' (hb : Below w.heap.size w w') => hd2.below hb)
    have e1 : (Tr.node b2 H2 I1 v2 I2).ptr = some ⟨b2, 0, none⟩ := rfl
    rw [e1] at HWI; clear e1 hb4 hd1 hd2
    clear hW
    have HS1 := Lib.hid (show ItsT bs (L.row ++ x :: I1.row) from ItsT.left (ys := v2 :: (I2.row ++ v :: O.row)) (by simpa [Tr.row] using HROW.out))
    have HS2 := Lib.hid (show ItsT bs (I2.row ++ v :: O.row) from ItsT.right (xs := (L.row ++ x :: I1.row) ++ [v2]) (by simpa [Tr.row] using HROW.out))
    generalize hop : O.ptr = op at HWO
    have EO := Lib.hid hop; clear hop
    go_enter Try.func94, Try.ntmps94
    go_upto_region 1 with fail
    refine ta1_any (b := b) (v := v) (av := foldA bs (Tr.node b H (.node b2 H2 I1 v2 I2) v O).row) (hk := H) (p := some ⟨b2, 0, none⟩) (q := op) ⟨rfl, rfl, (by have := HB3.out _ HBX.out.2; rw [EO.out] at this; exact this)⟩ (by kernel_rfl) ?_
    intro w3 hB3
    have HK := Lib.hid (HBX.out.2.trans (hB3.mono (by simp)))
    have HX3 := Lib.hid (HBX.out.1.below hB3 (by simp))
    clear hB3 HBX
    simp only [putAll, Act.put, List.setIfInBounds_toArray, List.set_cons_succ, List.set_cons_zero]
    go_upto_region 4 with (first | (refine (HWI.out _ HK.out).mono ?_; clear HWI; rintro e w4 ⟨rfl, rfl⟩) | (refine (HWO.out _ HK.out).mono ?_; clear HWO; rintro e w4 ⟨rfl, rfl⟩))
    refine tua_any (g := g) (z := 0) (y := w.heap.size) (b := b) (b2 := b2) (x := x) (v := v) (v2 := v2) (av := foldA bs (Tr.node b H (.node b2 H2 I1 v2 I2) v O).row) (a2 := foldA bs (Tr.node b2 H2 I1 v2 I2).row) (hk := H) (h2 := H2) (p := some ⟨b2, 0, none⟩) (q := op) (p2 := I1.ptr) (q2 := I2.ptr) (bs := bs) (P := P) (R1 := L.row ++ x :: I1.row) (R2 := I2.row ++ v :: O.row) (R3 := (L.row ++ x :: I1.row) ++ v2 :: (I2.row ++ v :: O.row)) (pl := L.ptr) (po := op) ⟨rfl, rfl, rfl, rfl, rfl, rfl, rfl, HX3.out, (by have := HB3.out _ HK.out; rw [EO.out] at this; exact this), HB4.out _ HK.out, fun w' hb => by exact HPUT.out w' L I1 x (HK.out.trans (hb.mono HK.out.size)) (HL.out _ (HK.out.trans (hb.mono HK.out.size))) (HI1.out _ (HK.out.trans (hb.mono HK.out.size))) HS1.out, fun w' hb => by rw [← EO.out]; exact HPUT.out w' I2 O v (HK.out.trans (hb.mono HK.out.size)) (HI2.out _ (HK.out.trans (hb.mono HK.out.size))) (HO.out _ (HK.out.trans (hb.mono HK.out.size))) HS2.out, fun w' T U hb ht hr hu hs => by rw [← hr, ← hs]; exact HPUT.out w' T U v2 (HK.out.trans (hb.mono HK.out.size)) ht hu (by rw [hr, hs]; simpa [Tr.row] using HROW.out)⟩ (by kernel_rfl) ?_
    intro T45 T60 T61 T8 w9 hB9 _ _ _ h8
    have HB9 := Lib.hid (HK.out.trans (hB9.mono HK.out.size))
    have HT := Lib.hid h8
    clear hB9 h8 HPUT HL HO HB3 HX3 HK
    simp only [putAll, Act.put, List.setIfInBounds_toArray, List.set_cons_succ, List.set_cons_zero]
    go_wp2_with fail
    go_ret
    exact ⟨T8, rfl, HT.out.1, by rw [HT.out.2]; simp [Tr.row], HB9.out⟩
set_option maxRecDepth 100000 in
set_option maxHeartbeats 2000000 in
theorem tturnB_any (hT : TBd P w g bs A m d root) (L B : Tr) (x : It) (hL : L.At bs P w) (hB : B.At bs P w) (hne : 0 < B.row.length) (hP : ∀ k, w.heap.size ≤ k → P k) (h : ItsT bs (B.row ++ x :: L.row)) :
    Calls Try.prog 95 #[.pointer (some ⟨g, 0, none⟩), .pointer B.ptr, .agg #[.int .i64 x.s, .int .i64 x.t, .int .i64 x.q, .int .i64 x.v], .pointer L.ptr] w (TrO bs P (B.row ++ x :: L.row) w) := by
  cases B with
  | nil => exact absurd hne (by simp [Tr.row])
  | node b H O v I =>
  obtain ⟨_, _, hb3, _, hc1, hc2⟩ := hB
  have HPUT := Lib.hid (put_later hT hP)
  have HBX : Hid (Has (w.alloc (.cells #[.int .i64 x.s, .int .i64 x.t, .int .i64 x.q, .int .i64 x.v] 23)) w.heap.size 23 #[.int .i64 x.s, .int .i64 x.t, .int .i64 x.q, .int .i64 x.v] ∧ Below w.heap.size w (w.alloc (.cells #[.int .i64 x.s, .int .i64 x.t, .int .i64 x.q, .int .i64 x.v] 23))) := ⟨Has.made _ _ _, (Below.refl _ _).alloc (Nat.le_refl _) _⟩
  have HL := Lib.hid (fun w' (hb : Below w.heap.size w w') => hL.below hb)
  have HI := Lib.hid (fun w' (hb : Below w.heap.size w w') => hc2.below hb)
  have HO := Lib.hid (fun w' (hb : Below w.heap.size w w') => hc1.below hb)
  have HB3 := Lib.hid (fun w' (hb : Below w.heap.size w w') => hb3.below hb hb3.lt)
  have HROW := Lib.hid h
  have n1 : I.row.length ≤ 8192 := by have := h.le; simp only [Tr.row, List.length_append, List.length_cons] at this; omega
  have n2 : O.row.length ≤ 8192 := by have := h.le; simp only [Tr.row, List.length_append, List.length_cons] at this; omega
  have HWI := Lib.hid (fun w' (hb : Below w.heap.size w w') => tweight_any bs P I w' (HI.out w' hb) n1)
  have HWO := Lib.hid (fun w' (hb : Below w.heap.size w w') => tweight_any bs P O w' (HO.out w' hb) n2)
  have n3 : (0 : Int) ≤ (I.row.length : Nat) ∧ ((I.row.length : Nat) : Int) ≤ 8192 ∧ (0 : Int) ≤ (O.row.length : Nat) ∧ ((O.row.length : Nat) : Int) ≤ 8192 := by omega
  clear hT hL hb3 hc1 hc2 hne hP h n1 n2
  have e0 : (Tr.node b H O v I).ptr = some ⟨b, 0, none⟩ := rfl
  rw [e0]; clear e0
  by_cases hW : I.row.length + 1 < 2 * (O.row.length + 1)
  · have hWB : decide ((I.row.length : Nat) + 1 < 2 * ((O.row.length : Nat) + 1 : Int)) = true := decide_eq_true (by omega)
    clear hW
    have HS1 := Lib.hid (show ItsT bs (I.row ++ x :: L.row) from ItsT.right (xs := O.row ++ [v]) (by simpa [Tr.row] using HROW.out))
    generalize hip : I.ptr = ip at HWI
    generalize hop : O.ptr = op at HWO
    have EI := Lib.hid hip; clear hip
    have EO := Lib.hid hop; clear hop
    go_enter Try.func95, Try.ntmps95
    go_upto_region 1 with fail
    refine tb1_any (b := b) (v := v) (av := foldA bs (Tr.node b H O v I).row) (hk := H) (p := op) (q := ip) ⟨rfl, rfl, (by have := HB3.out _ HBX.out.2; rw [EI.out, EO.out] at this; exact this)⟩ (by kernel_rfl) ?_
    intro w3 hB3
    have HK := Lib.hid (HBX.out.2.trans (hB3.mono (by simp)))
    have HX3 := Lib.hid (HBX.out.1.below hB3 (by simp))
    clear hB3 HBX
    simp only [putAll, Act.put, List.setIfInBounds_toArray, List.set_cons_succ, List.set_cons_zero]
    go_upto_region 3 with (first | (refine (HWI.out _ HK.out).mono ?_; clear HWI; rintro e w4 ⟨rfl, rfl⟩) | (refine (HWO.out _ HK.out).mono ?_; clear HWO; rintro e w4 ⟨rfl, rfl⟩))
    refine ttb_any (g := g) (z := 0) (y := w.heap.size) (b := b) (x := x) (v := v) (av := foldA bs (Tr.node b H O v I).row) (hk := H) (p := op) (q := ip) (bs := bs) (P := P) (R1 := I.row ++ x :: L.row) (R2 := O.row ++ v :: (I.row ++ x :: L.row)) (pl := L.ptr) (pi := ip) (po := op) ⟨rfl, rfl, rfl, rfl, rfl, rfl, rfl, HX3.out, (by have := HB3.out _ HK.out; rw [EI.out, EO.out] at this; exact this), fun w' hb => by rw [← EI.out]; exact HPUT.out w' I L x (HK.out.trans (hb.mono HK.out.size)) (HI.out _ (HK.out.trans (hb.mono HK.out.size))) (HL.out _ (HK.out.trans (hb.mono HK.out.size))) HS1.out, fun w' T hb ht hr => by rw [← EO.out, ← hr]; exact HPUT.out w' O T v (HK.out.trans (hb.mono HK.out.size)) (HO.out _ (HK.out.trans (hb.mono HK.out.size))) ht (by rw [hr]; simpa [Tr.row] using HROW.out)⟩ (by kernel_rfl) ?_
    intro T30 T36 T8 w9 hB9 _ _ h8
    have HB9 := Lib.hid (HK.out.trans (hB9.mono HK.out.size))
    have HT := Lib.hid h8
    clear hB9 h8 HPUT HL HO HB3 HX3 HK
    simp only [putAll, Act.put, List.setIfInBounds_toArray, List.set_cons_succ, List.set_cons_zero]
    go_wp2_with fail
    go_ret
    exact ⟨T8, rfl, HT.out.1, by rw [HT.out.2]; simp [Tr.row], HB9.out⟩
  · have hWB : decide ((I.row.length : Nat) + 1 < 2 * ((O.row.length : Nat) + 1 : Int)) = false := decide_eq_false (by omega)
    cases I with
    | nil => exact absurd (by simp [Tr.row]; omega) hW
    | node b2 H2 I1 v2 I2 =>
    have hi := HI.out w (Below.refl _ _)
    obtain ⟨_, _, hb4, _, hd1, hd2⟩ := hi
    have HB4 := Lib.hid (fun w' (hb : Below w.heap.size w w') => hb4.below hb hb4.lt)
    have HI1 := Lib.hid (fun w' (hb : Below w.heap.size w w') => hd1.below hb)
    have HI2 := Lib.hid (fun w' (hb : Below w.heap.size w w') => hd2.below hb)
    have e1 : (Tr.node b2 H2 I1 v2 I2).ptr = some ⟨b2, 0, none⟩ := rfl
    rw [e1] at HWI; clear e1 hb4 hd1 hd2
    clear hW
    have HS1 := Lib.hid (show ItsT bs (O.row ++ v :: I1.row) from ItsT.left (ys := v2 :: (I2.row ++ x :: L.row)) (by simpa [Tr.row] using HROW.out))
    have HS2 := Lib.hid (show ItsT bs (I2.row ++ x :: L.row) from ItsT.right (xs := (O.row ++ v :: I1.row) ++ [v2]) (by simpa [Tr.row] using HROW.out))
    generalize hop : O.ptr = op at HWO
    have EO := Lib.hid hop; clear hop
    go_enter Try.func95, Try.ntmps95
    go_upto_region 1 with fail
    refine tb1_any (b := b) (v := v) (av := foldA bs (Tr.node b H O v (.node b2 H2 I1 v2 I2)).row) (hk := H) (p := op) (q := some ⟨b2, 0, none⟩) ⟨rfl, rfl, (by have := HB3.out _ HBX.out.2; rw [EO.out] at this; exact this)⟩ (by kernel_rfl) ?_
    intro w3 hB3
    have HK := Lib.hid (HBX.out.2.trans (hB3.mono (by simp)))
    have HX3 := Lib.hid (HBX.out.1.below hB3 (by simp))
    clear hB3 HBX
    simp only [putAll, Act.put, List.setIfInBounds_toArray, List.set_cons_succ, List.set_cons_zero]
    go_upto_region 4 with (first | (refine (HWI.out _ HK.out).mono ?_; clear HWI; rintro e w4 ⟨rfl, rfl⟩) | (refine (HWO.out _ HK.out).mono ?_; clear HWO; rintro e w4 ⟨rfl, rfl⟩))
    refine tub_any (g := g) (z := 0) (y := w.heap.size) (b := b) (b2 := b2) (x := x) (v := v) (v2 := v2) (av := foldA bs (Tr.node b H O v (.node b2 H2 I1 v2 I2)).row) (a2 := foldA bs (Tr.node b2 H2 I1 v2 I2).row) (hk := H) (h2 := H2) (p := op) (q := some ⟨b2, 0, none⟩) (p2 := I1.ptr) (q2 := I2.ptr) (bs := bs) (P := P) (R1 := O.row ++ v :: I1.row) (R2 := I2.row ++ x :: L.row) (R3 := (O.row ++ v :: I1.row) ++ v2 :: (I2.row ++ x :: L.row)) (pl := L.ptr) (po := op) ⟨rfl, rfl, rfl, rfl, rfl, rfl, rfl, HX3.out, (by have := HB3.out _ HK.out; rw [EO.out] at this; exact this), HB4.out _ HK.out, fun w' hb => by rw [← EO.out]; exact HPUT.out w' O I1 v (HK.out.trans (hb.mono HK.out.size)) (HO.out _ (HK.out.trans (hb.mono HK.out.size))) (HI1.out _ (HK.out.trans (hb.mono HK.out.size))) HS1.out, fun w' hb => by exact HPUT.out w' I2 L x (HK.out.trans (hb.mono HK.out.size)) (HI2.out _ (HK.out.trans (hb.mono HK.out.size))) (HL.out _ (HK.out.trans (hb.mono HK.out.size))) HS2.out, fun w' T U hb ht hr hu hs => by rw [← hr, ← hs]; exact HPUT.out w' T U v2 (HK.out.trans (hb.mono HK.out.size)) ht hu (by rw [hr, hs]; simpa [Tr.row] using HROW.out)⟩ (by kernel_rfl) ?_
    intro T45 T60 T61 T8 w9 hB9 _ _ _ h8
    have HB9 := Lib.hid (HK.out.trans (hB9.mono HK.out.size))
    have HT := Lib.hid h8
    clear hB9 h8 HPUT HL HO HB3 HX3 HK
    simp only [putAll, Act.put, List.setIfInBounds_toArray, List.set_cons_succ, List.set_cons_zero]
    go_wp2_with fail
    go_ret
    exact ⟨T8, rfl, HT.out.1, by rw [HT.out.2]; simp [Tr.row], HB9.out⟩
end

end Go.Proofs.Ytjgjbhbpndjnnaa
