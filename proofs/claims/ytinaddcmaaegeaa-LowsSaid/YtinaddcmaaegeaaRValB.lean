/-
  Walk: the reference's Value: what is told, by each Agg (B).
-/
import Derived.Test.YtinaddcmaaegeaaRValue
namespace Go.Proofs.Ytinaddcmaaegeaa
open Go.RowKit

section
variable (q : Qu) (B : Option Addr) (m d : Nat) (a : Ac) (A : Option Addr) (k c : Nat) (w : World) (hbs : Ints w B m q.bs) (hm : m ≤ maxLen) (ha : Ints w A k a.h) (hk : k ≤ maxLen)
include hbs hm ha hk
set_option maxRecDepth 100000 in
set_option maxHeartbeats 4000000 in
theorem rvalue_ok1 (hagg : q.agg = 1) (hok : askB q a = true) (hv : wi a.s (-1125899906842624) 1125899906842624 = true) :
    Calls Try.prog 35 #[.agg (quC q B m d), .agg (accC a A k c)] w (OkOut (tellV q a) (tellO q a) (tellH q a) w) := by
  have HLB := Lib.hid hbs.1
  have HBS := Lib.hid hbs
  have HAH := Lib.hid ha
  have HM := Lib.hid hm
  have HW : Hid (RankW w (quC q B m d) (accC a A k c) (((w.alloc (.cells (quC q B m d) 53)).alloc (.cells (accC a A k c) 29)).alloc (.cells #[.int .i64 0, .bool false, .slice none 0 0] 56))) := rankW_new _ _ _
  have HMAY : Hid (∀ W, Ints W B m q.bs → Ints W A k a.h → Calls Try.prog 25 #[.agg (accC a A k c), .slice B m d] W fun e w' => e = .returned (.bool (accB a q.bs)) ∧ Below W.heap.size W w') := fun W h1 h2 => raccmay_any a A k c B m d q.bs W h2 h1 hk hm
  have hlen := ask_len hbs ha hok
  obtain ⟨k0, k9, km, m8, ⟨r1, r2⟩, ⟨n1, n2⟩, hh⟩ := hlen
  have hok2 := hok
  simp only [askB, Bool.and_eq_true] at hok2
  obtain ⟨-, hacc, hn0, hrb⟩ := hok2
  have HACC := Lib.hid hacc
  have hn0' : (a.n == 0) = false := by have := of_decide_eq_true hn0; simp; omega
  have t1 : tellV q a = a.s := by simp [tellV, hagg, hv]
  have t2 : tellO q a = false := by simp [tellO, hagg, hv]
  have t3 : tellH q a = [] := by simp [tellH, hagg]
  rw [t1, t2, t3]
  clear t1 t2 t3 hbs ha hm hk hok hacc hn0 hrb hh km
  go_enter Try.func35, Try.ntmps35
  go_upto_region 1 with fail
  generalize ((w.alloc (.cells (quC q B m d) 53)).alloc (.cells (accC a A k c) 29)).alloc (.cells #[.int .i64 0, .bool false, .slice none 0 0] 56) = w1 at HW ⊢
  have cQ : ∀ i, w1.cell? ⟨w.heap.size, i, none⟩ = (quC q B m d)[i]? := fun i => HW.out.hasQ.cell i
  have cA : ∀ i, w1.cell? ⟨w.heap.size + 1, i, none⟩ = (accC a A k c)[i]? := fun i => HW.out.hasA.cell i
  go_wp2_with (refine load_accG _ rfl rfl _ rfl HW.out.hasA ?_)
  refine (HMAY.out _ (HBS.out.below HW.out.keep) (HAH.out.below HW.out.keep)).mono ?_
  rintro e w2 ⟨rfl, hb⟩
  clear cQ cA
  replace HW := Lib.hid (HW.out.below hb)
  clear hb
  have cQ : ∀ i, w2.cell? ⟨w.heap.size, i, none⟩ = (quC q B m d)[i]? := fun i => HW.out.hasQ.cell i
  have cA : ∀ i, w2.cell? ⟨w.heap.size + 1, i, none⟩ = (accC a A k c)[i]? := fun i => HW.out.hasA.cell i
  rw [HACC.out]
  clear HMAY
  go_upto_region 9 with (go_at_call 54; refine (rwithin_any _ _ _ (by decide) (by decide)).mono ?_; rintro e w' ⟨rfl, rfl⟩; rw [hv])
  go_wp2_with (refine wpList_store_row rfl 56 _ _ rfl (w.heap.size + 1 + 1) (outC a.s false none 0 0) rfl rfl 56 _ HW.out.hasO Try.sizeOut rfl (outC_one _ _ _ _ _) ?_)
  refine bodyPost_ret (ret_row rfl _ _ _ 56 (outC a.s false none 0 0) _ rfl (HW.out.hasO.row _) Try.underlying56 rfl (by exact Try.sizeOut)) rfl ?_
  exact ⟨none, 0, 0, rfl, Ints.nil, Nat.le_refl _, Nat.zero_le _, OwnI.nil _ _, below_row HW.out.keep (by omega) _⟩

set_option maxRecDepth 100000 in
set_option maxHeartbeats 4000000 in
theorem rvalue_ok11 (hagg : q.agg = 1) (hok : askB q a = true) (hv : wi a.s (-1125899906842624) 1125899906842624 = false) :
    Calls Try.prog 35 #[.agg (quC q B m d), .agg (accC a A k c)] w (OkOut (tellV q a) (tellO q a) (tellH q a) w) := by
  have HLB := Lib.hid hbs.1
  have HBS := Lib.hid hbs
  have HAH := Lib.hid ha
  have HM := Lib.hid hm
  have HW : Hid (RankW w (quC q B m d) (accC a A k c) (((w.alloc (.cells (quC q B m d) 53)).alloc (.cells (accC a A k c) 29)).alloc (.cells #[.int .i64 0, .bool false, .slice none 0 0] 56))) := rankW_new _ _ _
  have HMAY : Hid (∀ W, Ints W B m q.bs → Ints W A k a.h → Calls Try.prog 25 #[.agg (accC a A k c), .slice B m d] W fun e w' => e = .returned (.bool (accB a q.bs)) ∧ Below W.heap.size W w') := fun W h1 h2 => raccmay_any a A k c B m d q.bs W h2 h1 hk hm
  have hlen := ask_len hbs ha hok
  obtain ⟨k0, k9, km, m8, ⟨r1, r2⟩, ⟨n1, n2⟩, hh⟩ := hlen
  have hok2 := hok
  simp only [askB, Bool.and_eq_true] at hok2
  obtain ⟨-, hacc, hn0, hrb⟩ := hok2
  have HACC := Lib.hid hacc
  have hn0' : (a.n == 0) = false := by have := of_decide_eq_true hn0; simp; omega
  have t1 : tellV q a = 0 := by simp [tellV, hagg, hv]
  have t2 : tellO q a = true := by simp [tellO, hagg, hv]
  have t3 : tellH q a = [] := by simp [tellH, hagg]
  rw [t1, t2, t3]
  clear t1 t2 t3 hbs ha hm hk hok hacc hn0 hrb hh km
  go_enter Try.func35, Try.ntmps35
  go_upto_region 1 with fail
  generalize ((w.alloc (.cells (quC q B m d) 53)).alloc (.cells (accC a A k c) 29)).alloc (.cells #[.int .i64 0, .bool false, .slice none 0 0] 56) = w1 at HW ⊢
  have cQ : ∀ i, w1.cell? ⟨w.heap.size, i, none⟩ = (quC q B m d)[i]? := fun i => HW.out.hasQ.cell i
  have cA : ∀ i, w1.cell? ⟨w.heap.size + 1, i, none⟩ = (accC a A k c)[i]? := fun i => HW.out.hasA.cell i
  go_wp2_with (refine load_accG _ rfl rfl _ rfl HW.out.hasA ?_)
  refine (HMAY.out _ (HBS.out.below HW.out.keep) (HAH.out.below HW.out.keep)).mono ?_
  rintro e w2 ⟨rfl, hb⟩
  clear cQ cA
  replace HW := Lib.hid (HW.out.below hb)
  clear hb
  have cQ : ∀ i, w2.cell? ⟨w.heap.size, i, none⟩ = (quC q B m d)[i]? := fun i => HW.out.hasQ.cell i
  have cA : ∀ i, w2.cell? ⟨w.heap.size + 1, i, none⟩ = (accC a A k c)[i]? := fun i => HW.out.hasA.cell i
  rw [HACC.out]
  clear HMAY
  go_upto_region 8 with (go_at_call 54; refine (rwithin_any _ _ _ (by decide) (by decide)).mono ?_; rintro e w' ⟨rfl, rfl⟩; rw [hv])
  go_wp2_with (refine wpList_store_row rfl 56 _ _ rfl (w.heap.size + 1 + 1) (outC 0 true none 0 0) rfl rfl 56 _ HW.out.hasO Try.sizeOut rfl (outC_one _ _ _ _ _) ?_)
  refine bodyPost_ret (ret_row rfl _ _ _ 56 (outC 0 true none 0 0) _ rfl (HW.out.hasO.row _) Try.underlying56 rfl (by exact Try.sizeOut)) rfl ?_
  exact ⟨none, 0, 0, rfl, Ints.nil, Nat.le_refl _, Nat.zero_le _, OwnI.nil _ _, below_row HW.out.keep (by omega) _⟩

set_option maxRecDepth 100000 in
set_option maxHeartbeats 4000000 in
theorem rvalue_ok6 (hagg : q.agg = 6) (hok : askB q a = true) :
    Calls Try.prog 35 #[.agg (quC q B m d), .agg (accC a A k c)] w (OkOut (tellV q a) (tellO q a) (tellH q a) w) := by
  have HLB := Lib.hid hbs.1
  have HBS := Lib.hid hbs
  have HAH := Lib.hid ha
  have HM := Lib.hid hm
  have HW : Hid (RankW w (quC q B m d) (accC a A k c) (((w.alloc (.cells (quC q B m d) 53)).alloc (.cells (accC a A k c) 29)).alloc (.cells #[.int .i64 0, .bool false, .slice none 0 0] 56))) := rankW_new _ _ _
  have HMAY : Hid (∀ W, Ints W B m q.bs → Ints W A k a.h → Calls Try.prog 25 #[.agg (accC a A k c), .slice B m d] W fun e w' => e = .returned (.bool (accB a q.bs)) ∧ Below W.heap.size W w') := fun W h1 h2 => raccmay_any a A k c B m d q.bs W h2 h1 hk hm
  have hlen := ask_len hbs ha hok
  obtain ⟨k0, k9, km, m8, ⟨r1, r2⟩, ⟨n1, n2⟩, hh⟩ := hlen
  have hok2 := hok
  simp only [askB, Bool.and_eq_true] at hok2
  obtain ⟨-, hacc, hn0, hrb⟩ := hok2
  have HACC := Lib.hid hacc
  have hn0' : (a.n == 0) = false := by have := of_decide_eq_true hn0; simp; omega
  have t1 : tellV q a = 0 := by simp [tellV, hagg]
  have t2 : tellO q a = false := by simp [tellO, hagg]
  have t3 : tellH q a = a.h := by simp [tellH, hagg]
  rw [t1, t2, t3]
  clear t1 t2 t3 hbs ha hm hk hok hacc hn0 hrb hh km
  go_enter Try.func35, Try.ntmps35
  go_upto_region 1 with fail
  generalize ((w.alloc (.cells (quC q B m d) 53)).alloc (.cells (accC a A k c) 29)).alloc (.cells #[.int .i64 0, .bool false, .slice none 0 0] 56) = w1 at HW ⊢
  have cQ : ∀ i, w1.cell? ⟨w.heap.size, i, none⟩ = (quC q B m d)[i]? := fun i => HW.out.hasQ.cell i
  have cA : ∀ i, w1.cell? ⟨w.heap.size + 1, i, none⟩ = (accC a A k c)[i]? := fun i => HW.out.hasA.cell i
  go_wp2_with (refine load_accG _ rfl rfl _ rfl HW.out.hasA ?_)
  refine (HMAY.out _ (HBS.out.below HW.out.keep) (HAH.out.below HW.out.keep)).mono ?_
  rintro e w2 ⟨rfl, hb⟩
  clear cQ cA
  replace HW := Lib.hid (HW.out.below hb)
  clear hb
  have cQ : ∀ i, w2.cell? ⟨w.heap.size, i, none⟩ = (quC q B m d)[i]? := fun i => HW.out.hasQ.cell i
  have cA : ∀ i, w2.cell? ⟨w.heap.size + 1, i, none⟩ = (accC a A k c)[i]? := fun i => HW.out.hasA.cell i
  rw [HACC.out]
  clear HMAY
  obtain ⟨b, o, rfl, _⟩ := HAH.out.at_ k0
  have hsz2 := HW.out.hasO.lt
  go_upto_region 19 with fail
  have cA2 : ∀ ob, (w2.alloc ob).cell? ⟨w.heap.size + 1, 12, none⟩ = some (.slice (some ⟨b, o, none⟩) k c) := fun ob => (HW.out.hasA.alloc ob).cell 12
  go_wp2_with (first | (refine app_ints rfl _ _ rfl rfl (own_empty w2) rfl ((HAH.out.below HW.out.keep).below ((Below.refl _ _).alloc (Nat.le_refl _) _)) k0 (by omega) (by simp) ?_; intro A2 c2 wn hwn hbn; clear cQ cA cA2; replace HW := Lib.hid (HW.out.below (((Below.refl _ _).alloc (Nat.le_refl _) _).trans hbn)); have HWN := Lib.hid hwn; clear hwn hbn) | (refine wpList_store_row rfl 56 _ _ rfl (w.heap.size + 1 + 1) (outC 0 false A2 k c2) rfl rfl 56 _ HW.out.hasO Try.sizeOut rfl (outC_one _ _ _ _ _) ?_))
  have hwn := HWN.out
  obtain ⟨_, _, e3, h3, h4, _⟩ := hwn.form
  injection e3 with e4 e5 e6
  subst e4 e6
  refine bodyPost_ret (ret_row rfl _ _ _ 56 (outC 0 false A2 k c2) _ rfl (HW.out.hasO.row _) Try.underlying56 rfl (by exact Try.sizeOut)) rfl ?_
  exact ⟨A2, k, c2, rfl, (hwn.ints).row (fun ad e => by have := hwn.new ad e; omega) _, by rw [e5]; exact h3, h4, (hwn.row (by omega) _).mono (by omega), below_row HW.out.keep (by omega) _⟩

set_option maxRecDepth 100000 in
set_option maxHeartbeats 4000000 in
theorem rvalue_ok7 (hagg : q.agg = 7) (hok : askB q a = true) :
    Calls Try.prog 35 #[.agg (quC q B m d), .agg (accC a A k c)] w (OkOut (tellV q a) (tellO q a) (tellH q a) w) := by
  have HLB := Lib.hid hbs.1
  have HBS := Lib.hid hbs
  have HAH := Lib.hid ha
  have HM := Lib.hid hm
  have HW : Hid (RankW w (quC q B m d) (accC a A k c) (((w.alloc (.cells (quC q B m d) 53)).alloc (.cells (accC a A k c) 29)).alloc (.cells #[.int .i64 0, .bool false, .slice none 0 0] 56))) := rankW_new _ _ _
  have HMAY : Hid (∀ W, Ints W B m q.bs → Ints W A k a.h → Calls Try.prog 25 #[.agg (accC a A k c), .slice B m d] W fun e w' => e = .returned (.bool (accB a q.bs)) ∧ Below W.heap.size W w') := fun W h1 h2 => raccmay_any a A k c B m d q.bs W h2 h1 hk hm
  have hlen := ask_len hbs ha hok
  obtain ⟨k0, k9, km, m8, ⟨r1, r2⟩, ⟨n1, n2⟩, hh⟩ := hlen
  have hok2 := hok
  simp only [askB, Bool.and_eq_true] at hok2
  obtain ⟨-, hacc, hn0, hrb⟩ := hok2
  have HACC := Lib.hid hacc
  have hn0' : (a.n == 0) = false := by have := of_decide_eq_true hn0; simp; omega
  have HRK : Hid (∀ W, Ints W B m q.bs → Ints W A k a.h → Calls Try.prog 58 #[.agg (quC q B m d), .agg (accC a A k c)] W fun e w' => e = .returned (.int .i64 (rankV q.bs a.h (place q.rank a.n) a.mx)) ∧ Below W.heap.size W w') := fun W h1 h2 => rrank_any q B m d a A k c W h1 h2 m8 km ⟨r1, r2⟩ ⟨n1, n2⟩ hh
  have hm0 : ((m : Int) == 0) = false := by
    simp [hagg] at hrb
    rw [hbs.1] at hrb
    simp; omega
  have t1 : tellV q a = rankV q.bs a.h (place q.rank a.n) a.mx := by simp [tellV, hagg]
  have t2 : tellO q a = false := by simp [tellO, hagg]
  have t3 : tellH q a = [] := by simp [tellH, hagg]
  rw [t1, t2, t3]
  clear t1 t2 t3 hbs ha hm hk hok hacc hn0 hrb hh km
  generalize rankV q.bs a.h (place q.rank a.n) a.mx = V at HRK ⊢
  go_enter Try.func35, Try.ntmps35
  go_upto_region 1 with fail
  generalize ((w.alloc (.cells (quC q B m d) 53)).alloc (.cells (accC a A k c) 29)).alloc (.cells #[.int .i64 0, .bool false, .slice none 0 0] 56) = w1 at HW ⊢
  have cQ : ∀ i, w1.cell? ⟨w.heap.size, i, none⟩ = (quC q B m d)[i]? := fun i => HW.out.hasQ.cell i
  have cA : ∀ i, w1.cell? ⟨w.heap.size + 1, i, none⟩ = (accC a A k c)[i]? := fun i => HW.out.hasA.cell i
  go_wp2_with (refine load_accG _ rfl rfl _ rfl HW.out.hasA ?_)
  refine (HMAY.out _ (HBS.out.below HW.out.keep) (HAH.out.below HW.out.keep)).mono ?_
  rintro e w2 ⟨rfl, hb⟩
  clear cQ cA
  replace HW := Lib.hid (HW.out.below hb)
  clear hb
  have cQ : ∀ i, w2.cell? ⟨w.heap.size, i, none⟩ = (quC q B m d)[i]? := fun i => HW.out.hasQ.cell i
  have cA : ∀ i, w2.cell? ⟨w.heap.size + 1, i, none⟩ = (accC a A k c)[i]? := fun i => HW.out.hasA.cell i
  rw [HACC.out]
  clear HMAY
  go_upto_region 20 with fail
  go_wp2_with (first | (refine load_quG _ rfl rfl _ rfl HW.out.hasQ ?_) | (refine load_accG _ rfl rfl _ rfl HW.out.hasA ?_))
  refine (HRK.out _ (HBS.out.below HW.out.keep) (HAH.out.below HW.out.keep)).mono ?_
  rintro e w3 ⟨rfl, hb⟩
  clear cQ cA
  replace HW := Lib.hid (HW.out.below hb)
  clear hb
  go_wp2_with (refine wpList_store_row rfl 56 _ _ rfl (w.heap.size + 1 + 1) (outC V false none 0 0) rfl rfl 56 _ HW.out.hasO Try.sizeOut rfl (outC_one _ _ _ _ _) ?_)
  refine bodyPost_ret (ret_row rfl _ _ _ 56 (outC V false none 0 0) _ rfl (HW.out.hasO.row _) Try.underlying56 rfl (by exact Try.sizeOut)) rfl ?_
  exact ⟨none, 0, 0, rfl, Ints.nil, Nat.le_refl _, Nat.zero_le _, OwnI.nil _ _, below_row HW.out.keep (by omega) _⟩
end

end Go.Proofs.Ytinaddcmaaegeaa
