/-
  Walks: the laws' helpers on items: Num, SameItems of like ones, CopyItems, LendItems, KeptItems, SpoilItems.
  Walk: the laws' awake.
-/
import Derived.Test.YtjgjbhbpndjnnaaG44
import Derived.Test.YtjgjbhbpndjnnaaG41
import Derived.Test.YtjgjbhbpndjnnaaG2
import Derived.OwnWalk
import Derived.Deep.Cut
import Derived.Great.Walk
import Derived.Maps.AppendAt
namespace Go.Proofs.Ytjgjbhbpndjnnaa
open Go.RowKit

set_option maxRecDepth 100000 in
set_option maxHeartbeats 400000 in
theorem num0_any (n : Int) (w : World) :
    Calls Try.prog 16 #[.int .i64 n] w fun e w' => e = .returned (.int .i64 n) ∧ w = w' := by
  go_enter Try.func16, Try.ntmps16
  go_wp2
  go_ret
  exact ⟨rfl, rfl⟩
set_option maxRecDepth 100000 in
set_option maxHeartbeats 2000000 in
theorem sameitems_any (A B : Option Addr) (n c d : Nat) (xs : List It) (w : World) (h1 : Items w A n xs) (h2 : Items w B n xs) (hn : n ≤ 17592186044416) :
    Calls Try.prog 36 #[.slice A n c, .slice B n d] w fun e w' => e = .returned (.bool true) ∧ Below w.heap.size w w' := by
  have H1 := Lib.hid h1; clear h1
  have H2 := Lib.hid h2; clear h2
  go_enter Try.func36, Try.ntmps36
  go_wp2_with fail
  go_loopw [5] (fun i wr => ∃ j : Nat, j ≤ n ∧ i = .int .i64 j ∧ Hid (Below w.heap.size w wr)) (fun i _ => n - (intOf i).toNat)
  case atStart => exact ⟨0, Nat.zero_le _, rfl, Below.refl _ _⟩
  case round =>
    obtain ⟨j, hj, rfl, HW⟩ := hrel
    by_cases hlt : j < n
    · obtain ⟨b1, o1, rfl, i1⟩ := (H1.out.below HW.out).2 (by omega)
      obtain ⟨b2, o2, rfl, i2⟩ := (H2.out.below HW.out).2 (by omega)
      have X1 := Lib.hid (i1 j hlt)
      have X2 := Lib.hid (i2 j hlt)
      clear i1 i2
      go_upto_region 6 with fail
      refine sit_any (x := nthI xs j) (b1 := b1) (o1 := o1) (b2 := b2) (o2 := o2) (n := n) (e1 := c) (e2 := d) (q := j) ⟨rfl, rfl, rfl, rfl, X1.out, X2.out, hlt⟩ (by kernel_rfl) ?_
      intro w9 hB9
      have HB9 := Lib.hid (HW.out.trans (hB9.mono HW.out.size))
      clear hB9 X1 X2 HW
      simp only [putAll, Act.put, List.setIfInBounds_toArray, List.set_cons_succ, List.set_cons_zero]
      go_wp2_with fail
      go_roundw
      case rel => exact ⟨j + 1, by omega, by go_num, HB9⟩
      case measure => simp [intOf]; omega
    · have hjn : j = n := by omega
      subst hjn
      go_wp2_with fail
      go_ret
      exact ⟨rfl, HW.out⟩


set_option maxRecDepth 100000 in
set_option maxHeartbeats 1000000 in
theorem copyitems_any (A : Option Addr) (n c : Nat) (xs : List It) (w : World) (hr : Items w A n xs) (hn : n * 32 ≤ 140737488355328) (hnil : A = none → c = 0 ∧ n = 0) :
    Calls Try.prog 58 #[.slice A n c] w fun e w' => ∃ A' c', e = .returned (.slice A' n c') ∧ OwnIt w' w.heap.size (.slice A' n c') xs ∧ Below w.heap.size w w' := by
  have HE : Hid (OwnIt (w.alloc (.cells #[] 23)) w.heap.size (.slice (some ⟨w.heap.size, 0, none⟩) 0 0) []) := it_empty w
  have HR := Lib.hid (hr.below ((Below.refl _ w).alloc (Nat.le_refl _) (.cells #[] 23)))
  have hsz : w.heap.size ≤ (w.alloc (.cells #[] 23)).heap.size := by simp
  have HAL : Hid (Below w.heap.size w (w.alloc (.cells #[] 23))) := (Below.refl _ _).alloc (Nat.le_refl _) _
  have hn0 : (0 + n) * 32 ≤ 140737488355328 := by omega
  have HN := Lib.hid hnil
  clear hr hnil
  go_enter Try.func58, Try.ntmps58
  go_wp2_with (at_builtin; refine app_its (v := .slice (some ⟨w.heap.size, 0, none⟩) 0 0) rfl _ _ rfl rfl HE.out rfl HR.out HN.out rfl hn0 hsz ?_; intro A2 m2 c2 w2 hm2 ho2 hg2 _; have HO2 := Lib.hid ho2; have HB2 := Lib.hid (HAL.out.trans (grow_below hg2 (fun b hb => (World.ownsRow.lt HE.out _ hb).1) hsz)); have HM2 := Lib.hid hm2; clear ho2 hg2 hm2)
  go_ret
  have h := HO2.out
  have e : m2 = n := by have h : m2 = 0 + n := HM2.out; omega
  subst e
  rw [List.nil_append] at h
  exact ⟨A2, c2, rfl, h, HB2.out⟩

abbrev markIt : It := ⟨0, 0, 77777, 0⟩
set_option maxRecDepth 100000 in
theorem OwnIt.capI {w : World} {base : Nat} {A : Option Addr} {n c : Nat} {xs : List It} (h : OwnIt w base (.slice A n c) xs) : xs.length = n ∧ n ≤ c := ⟨h.len, h.cap.1⟩
set_option maxRecDepth 100000 in
/-- 's = append(s, y, z)' of items in a walk. -/
theorem app_twoIt {ops : Array Oper} {rest : List Oper} {op : Oper} {p : Act} {w : World} {Q : Exit → Act → World → Prop} (hgd : op.guard = none) (s x : Operand)
    (ho : op.op = .call { callee := .builtin .append, args := #[s, x], argTypes := #[52, 52] })
    {base g n c : Nat} {A : Option Addr} {xs : List It} {y z : It} (hs : p.eval s = .slice A n c) (hown : OwnIt w base (.slice A n c) xs) (hx : p.eval x = .slice (some ⟨g, 0, none⟩) 2 2) (hg : Has w g 23 (([y, z] : List It).flatMap itemL).toArray)
    (hn : n * 32 ≤ 140737488351232) (hbase : base ≤ w.heap.size)
    (h : ∀ A' c' w', OwnIt w' base (.slice A' (n + 2) c') (xs ++ [y, z]) → Below base w w' → wpList Try.prog ops Q rest (p.put op.dst (.slice A' (n + 2) c')) w') : wpList Try.prog ops Q (op :: rest) p w := by
  obtain ⟨i0, hi, hz, hs0, hy0⟩ := info_parts Try.infoItem
  have hl : xs.length = n := by
    obtain ⟨_, _, e, _⟩ := hown.form
    injection e with _ e2
    exact e2.symm
  refine wpList_append_own_at w hgd s x 52 ho base 23 i0 _ 4 32 Try.underlying52 hi hz hs0 hy0 rfl (by omega) (.slice A n c) xs.length (xs.flatMap itemL) hs hown ⟨g, 0, none⟩ 2 2 (([y, z] : List It).flatMap itemL) hx rfl
    (fun j u hu => ?_) (fun u hu => ?_) (by unfold maxLen; omega) (by omega) hbase (fun v' w' h1 h2 _ h4 => ?_)
  · rw [Addr.add_mid, hg.cell, Nat.zero_add]
    simpa using hu
  · simp only [itemL, List.flatMap_cons, List.flatMap_nil, List.append_nil, List.cons_append, List.nil_append, List.mem_cons, List.not_mem_nil, or_false] at hu
    rcases hu with rfl | rfl | rfl | rfl | rfl | rfl | rfl | rfl <;> rfl
  · have h3 : OwnIt w' base v' (xs ++ [y, z]) := by unfold OwnIt; rw [List.flatMap_append, List.length_append]; exact h1
    obtain ⟨A', c', rfl, _⟩ := h3.form
    have e : (xs ++ [y, z]).length = n + 2 := by simp [hl]
    rw [e] at h3 ⊢
    refine h A' c' w' h3 ⟨h2.os, h2.tape, h2.output, h2.size, fun k hk => h2.block k (by omega) (fun e => ?_)⟩
    have := World.ownsRow.lt hown k e.symm
    omega

set_option maxRecDepth 100000 in
set_option maxHeartbeats 1000000 in
theorem lenditems_any (A : Option Addr) (n c : Nat) (xs : List It) (w : World) (hr : Items w A n xs) (hn : n * 32 ≤ 140737488351232) (hnil : A = none → c = 0 ∧ n = 0) :
    Calls Try.prog 26 #[.slice A n c] w fun e w' => ∃ A' c', e = .returned (.slice A' n c') ∧ OwnIt w' w.heap.size (.slice A' (n + 2) c') (xs ++ [markIt, markIt]) ∧ Below w.heap.size w w' := by
  go_enter Try.func26, Try.ntmps26
  go_wp2_with fail
  refine (copyitems_any A n c xs _ hr (by omega) hnil).mono ?_
  rintro e w2 ⟨A2, c2, rfl, hown, hb⟩
  have HB := Lib.hid hb; clear hb
  have HO := Lib.hid hown; clear hown
  have hown2 : ∀ o, OwnIt (w2.alloc o) w.heap.size (.slice A2 n c2) xs := fun o => HO.out.below ((Below.refl _ _).alloc (Nat.le_refl _) o)
  go_wp2_with (first
    | (refine app_twoIt rfl _ _ rfl rfl (hown2 _) (g := w2.heap.size) (y := markIt) (z := markIt) rfl (Has.made _ _ _) hn (by have := HB.out.size; simp; omega) ?_; intro A3 c3 wn hwn hbn; have HW := Lib.hid hwn; have hc3 : n ≤ c3 := (by have := hwn.capI; omega); clear hwn; have HBN := Lib.hid hbn; clear hbn)
    | (refine cut_toIt rfl _ _ rfl rfl rfl rfl hc3 ?_))
  go_ret
  exact ⟨A3, c3, rfl, HW.out, (below_alloc HB.out (Nat.le_refl _) _).trans HBN.out⟩


set_option maxRecDepth 100000 in
set_option maxHeartbeats 1000000 in
theorem keptitems_any (A B : Option Addr) (n c d : Nat) (xs : List It) (base : Nat) (w : World) (hl : OwnIt w base (.slice A (n + 2) c) (xs ++ [markIt, markIt])) (hx : xs.length = n) (hb : Items w B n xs) (hn : n ≤ 17592186044416) :
    Calls Try.prog 29 #[.slice A n c, .slice B n d] w fun e w' => e = .returned (.bool true) ∧ Below w.heap.size w w' := by
  have hI := hl.items
  have hcap := hl.capI.2
  obtain ⟨b, o, rfl, hc⟩ := hI.2 (by omega)
  have h1 := hc n (by omega)
  have h2 := hc (n + 1) (by omega)
  have e1 : nthI (xs ++ [markIt, markIt]) n = markIt := by simp [nthI, ← hx]
  have e2 : nthI (xs ++ [markIt, markIt]) (n + 1) = markIt := by simp [nthI, ← hx]
  rw [e1] at h1
  rw [e2] at h2
  have hA : Items w (some ⟨b, o, none⟩) n xs := ⟨hx, fun _ => ⟨b, o, rfl, fun k hk => by
    have := hc k (by omega)
    rw [show nthI (xs ++ [markIt, markIt]) k = nthI xs k by simp [nthI, List.getElem?_append_left (show k < xs.length by omega)]] at this
    exact this⟩⟩
  have HA := Lib.hid hA; clear hA
  have HB := Lib.hid hb; clear hb
  have H1 := Lib.hid h1
  have H2 := Lib.hid h2
  clear hl hI hc e1 e2 hx h1 h2
  go_enter Try.func29, Try.ntmps29
  go_wp2_with (refine cut_toIt rfl _ _ rfl rfl rfl (show (n : Int) + 2 = ((n + 2 : Nat) : Int) by omega) hcap ?_)
  refine (sameitems_any _ B n c d xs _ HA.out HB.out hn).mono ?_
  rintro e w2 ⟨rfl, hb2⟩
  have H12 : Hid (w2.rangeAt b (o + n * 4) (itemL markIt)) := rangeAt_keep H1.out (by simp [itemL]) fun _ hp => hb2.cell hp
  have H22 : Hid (w2.rangeAt b (o + (n + 1) * 4) (itemL markIt)) := rangeAt_keep H2.out (by simp [itemL]) fun _ hp => hb2.cell hp
  have HB2 := Lib.hid hb2
  clear hb2 H1 H2
  have y0 : w2.cell? ⟨b, o + n * 4, none⟩ = some (.int .i64 0) := H12.out 0 _ rfl
  have y1 : w2.cell? ⟨b, o + n * 4 + 1, none⟩ = some (.int .i64 0) := H12.out 1 _ rfl
  have y2 : w2.cell? ⟨b, o + n * 4 + 2, none⟩ = some (.int .i64 77777) := H12.out 2 _ rfl
  have y3 : w2.cell? ⟨b, o + n * 4 + 3, none⟩ = some (.int .i64 0) := H12.out 3 _ rfl
  have z0 : w2.cell? ⟨b, o + (n + 1) * 4, none⟩ = some (.int .i64 0) := H22.out 0 _ rfl
  have z1 : w2.cell? ⟨b, o + (n + 1) * 4 + 1, none⟩ = some (.int .i64 0) := H22.out 1 _ rfl
  have z2 : w2.cell? ⟨b, o + (n + 1) * 4 + 2, none⟩ = some (.int .i64 77777) := H22.out 2 _ rfl
  have z3 : w2.cell? ⟨b, o + (n + 1) * 4 + 3, none⟩ = some (.int .i64 0) := H22.out 3 _ rfl
  go_wp2_with fail
  go_ret
  exact ⟨rfl, HB2.out⟩


end Go.Proofs.Ytjgjbhbpndjnnaa

namespace Go.Proofs.Ytjgjbhbpndjnnaa
open Go.RowKit

def aw1 : List It := [⟨0, 5, 1, 2⟩, ⟨0, 3, 2, 4⟩, ⟨0, 5, 3, 8⟩]
def aw2 : List It := [⟨0, 9, 4, 1⟩, ⟨0, 5, 3, 1⟩]
def aw3 : List It := [⟨1, 9, 4, 1⟩]
def aw4 : List It := [⟨0, 3, 2, 4⟩, ⟨0, 5, 1, 2⟩, ⟨0, 5, 3, 8⟩]
def aw5 : List It := [⟨0, 5, 1, 2⟩, ⟨0, 5, 3, 8⟩]
theorem aw_new1 : NewS [] aw1 := ⟨by decide, by decide⟩
theorem aw_row : insAll [] aw1 = aw4 := rfl
theorem aw_new2 : ¬ NewS aw4 aw2 := fun h => by have := h.1 ⟨0, 5, 3, 1⟩ (by simp [aw2]); revert this; decide
theorem aw_stay : stay 5 aw4 = aw5 := rfl
theorem aw_in1 : (foldA [] (inS 3 5 aw4)).n = 1 ∧ (foldA [] (inS 3 5 aw4)).s = 4 := by decide
theorem aw_in2 : (foldA [] (inS 5 6 aw4)).n = 2 ∧ (foldA [] (inS 5 6 aw4)).s = 10 := by decide
theorem butS_new {w w' : World} {gs : List Nat} {g : Nat} {t : TypeId} {cs : Array Value} (hb : ButS gs w w') (h : Has w g t cs) (hg : g ∉ gs) : Has w' g t cs := (hb.other g h.lt hg).trans h

set_option maxRecDepth 100000 in
set_option maxHeartbeats 4000000 in
theorem aw19_any (w : World) : Calls Try.prog 25 #[] w fun e w' => e = .returned (.bool true) ∧ Below w.heap.size w w' := by
  go_enter Try.func25, Try.ntmps25
  go_wp2_with fail
  refine (tnew_ok none 0 0 [] w Ints.nil (fun _ => rfl) rfl).mono ?_
  rintro e w1 ⟨g, rfl, hq, hb⟩
  have L1 := Lib.hid (LT.new (Below.refl _ w) hq hb)
  clear hq hb
  generalize (fun k => w.heap.size ≤ k ∧ k < w1.heap.size) = O1 at L1
  go_wp2_with fail
  refine (tnew_no _ 2 2 [2, 1] _ (ints_of_has (Has.made _ _ _) rfl) (by unfold maxLen; omega) rfl).mono ?_
  rintro e w2 ⟨rfl, hb⟩
  have L2 := Lib.hid ((L1.out.below ((Below.refl _ _).alloc (Nat.le_refl _) _)).below hb)
  clear hb L1
  go_wp2_with (go_at_call 16; refine (num0_any _ _).mono ?_; rintro e w' ⟨rfl, rfl⟩)
  refine (item19_any _ _ _ _ _).mono ?_
  rintro e w3 ⟨rfl, hb⟩
  have L3 := Lib.hid (L2.out.below hb)
  clear hb L2
  go_wp2_with fail
  refine (item19_any _ _ _ _ _).mono ?_
  rintro e w4 ⟨rfl, hb⟩
  have L4 := Lib.hid (L3.out.below hb)
  clear hb L3
  go_wp2_with fail
  refine (item19_any _ _ _ _ _).mono ?_
  rintro e w5 ⟨rfl, hb⟩
  have L5 := Lib.hid (L4.out.below hb)
  clear hb L4
  go_wp2_with fail
  have L6 := Lib.hid (L5.out.below ((Below.refl _ _).alloc (Nat.le_refl _) (.cells #[.int .i64 0, .int .i64 5, .int .i64 1, .int .i64 2, .int .i64 0, .int .i64 3, .int .i64 2, .int .i64 4, .int .i64 0, .int .i64 5, .int .i64 3, .int .i64 8] 23)))
  have hh := Has.made w5 23 #[.int .i64 0, .int .i64 5, .int .i64 1, .int .i64 2, .int .i64 0, .int .i64 3, .int .i64 2, .int .i64 4, .int .i64 0, .int .i64 5, .int .i64 3, .int .i64 8]
  refine (L6.out.insert (n := 3) (c := 3) (xs := aw1) (items_has (xs := aw1) hh rfl) (fun ad e => by injection e with e; rw [← e]; exact L6.out.apart hh) rfl aw_new1).mono ?_
  rintro e w7 ⟨rfl, l, _⟩
  rw [aw_row] at l
  have L7 := Lib.hid l
  clear l L6 hh L5
  generalize GrowT _ _ _ = O7 at L7
  go_wp2_with fail
  refine (item19_any _ _ _ _ _).mono ?_
  rintro e w8 ⟨rfl, hb⟩
  have L8 := Lib.hid (L7.out.below hb)
  clear hb L7
  go_wp2_with fail
  refine (item19_any _ _ _ _ _).mono ?_
  rintro e w9 ⟨rfl, hb⟩
  have L9 := Lib.hid (L8.out.below hb)
  clear hb L8
  go_wp2_with fail
  have L10 := Lib.hid (L9.out.below ((Below.refl _ _).alloc (Nat.le_refl _) (.cells #[.int .i64 0, .int .i64 9, .int .i64 4, .int .i64 1, .int .i64 0, .int .i64 5, .int .i64 3, .int .i64 1] 23)))
  have hh := Has.made w9 23 #[.int .i64 0, .int .i64 9, .int .i64 4, .int .i64 1, .int .i64 0, .int .i64 5, .int .i64 3, .int .i64 1]
  refine (L10.out.insert_twice (n := 2) (c := 2) (xs := aw2) (items_has (xs := aw2) hh rfl) rfl aw_new2).mono ?_
  rintro e w11 ⟨rfl, l, _⟩
  have L11 := Lib.hid l
  clear l L10 hh L9
  go_wp2_with fail
  refine (item19_any _ _ _ _ _).mono ?_
  rintro e w12 ⟨rfl, hb⟩
  have L12 := Lib.hid (L11.out.below hb)
  clear hb L11
  go_wp2_with fail
  have L13 := Lib.hid (L12.out.below ((Below.refl _ _).alloc (Nat.le_refl _) (.cells #[.int .i64 1, .int .i64 9, .int .i64 4, .int .i64 1] 23)))
  have hh := Has.made w12 23 #[.int .i64 1, .int .i64 9, .int .i64 4, .int .i64 1]
  refine (L13.out.insert_form (n := 1) (c := 1) (xs := aw3) (items_has (xs := aw3) hh rfl) (by omega) rfl).mono ?_
  rintro e w14 ⟨rfl, l, _⟩
  have L14 := Lib.hid l
  clear l L13 hh L12
  go_wp2_with fail
  refine (L14.out.q.range 3 5).mono ?_
  rintro e w15 ⟨H1, _, rfl, hh1, hb⟩
  have L15 := Lib.hid (L14.out.below hb)
  clear hb L14 hh1
  have E1 := Lib.hid aw_in1
  generalize foldA [] (inS 3 5 aw4) = V1 at E1
  go_wp2_with fail
  refine (L15.out.q.range 5 6).mono ?_
  rintro e w16 ⟨H2, _, rfl, hh2, hb⟩
  have L16 := Lib.hid (L15.out.below hb)
  clear hb L15 hh2
  have E2 := Lib.hid aw_in2
  generalize foldA [] (inS 5 6 aw4) = V2 at E2
  go_upto_region 9 with (first | (refine store_has rfl _ _ rfl w16.heap.size (ac := V1) (A := some ⟨H1, 0, none⟩) (k := V1.h.length) (c := V1.h.length) rfl rfl ((Has.made _ _ _).alloc _) rfl ?_) | (refine store_has rfl _ _ rfl (w16.heap.size + 1) (ac := V2) (A := some ⟨H2, 0, none⟩) (k := V2.h.length) (c := V2.h.length) rfl rfl ((made2 _ _ _ _).rowFar (by omega) _) rfl ?_))
  have X1 : ∀ (o o' : Array Value) (c1 c2 : Array Value), Has ((((w16.alloc (.cells o 29)).alloc (.cells o' 29)).setRow w16.heap.size c1).setRow (w16.heap.size + 1) c2) w16.heap.size 29 c1 ∧ Has ((((w16.alloc (.cells o 29)).alloc (.cells o' 29)).setRow w16.heap.size c1).setRow (w16.heap.size + 1) c2) (w16.heap.size + 1) 29 c2 ∧ Below w16.heap.size w16 ((((w16.alloc (.cells o 29)).alloc (.cells o' 29)).setRow w16.heap.size c1).setRow (w16.heap.size + 1) c2) := fun o o' c1 c2 =>
    ⟨(((Has.made _ _ _).alloc _).row _).rowFar (by omega) _, ((made2 _ _ _ _).rowFar (by omega) _).row _, below_row (below_row (below_alloc ((Below.refl _ _).alloc (Nat.le_refl _) _) (Nat.le_refl _) _) (Nat.le_refl _) _) (by omega) _⟩
  obtain ⟨x1, x2, x3⟩ := X1 #[.int .i64 0, .int .i64 0, .int .i64 0, .int .i64 0, .int .i64 0, .int .i64 0, .int .i64 0, .int .i64 0, .int .i64 0, .int .i64 0, .int .i64 0, .int .i64 0, .slice none 0 0] #[.int .i64 0, .int .i64 0, .int .i64 0, .int .i64 0, .int .i64 0, .int .i64 0, .int .i64 0, .int .i64 0, .int .i64 0, .int .i64 0, .int .i64 0, .int .i64 0, .slice none 0 0] (accC V1 (some ⟨H1, 0, none⟩) V1.h.length V1.h.length) (accC V2 (some ⟨H2, 0, none⟩) V2.h.length V2.h.length)
  clear X1
  generalize World.setRow _ (w16.heap.size + 1) _ = w17 at x1 x2 x3 ⊢
  have L17 := Lib.hid (L16.out.below x3)
  have HG := Lib.hid (show g < w16.heap.size from L16.out.g_in.2.2)
  have K1 := Lib.hid x1
  have K2 := Lib.hid x2
  clear x1 x2 x3 L16
  go_wp2_with fail
  refine (L17.out.evict 5).mono ?_
  rintro e w18 ⟨rfl, l, hb⟩
  rw [aw_stay] at l ⊢
  have L18 := Lib.hid l
  have hg := HG.out
  have hc0 : w18.cell? ⟨w16.heap.size, 0, none⟩ = some (.int .i64 1) := by rw [(butS_new hb K1.out (by simp; omega)).cell, accC_0, E1.out.1]
  have hc1 : w18.cell? ⟨w16.heap.size, 1, none⟩ = some (.int .i64 4) := by rw [(butS_new hb K1.out (by simp; omega)).cell, accC_1, E1.out.2]
  have hc2 : w18.cell? ⟨w16.heap.size + 1, 0, none⟩ = some (.int .i64 2) := by rw [(butS_new hb K2.out (by simp; omega)).cell, accC_0, E2.out.1]
  have hc3 : w18.cell? ⟨w16.heap.size + 1, 1, none⟩ = some (.int .i64 10) := by rw [(butS_new hb K2.out (by simp; omega)).cell, accC_1, E2.out.2]
  have e9 : ((aw4.length : Nat) : Int) - ((aw5.length : Nat) : Int) = 1 := by decide
  rw [e9]
  clear l hb L17 K1 K2 HG hg e9 E1 E2
  generalize GrowT _ _ _ = O18 at L18
  go_wp2_with (go_at_call 16; refine (num0_any _ _).mono ?_; rintro e w' ⟨rfl, rfl⟩)
  refine L18.out.q.items.mono ?_
  rintro e w19 ⟨A9, c9, rfl, ho, hb⟩
  have L19 := Lib.hid (L18.out.below hb)
  have HI := Lib.hid ho.items
  clear ho hb L18 hc0 hc1 hc2 hc3
  go_wp2_with fail
  refine (item19_any _ _ _ _ _).mono ?_
  rintro e w20 ⟨rfl, hb⟩
  have L20 := Lib.hid (L19.out.below hb)
  have HI2 := Lib.hid (HI.out.below hb)
  clear hb L19 HI
  go_wp2_with fail
  refine (item19_any _ _ _ _ _).mono ?_
  rintro e w21 ⟨rfl, hb⟩
  have L21 := Lib.hid (L20.out.below hb)
  have HI3 := Lib.hid (HI2.out.below hb)
  clear hb L20 HI2
  go_wp2_with fail
  have hal := (Below.refl w21.heap.size w21).alloc (Nat.le_refl _) (.cells #[.int .i64 0, .int .i64 5, .int .i64 1, .int .i64 2, .int .i64 0, .int .i64 5, .int .i64 3, .int .i64 8] 23)
  have hh := Has.made w21 23 #[.int .i64 0, .int .i64 5, .int .i64 1, .int .i64 2, .int .i64 0, .int .i64 5, .int .i64 3, .int .i64 8]
  refine (sameitems_any _ _ 2 _ _ aw5 _ (HI3.out.below hal) (items_has (xs := aw5) hh rfl) (by omega)).mono ?_
  rintro e w22 ⟨rfl, hb⟩
  have L22 := Lib.hid (L21.out.below (hal.trans (hb.mono hal.size)))
  clear hal hh hb L21 HI3
  go_wp2_with fail
  go_ret
  exact ⟨rfl, L22.out.keep⟩

end Go.Proofs.Ytjgjbhbpndjnnaa
