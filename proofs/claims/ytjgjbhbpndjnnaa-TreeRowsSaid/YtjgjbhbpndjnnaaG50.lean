/-
  Walks: the laws' helpers on items: Num, SameItems of like ones, CopyItems, LendItems, KeptItems, SpoilItems.
  Walks: what the laws lean on: item, Num, SameInts and SameAcc of like ones.
-/
import Derived.Test.YtjgjbhbpndjnnaaG49
import Derived.Test.YtjgjbhbpndjnnaaIt1
import Derived.Test.YtjgjbhbpndjnnaaG4
import Derived.OwnWalk
import Derived.Deep.Cut
import Derived.Great.Walk
import Derived.Maps.AppendAt
import Derived.Test.YtjgjbhbpndjnnaaG10
import Derived.Test.YtjgjbhbpndjnnaaG20
namespace Go.Proofs.Ytjgjbhbpndjnnaa
open Go.RowKit

set_option maxRecDepth 100000 in
set_option maxHeartbeats 400000 in
theorem num0_any (n : Int) (w : World) :
    Calls Try.prog 16 #[.int .i64 n] w fun e w' => e = .returned (.int .i64 n) ∧ w = w' := by
  go_enter Try.func16, Try.ntmps16
  go_wp2
  go_ret
  exact ⟨rfl, rfl⟩
set_option maxRecDepth 100000 in
set_option maxHeartbeats 2000000 in
theorem sameitems_any (A B : Option Addr) (n c d : Nat) (xs : List It) (w : World) (h1 : Items w A n xs) (h2 : Items w B n xs) (hn : n ≤ 17592186044416) :
    Calls Try.prog 36 #[.slice A n c, .slice B n d] w fun e w' => e = .returned (.bool true) ∧ Below w.heap.size w w' := by
  have H1 := Lib.hid h1; clear h1
  have H2 := Lib.hid h2; clear h2
  go_enter Try.func36, Try.ntmps36
  go_wp2_with fail
  go_loopw [5] (fun i wr => ∃ j : Nat, j ≤ n ∧ i = .int .i64 j ∧ Hid (Below w.heap.size w wr)) (fun i _ => n - (intOf i).toNat)
  case atStart => exact ⟨0, Nat.zero_le _, rfl, Below.refl _ _⟩
  case round =>
    obtain ⟨j, hj, rfl, HW⟩ := hrel
    by_cases hlt : j < n
    · obtain ⟨b1, o1, rfl, i1⟩ := (H1.out.below HW.out).2 (by omega)
      obtain ⟨b2, o2, rfl, i2⟩ := (H2.out.below HW.out).2 (by omega)
      have X1 := Lib.hid (i1 j hlt)
      have X2 := Lib.hid (i2 j hlt)
      clear i1 i2
      go_upto_region 6 with fail
      refine sit_any (x := nthI xs j) (b1 := b1) (o1 := o1) (b2 := b2) (o2 := o2) (n := n) (e1 := c) (e2 := d) (q := j) ⟨rfl, rfl, rfl, rfl, X1.out, X2.out, hlt⟩ (by kernel_rfl) ?_
      intro w9 hB9
      have HB9 := Lib.hid (HW.out.trans (hB9.mono HW.out.size))
      clear hB9 X1 X2 HW
      simp only [putAll, Act.put, List.setIfInBounds_toArray, List.set_cons_succ, List.set_cons_zero]
      go_wp2_with fail
      go_roundw
      case rel => exact ⟨j + 1, by omega, by go_num, HB9⟩
      case measure => simp [intOf]; omega
    · have hjn : j = n := by omega
      subst hjn
      go_wp2_with fail
      go_ret
      exact ⟨rfl, HW.out⟩


set_option maxRecDepth 100000 in
set_option maxHeartbeats 1000000 in
theorem copyitems_any (A : Option Addr) (n c : Nat) (xs : List It) (w : World) (hr : Items w A n xs) (hn : n * 32 ≤ 140737488355328) (hnil : A = none → c = 0 ∧ n = 0) :
    Calls Try.prog 58 #[.slice A n c] w fun e w' => ∃ A' c', e = .returned (.slice A' n c') ∧ OwnIt w' w.heap.size (.slice A' n c') xs ∧ Below w.heap.size w w' := by
  have HE : Hid (OwnIt (w.alloc (.cells #[] 23)) w.heap.size (.slice (some ⟨w.heap.size, 0, none⟩) 0 0) []) := it_empty w
  have HR := Lib.hid (hr.below ((Below.refl _ w).alloc (Nat.le_refl _) (.cells #[] 23)))
  have hsz : w.heap.size ≤ (w.alloc (.cells #[] 23)).heap.size := by simp
  have HAL : Hid (Below w.heap.size w (w.alloc (.cells #[] 23))) := (Below.refl _ _).alloc (Nat.le_refl _) _
  have hn0 : (0 + n) * 32 ≤ 140737488355328 := by omega
  have HN := Lib.hid hnil
  clear hr hnil
  go_enter Try.func58, Try.ntmps58
  go_wp2_with (at_builtin; refine app_its (v := .slice (some ⟨w.heap.size, 0, none⟩) 0 0) rfl _ _ rfl rfl HE.out rfl HR.out HN.out rfl hn0 hsz ?_; intro A2 m2 c2 w2 hm2 ho2 hg2 _; have HO2 := Lib.hid ho2; have HB2 := Lib.hid (HAL.out.trans (grow_below hg2 (fun b hb => (World.ownsRow.lt HE.out _ hb).1) hsz)); have HM2 := Lib.hid hm2; clear ho2 hg2 hm2)
  go_ret
  have h := HO2.out
  have e : m2 = n := by have h : m2 = 0 + n := HM2.out; omega
  subst e
  rw [List.nil_append] at h
  exact ⟨A2, c2, rfl, h, HB2.out⟩

abbrev markIt : It := ⟨0, 0, 77777, 0⟩
set_option maxRecDepth 100000 in
theorem OwnIt.capI {w : World} {base : Nat} {A : Option Addr} {n c : Nat} {xs : List It} (h : OwnIt w base (.slice A n c) xs) : xs.length = n ∧ n ≤ c := ⟨h.len, h.cap.1⟩
set_option maxRecDepth 100000 in
/-- 's = append(s, y, z)' of items in a walk. -/
theorem app_twoIt {ops : Array Oper} {rest : List Oper} {op : Oper} {p : Act} {w : World} {Q : Exit → Act → World → Prop} (hgd : op.guard = none) (s x : Operand)
    (ho : op.op = .call { callee := .builtin .append, args := #[s, x], argTypes := #[52, 52] })
    {base g n c : Nat} {A : Option Addr} {xs : List It} {y z : It} (hs : p.eval s = .slice A n c) (hown : OwnIt w base (.slice A n c) xs) (hx : p.eval x = .slice (some ⟨g, 0, none⟩) 2 2) (hg : Has w g 23 (([y, z] : List It).flatMap itemL).toArray)
    (hn : n * 32 ≤ 140737488351232) (hbase : base ≤ w.heap.size)
    (h : ∀ A' c' w', OwnIt w' base (.slice A' (n + 2) c') (xs ++ [y, z]) → Below base w w' → wpList Try.prog ops Q rest (p.put op.dst (.slice A' (n + 2) c')) w') : wpList Try.prog ops Q (op :: rest) p w := by
  obtain ⟨i0, hi, hz, hs0, hy0⟩ := info_parts Try.infoItem
  have hl : xs.length = n := by
    obtain ⟨_, _, e, _⟩ := hown.form
    injection e with _ e2
    exact e2.symm
  refine wpList_append_own_at w hgd s x 52 ho base 23 i0 _ 4 32 Try.underlying52 hi hz hs0 hy0 rfl (by omega) (.slice A n c) xs.length (xs.flatMap itemL) hs hown ⟨g, 0, none⟩ 2 2 (([y, z] : List It).flatMap itemL) hx rfl
    (fun j u hu => ?_) (fun u hu => ?_) (by unfold maxLen; omega) (by omega) hbase (fun v' w' h1 h2 _ h4 => ?_)
  · rw [Addr.add_mid, hg.cell, Nat.zero_add]
    simpa using hu
  · simp only [itemL, List.flatMap_cons, List.flatMap_nil, List.append_nil, List.cons_append, List.nil_append, List.mem_cons, List.not_mem_nil, or_false] at hu
    rcases hu with rfl | rfl | rfl | rfl | rfl | rfl | rfl | rfl <;> rfl
  · have h3 : OwnIt w' base v' (xs ++ [y, z]) := by unfold OwnIt; rw [List.flatMap_append, List.length_append]; exact h1
    obtain ⟨A', c', rfl, _⟩ := h3.form
    have e : (xs ++ [y, z]).length = n + 2 := by simp [hl]
    rw [e] at h3 ⊢
    refine h A' c' w' h3 ⟨h2.os, h2.tape, h2.output, h2.size, fun k hk => h2.block k (by omega) (fun e => ?_)⟩
    have := World.ownsRow.lt hown k e.symm
    omega

set_option maxRecDepth 100000 in
set_option maxHeartbeats 1000000 in
theorem lenditems_any (A : Option Addr) (n c : Nat) (xs : List It) (w : World) (hr : Items w A n xs) (hn : n * 32 ≤ 140737488351232) (hnil : A = none → c = 0 ∧ n = 0) :
    Calls Try.prog 26 #[.slice A n c] w fun e w' => ∃ A' c', e = .returned (.slice A' n c') ∧ OwnIt w' w.heap.size (.slice A' (n + 2) c') (xs ++ [markIt, markIt]) ∧ Below w.heap.size w w' := by
  go_enter Try.func26, Try.ntmps26
  go_wp2_with fail
  refine (copyitems_any A n c xs _ hr (by omega) hnil).mono ?_
  rintro e w2 ⟨A2, c2, rfl, hown, hb⟩
  have HB := Lib.hid hb; clear hb
  have HO := Lib.hid hown; clear hown
  have hown2 : ∀ o, OwnIt (w2.alloc o) w.heap.size (.slice A2 n c2) xs := fun o => HO.out.below ((Below.refl _ _).alloc (Nat.le_refl _) o)
  go_wp2_with (first
    | (refine app_twoIt rfl _ _ rfl rfl (hown2 _) (g := w2.heap.size) (y := markIt) (z := markIt) rfl (Has.made _ _ _) hn (by have := HB.out.size; simp; omega) ?_; intro A3 c3 wn hwn hbn; have HW := Lib.hid hwn; have hc3 : n ≤ c3 := (by have := hwn.capI; omega); clear hwn; have HBN := Lib.hid hbn; clear hbn)
    | (refine cut_toIt rfl _ _ rfl rfl rfl rfl hc3 ?_))
  go_ret
  exact ⟨A3, c3, rfl, HW.out, (below_alloc HB.out (Nat.le_refl _) _).trans HBN.out⟩


set_option maxRecDepth 100000 in
set_option maxHeartbeats 1000000 in
theorem keptitems_any (A B : Option Addr) (n c d : Nat) (xs : List It) (base : Nat) (w : World) (hl : OwnIt w base (.slice A (n + 2) c) (xs ++ [markIt, markIt])) (hx : xs.length = n) (hb : Items w B n xs) (hn : n ≤ 17592186044416) :
    Calls Try.prog 29 #[.slice A n c, .slice B n d] w fun e w' => e = .returned (.bool true) ∧ Below w.heap.size w w' := by
  have hI := hl.items
  have hcap := hl.capI.2
  obtain ⟨b, o, rfl, hc⟩ := hI.2 (by omega)
  have h1 := hc n (by omega)
  have h2 := hc (n + 1) (by omega)
  have e1 : nthI (xs ++ [markIt, markIt]) n = markIt := by simp [nthI, ← hx]
  have e2 : nthI (xs ++ [markIt, markIt]) (n + 1) = markIt := by simp [nthI, ← hx]
  rw [e1] at h1
  rw [e2] at h2
  have hA : Items w (some ⟨b, o, none⟩) n xs := ⟨hx, fun _ => ⟨b, o, rfl, fun k hk => by
    have := hc k (by omega)
    rw [show nthI (xs ++ [markIt, markIt]) k = nthI xs k by simp [nthI, List.getElem?_append_left (show k < xs.length by omega)]] at this
    exact this⟩⟩
  have HA := Lib.hid hA; clear hA
  have HB := Lib.hid hb; clear hb
  have H1 := Lib.hid h1
  have H2 := Lib.hid h2
  clear hl hI hc e1 e2 hx h1 h2
  go_enter Try.func29, Try.ntmps29
  go_wp2_with (refine cut_toIt rfl _ _ rfl rfl rfl (show (n : Int) + 2 = ((n + 2 : Nat) : Int) by omega) hcap ?_)
  refine (sameitems_any _ B n c d xs _ HA.out HB.out hn).mono ?_
  rintro e w2 ⟨rfl, hb2⟩
  have H12 : Hid (w2.rangeAt b (o + n * 4) (itemL markIt)) := rangeAt_keep H1.out (by simp [itemL]) fun _ hp => hb2.cell hp
  have H22 : Hid (w2.rangeAt b (o + (n + 1) * 4) (itemL markIt)) := rangeAt_keep H2.out (by simp [itemL]) fun _ hp => hb2.cell hp
  have HB2 := Lib.hid hb2
  clear hb2 H1 H2
  have y0 : w2.cell? ⟨b, o + n * 4, none⟩ = some (.int .i64 0) := H12.out 0 _ rfl
  have y1 : w2.cell? ⟨b, o + n * 4 + 1, none⟩ = some (.int .i64 0) := H12.out 1 _ rfl
  have y2 : w2.cell? ⟨b, o + n * 4 + 2, none⟩ = some (.int .i64 77777) := H12.out 2 _ rfl
  have y3 : w2.cell? ⟨b, o + n * 4 + 3, none⟩ = some (.int .i64 0) := H12.out 3 _ rfl
  have z0 : w2.cell? ⟨b, o + (n + 1) * 4, none⟩ = some (.int .i64 0) := H22.out 0 _ rfl
  have z1 : w2.cell? ⟨b, o + (n + 1) * 4 + 1, none⟩ = some (.int .i64 0) := H22.out 1 _ rfl
  have z2 : w2.cell? ⟨b, o + (n + 1) * 4 + 2, none⟩ = some (.int .i64 77777) := H22.out 2 _ rfl
  have z3 : w2.cell? ⟨b, o + (n + 1) * 4 + 3, none⟩ = some (.int .i64 0) := H22.out 3 _ rfl
  go_wp2_with fail
  go_ret
  exact ⟨rfl, HB2.out⟩


end Go.Proofs.Ytjgjbhbpndjnnaa

namespace Go.Proofs.Ytjgjbhbpndjnnaa
open Go.RowKit

set_option maxRecDepth 100000 in
set_option maxHeartbeats 400000 in
theorem mkItem_any (s t q v : Int) (w : World) :
    Calls Try.prog 56 #[.int .i64 s, .int .i64 t, .int .i64 q, .int .i64 v] w fun e w' => e = .returned (.agg #[.int .i64 s, .int .i64 t, .int .i64 q, .int .i64 v]) ∧ Below w.heap.size w w' := by
  go_enter Try.func56, Try.ntmps56
  go_wp2
  exact bodyPost_ret (v := .agg #[.int .i64 s, .int .i64 t, .int .i64 q, .int .i64 v]) (by simp [results, Try.results56, go_sem]) rfl ⟨rfl, (Below.refl _ _).alloc (Nat.le_refl _) _⟩

set_option maxRecDepth 100000 in
set_option maxHeartbeats 400000 in
theorem num_any (n : Int) (w : World) :
    Calls Try.prog 16 #[.int .i64 n] w fun e w' => e = .returned (.int .i64 n) ∧ w = w' := by
  go_enter Try.func16, Try.ntmps16
  go_wp2
  go_ret
  exact ⟨rfl, rfl⟩

set_option maxRecDepth 100000 in
set_option maxHeartbeats 1000000 in
theorem sameInts_true (A B : Option Addr) (n c d : Nat) (xs : List Int) (w : World) (ha : Ints w A n xs) (hb : Ints w B n xs) (hn : n ≤ maxLen) :
    Calls Try.prog 51 #[.slice A n c, .slice B n d] w fun e w' => e = .returned (.bool true) ∧ ∃ k, w' = w.drewN k := by
  unfold maxLen at hn
  go_enter Try.func51, Try.ntmps51
  go_wp2
  go_loopw [5] (fun i wr => ∃ j : Nat, j ≤ n ∧ i = .int .i64 j ∧ ∃ m, wr = w.drewN m) (fun i _ => n - (intOf i).toNat)
  case atStart => exact ⟨0, Nat.zero_le _, rfl, 0, rfl⟩
  case round =>
    obtain ⟨j, hj, rfl, m, rfl⟩ := hrel
    by_cases hlt : j < n
    · obtain ⟨b1, o1, rfl, hc1⟩ := ha.at_ (k := 0) (by omega)
      obtain ⟨b2, o2, rfl, hc2⟩ := hb.at_ (k := 0) (by omega)
      have hx := hc1 j hlt
      have hy := hc2 j hlt
      clear hc1 hc2
      have hlt2 : (j : Int) < (n : Int) := by omega
      go_wp2
      go_quiet (fail)
      go_wp2
      go_roundw
      case rel => exact ⟨j + 1, by omega, by go_num, m + nq, by first | rfl | rw [World.drewN_drewN]⟩
      case measure => simp [intOf]; omega
    · go_wp2
      go_ret
      exact ⟨rfl, m, rfl⟩

set_option maxRecDepth 100000 in
set_option maxHeartbeats 1000000 in
theorem sameAcc_true (a : Ac) (A B : Option Addr) (n c d : Nat) (w : World) (ha : Ints w A n a.h) (hb : Ints w B n a.h) (hn : n ≤ maxLen) :
    Calls Try.prog 15 #[accV a A n c, accV a B n d] w fun e w' => e = .returned (.bool true) ∧ Below w.heap.size w w' := by
  have hbox : ∀ o o', Below w.heap.size w ((w.alloc o).alloc o') := fun o o' => below_alloc ((Below.refl _ _).alloc (Nat.le_refl _) o) (Nat.le_refl _) o'
  have HBOX := Lib.hid hbox; clear hbox
  go_enter Try.func15, Try.ntmps15
  go_wp2_with fail
  refine (sameInts_true A B n c d a.h _ (ha.below (HBOX.out _ _)) (hb.below (HBOX.out _ _)) hn).mono ?_
  rintro e w2 ⟨rfl, k, rfl⟩
  go_wp2
  go_ret
  exact ⟨rfl, below_drewN (HBOX.out _ _) _⟩

end Go.Proofs.Ytjgjbhbpndjnnaa
