/-
  Walk: the laws' first look.
-/
import Derived.Test.YtmhmekmacdkdgaaHpAwR
namespace Go.Proofs.Ytmhmekmacdkdgaa
open Go.RowKit

abbrev aI1 : It := ⟨0, 5, 2, 1⟩
abbrev aI2 : It := ⟨0, 4, 3, 1⟩
abbrev aI3 : It := ⟨0, 4, 1, 1⟩
abbrev aI4 : It := ⟨0, 4, 9, 1⟩
theorem aw_1 : pushN 3 [] [aI1, aI2] = 0 ∧ pushL 3 [] [aI1, aI2] = [aI2, aI1] := ⟨by decide, rfl⟩
theorem aw_2 : pushN 3 [aI2, aI1] [aI3, aI4] = 1501 ∧ pushL 3 [aI2, aI1] [aI3, aI4] = [aI2, aI1] := ⟨by decide, rfl⟩
theorem aw_3 : pushN 3 [] [zeroIt] = 1500 ∧ pushL 3 [] [zeroIt] = [] := ⟨by decide, rfl⟩


section
variable {w0 w : World} {bs : List Nat} {g : Nat} {m : Int} {xs : List It}
/-- A push of a row that was just laid out. -/
theorem HpK.lit (h : HpK w0 bs g m xs w) (zs : List It) {cs : Array Value} (hc : cs = (zs.flatMap itemL).toArray) (N : Int) (ys : List It) (hN : pushN m xs zs = N ∧ pushL m xs zs = ys) (n : Nat) (hzn : zs.length = n) (hm : 1 ≤ m ∧ m ≤ 8192) (hl : xs.length ≤ 8192) (hn : zs.length ≤ 100) :
    Calls Try.prog 15 #[.pointer (some ⟨g, 0, none⟩), .slice (some ⟨w.heap.size, 0, none⟩) n n] (w.alloc (.cells cs 34)) fun e w' => e = .returned (.int .i64 N) ∧ HpK w0 bs g m ys w' ∧ ∀ k, (k ∈ bs ∨ k < w0.heap.size) → w'.heap[k]? = w.heap[k]? := by
  subst hzn
  obtain ⟨rfl, rfl⟩ := hN
  have hs := h.size
  have hb := h.fresh (.cells cs 34)
  have hlt : ∀ k, (k ∈ bs ∨ k < w0.heap.size) → k < w.heap.size := fun k hk => by
    obtain ⟨_, _, _, _, h4⟩ := h
    rcases hk with hk | hk
    · exact h4 k hk
    · omega
  refine (hb.push (some ⟨w.heap.size, 0, none⟩) zs.length zs.length zs (items_has (Has.made w _ _) hc) (fun ad _ e => by injection e with e; subst e; exact .inl (List.mem_cons_self ..)) hm hl (by omega)).mono fun e w' h2 => ⟨h2.1, h2.2.1.less (fun b hb => List.mem_cons_of_mem _ hb), fun k hk => ?_⟩
  exact (h2.2.2 k (hk.imp (fun h => List.mem_cons_of_mem _ h) id)).trans (Below.heap_alloc w _ k (hlt k hk))
theorem HpK.peekV (h : HpK w0 bs g m xs w) (x : It) (hx : nthI xs 0 = x) (h0 : 0 < xs.length) (hn : xs.length ≤ 8192) :
    Calls Try.prog 19 #[.pointer (some ⟨g, 0, none⟩)] w fun e w' => e = .returned (.tuple #[itV x, .int .i64 0]) ∧ Below w.heap.size w w' := by
  subst hx; exact h.peek h0 hn
theorem HpK.popV (h : HpK w0 bs g m xs w) (x : It) (hx : nthI xs 0 = x) (ys : List It) (hy : xs.tail = ys) (h0 : 0 < xs.length) (hn : xs.length ≤ 8192) :
    Calls Try.prog 12 #[.pointer (some ⟨g, 0, none⟩)] w fun e w' => e = .returned (.tuple #[itV x, .int .i64 0]) ∧ HpK w0 bs g m ys w' ∧ ∀ k, (k ∈ bs ∨ k < w0.heap.size) → w'.heap[k]? = w.heap[k]? := by
  subst hx; subst hy; exact h.pop h0 hn
end

set_option maxRecDepth 100000 in
set_option maxHeartbeats 400000 in
theorem awake_any (w : World) :
    Calls Try.prog 11 #[] w fun e w' => e = .returned (.bool true) ∧ Below w.heap.size w w' := by
  go_enter Try.func11, Try.ntmps11
  go_wp2_with fail
  refine (hnew_ok 3 w (by omega)).mono ?_
  rintro e w1 h1
  obtain ⟨g, rfl, hk⟩ := hpK_new h1 (Below.refl w.heap.size w)
  have HK1 := Lib.hid hk
  clear h1 hk
  go_wp2_with fail
  refine (hnew_no 0 w1 (by omega)).mono ?_
  rintro e w' ⟨rfl, rfl⟩
  go_wp2_with (go_at_call 10; refine (num0_any _ _).mono ?_; rintro e w' ⟨rfl, rfl⟩)
  refine (item0_any _ _ _ _ _).mono ?_
  rintro e w2 ⟨rfl, hb⟩
  have HK2 := Lib.hid (HK1.out.below hb)
  clear hb HK1
  go_wp2_with fail
  refine (item0_any _ _ _ _ _).mono ?_
  rintro e w3 ⟨rfl, hb⟩
  have HK3 := Lib.hid (HK2.out.below hb)
  clear hb HK2
  go_wp2_with fail
  refine (HK3.out.lit [aI1, aI2] (by rfl) 0 [aI2, aI1] aw_1 2 rfl (by omega) (by simp) (by simp)).mono ?_
  rintro e w4 ⟨rfl, hk, -⟩
  have HK4 := Lib.hid hk
  clear hk HK3
  go_wp2_with fail
  refine (item0_any _ _ _ _ _).mono ?_
  rintro e w5 ⟨rfl, hb⟩
  have HK5 := Lib.hid (HK4.out.below hb)
  clear hb HK4
  go_wp2_with fail
  refine (item0_any _ _ _ _ _).mono ?_
  rintro e w6 ⟨rfl, hb⟩
  have HK6 := Lib.hid (HK5.out.below hb)
  clear hb HK5
  go_wp2_with fail
  refine (HK6.out.lit [aI3, aI4] (by rfl) 1501 [aI2, aI1] aw_2 2 rfl (by omega) (by simp) (by simp)).mono ?_
  rintro e w7 ⟨rfl, hk, -⟩
  have HK7 := Lib.hid hk
  clear hk HK6
  go_wp2_with fail
  refine (HK7.out.peekV aI2 rfl (by simp) (by simp)).mono ?_
  rintro e w8 ⟨rfl, hb⟩
  have HK8 := Lib.hid ((HK7.out.below hb).fresh (.cells (itA aI2) 34))
  have H8 := Lib.hid (Has.made w8 34 (itA aI2))
  clear hb HK7
  go_wp2_with (refine store_hasIt rfl _ _ rfl w8.heap.size (z := aI2) rfl rfl (Has.made _ _ _) rfl ?_; rw [World.setRow_alloc_new])
  refine (HK8.out.popV aI2 rfl [aI1] rfl (by simp) (by simp)).mono ?_
  rintro e w9 ⟨rfl, hk, hs⟩
  have H9 : Hid (∀ o, Has (w9.alloc o) w8.heap.size 34 (itA aI2)) := fun o => (show Has w9 _ _ _ from (hs _ (.inl (List.mem_cons_self ..))).trans H8.out).alloc o
  have HK9 := Lib.hid (hk.fresh (.cells (itA aI2) 34))
  have h9 := Has.made w9 34 (itA aI2)
  have H9b := Lib.hid h9
  clear hk hs HK8 H8 h9
  go_wp2_with (refine store_hasIt rfl _ _ rfl w9.heap.size (z := aI2) rfl rfl (Has.made _ _ _) rfl ?_; rw [World.setRow_alloc_new])
  refine (HK9.out.popV aI1 rfl [] rfl (by simp) (by simp)).mono ?_
  rintro e w10 ⟨rfl, hk, hs⟩
  have H10 : Hid (∀ o, Has (w10.alloc o) w8.heap.size 34 (itA aI2)) := fun o => (show Has w10 _ _ _ from (hs _ (.inl (by simp))).trans (H9.out _)).alloc o
  have H10b : Hid (∀ o, Has (w10.alloc o) w9.heap.size 34 (itA aI2)) := fun o => (show Has w10 _ _ _ from (hs _ (.inl (List.mem_cons_self ..))).trans H9b.out).alloc o
  have HK10 := Lib.hid (hk.fresh (.cells (itA aI1) 34))
  have H10c := Lib.hid (Has.made w10 34 (itA aI1))
  clear hk hs HK9 H9 H9b
  go_wp2_with (refine store_hasIt rfl _ _ rfl w10.heap.size (z := aI1) rfl rfl (Has.made _ _ _) rfl ?_; rw [World.setRow_alloc_new])
  refine (HK10.out.popNone).mono ?_
  rintro e w11 ⟨rfl, hb⟩
  have hb2 := below_alloc hb (Nat.le_refl _) (.cells (itA zeroIt) 34)
  have H11 := Lib.hid ((H10.out _).below hb2 (H10.out _).lt)
  have H11b := Lib.hid ((H10b.out _).below hb2 (H10b.out _).lt)
  have H11c := Lib.hid (H10c.out.below hb2 H10c.out.lt)
  have HK11 := Lib.hid (HK10.out.below hb2)
  clear hb hb2 HK10 H10 H10b H10c
  go_upto_region 11 with (refine store_hasIt rfl _ _ rfl w11.heap.size (z := zeroIt) rfl rfl (Has.made _ _ _) rfl ?_; rw [World.setRow_alloc_new])
  generalize w11.alloc (.cells (itA zeroIt) 34) = v11 at H11 H11b H11c HK11 ⊢
  go_wp2_with fail
  refine (HK11.out.lit [zeroIt] (by rfl) 1500 [] aw_3 1 rfl (by omega) (by simp) (by simp)).mono ?_
  rintro e w12 ⟨rfl, hk, hs⟩
  obtain ⟨gs, hhp, _, hkeep, _⟩ := hk
  have H12 : Hid (Has w12 w8.heap.size 34 (itA aI2)) := (hs _ (.inl (by simp))).trans H11.out
  have H12b : Hid (Has w12 w9.heap.size 34 (itA aI2)) := (hs _ (.inl (by simp))).trans H11b.out
  have H12c : Hid (Has w12 w10.heap.size 34 (itA aI1)) := (hs _ (.inl (by simp))).trans H11c.out
  have HHP := Lib.hid hhp
  have HKP := Lib.hid hkeep
  clear hs hhp hkeep H11 H11b H11c HK11
  go_upto_region 12 with fail
  refine haw12_any (g := g) (p7 := w8.heap.size) (p9 := w9.heap.size) (p11 := w10.heap.size) (gs := gs) ⟨rfl, rfl, rfl, rfl, rfl, rfl, rfl, rfl, rfl, rfl, rfl, rfl, rfl, HHP.out, H12.out, H12b.out, H12c.out⟩ (by kernel_rfl) ?_
  intro w13 hB
  have HE := Lib.hid (HKP.out.trans (hB.mono HKP.out.size))
  clear hB
  simp only [putAll, Act.put, List.setIfInBounds_toArray, List.set_cons_succ, List.set_cons_zero]
  go_wp2_with fail
  go_ret
  exact ⟨rfl, HE.out⟩

end Go.Proofs.Ytmhmekmacdkdgaa
