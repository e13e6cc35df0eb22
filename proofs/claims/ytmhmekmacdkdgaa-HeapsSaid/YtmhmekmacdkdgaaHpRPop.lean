/-
  Walk: the reference's Pop.
-/
import Derived.Test.YtmhmekmacdkdgaaHpRef
namespace Go.Proofs.Ytmhmekmacdkdgaa
open Go.RowKit

section
variable {w : World} {gs : List Nat} {g : Nat} {m : Int} {xs : List It}
set_option maxRecDepth 100000 in
set_option maxHeartbeats 1000000 in
theorem rpop_none (h : HrS w gs g m []) :
    Calls Try.prog 13 #[.pointer (some ⟨g, 0, none⟩)] w fun e w' => e = .returned (.tuple #[itV zeroIt, .int .i64 1502]) ∧ Below w.heap.size w w' := by
  have HAL : Hid (∀ o, Below w.heap.size w (w.alloc o)) := fun o => (Below.refl _ _).alloc (Nat.le_refl _) o
  have HP : Hid (∀ w', Below w.heap.size w w' → Calls Try.prog 20 #[.pointer (some ⟨g, 0, none⟩)] w' fun e w2 => e = .returned (.tuple #[itV zeroIt, .int .i64 1502]) ∧ Below w'.heap.size w' w2) := fun w' hb => rpeek_none (h.below hb)
  clear h
  go_enter Try.func13, Try.ntmps13
  go_wp2_with fail
  refine (HP.out _ (HAL.out _)).mono ?_
  rintro e w2 ⟨rfl, hb⟩
  have h4 : ∀ o, Has (w2.alloc o) w.heap.size 34 #[.int .i64 0, .int .i64 0, .int .i64 0, .int .i64 0] := fun o => ((Has.made w _ _).below hb (by simp)).alloc o
  have H4 := Lib.hid h4
  have HB := Lib.hid ((HAL.out _).trans (hb.mono (by simp)))
  clear hb h4
  go_wp2_with (first | (refine load_hasIt rfl _ rfl w2.heap.size (y := zeroIt) rfl (Has.made _ _ _) ?_) | (refine store_hasIt rfl _ _ rfl w2.heap.size (z := zeroIt) rfl rfl (Has.made _ _ _) rfl ?_; rw [World.setRow_alloc_new]) | (refine store_hasIt rfl _ _ rfl w.heap.size (z := zeroIt) rfl rfl (H4.out _) rfl ?_))
  refine bodyPost_ret (ret_row rfl _ _ _ 34 (itA zeroIt) _ rfl ((H4.out _).row _) Try.underlying34 rfl (by exact Try.sizeItem)) rfl ?_
  exact ⟨rfl, below_row (below_alloc HB.out (Nat.le_refl _) _) (Nat.le_refl _) _⟩
set_option maxRecDepth 100000 in
set_option maxHeartbeats 1000000 in
theorem rpop_some (h : HrS w gs g m xs) (h0 : 0 < xs.length) (hn : xs.length ≤ 8192) :
    Calls Try.prog 13 #[.pointer (some ⟨g, 0, none⟩)] w fun e w' => e = .returned (.tuple #[itV (nthI xs 0), .int .i64 0]) ∧ WrO (fun w gs => HrS w gs g m xs.tail) gs w w' := by
  obtain ⟨⟨A, c, h1⟩, hsr⟩ := h
  have HSR : Hid (Srd xs.tail) := hsr.tail
  have HH : Hid (∀ w', Below w.heap.size w w' → HpAt HR w' gs g m xs A c) := fun w' hb => h1.below hb
  have HLT : Hid (∀ k ∈ gs, k < w.heap.size) := h1.lt
  have hcap := h1.own.cap.1
  have hnil : A = none → c = 0 := fun e => by
    rcases h1.own.shape with ⟨_, h2, _⟩ | ⟨b, h2⟩
    · omega
    · rw [e] at h2; cases h2
  have HNIL := Lib.hid hnil
  have HCAP := Lib.hid hcap
  have HDR : Hid (xs.drop 1 = xs.tail) := List.drop_one
  have HP : Hid (∀ w', Below w.heap.size w w' → Calls Try.prog 20 #[.pointer (some ⟨g, 0, none⟩)] w' fun e w2 => e = .returned (.tuple #[itV (nthI xs 0), .int .i64 0]) ∧ Below w'.heap.size w' w2) := fun w' hb => rpeek_some ⟨⟨A, c, h1.below hb⟩, hsr⟩ h0
  clear h1 hnil hcap hsr
  have HAL : Hid (∀ o, Below w.heap.size w (w.alloc o)) := fun o => (Below.refl _ _).alloc (Nat.le_refl _) o
  generalize nthI xs 0 = x at HP ⊢
  go_enter Try.func13, Try.ntmps13
  go_wp2_with fail
  refine (HP.out _ (HAL.out _)).mono ?_
  rintro e w2 ⟨rfl, hb⟩
  have HB2 : Hid (∀ o, Below w.heap.size w (w2.alloc o)) := fun o => below_alloc ((HAL.out _).trans (hb.mono (by simp))) (Nat.le_refl _) o
  have HZ : Hid (∀ o, Has (w2.alloc o) w.heap.size 34 #[.int .i64 0, .int .i64 0, .int .i64 0, .int .i64 0]) := fun o => ((Has.made w _ _).below hb (by simp)).alloc o
  have hs2 : w.heap.size < w2.heap.size := by have := hb.size; simp at this; omega
  clear hb HP
  go_upto_region 3 with (first | (refine store_hasIt rfl _ _ rfl w2.heap.size (z := x) rfl rfl (Has.made _ _ _) rfl ?_; rw [World.setRow_alloc_new]))
  have HAT := Lib.hid (HH.out _ (HB2.out (.cells (itA x) 34)))
  have HZ3 := Lib.hid (HZ.out (.cells (itA x) 34))
  have HX3 := Lib.hid (Has.made w2 34 (itA x))
  have HB3 := Lib.hid (HB2.out (.cells (itA x) 34))
  have hs3 : w2.heap.size < (w2.alloc (.cells (itA x) 34)).heap.size := by simp
  generalize w2.alloc (.cells (itA x) 34) = w3 at HAT HZ3 HX3 HB3 hs3 ⊢
  clear HB2 HZ HH
  have c1 : ∀ o, (w3.alloc o).cell? ⟨g, 1, none⟩ = some (.slice A xs.length c) := fun o => (HAT.out.below ((Below.refl _ _).alloc (Nat.le_refl _) o)).c1
  have HIT : Hid (∀ o, Items (w3.alloc o) A xs.length xs) := fun o => (HAT.out.own.below ((Below.refl _ _).alloc (Nat.le_refl _) o)).items
  have HE : Hid (OwnIt (w3.alloc (.cells #[] 34)) w3.heap.size (.slice (some ⟨w3.heap.size, 0, none⟩) 0 0) []) := it_empty w3
  have hsz : w3.heap.size ≤ (w3.alloc (.cells #[] 34)).heap.size := by simp
  have HN : Hid ((0 + (xs.length - 1)) * 32 ≤ 140737488355328) := by show _ ≤ _; omega
  have HF : Hid (∀ w5 A5 m5 c5, OwnIt w5 w3.heap.size (.slice A5 m5 c5) ([] ++ xs.drop 1) → Below w3.heap.size w3 w5 → (w5.cell? ⟨g, 1, none⟩ = some (.slice A xs.length c) ∧ w5.frozen? ⟨g, 1, none⟩ = false) ∧ WrO (fun w gs => HrS w gs g m xs.tail) gs w3 (w5.setCell ⟨g, 1, none⟩ (.slice A5 m5 c5))) := fun w5 A5 m5 c5 ho hb => by
    obtain ⟨hc, gs2, hat2, hb2, hg2⟩ := HAT.out.turned hb ho
    rw [List.nil_append, HDR.out] at hat2
    exact ⟨hc, gs2, ⟨⟨A5, c5, hat2⟩, HSR.out⟩, hb2, hg2⟩
  have hg3 : g ≠ w2.heap.size ∧ g ≠ w.heap.size := ⟨fun e => by have := HLT.out _ HAT.out.inG; omega, fun e => by have := HLT.out _ HAT.out.inG; omega⟩
  go_upto_region 4 with (first
    | (at_builtin; refine app_its (v := .slice (some ⟨w3.heap.size, 0, none⟩) 0 0) (ys := xs.drop 1) rfl _ _ rfl rfl HE.out rfl HI5.out HN5.out rfl (by rw [HM5.out]; exact HN.out) hsz ?_; intro A6 m6 c6 w6 hm6 ho6 hg6 _; have HB6 := Lib.hid (((Below.refl _ w3).alloc (Nat.le_refl _) (.cells #[] 34)).trans (grow_below hg6 (fun b hb => (World.ownsRow.lt HE.out _ hb).1) hsz)); have HF6 := Lib.hid (HF.out _ _ _ _ ho6 HB6.out); have c6' := HF6.out.1.1; have f6' := HF6.out.1.2; clear ho6 hg6 hm6)
    | (refine cut_fromIt (u := 1) (xs := xs) rfl _ _ rfl rfl rfl rfl h0 HCAP.out (HIT.out _) HNIL.out ?_; intro A5 m5 c5 hm5 hi5 hn5; have HM5 := Lib.hid hm5; have HI5 := Lib.hid hi5; have HN5 := Lib.hid hn5; clear hm5 hi5 hn5))
  have HX7 := Lib.hid ((HX3.out.below HB6.out hs3).putFar (p := ⟨g, 1, none⟩) (fun e => hg3.1 e.symm) (.slice A6 m6 c6))
  have HZ7 := Lib.hid ((HZ3.out.below HB6.out (by omega)).putFar (p := ⟨g, 1, none⟩) (fun e => hg3.2 e.symm) (.slice A6 m6 c6))
  clear c6' f6' c1
  go_wp2_with (first | (refine load_hasIt rfl _ rfl w2.heap.size rfl HX7.out ?_) | (refine store_hasIt rfl _ _ rfl w.heap.size (z := x) rfl rfl HZ7.out rfl ?_))
  refine bodyPost_ret (ret_row rfl _ _ _ 34 (itA x) _ rfl (HZ7.out.row _) Try.underlying34 rfl (by exact Try.sizeItem)) rfl ?_
  obtain ⟨gs2, k1, k2, k3⟩ := HF6.out.2
  have hne : ∀ k ∈ gs2, k ≠ w.heap.size := fun k hk e => by
    rcases k3 k hk with h | h
    · have := HLT.out k h; omega
    · omega
  have hs : w.heap.size ≤ w3.heap.size := by omega
  refine ⟨rfl, gs2, k1.same (fun k hk => setRow_other _ _ k _ (hne k hk)) (by simp), butS_row ((below_butS HB3.out gs).trans k2) (Nat.le_refl _) _, fun k hk => ?_⟩
  rcases k3 k hk with h | h
  · exact .inl h
  · exact .inr (by omega)
end

end Go.Proofs.Ytmhmekmacdkdgaa
