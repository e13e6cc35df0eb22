/-
  Walk: Pop of a heap that is not empty.
-/
import Derived.Test.YtmhmekmacdkdgaaHpApi
namespace Go.Proofs.Ytmhmekmacdkdgaa
open Go.RowKit

section
variable {w : World} {gs : List Nat} {g : Nat} {m : Int} {xs : List It}
set_option maxRecDepth 100000 in
set_option maxHeartbeats 1000000 in
theorem pop_some (h : HpS w gs g m xs) (h0 : 0 < xs.length) (hn : xs.length ≤ 8192) :
    Calls Try.prog 12 #[.pointer (some ⟨g, 0, none⟩)] w fun e w' => e = .returned (.tuple #[itV (nthI xs 0), .int .i64 0]) ∧ HpS w' gs g m xs.tail ∧ ButS gs w w' := by
  obtain ⟨ys, ⟨A, c, h1⟩, h2⟩ := h
  have hl := h2.len
  have hr := h2.root h0
  have h0y : 0 < ys.length := by omega
  have hny : ys.length ≤ 8192 := by omega
  have HF : Hid (∀ (zs : List It), HeapOk zs → zs.Perm (popA ys) → HpOf zs xs.tail) := fun zs hz hp => h2.pop h0 hz hp
  have HD : Hid (DnI (popA ys) 1) := dnI_pop h2.ok h0y
  have HH : Hid (∀ w', Below w.heap.size w w' → HpAt HT w' gs g m ys A c) := fun w' hb => h1.below hb
  have HLT : Hid (∀ k ∈ gs, k < w.heap.size) := h1.lt
  rw [← hr]
  clear h1 h2 hl hr h0 hn
  have HAL : Hid (∀ o, Below w.heap.size w (w.alloc o)) := fun o => (Below.refl _ _).alloc (Nat.le_refl _) o
  have HP : Hid (∀ w', Below w.heap.size w w' → Calls Try.prog 19 #[.pointer (some ⟨g, 0, none⟩)] w' fun e w2 => e = .returned (.tuple #[itV (pl ys 1), .int .i64 0]) ∧ Below w'.heap.size w' w2) := fun w' hb => peek_raw (HH.out _ hb) h0y hny
  generalize hx : pl ys 1 = x at HP ⊢
  clear hx
  go_enter Try.func12, Try.ntmps12
  go_wp2_with fail
  refine (HP.out _ (HAL.out _)).mono ?_
  rintro e w2 ⟨rfl, hb⟩
  have hb2 : ∀ o, Below w.heap.size w (w2.alloc o) := fun o => below_alloc ((HAL.out _).trans (hb.mono (by simp))) (Nat.le_refl _) o
  have h4 : ∀ o, Has (w2.alloc o) w.heap.size 34 #[.int .i64 0, .int .i64 0, .int .i64 0, .int .i64 0] := fun o => ((Has.made w _ _).below hb (by simp)).alloc o
  have H4 := Lib.hid h4
  have HB2 := Lib.hid hb2
  have hs2 : w.heap.size < w2.heap.size := by have := hb.size; simp at this; omega
  clear hb h4 hb2
  have c1 : ∀ o, (w2.alloc o).cell? ⟨g, 1, none⟩ = some (.slice A ys.length c) := fun o => (HH.out _ (HB2.out o)).c1
  have HC : Hid (∀ o, Calls Try.prog 25 #[.pointer (some ⟨g, 0, none⟩), .int .i64 1, .int .i64 ys.length] (w2.alloc o) fun e w' => e = .returned (.tuple #[]) ∧ HpAt HT w' gs g m (swp ys 1 ys.length) A c ∧ ButS gs (w2.alloc o) w') := fun o => swap_any (HH.out _ (HB2.out o)) (Nat.le_refl _) (by omega) (by omega) (Nat.le_refl _) hny 1 ys.length rfl rfl
  have HLs : Hid ((swp ys 1 ys.length).length = ys.length) := swp_len _ _ _
  have HPA : Hid ((swp ys 1 ys.length).take (ys.length - 1) = popA ys) := rfl
  have HLp : Hid ((popA ys).length = ys.length - 1) := popA_len ys
  generalize swp ys 1 ys.length = us at HC HLs HPA
  generalize popA ys = ps at HF HD HPA HLp
  generalize ys.length = n at c1 HC h0y hny HLs HPA HLp
  clear HH HP
  go_wp2_with (first | (refine store_hasIt rfl _ _ rfl w2.heap.size (z := x) rfl rfl (Has.made _ _ _) rfl ?_; rw [World.setRow_alloc_new]))
  refine (HC.out _).mono ?_
  rintro e w4 ⟨rfl, hat, hbut⟩
  have HX4 := Lib.hid ((Has.made w2 34 (itA x)).butS hbut (fun hh => by have := HLT.out _ hh; omega))
  have HZ4 := Lib.hid ((H4.out (.cells (itA x) 34)).butS hbut (fun hh => by have := HLT.out _ hh; omega))
  have HBT := Lib.hid ((below_butS (HB2.out (.cells (itA x) 34)) gs).trans hbut)
  have hcap := hat.own.cap
  have c4 : w4.cell? ⟨g, 1, none⟩ = some (.slice A n c) := by have := hat.c1; rw [HLs.out] at this; exact this
  have f4 : w4.frozen? ⟨g, 1, none⟩ = false := hat.st.mark 1
  rw [HLs.out] at hcap
  have hnc : n - 1 ≤ c := by omega
  have HAT := Lib.hid (hat.short (k := n - 1) (by rw [HLs.out]; omega) (by rw [HLs.out]; omega))
  have hgs := hat.inG
  have hg4 : g ≠ w2.heap.size ∧ g ≠ w.heap.size := ⟨fun e => by have := HLT.out _ hgs; omega, fun e => by have := HLT.out _ hgs; omega⟩
  clear hat hbut hcap hgs
  rw [HPA.out] at HAT
  go_wp2_with (refine cut_toIt rfl _ _ rfl rfl rfl (show (n : Int) - 1 = ((n - 1 : Nat) : Int) by omega) hnc ?_)
  refine (sink_any HAT.out.1 HD.out (by rw [HLp.out]; omega)).mono ?_
  rintro e w6 ⟨rfl, zs, z1, z2, z3, z4⟩
  have HX6 := Lib.hid ((HX4.out.putFar (p := ⟨g, 1, none⟩) (fun e => hg4.1 e.symm) (.slice A (n - 1 : Nat) c)).butS z4 (fun hh => by have := HLT.out _ hh; omega))
  have HZ6 := Lib.hid ((HZ4.out.putFar (p := ⟨g, 1, none⟩) (fun e => hg4.2 e.symm) (.slice A (n - 1 : Nat) c)).butS z4 (fun hh => by have := HLT.out _ hh; omega))
  have HE : Hid (Hp HT w6 gs g m zs ∧ HpOf zs xs.tail ∧ ButS gs w w6) := ⟨⟨A, c, z1⟩, HF.out zs z2 z3, (HBT.out.trans HAT.out.2).trans z4⟩
  clear z1 z2 z3 z4 c1 c4 f4 HAT HC HX4 HZ4
  go_wp2_with (first | (refine load_hasIt rfl _ rfl w2.heap.size rfl HX6.out ?_) | (refine store_hasIt rfl _ _ rfl w.heap.size (z := x) rfl rfl HZ6.out rfl ?_))
  refine bodyPost_ret (ret_row rfl _ _ _ 34 (itA x) _ rfl (HZ6.out.row _) Try.underlying34 rfl (by exact Try.sizeItem)) rfl ?_
  refine ⟨rfl, HpS.same (w := w6) ⟨zs, HE.out.1, HE.out.2.1⟩ (fun k hk => setRow_other w6 _ k _ (fun e => by have := HLT.out k hk; omega)) (by simp), butS_row HE.out.2.2 (Nat.le_refl _) _⟩
end

end Go.Proofs.Ytmhmekmacdkdgaa
