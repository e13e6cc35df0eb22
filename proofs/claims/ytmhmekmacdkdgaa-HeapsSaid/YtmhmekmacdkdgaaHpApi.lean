/-
  Walks: heap.New, Len, Peek, Pop.
-/
import Derived.Test.YtmhmekmacdkdgaaHpRise
import Derived.Test.YtmhmekmacdkdgaaIt1
import Derived.Test.YtmhmekmacdkdgaaLf
import Derived.Deep.Cut
namespace Go.Proofs.Ytmhmekmacdkdgaa
open Go.RowKit

/-- The program's heap at g holds the items of the sorted row xs, in blocks out of gs. -/
def HpS (w : World) (gs : List Nat) (g : Nat) (m : Int) (xs : List It) : Prop := ∃ ys, Hp HT w gs g m ys ∧ HpOf ys xs
/-- What a call that writes leaves. -/
def WrO (S : World → List Nat → Prop) (gs : List Nat) (w w' : World) : Prop := ∃ gs', S w' gs' ∧ ButS gs w w' ∧ ∀ k ∈ gs', k ∈ gs ∨ w.heap.size ≤ k
section
variable {w w' : World} {gs hs : List Nat} {g : Nat} {m : Int} {xs : List It}
theorem HpS.butS (h : HpS w gs g m xs) (hb : ButS hs w w') (hn : ∀ k ∈ gs, k ∉ hs) : HpS w' gs g m xs := by
  obtain ⟨ys, h1, h2⟩ := h
  exact ⟨ys, h1.butS hb hn, h2⟩
theorem HpS.below (h : HpS w gs g m xs) (hb : Below w.heap.size w w') : HpS w' gs g m xs := h.butS (below_butS hb []) (fun _ _ h => by cases h)
theorem HpS.same (h : HpS w gs g m xs) (hk : ∀ k ∈ gs, w'.heap[k]? = w.heap[k]?) (hs : w.heap.size ≤ w'.heap.size) : HpS w' gs g m xs := by
  obtain ⟨ys, h1, h2⟩ := h
  exact ⟨ys, h1.same hk hs, h2⟩
theorem HpS.lt (h : HpS w gs g m xs) : ∀ k ∈ gs, k < w.heap.size := by
  obtain ⟨ys, h1, h2⟩ := h
  exact h1.lt
theorem HpS.srd (h : HpS w gs g m xs) : Srd xs := by
  obtain ⟨ys, h1, h2⟩ := h
  exact h2.srd
end
theorem WrO.same {S : World → List Nat → Prop} {gs : List Nat} {w w' : World} (h : S w' gs) (hb : Below w.heap.size w w') : WrO S gs w w' := ⟨gs, h, below_butS hb gs, fun _ hk => .inl hk⟩

/-- What New answers. -/
def NewO (S : World → List Nat → Nat → Prop) (e : Ending) (w w' : World) : Prop := ∃ g gs, e = .returned (.tuple #[.pointer (some ⟨g, 0, none⟩), .int .i64 0]) ∧ S w' gs g ∧ (∀ k ∈ gs, w.heap.size ≤ k) ∧ Below w.heap.size w w'
theorem hp_made (T : TypeId) (w : World) (m : Int) : Hp T (w.alloc (.cells (hpC m none 0 0) T)) [w.heap.size] w.heap.size m [] :=
  ⟨none, 0, Has.made _ _ _, OwnIt.nil _ _, by simp, (fun ad h => by cases h), fun k hk => by
    obtain rfl : k = w.heap.size := by simpa using hk
    simp⟩

set_option maxHeartbeats 400000 in
theorem hnew_ok (m : Int) (w : World) (h : 1 ≤ m ∧ m ≤ 8192) :
    Calls Try.prog 8 #[.int .i64 m] w fun e w' => NewO (fun w gs g => HpS w gs g m []) e w w' := by
  have HN : Hid (NewO (fun w gs g => HpS w gs g m []) (.returned (.tuple #[.pointer (some ⟨w.heap.size, 0, none⟩), .int .i64 0])) w (w.alloc (.cells (hpC m none 0 0) 54))) :=
    ⟨w.heap.size, [w.heap.size], rfl, ⟨[], hp_made _ w m, HpOf.nil⟩, (fun k hk => by simp at hk; omega), (Below.refl _ _).alloc (Nat.le_refl _) _⟩
  have HW : Hid (wi m 1 8192 = true) := wi_mk h
  go_enter Try.func8, Try.ntmps8
  go_wp2_with (go_at_call 24; refine (within_any _ _ _ _).mono ?_; rintro e w' ⟨rfl, rfl⟩; rw [HW.out])
  go_ret2
  exact HN.out
set_option maxHeartbeats 400000 in
theorem hnew_no (m : Int) (w : World) (h : ¬ (1 ≤ m ∧ m ≤ 8192)) :
    Calls Try.prog 8 #[.int .i64 m] w fun e w' => e = .returned (.tuple #[.pointer none, .int .i64 1500]) ∧ w = w' := by
  have HW : Hid (wi m 1 8192 = false) := wi_false h
  clear h
  go_enter Try.func8, Try.ntmps8
  go_wp2_with (go_at_call 24; refine (within_any _ _ _ _).mono ?_; rintro e w' ⟨rfl, rfl⟩; rw [HW.out])
  go_ret2
  exact ⟨rfl, rfl⟩
section
variable {w : World} {gs : List Nat} {g : Nat} {m : Int} {xs : List It}
set_option maxHeartbeats 400000 in
theorem hlen_any (h : HpS w gs g m xs) :
    Calls Try.prog 21 #[.pointer (some ⟨g, 0, none⟩)] w fun e w' => e = .returned (.int .i64 (xs.length : Nat)) ∧ w = w' := by
  obtain ⟨ys, ⟨A, c, h1⟩, h2⟩ := h
  have c1 := h1.c1
  rw [h2.len] at c1
  clear h1 h2
  generalize xs.length = n at c1 ⊢
  go_enter Try.func21, Try.ntmps21
  go_wp2_with fail
  go_ret
  exact ⟨rfl, rfl⟩
set_option maxRecDepth 100000 in
set_option maxHeartbeats 1000000 in
theorem peek_raw {ys : List It} {A : Option Addr} {c : Nat} (h : HpAt HT w gs g m ys A c) (h0 : 0 < ys.length) (hn : ys.length ≤ 8192) :
    Calls Try.prog 19 #[.pointer (some ⟨g, 0, none⟩)] w fun e w' => e = .returned (.tuple #[itV (pl ys 1), .int .i64 0]) ∧ Below w.heap.size w w' := by
  have HA : Hid (∀ w', Below w.heap.size w w' → Calls Try.prog 33 #[.pointer (some ⟨g, 0, none⟩), .int .i64 1] w' fun e w2 => e = .returned (itV (pl ys 1)) ∧ Below w'.heap.size w' w2) := fun w' hb => at_any (h.below hb) (Nat.le_refl _) (by omega) hn 1 rfl
  have hg := h.st.lt
  have c1' : ∀ o, (w.alloc o).cell? ⟨g, 1, none⟩ = some (.slice A ys.length c) := fun o => ((Below.refl _ w).alloc (Nat.le_refl _) o).cell hg |>.trans h.c1
  have HAL : Hid (∀ o, Below w.heap.size w (w.alloc o)) := fun o => (Below.refl _ _).alloc (Nat.le_refl _) o
  clear h
  generalize pl ys 1 = x at HA ⊢
  generalize ys.length = n at c1' h0 hn
  go_enter Try.func19, Try.ntmps19
  go_wp2_with fail
  refine (HA.out _ (HAL.out _)).mono ?_
  rintro e w2 ⟨rfl, hb⟩
  have h4 : Has w2 w.heap.size 34 #[.int .i64 0, .int .i64 0, .int .i64 0, .int .i64 0] := (Has.made w _ _).below hb (by simp)
  have H4 := Lib.hid h4
  have HB := Lib.hid ((HAL.out _).trans (hb.mono (by simp)))
  clear hb h4
  go_wp2_with (refine store_hasIt rfl _ _ rfl w.heap.size (z := x) rfl rfl H4.out rfl ?_)
  refine bodyPost_ret (ret_row rfl _ _ _ 34 (itA x) _ rfl (H4.out.row _) Try.underlying34 rfl (by exact Try.sizeItem)) rfl ?_
  exact ⟨rfl, below_row HB.out (Nat.le_refl _) _⟩

set_option maxRecDepth 100000 in
set_option maxHeartbeats 1000000 in
theorem peek_none (h : HpS w gs g m []) :
    Calls Try.prog 19 #[.pointer (some ⟨g, 0, none⟩)] w fun e w' => e = .returned (.tuple #[itV zeroIt, .int .i64 1502]) ∧ Below w.heap.size w w' := by
  obtain ⟨ys, ⟨A, c, h1⟩, h2⟩ := h
  have hl := h2.len
  obtain rfl : ys = [] := List.length_eq_zero_iff.1 hl
  have hg := h1.st.lt
  have c1' : ∀ o, (w.alloc o).cell? ⟨g, 1, none⟩ = some (.slice A 0 c) := fun o => ((Below.refl _ w).alloc (Nat.le_refl _) o).cell hg |>.trans h1.c1
  have HAL : Hid (∀ o, Below w.heap.size w (w.alloc o)) := fun o => (Below.refl _ _).alloc (Nat.le_refl _) o
  clear h1 h2 hl
  go_enter Try.func19, Try.ntmps19
  go_wp2_with fail
  refine bodyPost_ret (ret_row rfl _ _ _ 34 (itA zeroIt) _ rfl (Has.made _ _ _) Try.underlying34 rfl (by exact Try.sizeItem)) rfl ?_
  exact ⟨rfl, HAL.out _⟩
theorem peek_some (h : HpS w gs g m xs) (h0 : 0 < xs.length) (hn : xs.length ≤ 8192) :
    Calls Try.prog 19 #[.pointer (some ⟨g, 0, none⟩)] w fun e w' => e = .returned (.tuple #[itV (nthI xs 0), .int .i64 0]) ∧ Below w.heap.size w w' := by
  obtain ⟨ys, ⟨A, c, h1⟩, h2⟩ := h
  rw [← h2.root h0]
  exact peek_raw h1 (by rw [h2.len]; exact h0) (by rw [h2.len]; exact hn)

/-- The row is cut short. -/
theorem HpAt.short {ys : List It} {A : Option Addr} {c : Nat} (h : HpAt HT w gs g m ys A c) (h0 : 0 < ys.length) {k : Nat} (hk : k ≤ ys.length) : HpAt HT (w.setCell ⟨g, 1, none⟩ (.slice A k c)) gs g m (ys.take k) A c ∧ ButS gs w (w.setCell ⟨g, 1, none⟩ (.slice A k c)) := by
  obtain ⟨b, rfl⟩ := h.ablk h0
  have hgb : g ≠ b := fun e => by
    obtain ⟨_, _, _, _, cur, h5, _⟩ := h.own.blk
    have hst := h.st
    subst e
    exact has_types hst h5 (by decide)
  have hl : (ys.take k).length = k := by rw [List.length_take]; omega
  have hb := setCell_butS w g 1 (.slice (some ⟨b, 0, none⟩) k c)
  have hb2 : ButS gs w (w.setCell ⟨g, 1, none⟩ (.slice (some ⟨b, 0, none⟩) k c)) := ⟨hb.os, hb.tape, hb.output, hb.size, fun i hi hn => hb.other i hi (fun e => hn (by have e2 : i = g := (by simpa using e); rw [e2]; exact h.inG))⟩
  refine ⟨⟨?_, ?_, h.inG, h.inA, fun i hi => Nat.lt_of_lt_of_le (h.lt i hi) hb2.size⟩, hb2⟩
  · have := h.st.put 1 (.slice (some ⟨b, 0, none⟩) k c)
    rw [hl]
    exact this
  · rw [hl]
    exact (h.own.firsts hk).butS hb (fun i hi => by
      have : b = i := by simpa [Value.ownBlock] using hi
      simpa [← this] using hgb.symm)

set_option maxRecDepth 100000 in
set_option maxHeartbeats 1000000 in
theorem pop_none (h : HpS w gs g m []) :
    Calls Try.prog 12 #[.pointer (some ⟨g, 0, none⟩)] w fun e w' => e = .returned (.tuple #[itV zeroIt, .int .i64 1502]) ∧ Below w.heap.size w w' := by
  have HAL : Hid (∀ o, Below w.heap.size w (w.alloc o)) := fun o => (Below.refl _ _).alloc (Nat.le_refl _) o
  have HP : Hid (∀ w', Below w.heap.size w w' → Calls Try.prog 19 #[.pointer (some ⟨g, 0, none⟩)] w' fun e w2 => e = .returned (.tuple #[itV zeroIt, .int .i64 1502]) ∧ Below w'.heap.size w' w2) := fun w' hb => peek_none (h.below hb)
  clear h
  go_enter Try.func12, Try.ntmps12
  go_wp2_with fail
  refine (HP.out _ (HAL.out _)).mono ?_
  rintro e w2 ⟨rfl, hb⟩
  have h4 : ∀ o, Has (w2.alloc o) w.heap.size 34 #[.int .i64 0, .int .i64 0, .int .i64 0, .int .i64 0] := fun o => ((Has.made w _ _).below hb (by simp)).alloc o
  have H4 := Lib.hid h4
  have HB := Lib.hid ((HAL.out _).trans (hb.mono (by simp)))
  clear hb h4
  go_wp2_with (first | (refine store_hasIt rfl _ _ rfl w2.heap.size (z := zeroIt) rfl rfl (Has.made _ _ _) rfl ?_; rw [World.setRow_alloc_new]) | (refine store_hasIt rfl _ _ rfl w.heap.size (z := zeroIt) rfl rfl (H4.out _) rfl ?_))
  refine bodyPost_ret (ret_row rfl _ _ _ 34 (itA zeroIt) _ rfl ((H4.out _).row _) Try.underlying34 rfl (by exact Try.sizeItem)) rfl ?_
  exact ⟨rfl, below_row (below_alloc HB.out (Nat.le_refl _) _) (Nat.le_refl _) _⟩
end

end Go.Proofs.Ytmhmekmacdkdgaa
