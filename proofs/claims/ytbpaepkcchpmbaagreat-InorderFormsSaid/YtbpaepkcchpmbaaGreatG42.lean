import Derived.Test.YtbpaepkcchpmbaaGreatG41
import Derived.Test.YtbpaepkcchpmbaaGreatG25
import Derived.Test.YtbpaepkcchpmbaaGreatG2
import Derived.Deep.Cut
import Derived.Test.YtbpaepkcchpmbaaGreatG40
import Derived.Test.YtbpaepkcchpmbaaGreatHead3
namespace Go.Proofs.YtbpaepkcchpmbaaGreat
open Go.RowKit
def HpS (w : World) (gs : List Nat) (g : Nat) (m : Int) (xs : List It) : Prop := ∃ ys, Hp HT w gs g m ys ∧ HpOf ys xs
def WrO (S : World → List Nat → Prop) (gs : List Nat) (w w' : World) : Prop := ∃ gs', S w' gs' ∧ ButS gs w w' ∧ ∀ k ∈ gs', k ∈ gs ∨ w.heap.size ≤ k
section
variable {w w' : World} {gs hs : List Nat} {g : Nat} {m : Int} {xs : List It}
theorem HpS.butS (h : HpS w gs g m xs) (hb : ButS hs w w') (hn : ∀ k ∈ gs, k ∉ hs) : HpS w' gs g m xs := by
  obtain ⟨ys, h1, h2⟩ := h
  exact ⟨ys, h1.butS hb hn, h2⟩
theorem HpS.below (h : HpS w gs g m xs) (hb : Below w.heap.size w w') : HpS w' gs g m xs := h.butS (below_butS hb []) (fun _ _ h => by cases h)
theorem HpS.same (h : HpS w gs g m xs) (hk : ∀ k ∈ gs, w'.heap[k]? = w.heap[k]?) (hs : w.heap.size ≤ w'.heap.size) : HpS w' gs g m xs := by
  obtain ⟨ys, h1, h2⟩ := h
  exact ⟨ys, h1.same hk hs, h2⟩
theorem HpS.lt (h : HpS w gs g m xs) : ∀ k ∈ gs, k < w.heap.size := by
  obtain ⟨ys, h1, h2⟩ := h
  exact h1.lt
theorem HpS.srd (h : HpS w gs g m xs) : Srd xs := by
  obtain ⟨ys, h1, h2⟩ := h
  exact h2.srd
end
def NewO (S : World → List Nat → Nat → Prop) (e : Ending) (w w' : World) : Prop := ∃ g gs, e = .returned (.tuple #[.pointer (some ⟨g, 0, none⟩), .int .i64 0]) ∧ S w' gs g ∧ (∀ k ∈ gs, w.heap.size ≤ k) ∧ Below w.heap.size w w'
theorem hp_made (T : TypeId) (w : World) (m : Int) : Hp T (w.alloc (.cells (hpC m none 0 0) T)) [w.heap.size] w.heap.size m [] :=
  ⟨none, 0, Has.made _ _ _, OwnIt.nil _ _, by simp, (fun ad h => by cases h), fun k hk => by
    obtain rfl : k = w.heap.size := by simpa using hk
    simp⟩
set_option maxHeartbeats 400000 in
theorem hnew_ok (m : Int) (w : World) (h : 1 ≤ m ∧ m ≤ 8192) :
    Calls Tryz.prog 68 #[.int .i64 m] w fun e w' => NewO (fun w gs g => HpS w gs g m []) e w w' := by
  have HN : Hid (NewO (fun w gs g => HpS w gs g m []) (.returned (.tuple #[.pointer (some ⟨w.heap.size, 0, none⟩), .int .i64 0])) w (w.alloc (.cells (hpC m none 0 0) 161))) :=
    ⟨w.heap.size, [w.heap.size], rfl, ⟨[], hp_made _ w m, HpOf.nil⟩, (fun k hk => by simp at hk; omega), (Below.refl _ _).alloc (Nat.le_refl _) _⟩
  have HW : Hid (wi m 1 8192 = true) := wi_mk h
  go_enter Tryz.func68, Tryz.ntmps68
  go_wp2_with (go_at_call 75; refine (within_any _ _ _ _).mono ?_; rintro e w' ⟨rfl, rfl⟩; rw [HW.out])
  go_ret2
  exact HN.out
section
variable {w : World} {gs : List Nat} {g : Nat} {m : Int} {xs : List It}
set_option maxHeartbeats 400000 in
theorem hlen_any (h : HpS w gs g m xs) :
    Calls Tryz.prog 71 #[.pointer (some ⟨g, 0, none⟩)] w fun e w' => e = .returned (.int .i64 (xs.length : Nat)) ∧ w = w' := by
  obtain ⟨ys, ⟨A, c, h1⟩, h2⟩ := h
  have c1 := h1.c1
  rw [h2.len] at c1
  clear h1 h2
  generalize xs.length = n at c1 ⊢
  go_enter Tryz.func71, Tryz.ntmps71
  go_wp2_with fail
  go_ret
  exact ⟨rfl, rfl⟩
set_option maxRecDepth 100000 in
set_option maxHeartbeats 1000000 in
theorem peek_raw {ys : List It} {A : Option Addr} {c : Nat} (h : HpAt HT w gs g m ys A c) (h0 : 0 < ys.length) (hn : ys.length ≤ 8192) :
    Calls Tryz.prog 138 #[.pointer (some ⟨g, 0, none⟩)] w fun e w' => e = .returned (.tuple #[itV (pl ys 1), .int .i64 0]) ∧ Below w.heap.size w w' := by
  have HA : Hid (∀ w', Below w.heap.size w w' → Calls Tryz.prog 184 #[.pointer (some ⟨g, 0, none⟩), .int .i64 1] w' fun e w2 => e = .returned (itV (pl ys 1)) ∧ Below w'.heap.size w' w2) := fun w' hb => at_any (h.below hb) (Nat.le_refl _) (by omega) hn 1 rfl
  have hg := h.st.lt
  have c1' : ∀ o, (w.alloc o).cell? ⟨g, 1, none⟩ = some (.slice A ys.length c) := fun o => ((Below.refl _ w).alloc (Nat.le_refl _) o).cell hg |>.trans h.c1
  have HAL : Hid (∀ o, Below w.heap.size w (w.alloc o)) := fun o => (Below.refl _ _).alloc (Nat.le_refl _) o
  clear h
  generalize pl ys 1 = x at HA ⊢
  generalize ys.length = n at c1' h0 hn
  go_enter Tryz.func138, Tryz.ntmps138
  go_wp2_with fail
  refine (HA.out _ (HAL.out _)).mono ?_
  rintro e w2 ⟨rfl, hb⟩
  have h4 : Has w2 w.heap.size 61 #[.int .i64 0, .int .i64 0, .int .i64 0, .int .i64 0] := (Has.made w _ _).below hb (by simp)
  have H4 := Lib.hid h4
  have HB := Lib.hid ((HAL.out _).trans (hb.mono (by simp)))
  clear hb h4
  go_wp2_with (refine store_hasIt rfl _ _ rfl w.heap.size (z := x) rfl rfl H4.out rfl ?_)
  refine bodyPost_ret (ret_row rfl _ _ _ 61 (itA x) _ rfl (H4.out.row _) Tryz.underlying61 rfl (by exact Tryz.sizeItem)) rfl ?_
  exact ⟨rfl, below_row HB.out (Nat.le_refl _) _⟩
set_option maxRecDepth 100000 in
set_option maxHeartbeats 1000000 in
theorem peek_none (h : HpS w gs g m []) :
    Calls Tryz.prog 138 #[.pointer (some ⟨g, 0, none⟩)] w fun e w' => e = .returned (.tuple #[itV zeroIt, .int .i64 1502]) ∧ Below w.heap.size w w' := by
  obtain ⟨ys, ⟨A, c, h1⟩, h2⟩ := h
  have hl := h2.len
  obtain rfl : ys = [] := List.length_eq_zero_iff.1 hl
  have hg := h1.st.lt
  have c1' : ∀ o, (w.alloc o).cell? ⟨g, 1, none⟩ = some (.slice A 0 c) := fun o => ((Below.refl _ w).alloc (Nat.le_refl _) o).cell hg |>.trans h1.c1
  have HAL : Hid (∀ o, Below w.heap.size w (w.alloc o)) := fun o => (Below.refl _ _).alloc (Nat.le_refl _) o
  clear h1 h2 hl
  go_enter Tryz.func138, Tryz.ntmps138
  go_wp2_with fail
  refine bodyPost_ret (ret_row rfl _ _ _ 61 (itA zeroIt) _ rfl (Has.made _ _ _) Tryz.underlying61 rfl (by exact Tryz.sizeItem)) rfl ?_
  exact ⟨rfl, HAL.out _⟩
theorem peek_some (h : HpS w gs g m xs) (h0 : 0 < xs.length) (hn : xs.length ≤ 8192) :
    Calls Tryz.prog 138 #[.pointer (some ⟨g, 0, none⟩)] w fun e w' => e = .returned (.tuple #[itV (nthI xs 0), .int .i64 0]) ∧ Below w.heap.size w w' := by
  obtain ⟨ys, ⟨A, c, h1⟩, h2⟩ := h
  rw [← h2.root h0]
  exact peek_raw h1 (by rw [h2.len]; exact h0) (by rw [h2.len]; exact hn)
theorem HpAt.short {ys : List It} {A : Option Addr} {c : Nat} (h : HpAt HT w gs g m ys A c) (h0 : 0 < ys.length) {k : Nat} (hk : k ≤ ys.length) : HpAt HT (w.setCell ⟨g, 1, none⟩ (.slice A k c)) gs g m (ys.take k) A c ∧ ButS gs w (w.setCell ⟨g, 1, none⟩ (.slice A k c)) := by
  obtain ⟨b, rfl⟩ := h.ablk h0
  have hgb : g ≠ b := fun e => by
    obtain ⟨_, _, _, _, cur, h5, _⟩ := h.own.blk
    have hst := h.st
    subst e
    exact has_types hst h5 (by decide)
  have hl : (ys.take k).length = k := by rw [List.length_take]; omega
  have hb := setCell_butS w g 1 (.slice (some ⟨b, 0, none⟩) k c)
  have hb2 : ButS gs w (w.setCell ⟨g, 1, none⟩ (.slice (some ⟨b, 0, none⟩) k c)) := ⟨hb.os, hb.tape, hb.output, hb.size, fun i hi hn => hb.other i hi (fun e => hn (by have e2 : i = g := (by simpa using e); rw [e2]; exact h.inG))⟩
  refine ⟨⟨?_, ?_, h.inG, h.inA, fun i hi => Nat.lt_of_lt_of_le (h.lt i hi) hb2.size⟩, hb2⟩
  · have := h.st.put 1 (.slice (some ⟨b, 0, none⟩) k c)
    rw [hl]
    exact this
  · rw [hl]
    exact (h.own.firsts hk).butS hb (fun i hi => by
      have : b = i := by simpa [Value.ownBlock] using hi
      simpa [← this] using hgb.symm)
end
end Go.Proofs.YtbpaepkcchpmbaaGreat
namespace Go.Proofs.YtbpaepkcchpmbaaGreat
open Go.RowKit
section
variable {w : World} {gs : List Nat} {g : Nat} {m : Int} {xs : List It}
set_option maxRecDepth 100000 in
set_option maxHeartbeats 1000000 in
theorem pop_some (h : HpS w gs g m xs) (h0 : 0 < xs.length) (hn : xs.length ≤ 8192) :
    Calls Tryz.prog 108 #[.pointer (some ⟨g, 0, none⟩)] w fun e w' => e = .returned (.tuple #[itV (nthI xs 0), .int .i64 0]) ∧ HpS w' gs g m xs.tail ∧ ButS gs w w' := by
  obtain ⟨ys, ⟨A, c, h1⟩, h2⟩ := h
  have hl := h2.len
  have hr := h2.root h0
  have h0y : 0 < ys.length := by omega
  have hny : ys.length ≤ 8192 := by omega
  have HF : Hid (∀ (zs : List It), HeapOk zs → zs.Perm (popA ys) → HpOf zs xs.tail) := fun zs hz hp => h2.pop h0 hz hp
  have HD : Hid (DnI (popA ys) 1) := dnI_pop h2.ok h0y
  have HH : Hid (∀ w', Below w.heap.size w w' → HpAt HT w' gs g m ys A c) := fun w' hb => h1.below hb
  have HLT : Hid (∀ k ∈ gs, k < w.heap.size) := h1.lt
  rw [← hr]
  clear h1 h2 hl hr h0 hn
  have HAL : Hid (∀ o, Below w.heap.size w (w.alloc o)) := fun o => (Below.refl _ _).alloc (Nat.le_refl _) o
  have HP : Hid (∀ w', Below w.heap.size w w' → Calls Tryz.prog 138 #[.pointer (some ⟨g, 0, none⟩)] w' fun e w2 => e = .returned (.tuple #[itV (pl ys 1), .int .i64 0]) ∧ Below w'.heap.size w' w2) := fun w' hb => peek_raw (HH.out _ hb) h0y hny
  generalize hx : pl ys 1 = x at HP ⊢
  clear hx
  go_enter Tryz.func108, Tryz.ntmps108
  go_wp2_with fail
  refine (HP.out _ (HAL.out _)).mono ?_
  rintro e w2 ⟨rfl, hb⟩
  have hb2 : ∀ o, Below w.heap.size w (w2.alloc o) := fun o => below_alloc ((HAL.out _).trans (hb.mono (by simp))) (Nat.le_refl _) o
  have h4 : ∀ o, Has (w2.alloc o) w.heap.size 61 #[.int .i64 0, .int .i64 0, .int .i64 0, .int .i64 0] := fun o => ((Has.made w _ _).below hb (by simp)).alloc o
  have H4 := Lib.hid h4
  have HB2 := Lib.hid hb2
  have hs2 : w.heap.size < w2.heap.size := by have := hb.size; simp at this; omega
  clear hb h4 hb2
  have c1 : ∀ o, (w2.alloc o).cell? ⟨g, 1, none⟩ = some (.slice A ys.length c) := fun o => (HH.out _ (HB2.out o)).c1
  have HC : Hid (∀ o, Calls Tryz.prog 136 #[.pointer (some ⟨g, 0, none⟩), .int .i64 1, .int .i64 ys.length] (w2.alloc o) fun e w' => e = .returned (.tuple #[]) ∧ HpAt HT w' gs g m (swp ys 1 ys.length) A c ∧ ButS gs (w2.alloc o) w') := fun o => swap_any (HH.out _ (HB2.out o)) (Nat.le_refl _) (by omega) (by omega) (Nat.le_refl _) hny 1 ys.length rfl rfl
  have HLs : Hid ((swp ys 1 ys.length).length = ys.length) := swp_len _ _ _
  have HPA : Hid ((swp ys 1 ys.length).take (ys.length - 1) = popA ys) := rfl
  have HLp : Hid ((popA ys).length = ys.length - 1) := popA_len ys
  generalize swp ys 1 ys.length = us at HC HLs HPA
  generalize popA ys = ps at HF HD HPA HLp
  generalize ys.length = n at c1 HC h0y hny HLs HPA HLp
  clear HH HP
  go_wp2_with (first | (refine store_hasIt rfl _ _ rfl w2.heap.size (z := x) rfl rfl (Has.made _ _ _) rfl ?_; rw [World.setRow_alloc_new]))
  refine (HC.out _).mono ?_
  rintro e w4 ⟨rfl, hat, hbut⟩
  have HX4 := Lib.hid ((Has.made w2 61 (itA x)).butS hbut (fun hh => by have := HLT.out _ hh; omega))
  have HZ4 := Lib.hid ((H4.out (.cells (itA x) 61)).butS hbut (fun hh => by have := HLT.out _ hh; omega))
  have HBT := Lib.hid ((below_butS (HB2.out (.cells (itA x) 61)) gs).trans hbut)
  have hcap := hat.own.cap
  have c4 : w4.cell? ⟨g, 1, none⟩ = some (.slice A n c) := by have := hat.c1; rw [HLs.out] at this; exact this
  have f4 : w4.frozen? ⟨g, 1, none⟩ = false := hat.st.mark 1
  rw [HLs.out] at hcap
  have hnc : n - 1 ≤ c := by omega
  have HAT := Lib.hid (hat.short (k := n - 1) (by rw [HLs.out]; omega) (by rw [HLs.out]; omega))
  have hgs := hat.inG
  have hg4 : g ≠ w2.heap.size ∧ g ≠ w.heap.size := ⟨fun e => by have := HLT.out _ hgs; omega, fun e => by have := HLT.out _ hgs; omega⟩
  clear hat hbut hcap hgs
  rw [HPA.out] at HAT
  go_wp2_with (refine cut_toIt rfl _ _ rfl rfl rfl (show (n : Int) - 1 = ((n - 1 : Nat) : Int) by omega) hnc ?_)
  refine (sink_any HAT.out.1 HD.out (by rw [HLp.out]; omega)).mono ?_
  rintro e w6 ⟨rfl, zs, z1, z2, z3, z4⟩
  have HX6 := Lib.hid ((HX4.out.putFar (p := ⟨g, 1, none⟩) (fun e => hg4.1 e.symm) (.slice A (n - 1 : Nat) c)).butS z4 (fun hh => by have := HLT.out _ hh; omega))
  have HZ6 := Lib.hid ((HZ4.out.putFar (p := ⟨g, 1, none⟩) (fun e => hg4.2 e.symm) (.slice A (n - 1 : Nat) c)).butS z4 (fun hh => by have := HLT.out _ hh; omega))
  have HE : Hid (Hp HT w6 gs g m zs ∧ HpOf zs xs.tail ∧ ButS gs w w6) := ⟨⟨A, c, z1⟩, HF.out zs z2 z3, (HBT.out.trans HAT.out.2).trans z4⟩
  clear z1 z2 z3 z4 c1 c4 f4 HAT HC HX4 HZ4
  go_wp2_with (first | (refine load_hasIt rfl _ rfl w2.heap.size rfl HX6.out ?_) | (refine store_hasIt rfl _ _ rfl w.heap.size (z := x) rfl rfl HZ6.out rfl ?_))
  refine bodyPost_ret (ret_row rfl _ _ _ 61 (itA x) _ rfl (HZ6.out.row _) Tryz.underlying61 rfl (by exact Tryz.sizeItem)) rfl ?_
  refine ⟨rfl, HpS.same (w := w6) ⟨zs, HE.out.1, HE.out.2.1⟩ (fun k hk => setRow_other w6 _ k _ (fun e => by have := HLT.out k hk; omega)) (by simp), butS_row HE.out.2.2 (Nat.le_refl _) _⟩
end
end Go.Proofs.YtbpaepkcchpmbaaGreat
namespace Go.Proofs.YtbpaepkcchpmbaaGreat
open Go.RowKit
def row1 (x : It) : Fact := fun v w => ∃ e, v = .slice (some ⟨e, 0, none⟩) 1 1 ∧ Has w e 61 (itemL x).toArray
theorem row1_mono (x : It) : Mono (row1 x) := fun _ _ _ hb ⟨e, he, h⟩ => ⟨e, he, h.below hb h.lt⟩
theorem rf_oneIt {D : List (Option Tmp)} {Φ : Fact} {o : Oper} {a : Act} {w : World} (hw : Region.wanted o (yieldD D a.tmps) = true) {t : Tmp} (hd : o.dst = some t) (x : Operand) (ho : o.op = .buildSlice 38 1 #[(0, x)]) (y : It) (hx : a.eval x = .agg #[.int .i64 y.s, .int .i64 y.t, .int .i64 y.q, .int .i64 y.v]) (h : ∀ v w', row1 y v w' → Φ v w') : StepD Tryz.prog D Φ o a w := by
  have e : (Instr.buildSlice 38 1 #[(0, .agg #[.int .i64 y.s, .int .i64 y.t, .int .i64 y.q, .int .i64 y.v])]).run Tryz.prog w = .ok (.slice (some ⟨w.heap.size, 0, none⟩) 1 1) (w.alloc (.cells (itemL y).toArray 61)) := by kernel_rfl
  refine step_val hw hd (.slice (some ⟨w.heap.size, 0, none⟩) 1 1) (w.alloc (.cells (itemL y).toArray 61)) ?_ ((Below.refl _ w).alloc (Nat.le_refl _) _) (h _ _ ⟨_, rfl, Has.made _ _ _⟩)
  unfold execOp
  rw [ho]
  generalize a.eval = ev at hx ⊢
  simp only [List.map_toArray, List.map_cons, List.map_nil, hx, Sem.run_bind, e, Result.andThen_ok]
  rfl
def hpu14D : List (Option Tmp) := [some 40, some 41, some 42, some 43, some 44, some 45, some 46, some 47, some 48, some 49, none]
def hpu14F (g _p n c : Nat) (_m : Int) (A : Option Addr) (x : It) : List Fact := [isV (.pointer (some ⟨g, 0, none⟩)), isV (.pointer (some ⟨g, 0, none⟩)), isV (.pointer (some ⟨g, 0, none⟩)), isV (.pointer (some ⟨g, 1, none⟩)), isV (.slice A n c), isV (.agg #[.int .i64 x.s, .int .i64 x.t, .int .i64 x.q, .int .i64 x.v]), row1 x]
theorem hpu14F_mono (g p n c : Nat) (m : Int) (A : Option Addr) (x : It) : ∀ φ ∈ hpu14F g p n c m A x, Mono φ := by
  unfold hpu14F
  repeat (first | exact monos_nil | (refine monos_cons (mono_isV _) ?_) | (refine monos_cons (row1_mono _) ?_))
structure hpu14S (g p n c : Nat) (m : Int) (A : Option Addr) (x : It) (a0 : Act) (w0 : World) : Prop where
  size : a0.tmps.size = 58
  v0 : a0.tmps.getD 0 undef = .pointer (some ⟨g, 0, none⟩)
  v8 : a0.tmps.getD 8 undef = .pointer (some ⟨p, 0, none⟩)
  st : Has w0 g 161 (hpC m A n c)
  bx : Has w0 p 61 #[.int .i64 x.s, .int .i64 x.t, .int .i64 x.q, .int .i64 x.v]
section
variable {g p n c : Nat} {m : Int} {A : Option Addr} {x : It} {a0 : Act} {w0 : World} (S : hpu14S g p n c m A x a0 w0)
include S
set_option maxRecDepth 100000 in
set_option maxHeartbeats 8000000 in
theorem hpu14_ok : AllOps (fun j o => ∀ (a : Act) (w : World), Below w0.heap.size w0 w → FrD (hpu14D.take 7) a0 a → needs hpu14D (hpu14F g p n c m A x) a w o.after.toList → StepD Tryz.prog hpu14D (factAt (hpu14F g p n c m A x) j) o a w) 0 ((opsOf 14 Tryz.f72).take 7) := by
  simp only [opsOf, Tryz.f72, opsAt, Option.bind, Option.or, Option.getD, reduceCtorEq, if_true, if_false, Nat.reduceEqDiff, List.take_succ_cons, List.take_zero]
  refine ⟨?_, ?_⟩
  · intro _a _w _hB hF _hd
    exact step_move (guard_none rfl) rfl _ rfl ((hF.other 0 rfl).trans S.v0)
  refine ⟨?_, ?_⟩
  · intro _a _w _hB hF _hd
    exact step_move (guard_none rfl) rfl _ rfl ((hF.other 0 rfl).trans S.v0)
  refine ⟨?_, ?_⟩
  · intro a _w _hB _hF hd
    have h41 : a.tmps.getD 41 undef = .pointer (some ⟨g, 0, none⟩) := hd.1 rfl
    exact rf_nilck (guard_none rfl) rfl _ rfl _ h41 rfl
  refine ⟨?_, ?_⟩
  · intro a _w _hB _hF hd
    have h42 : a.tmps.getD 42 undef = .pointer (some ⟨g, 0, none⟩) := hd.1 rfl
    exact rf_faddr (guard_none rfl) rfl _ _ _ rfl _ _ 1 _ h42 (by omega) (fun _ _ => by kernel_rfl) rfl
  refine ⟨?_, ?_⟩
  · intro a _w hB _hF hd
    have h43 : a.tmps.getD 43 undef = .pointer (some ⟨g, 1, none⟩) := hd.1 rfl
    exact rf_load1 (guard_none rfl) rfl _ _ rfl _ _ h43 (run_ldIt ((Has.cell (S.st.below hB S.st.lt) 1).trans rfl)) rfl
  refine ⟨?_, ?_⟩
  · intro _a _w hB hF _hd
    exact rf_loadS (guard_none rfl) rfl _ _ rfl _ _ ((hF.other 8 rfl).trans S.v8) _ (rf_range (S.bx.below hB S.bx.lt)) Tryz.underlying61 rfl (by kernel_rfl) rfl
  refine ⟨?_, ?_⟩
  · intro a _w _hB _hF hd
    have h45 : a.tmps.getD 45 undef = .agg #[.int .i64 x.s, .int .i64 x.t, .int .i64 x.q, .int .i64 x.v] := hd.1 rfl
    exact rf_oneIt (guard_none rfl) rfl _ rfl x h45 (fun _ _ h => h)
  trivial
theorem hpu14_any {Q : Exit → Act → World → Prop} {l : List Oper} (hl : opsOf 14 Tryz.f72 = l) (hend : ∀ (e46 : Nat), ∀ w : World, Below w0.heap.size w0 w → Has w e46 61 (itemL x).toArray → wpList Tryz.prog l.toArray Q (l.drop 7) (putAll a0 [(40, .pointer (some ⟨g, 0, none⟩)), (41, .pointer (some ⟨g, 0, none⟩)), (42, .pointer (some ⟨g, 0, none⟩)), (43, .pointer (some ⟨g, 1, none⟩)), (44, .slice A n c), (45, .agg #[.int .i64 x.s, .int .i64 x.t, .int .i64 x.q, .int .i64 x.v]), (46, .slice (some ⟨e46, 0, none⟩) 1 1)]) w)
    (hendQ : ∀ (e46 : Nat), ∀ w : World, Below w0.heap.size w0 w → Has w e46 61 (itemL x).toArray → wpList Tryz.prog l.toArray Q (pickL l [7, 0, 8, 9, 10]) (putAll a0 [(40, a0.tmps.getD 40 undef), (41, .pointer (some ⟨g, 0, none⟩)), (42, .pointer (some ⟨g, 0, none⟩)), (43, .pointer (some ⟨g, 1, none⟩)), (44, .slice A n c), (45, .agg #[.int .i64 x.s, .int .i64 x.t, .int .i64 x.q, .int .i64 x.v]), (46, .slice (some ⟨e46, 0, none⟩) 1 1)]) w) :
    (Code.region 14 l.toArray true).wp Tryz.prog Q a0 w0 := by
  subst hl
  refine region_head3 (hpu14F g p n c m A x) hpu14D 7 58 0 [0, 8, 9, 10] S.size rfl (by kernel_rfl) (by kernel_rfl) (by kernel_rfl) (hpu14F_mono _ _ _ _ _ _ _) (hpu14_ok S) ?_ ?_
  · intro a w hB hF h
    obtain ⟨e46, h46, p46⟩ : row1 x (a.tmps.getD 46 undef) w := h 6 (some 46) (by omega) rfl
    have hv : valsAre a [(40, .pointer (some ⟨g, 0, none⟩)), (41, .pointer (some ⟨g, 0, none⟩)), (42, .pointer (some ⟨g, 0, none⟩)), (43, .pointer (some ⟨g, 1, none⟩)), (44, .slice A n c), (45, .agg #[.int .i64 x.s, .int .i64 x.t, .int .i64 x.q, .int .i64 x.v]), (46, .slice (some ⟨e46, 0, none⟩) 1 1)] := by
      refine ⟨?_, ?_, ?_, ?_, ?_, ?_, ?_, trivial⟩
      · exact h 0 (some 40) (by omega) rfl
      · exact h 1 (some 41) (by omega) rfl
      · exact h 2 (some 42) (by omega) rfl
      · exact h 3 (some 43) (by omega) rfl
      · exact h 4 (some 44) (by omega) rfl
      · exact h 5 (some 45) (by omega) rfl
      · exact h46
    rw [frame_is hF _ hv (by rfl) (by rfl)]
    exact hend e46 w hB p46
  · intro a w hB hF h hq
    obtain ⟨e46, h46, p46⟩ : row1 x (a.tmps.getD 46 undef) w := h 6 (some 46) (by omega) (by omega) rfl
    have hv : valsAre a [(40, a0.tmps.getD 40 undef), (41, .pointer (some ⟨g, 0, none⟩)), (42, .pointer (some ⟨g, 0, none⟩)), (43, .pointer (some ⟨g, 1, none⟩)), (44, .slice A n c), (45, .agg #[.int .i64 x.s, .int .i64 x.t, .int .i64 x.q, .int .i64 x.v]), (46, .slice (some ⟨e46, 0, none⟩) 1 1)] := by
      refine ⟨?_, ?_, ?_, ?_, ?_, ?_, ?_, trivial⟩
      · exact hq (some 40) rfl
      · exact h 1 (some 41) (by omega) (by omega) rfl
      · exact h 2 (some 42) (by omega) (by omega) rfl
      · exact h 3 (some 43) (by omega) (by omega) rfl
      · exact h 4 (some 44) (by omega) (by omega) rfl
      · exact h 5 (some 45) (by omega) (by omega) rfl
      · exact h46
    rw [frame_is hF _ hv (by rfl) (by rfl)]
    exact hendQ e46 w hB p46
end
end Go.Proofs.YtbpaepkcchpmbaaGreat
