import Derived.Test.YtbpaepkcchpmbaaGreatG42
import Derived.Test.YtbpaepkcchpmbaaGreatG2
import Derived.Test.YtbpaepkcchpmbaaGreatG39
import Derived.Maps.RangeWalk
import Derived.Maps.OwnOps
import Derived.Laws.OwnMore
import Derived.OwnWalk
namespace Go.Proofs.YtbpaepkcchpmbaaGreat
open Go.RowKit
theorem HpAt.grown {T : TypeId} (hT : T ≠ 61) {w w' : World} {gs : List Nat} {g c k c' : Nat} {m : Int} {ys : List It} {A A' : Option Addr} {x : It} (h : HpAt T w gs g m ys A c) (ho : OwnIt w' 0 (.slice A' k c') (ys ++ [x])) (hg : w.grownBy w' (Value.slice A ys.length c).ownBlock)
    (hl : ∀ ad, A' = some ad → (Value.slice A ys.length c).ownBlock = some ad.block ∨ w.heap.size ≤ ad.block) :
    (w'.cell? ⟨g, 1, none⟩ = some (.slice A ys.length c) ∧ w'.frozen? ⟨g, 1, none⟩ = false) ∧ ∃ gs', HpAt T (w'.setCell ⟨g, 1, none⟩ (.slice A' k c')) gs' g m (ys ++ [x]) A' c' ∧ ButS gs w (w'.setCell ⟨g, 1, none⟩ (.slice A' k c')) ∧ ∀ i ∈ gs', i ∈ gs ∨ w.heap.size ≤ i := by
  have hgA : (Value.slice A ys.length c).ownBlock ≠ some g := fun e => by
    rcases h.own.shape with ⟨rfl, _⟩ | ⟨b, rfl⟩
    · simp [Value.ownBlock] at e
    · obtain ⟨_, _, _, _, cur, h5, _⟩ := h.own.blk
      have hst := h.st
      have : b = g := by simpa [Value.ownBlock] using e
      subst this
      exact has_types hst h5 hT
  have hst : Has w' g T (hpC m A ys.length c) := (hg.block g h.st.lt (fun e => hgA e.symm)).trans h.st
  have hk : k = ys.length + 1 := by have := ho.len; rw [List.length_append, List.length_singleton] at this; omega
  obtain ⟨b', rfl⟩ : ∃ b, A' = some ⟨b, 0, none⟩ := by
    rcases ho.shape with ⟨_, h1, _⟩ | h1
    · omega
    · exact h1
  have hl' := hl _ rfl
  obtain ⟨_, _, _, _, cur', h5', _⟩ := ho.blk
  have hgb : g ≠ b' := fun e => by
    have hst2 := hst
    subst e
    exact has_types hst2 h5' hT
  have hb1 : ButS gs w w' := ⟨hg.os, hg.tape, hg.output, hg.size, fun i hi hn => hg.block i hi (fun e => hn (h.own.blks h.inA i e.symm))⟩
  have hb2 := setCell_butS w' g 1 (.slice (some ⟨b', 0, none⟩) k c')
  have hb3 : ButS gs w (w'.setCell ⟨g, 1, none⟩ (.slice (some ⟨b', 0, none⟩) k c')) := hb1.andThen hb2 (fun i hi => .inl (by have e2 : i = g := (by simpa using hi); rw [e2]; exact h.inG))
  refine ⟨⟨hst.cell 1, hst.mark 1⟩, b' :: gs, ⟨?_, ?_, List.mem_cons_of_mem _ h.inG, (fun ad e => by injection e with e; subst e; exact List.mem_cons_self ..), ?_⟩, hb3, ?_⟩
  · have := hst.put 1 (.slice (some ⟨b', 0, none⟩) k c')
    rw [List.length_append, List.length_singleton, ← hk]
    exact this
  · have e : (ys ++ [x]).length = k := by rw [List.length_append, List.length_singleton, hk]
    rw [e]
    exact ho.butS hb2 (fun i hi => by
      have : b' = i := by simpa [Value.ownBlock] using hi
      simpa [← this] using hgb.symm)
  · intro i hi
    rcases List.mem_cons.1 hi with rfl | hi
    · have := h5'.lt
      simpa [World.setCell] using this
    · exact Nat.lt_of_lt_of_le (h.lt i hi) hb3.size
  · intro i hi
    rcases List.mem_cons.1 hi with rfl | hi
    · rcases hl' with h1 | h1
      · exact .inl (h.own.blks h.inA i h1)
      · exact .inr h1
    · exact .inl hi
def goodAll (zs : List It) : Bool := zs.all itemB
def pushN (m : Int) (xs zs : List It) : Int := if goodAll zs = true then (if m - xs.length < zs.length then 1501 else 0) else 1500
def pushL (m : Int) (xs zs : List It) : List It := if goodAll zs = true then (if m - xs.length < zs.length then xs else insAll xs zs) else xs
theorem goodAll_at {zs : List It} (h : goodAll zs = true) {i : Nat} (hi : i < zs.length) : itemB (nthI zs i) = true := by
  have := List.all_eq_true.1 h zs[i] (List.getElem_mem hi)
  rwa [show nthI zs i = zs[i] by simp [nthI, hi]]
theorem goodAll_not {zs : List It} (h : goodAll zs = false) : ∃ i, i < zs.length ∧ itemB (nthI zs i) = false := by
  unfold goodAll at h
  obtain ⟨x, hx, hb⟩ := List.all_eq_false.1 h
  obtain ⟨i, hi, rfl⟩ := List.mem_iff_getElem.1 hx
  exact ⟨i, hi, by rw [show nthI zs i = zs[i] by simp [nthI, hi]]; simpa using hb⟩
section
variable {w : World} {gs : List Nat} {g : Nat} {m : Int} {xs : List It}
set_option maxRecDepth 100000 in
set_option maxHeartbeats 1000000 in
theorem push_form (g : Nat) (A : Option Addr) (n c : Nat) (zs : List It) (w : World) (hz : Items w A n zs) (hn : n ≤ 17592186044416) (hb : goodAll zs = false) :
    Calls Tryz.prog 72 #[.pointer (some ⟨g, 0, none⟩), .slice A n c] w fun e w' => e = .returned (.int .i64 1500) ∧ Below w.heap.size w w' := by
  have HZ := Lib.hid hz
  obtain ⟨q, hq1, hq2⟩ := goodAll_not hb
  rw [hz.1] at hq1
  have HQ := Lib.hid hq2
  clear hz hq2 hb
  go_enter Tryz.func72, Tryz.ntmps72
  go_wp2_with fail
  go_loopw [13] (fun i wr => ∃ j : Nat, j ≤ q ∧ i = .int .i64 j ∧ Hid (Below w.heap.size w wr)) (fun i _ => n - (intOf i).toNat)
  case atStart => exact ⟨0, Nat.zero_le _, rfl, Below.refl _ _⟩
  case round =>
    obtain ⟨j, hj, rfl, HW⟩ := hrel
    obtain ⟨b, o, rfl, hi⟩ := (HZ.out.below HW.out).2 (by omega)
    have HX := Lib.hid (hi j (by omega))
    clear hi
    have HAL : Hid (∀ o, Below wr.heap.size wr (wr.alloc o)) := fun o => (Below.refl _ _).alloc (Nat.le_refl _) o
    cases hbx : itemB (nthI zs j) with
    | true =>
      have hjq : j < q := by
        rcases Nat.lt_or_ge j q with h | h
        · exact h
        · have e : j = q := by omega
          rw [e, HQ.out] at hbx; cases hbx
      have HI : Hid (∀ w', Calls Tryz.prog 102 #[itV (nthI zs j)] w' fun e w2 => e = .returned (.bool true) ∧ Below w'.heap.size w' w2) := fun w' => by rw [← hbx]; exact item_any _ _
      clear hbx
      generalize nthI zs j = x at HX HI
      go_wp2_with (first | (refine load_item rfl _ rfl b (o + j * 4) (by simp [go_sem]) HX.out ?_) | (refine store_hasIt rfl _ _ rfl wr.heap.size (z := x) rfl rfl (Has.made _ _ _) rfl ?_; rw [World.setRow_alloc_new]) | (refine load_hasIt rfl _ rfl wr.heap.size (y := x) rfl (Has.made _ _ _) ?_))
      refine (HI.out _).mono ?_
      rintro e w2 ⟨rfl, hb2⟩
      have HW2 := Lib.hid (HW.out.trans (((HAL.out _).trans (hb2.mono (by simp))).mono HW.out.size))
      clear hb2
      go_wp2_with fail
      go_roundw
      case rel => exact ⟨j + 1, by omega, by go_num, HW2⟩
      case measure => simp [intOf]; omega
    | false =>
      have HI : Hid (∀ w', Calls Tryz.prog 102 #[itV (nthI zs j)] w' fun e w2 => e = .returned (.bool false) ∧ Below w'.heap.size w' w2) := fun w' => by rw [← hbx]; exact item_any _ _
      clear hbx
      generalize nthI zs j = x at HX HI
      go_wp2_with (first | (refine load_item rfl _ rfl b (o + j * 4) (by simp [go_sem]) HX.out ?_) | (refine store_hasIt rfl _ _ rfl wr.heap.size (z := x) rfl rfl (Has.made _ _ _) rfl ?_; rw [World.setRow_alloc_new]) | (refine load_hasIt rfl _ rfl wr.heap.size (y := x) rfl (Has.made _ _ _) ?_))
      refine (HI.out _).mono ?_
      rintro e w2 ⟨rfl, hb2⟩
      have HW2 := Lib.hid (HW.out.trans (((HAL.out _).trans (hb2.mono (by simp))).mono HW.out.size))
      clear hb2
      go_wp2_with fail
      go_ret
      exact ⟨rfl, HW2.out⟩
def PuS (w0 : World) (gs : List Nat) (g : Nat) (m : Int) (xs zs : List It) (j : Nat) (w : World) : Prop :=
  ∃ gs', HpS w gs' g m (insAll xs (zs.take j)) ∧ ButS gs w0 w ∧ ∀ k ∈ gs', k ∈ gs ∨ w0.heap.size ≤ k
theorem insAll_take (xs : List It) {zs : List It} {j : Nat} (h : j < zs.length) : insAll xs (zs.take (j + 1)) = ins (nthI zs j) (insAll xs (zs.take j)) := by
  rw [List.take_succ_eq_append_getElem h, insAll_on, show nthI zs j = zs[j] by simp [nthI, h]]
theorem push_one {ys ys' vs : List It} {w1 w2 w3 : World} {gs1 gs2 : List Nat} {c : Nat} {A : Option Addr} {x : It} (hof : HpOf ys vs) (hb1 : ButS gs w w1) (hg1 : ∀ k ∈ gs1, k ∈ gs ∨ w.heap.size ≤ k) (hb2 : ButS gs1 w1 w2) (hg2 : ∀ k ∈ gs2, k ∈ gs1 ∨ w1.heap.size ≤ k)
    (hlen : ys' = ys ++ [x]) (hm : MvO w2 gs2 g c m A ys' w3) : ∃ gs', HpS w3 gs' g m (ins x vs) ∧ ButS gs w w3 ∧ ∀ k ∈ gs', k ∈ gs ∨ w.heap.size ≤ k := by
  subst hlen
  obtain ⟨zs, z1, z2, z3, z4⟩ := hm
  have hs := hb1.size
  have hh : ∀ k ∈ gs2, k ∈ gs ∨ w.heap.size ≤ k := fun k hk => by
    rcases hg2 k hk with h | h
    · exact hg1 k h
    · exact .inr (by omega)
  exact ⟨gs2, ⟨zs, ⟨A, c, z1⟩, hof.push z2 z3⟩, (hb1.andThen hb2 hg1).andThen z4 hh, hh⟩
set_option maxRecDepth 100000 in
set_option maxHeartbeats 1000000 in
theorem push_full (A : Option Addr) (n c : Nat) (zs : List It) (h : HpS w gs g m xs) (hz : Items w A n zs) (hn : n ≤ 17592186044416) (hb : goodAll zs = true) (hm : 1 ≤ m ∧ m ≤ 8192) (hl : xs.length ≤ 8192) (hf : m - xs.length < n) :
    Calls Tryz.prog 72 #[.pointer (some ⟨g, 0, none⟩), .slice A n c] w fun e w' => e = .returned (.int .i64 1501) ∧ Below w.heap.size w w' := by
  have HZ := Lib.hid hz
  have HG : Hid (∀ i, i < n → itemB (nthI zs i) = true) := fun i hi => goodAll_at hb (by rw [hz.1]; exact hi)
  obtain ⟨ys, ⟨A0, c0, h1⟩, h2⟩ := h
  have HH : Hid (∀ w', Below w.heap.size w w' → HpAt HT w' gs g m ys A0 c0) := fun w' hb => h1.below hb
  have hl2 : ys.length ≤ 8192 := by rw [h2.len]; exact hl
  have hf2 : m - ys.length < n := by rw [h2.len]; exact hf
  clear hz hb h1 h2 hl hf
  go_enter Tryz.func72, Tryz.ntmps72
  go_wp2_with fail
  go_loopw [13] (fun i wr => ∃ j : Nat, j ≤ n ∧ i = .int .i64 j ∧ Hid (Below w.heap.size w wr)) (fun i _ => n - (intOf i).toNat)
  case atStart => exact ⟨0, Nat.zero_le _, rfl, Below.refl _ _⟩
  case round =>
    obtain ⟨j, hj, rfl, HW⟩ := hrel
    by_cases hlt : j < n
    · obtain ⟨b, o, rfl, hi⟩ := (HZ.out.below HW.out).2 (by omega)
      have HX := Lib.hid (hi j (by omega))
      clear hi
      have HAL : Hid (∀ o, Below wr.heap.size wr (wr.alloc o)) := fun o => (Below.refl _ _).alloc (Nat.le_refl _) o
      have HI : Hid (∀ w', Calls Tryz.prog 102 #[itV (nthI zs j)] w' fun e w2 => e = .returned (.bool true) ∧ Below w'.heap.size w' w2) := fun w' => by rw [← HG.out j hlt]; exact item_any _ _
      generalize nthI zs j = x at HX HI
      go_wp2_with (first | (refine load_item rfl _ rfl b (o + j * 4) (by simp [go_sem]) HX.out ?_) | (refine store_hasIt rfl _ _ rfl wr.heap.size (z := x) rfl rfl (Has.made _ _ _) rfl ?_; rw [World.setRow_alloc_new]) | (refine load_hasIt rfl _ rfl wr.heap.size (y := x) rfl (Has.made _ _ _) ?_))
      refine (HI.out _).mono ?_
      rintro e w2 ⟨rfl, hb2⟩
      have HW2 := Lib.hid (HW.out.trans (((HAL.out _).trans (hb2.mono (by simp))).mono HW.out.size))
      clear hb2
      go_wp2_with fail
      go_roundw
      case rel => exact ⟨j + 1, by omega, by go_num, HW2⟩
      case measure => simp [intOf]; omega
    · have hjn : j = n := by omega
      subst hjn
      have c0' := (HH.out _ HW.out).c0
      have c1' := (HH.out _ HW.out).c1
      go_wp2_with fail
      go_quiet (fail)
      go_wp2_with fail
      go_ret
      exact ⟨rfl, below_drewN HW.out _⟩
set_option maxRecDepth 100000 in
set_option maxHeartbeats 1000000 in
theorem push_ok (A : Option Addr) (n c : Nat) (zs : List It) (h : HpS w gs g m xs) (hz : Items w A n zs) (hfar : Far gs A n) (hb : goodAll zs = true) (hm : 1 ≤ m ∧ m ≤ 8192) (hl : xs.length ≤ 8192) (hf : ¬ m - xs.length < n) :
    Calls Tryz.prog 72 #[.pointer (some ⟨g, 0, none⟩), .slice A n c] w fun e w' => e = .returned (.int .i64 0) ∧ WrO (fun w gs => HpS w gs g m (insAll xs zs)) gs w w' := by
  have HZ := Lib.hid hz
  have hzl := hz.1
  have HZB : Hid (∀ w', ButS gs w w' → Items w' A n zs) := fun w' hb => hz.butS hb hfar
  have HG : Hid (∀ i, i < n → itemB (nthI zs i) = true) := fun i hi => goodAll_at hb (by rw [hz.1]; exact hi)
  have HP0 : Hid (∀ w', Below w.heap.size w w' → PuS w gs g m xs zs 0 w') := fun w' hb => ⟨gs, h.below hb, below_butS hb gs, fun k hk => .inl hk⟩
  have HLT : Hid (∀ j, j < n → (insAll xs (zs.take j)).length < 8192) := fun j hj => by rw [insAll_len, List.length_take]; omega
  have HTK : Hid (∀ j, j < n → insAll xs (zs.take (j + 1)) = ins (nthI zs j) (insAll xs (zs.take j))) := fun j hj => insAll_take xs (by omega)
  have HTN : Hid (zs.take n = zs) := List.take_of_length_le (by omega)
  obtain ⟨ys, ⟨A0, c0, h1⟩, h2⟩ := h
  have HH : Hid (∀ w', Below w.heap.size w w' → HpAt HT w' gs g m ys A0 c0) := fun w' hb => h1.below hb
  have hl2 : ys.length ≤ 8192 := by rw [h2.len]; exact hl
  have hf2 : ¬ m - ys.length < n := by rw [h2.len]; exact hf
  have hn : n ≤ 8192 := by omega
  clear hz hb h1 h2 hl hf hfar hzl
  go_enter Tryz.func72, Tryz.ntmps72
  go_wp2_with fail
  go_loopw [13] (fun i wr => ∃ j : Nat, j ≤ n ∧ i = .int .i64 j ∧ Hid (Below w.heap.size w wr)) (fun i _ => n - (intOf i).toNat)
  case atStart => exact ⟨0, Nat.zero_le _, rfl, Below.refl _ _⟩
  case round =>
    obtain ⟨j, hj, rfl, HW⟩ := hrel
    by_cases hlt : j < n
    · obtain ⟨b, o, rfl, hi⟩ := (HZ.out.below HW.out).2 (by omega)
      have HX := Lib.hid (hi j (by omega))
      clear hi
      have HAL : Hid (∀ o, Below wr.heap.size wr (wr.alloc o)) := fun o => (Below.refl _ _).alloc (Nat.le_refl _) o
      have HI : Hid (∀ w', Calls Tryz.prog 102 #[itV (nthI zs j)] w' fun e w2 => e = .returned (.bool true) ∧ Below w'.heap.size w' w2) := fun w' => by rw [← HG.out j hlt]; exact item_any _ _
      generalize nthI zs j = x at HX HI
      go_wp2_with (first | (refine load_item rfl _ rfl b (o + j * 4) (by simp [go_sem]) HX.out ?_) | (refine store_hasIt rfl _ _ rfl wr.heap.size (z := x) rfl rfl (Has.made _ _ _) rfl ?_; rw [World.setRow_alloc_new]) | (refine load_hasIt rfl _ rfl wr.heap.size (y := x) rfl (Has.made _ _ _) ?_))
      refine (HI.out _).mono ?_
      rintro e w2 ⟨rfl, hb2⟩
      have HW2 := Lib.hid (HW.out.trans (((HAL.out _).trans (hb2.mono (by simp))).mono HW.out.size))
      clear hb2
      go_wp2_with fail
      go_roundw
      case rel => exact ⟨j + 1, by omega, by go_num, HW2⟩
      case measure => simp [intOf]; omega
    · have hjn : j = n := by omega
      subst hjn
      have c0' := (HH.out _ HW.out).c0
      have c1' := (HH.out _ HW.out).c1
      go_wp2_with fail
      go_quiet (fail)
      have HP1 : Hid (∀ q, PuS w gs g m xs zs 0 (wr.drewN q)) := fun q => HP0.out _ (below_drewN HW.out q)
      clear c0' c1' HH HP0 HW
      go_wp2_with fail
      clear hf2
      go_loopw [36] (fun i wr => ∃ k : Nat, k ≤ j ∧ i = .int .i64 k ∧ Hid (PuS w gs g m xs zs k wr)) (fun i _ => j - (intOf i).toNat)
      case atStart => exact ⟨0, Nat.zero_le _, rfl, HP1.out _⟩
      case round =>
        clear HP1
        obtain ⟨k, hk, rfl, HP⟩ := hrel
        by_cases hlt2 : k < j
        · obtain ⟨gs1, ⟨vs, ⟨A1, c1, hat⟩, hof⟩, hb1, hg1⟩ := HP.out
          obtain ⟨b, o, rfl, hi⟩ := (HZB.out _ hb1).2 (by omega)
          have HX := Lib.hid (hi k (by omega))
          have hvl : vs.length < 8192 := by rw [hof.len]; exact HLT.out k hlt2
          have HTK2 := Lib.hid (HTK.out k hlt2)
          have HAT : Hid (∀ w', Below wr.heap.size wr w' → HpAt HT w' gs1 g m vs A1 c1) := fun w' hb => hat.below hb
          have HOF := Lib.hid hof
          have HB1 := Lib.hid hb1
          have HG1 := Lib.hid hg1
          clear hi hat hof hb1 hg1 HP
          have HAL : Hid (∀ o, Below wr.heap.size wr (wr.alloc o)) := fun o => (Below.refl _ _).alloc (Nat.le_refl _) o
          generalize nthI zs k = x at HX HTK2
          generalize insAll xs (zs.take k) = us at HOF HTK2
          go_upto_region 14 with (first | (refine load_item rfl _ rfl b (o + k * 4) (by simp [go_sem]) HX.out ?_) | (refine store_hasIt rfl _ _ rfl wr.heap.size (z := x) rfl rfl (Has.made _ _ _) rfl ?_; rw [World.setRow_alloc_new]))
          refine hpu14_any (g := g) (p := wr.heap.size) (n := vs.length) (c := c1) (m := m) (A := A1) (x := x) ⟨rfl, rfl, rfl, (HAT.out _ (HAL.out _)).st, Has.made _ _ _⟩ (by kernel_rfl) ?_ ?_
          · intro e9 w9 hB9 hH9
            have HB9 := Lib.hid ((HAL.out _).trans (hB9.mono (by simp)))
            have HH9 := Lib.hid hH9
            clear hB9 hH9
            have HAT9 := Lib.hid (HAT.out w9 HB9.out)
            simp only [putAll, Act.put, List.setIfInBounds_toArray, List.set_cons_succ, List.set_cons_zero, List.drop_succ_cons, List.drop_zero]
            refine app_its rfl _ _ rfl (base := 0) (n := vs.length) (xs := vs) (ys := [x]) rfl HAT9.out.own rfl (Items.one HH9.out) (fun e => by cases e) rfl (by omega) (Nat.zero_le _) ?_
            intro A2 m2 c2 w10 hm2 ho hg hl
            obtain ⟨⟨hc10, hf10⟩, gs2, hat2, hb2, hg2⟩ := HpAt.grown (by decide) HAT9.out ho hg hl
            have hb3 := (below_butS HB9.out gs1).trans hb2
            have hg3 : ∀ i ∈ gs2, i ∈ gs1 ∨ wr.heap.size ≤ i := fun i hi => by
              rcases hg2 i hi with h | h
              · exact .inl h
              · have := HB9.out.size; exact .inr (by omega)
            have HAT2 := Lib.hid hat2
            have HB2 := Lib.hid hb3
            have HG2 := Lib.hid hg3
            have hci : (w10.setCell ⟨g, 1, none⟩ (.slice A2 m2 c2)).cell? ⟨g, 1, none⟩ = some (.slice A2 m2 c2) := World.cell?_setCell_same _ _ _ hc10
            have HM2 := Lib.hid hm2
            clear ho hg hl hat2 hb2 hg2 hb3 hg3 hm2
            go_wp2_with fail
            refine (rise_any HAT2.out (p0 := m2) (by rw [HM2.out]; exact upI_new HOF.out.ok x) (by rw [List.length_append, List.length_singleton]; omega) _ rfl).mono ?_
            rintro e w12 ⟨rfl, hmv⟩
            have HN : Hid (PuS w gs g m xs zs (k + 1) w12) := by
              have := push_one HOF.out HB1.out HG1.out HB2.out HG2.out rfl hmv
              rw [← HTK2.out] at this
              exact this
            clear hmv
            go_wp2_with fail
            go_roundw
            case rel => exact ⟨k + 1, by omega, by go_num, HN⟩
            case measure => simp [intOf]; omega
          · intro e9 w9 hB9 hH9
            have HB9 := Lib.hid ((HAL.out _).trans (hB9.mono (by simp)))
            have HH9 := Lib.hid hH9
            clear hB9 hH9
            have HAT9 := Lib.hid (HAT.out w9 HB9.out)
            simp only [putAll, Act.put, List.setIfInBounds_toArray, List.set_cons_succ, List.set_cons_zero, pickL, List.filterMap_cons, List.getElem?_cons_succ, List.getElem?_cons_zero, List.filterMap_nil]
            refine app_its rfl _ _ rfl (base := 0) (n := vs.length) (xs := vs) (ys := [x]) rfl HAT9.out.own rfl (Items.one HH9.out) (fun e => by cases e) rfl (by omega) (Nat.zero_le _) ?_
            intro A2 m2 c2 w10 hm2 ho hg hl
            obtain ⟨⟨hc10, hf10⟩, gs2, hat2, hb2, hg2⟩ := HpAt.grown (by decide) HAT9.out ho hg hl
            have hb3 := (below_butS HB9.out gs1).trans hb2
            have hg3 : ∀ i ∈ gs2, i ∈ gs1 ∨ wr.heap.size ≤ i := fun i hi => by
              rcases hg2 i hi with h | h
              · exact .inl h
              · have := HB9.out.size; exact .inr (by omega)
            have HAT2 := Lib.hid hat2
            have HB2 := Lib.hid hb3
            have HG2 := Lib.hid hg3
            have hci : (w10.setCell ⟨g, 1, none⟩ (.slice A2 m2 c2)).cell? ⟨g, 1, none⟩ = some (.slice A2 m2 c2) := World.cell?_setCell_same _ _ _ hc10
            have HM2 := Lib.hid hm2
            clear ho hg hl hat2 hb2 hg2 hb3 hg3 hm2
            go_wp2_with fail
            refine (rise_any HAT2.out (p0 := m2) (by rw [HM2.out]; exact upI_new HOF.out.ok x) (by rw [List.length_append, List.length_singleton]; omega) _ rfl).mono ?_
            rintro e w12 ⟨rfl, hmv⟩
            have HN : Hid (PuS w gs g m xs zs (k + 1) w12) := by
              have := push_one HOF.out HB1.out HG1.out HB2.out HG2.out rfl hmv
              rw [← HTK2.out] at this
              exact this
            clear hmv
            go_wp2_with fail
            go_roundw
            case rel => exact ⟨k + 1, by omega, by go_num, HN⟩
            case measure => simp [intOf]; omega
        · have hkn : k = j := by omega
          subst hkn
          have HE : Hid (WrO (fun w gs => HpS w gs g m (insAll xs zs)) gs w wr) := by
            obtain ⟨gs1, h1, h2, h3⟩ := HP.out
            rw [HTN.out] at h1
            exact ⟨gs1, h1, h2, h3⟩
          go_wp2_with fail
          go_ret
          exact ⟨rfl, HE.out⟩
end
end Go.Proofs.YtbpaepkcchpmbaaGreat
namespace Go.Proofs.YtbpaepkcchpmbaaGreat
open Go.RowKit
abbrev UT : TypeId := 104
def belL (xs : List It) (line : Int) : Bool := match xs with
  | [] => false
  | x :: _ => decide (x.t < line)
section
variable {g h : Nat} {cs : Array Value} {gs : List Nat} {xs : List It} {w : World}
set_option maxRecDepth 100000 in
set_option maxHeartbeats 1000000 in
theorem below_any (line : Int) (hw : Has w g UT cs) (hc : cs[6]? = some (.pointer (some ⟨h, 0, none⟩))) (hp : HpS w gs h 8192 xs) (hn : xs.length ≤ 8192) :
    Calls Tryz.prog 107 #[.pointer (some ⟨g, 0, none⟩), .int .i64 line] w fun e w' => e = .returned (.bool (belL xs line)) ∧ Below w.heap.size w w' := by
  have c6 : w.cell? ⟨g, 6, none⟩ = some (.pointer (some ⟨h, 0, none⟩)) := (hw.cell 6).trans hc
  have HAL : Hid (∀ w' o, Below w.heap.size w w' → Below w.heap.size w (w'.alloc o)) := fun w' o hb => hb.alloc hb.size o
  cases xs with
  | nil =>
    have HP := Lib.hid (peek_none hp)
    clear hw hp
    go_enter Tryz.func107, Tryz.ntmps107
    go_wp2_with fail
    refine HP.out.mono ?_
    rintro e w2 ⟨rfl, hb2⟩
    go_wp2_with (first | (refine store_hasIt rfl _ _ rfl w2.heap.size (z := zeroIt) rfl rfl (Has.made _ _ _) rfl ?_; rw [World.setRow_alloc_new]))
    go_ret
    exact ⟨rfl, HAL.out _ _ hb2⟩
  | cons x r =>
    have HP := Lib.hid (peek_some hp (by simp) hn)
    rw [show nthI (x :: r) 0 = x from rfl] at HP
    clear hw hp
    go_enter Tryz.func107, Tryz.ntmps107
    go_wp2_with fail
    refine HP.out.mono ?_
    rintro e w2 ⟨rfl, hb2⟩
    have k1 : (w2.alloc (.cells (itA x) 61)).cell? ⟨w2.heap.size, 1, none⟩ = some (.int .i64 x.t) := ((Has.made _ _ _).cell 1).trans rfl
    go_wp2_with (first | (refine store_hasIt rfl _ _ rfl w2.heap.size (z := x) rfl rfl (Has.made _ _ _) rfl ?_; rw [World.setRow_alloc_new]))
    go_ret
    exact ⟨rfl, HAL.out _ _ hb2⟩
structure WaS (w0 : World) (gs : List Nat) (h : Nat) (xs : List It) (k : Nat) (V : Value) (w : World) : Prop where
  hp : HpS w gs h 8192 (xs.drop k)
  own : OwnIt w w0.heap.size V (xs.take k)
  kp : ButS gs w0 w
theorem insAll_back {xs : List It} (h : Srd xs) : insAll [] xs = xs := srd_one (insAll_srd List.Pairwise.nil xs) h (by simpa using insAll_perm [] xs)
theorem WaS.own2 {w0 wr w2 : World} {A : Option Addr} {k c : Nat} (h0 : ∀ b ∈ gs, b < w0.heap.size) (h1 : WaS w0 gs h xs k (.slice A k c) wr) (hb : ButS gs wr w2) : OwnIt w2 w0.heap.size (.slice A k c) (xs.take k) :=
  h1.own.butS hb fun b e hm => by
    have := (World.ownsRow.lt h1.own b e).1
    have := h0 b hm
    omega
theorem WaS.step {w0 wr w2 w3 w4 : World} {A : Option Addr} {k c : Nat} {V4 : Value} (h0 : ∀ b ∈ gs, b < w0.heap.size) (h1 : WaS w0 gs h xs k (.slice A k c) wr) (hk : k < xs.length) (h2 : HpS w2 gs h 8192 (xs.drop k).tail) (hb : ButS gs wr w2)
    (h3 : Below w2.heap.size w2 w3) (ho : OwnIt w4 w0.heap.size V4 (xs.take k ++ [nthI xs k])) (hg : w3.grownBy w4 (Value.slice A k c).ownBlock) : WaS w0 gs h xs (k + 1) V4 w4 := by
  have hlt : ∀ b, (Value.slice A k c).ownBlock = some b → w0.heap.size ≤ b := fun b e => (World.ownsRow.lt h1.own b e).1
  have hs := h1.kp.size
  have hs2 := hb.size
  have hs3 := h3.size
  refine ⟨?_, by rw [take_on hk]; exact ho, ?_⟩
  · have e : (xs.drop k).tail = xs.drop (k + 1) := by rw [List.tail_drop]
    rw [e] at h2
    refine (h2.below h3).same (fun b hm => hg.block b (by have := h0 b hm; omega) fun e => ?_) hg.size
    have := hlt b e.symm
    have := h0 b hm
    omega
  · have k1 := (h1.kp.trans hb)
    exact ⟨(hg.os.trans h3.os).trans k1.os, (hg.tape.trans h3.tape).trans k1.tape, (hg.output.trans h3.output).trans k1.output, by have := hg.size; omega, fun b hb2 hn =>
      ((hg.block b (by omega) (fun e => by have := hlt b e.symm; omega)).trans (h3.block b (by omega))).trans (k1.other b hb2 hn)⟩
def slLen : Value → Nat
  | .slice _ n _ => n
  | _ => 0
set_option maxRecDepth 100000 in
set_option maxHeartbeats 2000000 in
theorem waiting_any (hw : Has w g UT cs) (hc : cs[6]? = some (.pointer (some ⟨h, 0, none⟩))) (hp : HpS w gs h 8192 xs) (hn : xs.length ≤ 8192) (hgs : g ∉ gs) (hgood : goodAll xs = true) :
    Calls Tryz.prog 89 #[.pointer (some ⟨g, 0, none⟩)] w fun e w' => ∃ A c gs', e = .returned (.slice A xs.length c) ∧ OwnIt w' w.heap.size (.slice A xs.length c) xs ∧ HpS w' gs' h 8192 xs ∧ ButS gs w w' ∧ (∀ k ∈ gs', k ∈ gs ∨ w.heap.size ≤ k) ∧ (∀ k, (Value.slice A xs.length c).ownBlock = some k → k ∉ gs') := by
  have HC : Hid (∀ w', ButS gs w w' → w'.cell? ⟨g, 6, none⟩ = some (.pointer (some ⟨h, 0, none⟩))) := fun w' hb => ((hw.butS hb hgs).cell 6).trans hc
  have H0 : Hid (∀ b ∈ gs, b < w.heap.size) := hp.lt
  have HS := Lib.hid hp.srd
  have HP0 : Hid (WaS w gs h xs 0 (.slice none 0 0) w) := ⟨by rw [List.drop_zero]; exact hp, OwnIt.nil _ _, below_butS (Below.refl _ _) gs⟩
  clear hw hc hp hgs
  go_enter Tryz.func89, Tryz.ntmps89
  go_wp2_with fail
  go_loopw [3] (fun V wr => ∃ (k : Nat) (A : Option Addr) (c : Nat), k ≤ xs.length ∧ V = .slice A k c ∧ Hid (WaS w gs h xs k (.slice A k c) wr)) (fun V _ => xs.length - slLen V)
  case atStart => exact ⟨0, none, 0, Nat.zero_le _, rfl, HP0⟩
  case round =>
    obtain ⟨k, A, c, hk, rfl, HW⟩ := hrel
    have c6 := HC.out wr HW.out.kp
    have HLN := Lib.hid (hlen_any HW.out.hp)
    rw [List.length_drop] at HLN
    by_cases hkl : k = xs.length
    · subst hkl
      rw [Nat.sub_self] at HLN
      have hp := HW.out.hp
      rw [List.drop_length] at hp
      have ho := HW.out.own
      rw [List.take_length] at ho
      have HF : Hid (Far gs A xs.length) := fun ad _ e hm => by
        subst e
        have := (World.ownsRow.lt ho ad.block rfl).1
        have := H0.out _ hm
        omega
      have HPU := Lib.hid (push_ok A xs.length c xs hp ho.items HF.out hgood (by omega) (by simp) (by simp; omega))
      rw [insAll_back HS.out] at HPU
      have HO := Lib.hid ho
      clear hp ho
      go_wp2_with (go_at_call 71; refine HLN.out.mono ?_; rintro e w2 ⟨rfl, rfl⟩)
      refine HPU.out.mono ?_
      rintro e w2 ⟨rfl, gs', hp2, hb2, hg2⟩
      have HQ := Lib.hid (HO.out.butS hb2 fun b e hm => by
        have := (World.ownsRow.lt HO.out b e).1
        have := H0.out b hm
        omega)
      have HB := Lib.hid (HW.out.kp.trans hb2)
      have HG2 := Lib.hid hg2
      have HP2 := Lib.hid hp2
      clear hb2 hg2 hp2
      go_wp2_with fail
      go_ret
      refine ⟨A, c, gs', rfl, HQ.out, HP2.out, HB.out, fun b hm => (HG2.out b hm).imp id fun e => Nat.le_trans HW.out.kp.size e, fun b e hm => ?_⟩
      have hl := World.ownsRow.lt HO.out b e
      rcases HG2.out b hm with h1 | h1
      · have := H0.out b h1
        omega
      · omega
    · have hkx : k < xs.length := by omega
      have hd : 0 < ((xs.length - k : Nat) : Int) := by omega
      have HPO := Lib.hid (pop_some HW.out.hp (by rw [List.length_drop]; omega) (by rw [List.length_drop]; omega))
      rw [show nthI (xs.drop k) 0 = nthI xs k by rw [nthI_drop]; rfl] at HPO
      have HST : Hid (∀ w2 w3 w4 V4, HpS w2 gs h 8192 (xs.drop k).tail → ButS gs wr w2 → Below w2.heap.size w2 w3 → OwnIt w4 w.heap.size V4 (xs.take k ++ [nthI xs k]) → w3.grownBy w4 (Value.slice A k c).ownBlock → WaS w gs h xs (k + 1) V4 w4) := fun w2 w3 w4 V4 h2 hb h3 ho hg => HW.out.step H0.out hkx h2 hb h3 ho hg
      have HOW : Hid (∀ w2, ButS gs wr w2 → OwnIt w2 w.heap.size (.slice A k c) (xs.take k)) := fun w2 hb => HW.out.own2 H0.out hb
      have HTL : Hid ((xs.take k).length = k) := by rw [Hid, List.length_take]; omega
      generalize nthI xs k = x at HPO HST
      go_wp2_with (go_at_call 71; refine HLN.out.mono ?_; rintro e w2 ⟨rfl, rfl⟩)
      refine HPO.out.mono ?_
      rintro e w2 ⟨rfl, hp2, hb2⟩
      have hs2 := hb2.size
      have hs0 := HW.out.kp.size
      have HP2 := Lib.hid hp2
      have HB2 := Lib.hid hb2
      have HO3 : Hid (∀ o o', OwnIt ((w2.alloc o).alloc o') w.heap.size (.slice A k c) (xs.take k)) := fun o o' => (HOW.out w2 hb2).below (((Below.refl _ _).alloc (Nat.le_refl _) o).alloc (by simp) o')
      have hsz : ∀ o o', w.heap.size ≤ ((w2.alloc o).alloc o').heap.size := fun o o' => by simp; omega
      have HI1 : Hid (∀ o, Items ((w2.alloc o).alloc (.cells (itA x) 61)) (some ⟨w2.heap.size + 1, 0, none⟩) 1 [x]) := fun o => by
        have h := Items.one (Has.made (w2.alloc o) 61 (itA x))
        have e : (w2.alloc o).heap.size = w2.heap.size + 1 := by simp
        rw [e] at h
        exact h
      have hk32 : (k + 1) * 32 ≤ 140737488355328 := by omega
      clear hp2 hb2
      go_wp2_with (first
        | (refine store_hasIt rfl _ _ rfl w2.heap.size (z := x) rfl rfl (Has.made _ _ _) rfl ?_; rw [World.setRow_alloc_new])
        | (refine load_hasIt rfl _ rfl w2.heap.size rfl (Has.made _ _ _) ?_)
        | (at_builtin; refine app_its (v := .slice A k c) (ys := [x]) rfl _ _ rfl rfl (HO3.out _ _) rfl (HI1.out _) (fun e => by cases e) HTL.out hk32 (hsz _ _) ?_; intro A4 m4 c4 w4 hm4 ho4 hg4 _; have HS4 := Lib.hid (HST.out w2 _ w4 _ HP2.out HB2.out (((Below.refl _ _).alloc (Nat.le_refl _) _).alloc (by simp) _) ho4 hg4); clear ho4 hg4))
      subst hm4
      go_roundw
      case rel => exact ⟨k + 1, A4, c4, by omega, rfl, HS4⟩
      case measure => simp [slLen]; omega
end
end Go.Proofs.YtbpaepkcchpmbaaGreat
namespace Go.Proofs.YtbpaepkcchpmbaaGreat
open Go.RowKit
theorem rkeyed : Maps.Keyed Tryz.prog 3 := Maps.int_keyed Tryz.underlying3
def ptrV : Option Nat → Value
  | none => .pointer none
  | some g => .pointer (some ⟨g, 0, none⟩)
def ptrN : Option Nat → Int
  | none => -1
  | some g => g
def ptrD (p : Option Nat) : DataW Unit := .lit (.int .i64 (ptrN p))
def ptrR : Value → Option (DataW Unit × List MemPlace)
  | .pointer none => some (ptrD none, [])
  | .pointer (some ⟨g, 0, none⟩) => some (ptrD (some g), [])
  | _ => none
theorem ptrR_mk (p : Option Nat) : ptrR (ptrV p) = some (ptrD p, []) := by cases p <;> rfl
theorem ptrR_inv {v : Value} {y : DataW Unit × List MemPlace} (h : ptrR v = some y) : ∃ p, v = ptrV p ∧ y = (ptrD p, []) := by
  unfold ptrR at h
  split at h
  · exact ⟨none, rfl, by simpa using h.symm⟩
  · rename_i g
    exact ⟨some g, rfl, by simpa using h.symm⟩
  · cases h
theorem ptrD_inj {p q : Option Nat} (h : ptrD p = ptrD q) : p = q := by
  unfold ptrD at h
  injection h with h
  injection h with _ h
  cases p <;> cases q <;> simp only [ptrN] at h
  · rfl
  · omega
  · omega
  · congr 1; omega
theorem rzero (w : World) : (zeroValue 126).run Tryz.prog w = .ok (ptrV none) w := by kernel_rfl
abbrev MT : TypeId := 102
structure MapF (w : World) (b n : Nat) (D : DataW Unit) (m : Int → Option Nat) : Prop where
  own : w.ownsMap Tryz.prog 3 ptrR b n D
  at_ : ∀ s, D.atKey (.int .i64 s) (ptrD none) = ptrD (m s)
  has : ∀ s, Maps.has D (.int .i64 s) = (m s).isSome
section
variable {w w' : World} {b n : Nat} {D : DataW Unit} {m : Int → Option Nat}
theorem MapF.kept {row : Option Nat} (h : MapF w b n D m) (hg : w.grownBy w' row) (hne : some b ≠ row) : MapF w' b n D m := ⟨h.own.kept hg hne, h.at_, h.has⟩
theorem MapF.same (h : MapF w b n D m) (hb : w'.heap[b]? = w.heap[b]?) : MapF w' b n D m := ⟨by
  obtain ⟨es, clock, hm, r⟩ := h.own
  exact ⟨es, clock, hb.trans hm, r⟩, h.at_, h.has⟩
theorem keyS {s : Int} (hs : 0 ≤ s ∧ s ≤ 1048575) : keyOf Tryz.prog 3 (.int .i64 s) = some (.int .i64 s) := Maps.keyOf_int_mk Tryz.underlying3 (WalkArith.wf_i64 (by omega))
theorem key_ne {s x : Int} (h : x ≠ s) : (Lit.int .i64 x) ≠ Lit.int .i64 s := fun e => by injection e with _ e; exact h e
theorem MapF.empty (w : World) : MapF (w.alloc (.map #[] 0)) w.heap.size 0 (.map []) (fun _ => none) := ⟨World.ownsMap_made _ _ _ _, fun _ => rfl, fun _ => rfl⟩
theorem MapF.put {D2 : DataW Unit} {n2 : Nat} (h : MapF w b n D m) (s : Int) (g : Nat) (e : D2 = D.put (.int .i64 s) (ptrD (some g))) (ho : w'.ownsMap Tryz.prog 3 ptrR b n2 D2) : MapF w' b n2 D2 (fun x => if x = s then some g else m x) := by
  subst e
  have hM := h.own.isMap
  have hk : WideAt.IsKeyLit (.int .i64 s) := trivial
  refine ⟨ho, fun x => ?_, fun x => ?_⟩
  · by_cases hx : x = s
    · subst hx; rw [if_pos rfl, Maps.atKey_put_same hM hk]
    · rw [if_neg hx, Maps.atKey_put_other (key_ne hx)]; exact h.at_ x
  · by_cases hx : x = s
    · subst hx; rw [if_pos rfl, Maps.has_put_same hM hk]; rfl
    · rw [if_neg hx, Maps.has_put_other (key_ne hx)]; exact h.has x
theorem MapF.del {D2 : DataW Unit} {n2 : Nat} (h : MapF w b n D m) (s : Int) (e : D2 = D.del (.int .i64 s)) (ho : w'.ownsMap Tryz.prog 3 ptrR b n2 D2) : MapF w' b n2 D2 (fun x => if x = s then none else m x) := by
  subst e
  refine ⟨ho, fun x => ?_, fun x => ?_⟩
  · by_cases hx : x = s
    · subst hx; rw [if_pos rfl, Maps.atKey_del_same]
    · rw [if_neg hx, Maps.atKey_del_other (key_ne hx)]; exact h.at_ x
  · by_cases hx : x = s
    · subst hx; rw [if_pos rfl, Maps.has_del_same]; rfl
    · rw [if_neg hx, Maps.has_del_other (key_ne hx)]; exact h.has x
set_option maxRecDepth 100000 in
theorem MapF.look (h : MapF w b n D m) {s : Int} (hs : 0 ≤ s ∧ s ≤ 1048575) : (Instr.lookup MT (.map (some b)) (.int .i64 s) false).run Tryz.prog w = .ok (ptrV (m s)) w := by
  obtain ⟨v, ps, h1, h2⟩ := h.own.lookup rkeyed Tryz.underlying102 (rzero w) (ptrR_mk none) (keyS hs)
  obtain ⟨p, rfl, e⟩ := ptrR_inv h2
  injection e with e _
  rw [h.at_ s] at e
  rw [ptrD_inj e]
  exact h1
set_option maxRecDepth 100000 in
theorem upd_row {ops : Array Oper} {rest : List Oper} {o : Oper} {a : Act} {Q : Exit → Act → World → Prop} (hgd : o.guard = none) (x y z : Operand) (ho : o.op = Op.mapUpdate MT x y z) (h : MapF w b n D m) {s : Int} (hs : 0 ≤ s ∧ s ≤ 1048575) (hn : n < maxLen) {g : Nat}
    (hx : a.eval x = .map (some b)) (hy : a.eval y = .int .i64 s) (hz : a.eval z = .pointer (some ⟨g, 0, none⟩))
    (hK : ∀ w', MapF w' b (n + 1) (D.put (.int .i64 s) (ptrD (some g))) (fun x => if x = s then some g else m x) → w.grownBy w' (some b) → wpList Tryz.prog ops Q rest (a.put o.dst undef) w') : wpList Tryz.prog ops Q (o :: rest) a w :=
  wpList_mapUpdate_own w hgd x y z MT ho 3 126 rkeyed Tryz.underlying102 ptrR b n D hx h.own hn _ _ _ hy hz (keyS hs) (ptrD (some g)) [] (ptrR_mk (some g)) fun w' h1 h2 => hK w' (h.put s g rfl h1) h2
end
end Go.Proofs.YtbpaepkcchpmbaaGreat
namespace Go.Proofs.YtbpaepkcchpmbaaGreat
open Go.RowKit
theorem Tryz.infoLane : (Tryz.prog.info? 173).map (fun i => (i.zero.map (·.cells.size), i.size, i.bytes)) = some (some 11, 11, 104) := by kernel_rfl
theorem info_lane : ∃ i z, Tryz.prog.info? 173 = some i ∧ i.zero = some z ∧ z.cells.size = 11 ∧ i.size = 11 ∧ i.bytes = 104 := by
  have h := Tryz.infoLane
  cases hi : Tryz.prog.info? 173 with
  | none => rw [hi] at h; simp at h
  | some i =>
    rw [hi] at h
    simp only [Option.map_some, Option.some.injEq, Prod.mk.injEq] at h
    obtain ⟨h1, h2, h3⟩ := h
    cases hz : i.zero with
    | none => rw [hz] at h1; cases h1
    | some z =>
      rw [hz] at h1
      exact ⟨i, z, rfl, hz, by simpa using h1, h2, h3⟩
theorem run_oneL (r : Lr) (w : World) : (Instr.buildSlice 128 1 #[(0, .agg (laneC r))]).run Tryz.prog w = .ok (.slice (some ⟨w.heap.size, 0, none⟩) 1 1) (w.alloc (.cells (laneC r) 173)) := by kernel_rfl
section
variable {ops : Array Oper} {rest : List Oper} {op : Oper} {a : Act} {w : World} {Q : Exit → Act → World → Prop}
theorem lit_lane (hgd : op.guard = none) (x : Operand) (ho : op.op = .buildSlice 128 1 #[(0, x)]) (r : Lr) (hx : a.eval x = .agg (laneC r))
    (h : wpList Tryz.prog ops Q rest (a.put op.dst (.slice (some ⟨w.heap.size, 0, none⟩) 1 1)) (w.alloc (.cells (laneC r) 173))) : wpList Tryz.prog ops Q (op :: rest) a w := by
  refine wpList_plain hgd fun _ hK => ?_
  unfold Oper.wp execOp
  rw [ho]
  simp only [List.map_toArray, List.map_cons, List.map_nil, hx, Sem.run_bind, run_oneL, Result.andThen_ok]
  exact hK _ _ h
theorem make_lanes (hgd : op.guard = none) (l c : Operand) (ho : op.op = Op.makeSlice 128 l c) (n : Nat) (hl : a.eval l = .int .i64 0) (hc : a.eval c = .int .i64 (n : Int)) (hn : n ≤ 64)
    (hK : ∀ w', w'.ownsRow w.heap.size 173 11 (.slice (some ⟨w.heap.size, 0, none⟩) 0 n) 0 [] → w.grownBy w' none → w.heap.size < w'.heap.size → wpList Tryz.prog ops Q rest (a.put op.dst (.slice (some ⟨w.heap.size, 0, none⟩) 0 n)) w') : wpList Tryz.prog ops Q (op :: rest) a w := by
  obtain ⟨i, z, hi, hz, _, hs, hb⟩ := info_lane
  exact wpList_make_own w hgd l c 128 ho w.heap.size 173 i z 11 Tryz.underlying128 hi hz hs .i64 .i64 (n : Int) n hl hc rfl (by rw [hb]; omega) (by unfold maxLen; omega) (Nat.le_refl _) fun w' h1 h2 => hK w' h1 h2 (World.ownsRow.lt h1 w.heap.size rfl).2
theorem app_lane (hgd : op.guard = none) (s x : Operand)
    (ho : op.op = .call { callee := .builtin .append, args := #[s, x], argTypes := #[128, 128] }) {base L j n g : Nat} {rs : List Lr} {r : Lr}
    (hs : a.eval s = .slice (some ⟨L, 0, none⟩) j n) (hown : w.ownsRow base 173 11 (.slice (some ⟨L, 0, none⟩) j n) j (rowLn rs)) (hx : a.eval x = .slice (some ⟨g, 0, none⟩) 1 1) (hg : Has w g 173 (laneC r)) (hj : j < n)
    (hK : ∀ w', w'.ownsRow base 173 11 (.slice (some ⟨L, 0, none⟩) (j + 1) n) (j + 1) (rowLn (rs ++ [r])) → w.grownBy w' (some L) → wpList Tryz.prog ops Q rest (a.put op.dst (.slice (some ⟨L, 0, none⟩) (j + 1) n)) w') : wpList Tryz.prog ops Q (op :: rest) a w := by
  obtain ⟨i, z, hi, hz, hzs, hsz, hb⟩ := info_lane
  refine wpList_plain hgd fun K hK' => ?_
  obtain ⟨w', hrun, r1, r2⟩ := run_append_fits (P := Tryz.prog) w base 128 op.type 173 i 11 Tryz.underlying128 hi hsz L j n (rowLn rs) hown ⟨g, 0, none⟩ 1 1 (laneL r) rfl (fun k u hu => by
    rw [Addr.add_mid, hg.cell]
    have e : (laneC r)[0 + k]? = (laneL r)[k]? := by rw [Nat.zero_add]; show (laneL r).toArray[k]? = _; rw [List.getElem?_toArray]
    exact e.trans hu) (fun u hu => by
    have := laneC_one r
    rw [Array.all_eq_true_iff_forall_mem] at this
    exact this u (by show u ∈ (laneL r).toArray; exact List.mem_toArray.2 hu)) (by omega)
  unfold Oper.wp execOp
  simp only [ho, resolve, invoke, builtin, Sem.run_bind, Sem.run_pure, Result.andThen_ok, List.map_toArray, List.map_cons, List.map_nil, hs, hx, hrun]
  refine hK' _ _ (hK w' ?_ r2)
  have e : rowLn (rs ++ [r]) = rowLn rs ++ laneL r := by simp [rowLn]
  rw [e]
  exact r1
end
end Go.Proofs.YtbpaepkcchpmbaaGreat
