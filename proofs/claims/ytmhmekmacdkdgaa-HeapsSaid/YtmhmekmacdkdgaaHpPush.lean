/-
  Walk: Push.
-/
import Derived.Test.YtmhmekmacdkdgaaHpPop
import Derived.Test.YtmhmekmacdkdgaaHpPushR
import Derived.Test.YtmhmekmacdkdgaaLeaf
namespace Go.Proofs.Ytmhmekmacdkdgaa
open Go.RowKit

/-- What the append leaves. -/
theorem HpAt.grown {T : TypeId} (hT : T ≠ 34) {w w' : World} {gs : List Nat} {g c k c' : Nat} {m : Int} {ys : List It} {A A' : Option Addr} {x : It} (h : HpAt T w gs g m ys A c) (ho : OwnIt w' 0 (.slice A' k c') (ys ++ [x])) (hg : w.grownBy w' (Value.slice A ys.length c).ownBlock)
    (hl : ∀ ad, A' = some ad → (Value.slice A ys.length c).ownBlock = some ad.block ∨ w.heap.size ≤ ad.block) :
    (w'.cell? ⟨g, 1, none⟩ = some (.slice A ys.length c) ∧ w'.frozen? ⟨g, 1, none⟩ = false) ∧ ∃ gs', HpAt T (w'.setCell ⟨g, 1, none⟩ (.slice A' k c')) gs' g m (ys ++ [x]) A' c' ∧ ButS gs w (w'.setCell ⟨g, 1, none⟩ (.slice A' k c')) ∧ ∀ i ∈ gs', i ∈ gs ∨ w.heap.size ≤ i := by
  have hgA : (Value.slice A ys.length c).ownBlock ≠ some g := fun e => by
    rcases h.own.shape with ⟨rfl, _⟩ | ⟨b, rfl⟩
    · simp [Value.ownBlock] at e
    · obtain ⟨_, _, _, _, cur, h5, _⟩ := h.own.blk
      have hst := h.st
      have : b = g := by simpa [Value.ownBlock] using e
      subst this
      exact has_types hst h5 hT
  have hst : Has w' g T (hpC m A ys.length c) := (hg.block g h.st.lt (fun e => hgA e.symm)).trans h.st
  have hk : k = ys.length + 1 := by have := ho.len; rw [List.length_append, List.length_singleton] at this; omega
  obtain ⟨b', rfl⟩ : ∃ b, A' = some ⟨b, 0, none⟩ := by
    rcases ho.shape with ⟨_, h1, _⟩ | h1
    · omega
    · exact h1
  have hl' := hl _ rfl
  obtain ⟨_, _, _, _, cur', h5', _⟩ := ho.blk
  have hgb : g ≠ b' := fun e => by
    have hst2 := hst
    subst e
    exact has_types hst2 h5' hT
  have hb1 : ButS gs w w' := ⟨hg.os, hg.tape, hg.output, hg.size, fun i hi hn => hg.block i hi (fun e => hn (h.own.blks h.inA i e.symm))⟩
  have hb2 := setCell_butS w' g 1 (.slice (some ⟨b', 0, none⟩) k c')
  have hb3 : ButS gs w (w'.setCell ⟨g, 1, none⟩ (.slice (some ⟨b', 0, none⟩) k c')) := hb1.andThen hb2 (fun i hi => .inl (by have e2 : i = g := (by simpa using hi); rw [e2]; exact h.inG))
  refine ⟨⟨hst.cell 1, hst.mark 1⟩, b' :: gs, ⟨?_, ?_, List.mem_cons_of_mem _ h.inG, (fun ad e => by injection e with e; subst e; exact List.mem_cons_self ..), ?_⟩, hb3, ?_⟩
  · have := hst.put 1 (.slice (some ⟨b', 0, none⟩) k c')
    rw [List.length_append, List.length_singleton, ← hk]
    exact this
  · have e : (ys ++ [x]).length = k := by rw [List.length_append, List.length_singleton, hk]
    rw [e]
    exact ho.butS hb2 (fun i hi => by
      have : b' = i := by simpa [Value.ownBlock] using hi
      simpa [← this] using hgb.symm)
  · intro i hi
    rcases List.mem_cons.1 hi with rfl | hi
    · have := h5'.lt
      simpa [World.setCell] using this
    · exact Nat.lt_of_lt_of_le (h.lt i hi) hb3.size
  · intro i hi
    rcases List.mem_cons.1 hi with rfl | hi
    · rcases hl' with h1 | h1
      · exact .inl (h.own.blks h.inA i h1)
      · exact .inr h1
    · exact .inl hi

/-- Push's number; what it leaves. -/
def goodAll (zs : List It) : Bool := zs.all itemB
def pushN (m : Int) (xs zs : List It) : Int := if goodAll zs = true then (if m - xs.length < zs.length then 1501 else 0) else 1500
def pushL (m : Int) (xs zs : List It) : List It := if goodAll zs = true then (if m - xs.length < zs.length then xs else insAll xs zs) else xs
theorem goodAll_at {zs : List It} (h : goodAll zs = true) {i : Nat} (hi : i < zs.length) : itemB (nthI zs i) = true := by
  have := List.all_eq_true.1 h zs[i] (List.getElem_mem hi)
  rwa [show nthI zs i = zs[i] by simp [nthI, hi]]
theorem goodAll_not {zs : List It} (h : goodAll zs = false) : ∃ i, i < zs.length ∧ itemB (nthI zs i) = false := by
  unfold goodAll at h
  obtain ⟨x, hx, hb⟩ := List.all_eq_false.1 h
  obtain ⟨i, hi, rfl⟩ := List.mem_iff_getElem.1 hx
  exact ⟨i, hi, by rw [show nthI zs i = zs[i] by simp [nthI, hi]]; simpa using hb⟩

section
variable {w : World} {gs : List Nat} {g : Nat} {m : Int} {xs : List It}
set_option maxRecDepth 100000 in
set_option maxHeartbeats 1000000 in
theorem push_form (g : Nat) (A : Option Addr) (n c : Nat) (zs : List It) (w : World) (hz : Items w A n zs) (hn : n ≤ 17592186044416) (hb : goodAll zs = false) :
    Calls Try.prog 15 #[.pointer (some ⟨g, 0, none⟩), .slice A n c] w fun e w' => e = .returned (.int .i64 1500) ∧ Below w.heap.size w w' := by
  have HZ := Lib.hid hz
  obtain ⟨q, hq1, hq2⟩ := goodAll_not hb
  rw [hz.1] at hq1
  have HQ := Lib.hid hq2
  clear hz hq2 hb
  go_enter Try.func15, Try.ntmps15
  go_wp2_with fail
  go_loopw [13] (fun i wr => ∃ j : Nat, j ≤ q ∧ i = .int .i64 j ∧ Hid (Below w.heap.size w wr)) (fun i _ => n - (intOf i).toNat)
  case atStart => exact ⟨0, Nat.zero_le _, rfl, Below.refl _ _⟩
  case round =>
    obtain ⟨j, hj, rfl, HW⟩ := hrel
    obtain ⟨b, o, rfl, hi⟩ := (HZ.out.below HW.out).2 (by omega)
    have HX := Lib.hid (hi j (by omega))
    clear hi
    have HAL : Hid (∀ o, Below wr.heap.size wr (wr.alloc o)) := fun o => (Below.refl _ _).alloc (Nat.le_refl _) o
    cases hbx : itemB (nthI zs j) with
    | true =>
      have hjq : j < q := by
        rcases Nat.lt_or_ge j q with h | h
        · exact h
        · have e : j = q := by omega
          rw [e, HQ.out] at hbx; cases hbx
      have HI : Hid (∀ w', Calls Try.prog 28 #[itV (nthI zs j)] w' fun e w2 => e = .returned (.bool true) ∧ Below w'.heap.size w' w2) := fun w' => by rw [← hbx]; exact item_any _ _
      clear hbx
      generalize nthI zs j = x at HX HI
      go_wp2_with (first | (refine load_item rfl _ rfl b (o + j * 4) (by simp [go_sem]) HX.out ?_) | (refine store_hasIt rfl _ _ rfl wr.heap.size (z := x) rfl rfl (Has.made _ _ _) rfl ?_; rw [World.setRow_alloc_new]) | (refine load_hasIt rfl _ rfl wr.heap.size (y := x) rfl (Has.made _ _ _) ?_))
      refine (HI.out _).mono ?_
      rintro e w2 ⟨rfl, hb2⟩
      have HW2 := Lib.hid (HW.out.trans (((HAL.out _).trans (hb2.mono (by simp))).mono HW.out.size))
      clear hb2
      go_wp2_with fail
      go_roundw
      case rel => exact ⟨j + 1, by omega, by go_num, HW2⟩
      case measure => simp [intOf]; omega
    | false =>
      have HI : Hid (∀ w', Calls Try.prog 28 #[itV (nthI zs j)] w' fun e w2 => e = .returned (.bool false) ∧ Below w'.heap.size w' w2) := fun w' => by rw [← hbx]; exact item_any _ _
      clear hbx
      generalize nthI zs j = x at HX HI
      go_wp2_with (first | (refine load_item rfl _ rfl b (o + j * 4) (by simp [go_sem]) HX.out ?_) | (refine store_hasIt rfl _ _ rfl wr.heap.size (z := x) rfl rfl (Has.made _ _ _) rfl ?_; rw [World.setRow_alloc_new]) | (refine load_hasIt rfl _ rfl wr.heap.size (y := x) rfl (Has.made _ _ _) ?_))
      refine (HI.out _).mono ?_
      rintro e w2 ⟨rfl, hb2⟩
      have HW2 := Lib.hid (HW.out.trans (((HAL.out _).trans (hb2.mono (by simp))).mono HW.out.size))
      clear hb2
      go_wp2_with fail
      go_ret
      exact ⟨rfl, HW2.out⟩

/-- In the midst of pushing: the first j are in. -/
def PuS (w0 : World) (gs : List Nat) (g : Nat) (m : Int) (xs zs : List It) (j : Nat) (w : World) : Prop :=
  ∃ gs', HpS w gs' g m (insAll xs (zs.take j)) ∧ ButS gs w0 w ∧ ∀ k ∈ gs', k ∈ gs ∨ w0.heap.size ≤ k
theorem insAll_take (xs : List It) {zs : List It} {j : Nat} (h : j < zs.length) : insAll xs (zs.take (j + 1)) = ins (nthI zs j) (insAll xs (zs.take j)) := by
  rw [List.take_succ_eq_append_getElem h, insAll_on, show nthI zs j = zs[j] by simp [nthI, h]]
/-- One is pushed. -/
theorem push_one {ys ys' vs : List It} {w1 w2 w3 : World} {gs1 gs2 : List Nat} {c : Nat} {A : Option Addr} {x : It} (hof : HpOf ys vs) (hb1 : ButS gs w w1) (hg1 : ∀ k ∈ gs1, k ∈ gs ∨ w.heap.size ≤ k) (hb2 : ButS gs1 w1 w2) (hg2 : ∀ k ∈ gs2, k ∈ gs1 ∨ w1.heap.size ≤ k)
    (hlen : ys' = ys ++ [x]) (hm : MvO w2 gs2 g c m A ys' w3) : ∃ gs', HpS w3 gs' g m (ins x vs) ∧ ButS gs w w3 ∧ ∀ k ∈ gs', k ∈ gs ∨ w.heap.size ≤ k := by
  subst hlen
  obtain ⟨zs, z1, z2, z3, z4⟩ := hm
  have hs := hb1.size
  have hh : ∀ k ∈ gs2, k ∈ gs ∨ w.heap.size ≤ k := fun k hk => by
    rcases hg2 k hk with h | h
    · exact hg1 k h
    · exact .inr (by omega)
  exact ⟨gs2, ⟨zs, ⟨A, c, z1⟩, hof.push z2 z3⟩, (hb1.andThen hb2 hg1).andThen z4 hh, hh⟩

set_option maxRecDepth 100000 in
set_option maxHeartbeats 1000000 in
theorem push_full (A : Option Addr) (n c : Nat) (zs : List It) (h : HpS w gs g m xs) (hz : Items w A n zs) (hn : n ≤ 17592186044416) (hb : goodAll zs = true) (hm : 1 ≤ m ∧ m ≤ 8192) (hl : xs.length ≤ 8192) (hf : m - xs.length < n) :
    Calls Try.prog 15 #[.pointer (some ⟨g, 0, none⟩), .slice A n c] w fun e w' => e = .returned (.int .i64 1501) ∧ Below w.heap.size w w' := by
  have HZ := Lib.hid hz
  have HG : Hid (∀ i, i < n → itemB (nthI zs i) = true) := fun i hi => goodAll_at hb (by rw [hz.1]; exact hi)
  obtain ⟨ys, ⟨A0, c0, h1⟩, h2⟩ := h
  have HH : Hid (∀ w', Below w.heap.size w w' → HpAt HT w' gs g m ys A0 c0) := fun w' hb => h1.below hb
  have hl2 : ys.length ≤ 8192 := by rw [h2.len]; exact hl
  have hf2 : m - ys.length < n := by rw [h2.len]; exact hf
  clear hz hb h1 h2 hl hf
  go_enter Try.func15, Try.ntmps15
  go_wp2_with fail
  go_loopw [13] (fun i wr => ∃ j : Nat, j ≤ n ∧ i = .int .i64 j ∧ Hid (Below w.heap.size w wr)) (fun i _ => n - (intOf i).toNat)
  case atStart => exact ⟨0, Nat.zero_le _, rfl, Below.refl _ _⟩
  case round =>
    obtain ⟨j, hj, rfl, HW⟩ := hrel
    by_cases hlt : j < n
    · obtain ⟨b, o, rfl, hi⟩ := (HZ.out.below HW.out).2 (by omega)
      have HX := Lib.hid (hi j (by omega))
      clear hi
      have HAL : Hid (∀ o, Below wr.heap.size wr (wr.alloc o)) := fun o => (Below.refl _ _).alloc (Nat.le_refl _) o
      have HI : Hid (∀ w', Calls Try.prog 28 #[itV (nthI zs j)] w' fun e w2 => e = .returned (.bool true) ∧ Below w'.heap.size w' w2) := fun w' => by rw [← HG.out j hlt]; exact item_any _ _
      generalize nthI zs j = x at HX HI
      go_wp2_with (first | (refine load_item rfl _ rfl b (o + j * 4) (by simp [go_sem]) HX.out ?_) | (refine store_hasIt rfl _ _ rfl wr.heap.size (z := x) rfl rfl (Has.made _ _ _) rfl ?_; rw [World.setRow_alloc_new]) | (refine load_hasIt rfl _ rfl wr.heap.size (y := x) rfl (Has.made _ _ _) ?_))
      refine (HI.out _).mono ?_
      rintro e w2 ⟨rfl, hb2⟩
      have HW2 := Lib.hid (HW.out.trans (((HAL.out _).trans (hb2.mono (by simp))).mono HW.out.size))
      clear hb2
      go_wp2_with fail
      go_roundw
      case rel => exact ⟨j + 1, by omega, by go_num, HW2⟩
      case measure => simp [intOf]; omega
    · have hjn : j = n := by omega
      subst hjn
      have c0' := (HH.out _ HW.out).c0
      have c1' := (HH.out _ HW.out).c1
      go_wp2_with fail
      go_quiet (fail)
      go_wp2_with fail
      go_ret
      exact ⟨rfl, below_drewN HW.out _⟩

set_option maxRecDepth 100000 in
set_option maxHeartbeats 1000000 in
theorem push_ok (A : Option Addr) (n c : Nat) (zs : List It) (h : HpS w gs g m xs) (hz : Items w A n zs) (hfar : Far gs A n) (hb : goodAll zs = true) (hm : 1 ≤ m ∧ m ≤ 8192) (hl : xs.length ≤ 8192) (hf : ¬ m - xs.length < n) :
    Calls Try.prog 15 #[.pointer (some ⟨g, 0, none⟩), .slice A n c] w fun e w' => e = .returned (.int .i64 0) ∧ WrO (fun w gs => HpS w gs g m (insAll xs zs)) gs w w' := by
  have HZ := Lib.hid hz
  have hzl := hz.1
  have HZB : Hid (∀ w', ButS gs w w' → Items w' A n zs) := fun w' hb => hz.butS hb hfar
  have HG : Hid (∀ i, i < n → itemB (nthI zs i) = true) := fun i hi => goodAll_at hb (by rw [hz.1]; exact hi)
  have HP0 : Hid (∀ w', Below w.heap.size w w' → PuS w gs g m xs zs 0 w') := fun w' hb => ⟨gs, h.below hb, below_butS hb gs, fun k hk => .inl hk⟩
  have HLT : Hid (∀ j, j < n → (insAll xs (zs.take j)).length < 8192) := fun j hj => by rw [insAll_len, List.length_take]; omega
  have HTK : Hid (∀ j, j < n → insAll xs (zs.take (j + 1)) = ins (nthI zs j) (insAll xs (zs.take j))) := fun j hj => insAll_take xs (by omega)
  have HTN : Hid (zs.take n = zs) := List.take_of_length_le (by omega)
  obtain ⟨ys, ⟨A0, c0, h1⟩, h2⟩ := h
  have HH : Hid (∀ w', Below w.heap.size w w' → HpAt HT w' gs g m ys A0 c0) := fun w' hb => h1.below hb
  have hl2 : ys.length ≤ 8192 := by rw [h2.len]; exact hl
  have hf2 : ¬ m - ys.length < n := by rw [h2.len]; exact hf
  have hn : n ≤ 8192 := by omega
  clear hz hb h1 h2 hl hf hfar hzl
  go_enter Try.func15, Try.ntmps15
  go_wp2_with fail
  go_loopw [13] (fun i wr => ∃ j : Nat, j ≤ n ∧ i = .int .i64 j ∧ Hid (Below w.heap.size w wr)) (fun i _ => n - (intOf i).toNat)
  case atStart => exact ⟨0, Nat.zero_le _, rfl, Below.refl _ _⟩
  case round =>
    obtain ⟨j, hj, rfl, HW⟩ := hrel
    by_cases hlt : j < n
    · obtain ⟨b, o, rfl, hi⟩ := (HZ.out.below HW.out).2 (by omega)
      have HX := Lib.hid (hi j (by omega))
      clear hi
      have HAL : Hid (∀ o, Below wr.heap.size wr (wr.alloc o)) := fun o => (Below.refl _ _).alloc (Nat.le_refl _) o
      have HI : Hid (∀ w', Calls Try.prog 28 #[itV (nthI zs j)] w' fun e w2 => e = .returned (.bool true) ∧ Below w'.heap.size w' w2) := fun w' => by rw [← HG.out j hlt]; exact item_any _ _
      generalize nthI zs j = x at HX HI
      go_wp2_with (first | (refine load_item rfl _ rfl b (o + j * 4) (by simp [go_sem]) HX.out ?_) | (refine store_hasIt rfl _ _ rfl wr.heap.size (z := x) rfl rfl (Has.made _ _ _) rfl ?_; rw [World.setRow_alloc_new]) | (refine load_hasIt rfl _ rfl wr.heap.size (y := x) rfl (Has.made _ _ _) ?_))
      refine (HI.out _).mono ?_
      rintro e w2 ⟨rfl, hb2⟩
      have HW2 := Lib.hid (HW.out.trans (((HAL.out _).trans (hb2.mono (by simp))).mono HW.out.size))
      clear hb2
      go_wp2_with fail
      go_roundw
      case rel => exact ⟨j + 1, by omega, by go_num, HW2⟩
      case measure => simp [intOf]; omega
    · have hjn : j = n := by omega
      subst hjn
      have c0' := (HH.out _ HW.out).c0
      have c1' := (HH.out _ HW.out).c1
      go_wp2_with fail
      go_quiet (fail)
      have HP1 : Hid (∀ q, PuS w gs g m xs zs 0 (wr.drewN q)) := fun q => HP0.out _ (below_drewN HW.out q)
      clear c0' c1' HH HP0 HW
      go_wp2_with fail
      clear hf2
      go_loopw [36] (fun i wr => ∃ k : Nat, k ≤ j ∧ i = .int .i64 k ∧ Hid (PuS w gs g m xs zs k wr)) (fun i _ => j - (intOf i).toNat)
      case atStart => exact ⟨0, Nat.zero_le _, rfl, HP1.out _⟩
      case round =>
        clear HP1
        obtain ⟨k, hk, rfl, HP⟩ := hrel
        by_cases hlt2 : k < j
        · obtain ⟨gs1, ⟨vs, ⟨A1, c1, hat⟩, hof⟩, hb1, hg1⟩ := HP.out
          obtain ⟨b, o, rfl, hi⟩ := (HZB.out _ hb1).2 (by omega)
          have HX := Lib.hid (hi k (by omega))
          have hvl : vs.length < 8192 := by rw [hof.len]; exact HLT.out k hlt2
          have HTK2 := Lib.hid (HTK.out k hlt2)
          have HAT : Hid (∀ w', Below wr.heap.size wr w' → HpAt HT w' gs1 g m vs A1 c1) := fun w' hb => hat.below hb
          have HOF := Lib.hid hof
          have HB1 := Lib.hid hb1
          have HG1 := Lib.hid hg1
          clear hi hat hof hb1 hg1 HP
          have HAL : Hid (∀ o, Below wr.heap.size wr (wr.alloc o)) := fun o => (Below.refl _ _).alloc (Nat.le_refl _) o
          generalize nthI zs k = x at HX HTK2
          generalize insAll xs (zs.take k) = us at HOF HTK2
          go_upto_region 14 with (first | (refine load_item rfl _ rfl b (o + k * 4) (by simp [go_sem]) HX.out ?_) | (refine store_hasIt rfl _ _ rfl wr.heap.size (z := x) rfl rfl (Has.made _ _ _) rfl ?_; rw [World.setRow_alloc_new]))
          refine hpu14_any (g := g) (p := wr.heap.size) (n := vs.length) (c := c1) (m := m) (A := A1) (x := x) ⟨rfl, rfl, rfl, (HAT.out _ (HAL.out _)).st, Has.made _ _ _⟩ (by kernel_rfl) ?_ ?_
          · intro e9 w9 hB9 hH9
            have HB9 := Lib.hid ((HAL.out _).trans (hB9.mono (by simp)))
            have HH9 := Lib.hid hH9
            clear hB9 hH9
            have HAT9 := Lib.hid (HAT.out w9 HB9.out)
            simp only [putAll, Act.put, List.setIfInBounds_toArray, List.set_cons_succ, List.set_cons_zero, List.drop_succ_cons, List.drop_zero]
            refine app_its rfl _ _ rfl (base := 0) (n := vs.length) (xs := vs) (ys := [x]) rfl HAT9.out.own rfl (Items.one HH9.out) (fun e => by cases e) rfl (by omega) (Nat.zero_le _) ?_
            intro A2 m2 c2 w10 hm2 ho hg hl
            obtain ⟨⟨hc10, hf10⟩, gs2, hat2, hb2, hg2⟩ := HpAt.grown (by decide) HAT9.out ho hg hl
            have hb3 := (below_butS HB9.out gs1).trans hb2
            have hg3 : ∀ i ∈ gs2, i ∈ gs1 ∨ wr.heap.size ≤ i := fun i hi => by
              rcases hg2 i hi with h | h
              · exact .inl h
              · have := HB9.out.size; exact .inr (by omega)
            have HAT2 := Lib.hid hat2
            have HB2 := Lib.hid hb3
            have HG2 := Lib.hid hg3
            have hci : (w10.setCell ⟨g, 1, none⟩ (.slice A2 m2 c2)).cell? ⟨g, 1, none⟩ = some (.slice A2 m2 c2) := World.cell?_setCell_same _ _ _ hc10
            have HM2 := Lib.hid hm2
            clear ho hg hl hat2 hb2 hg2 hb3 hg3 hm2
            go_wp2_with fail
            refine (rise_any HAT2.out (p0 := m2) (by rw [HM2.out]; exact upI_new HOF.out.ok x) (by rw [List.length_append, List.length_singleton]; omega) _ rfl).mono ?_
            rintro e w12 ⟨rfl, hmv⟩
            have HN : Hid (PuS w gs g m xs zs (k + 1) w12) := by
              have := push_one HOF.out HB1.out HG1.out HB2.out HG2.out rfl hmv
              rw [← HTK2.out] at this
              exact this
            clear hmv
            go_wp2_with fail
            go_roundw
            case rel => exact ⟨k + 1, by omega, by go_num, HN⟩
            case measure => simp [intOf]; omega
          · intro e9 w9 hB9 hH9
            have HB9 := Lib.hid ((HAL.out _).trans (hB9.mono (by simp)))
            have HH9 := Lib.hid hH9
            clear hB9 hH9
            have HAT9 := Lib.hid (HAT.out w9 HB9.out)
            simp only [putAll, Act.put, List.setIfInBounds_toArray, List.set_cons_succ, List.set_cons_zero, pickL, List.filterMap_cons, List.getElem?_cons_succ, List.getElem?_cons_zero, List.filterMap_nil]
            refine app_its rfl _ _ rfl (base := 0) (n := vs.length) (xs := vs) (ys := [x]) rfl HAT9.out.own rfl (Items.one HH9.out) (fun e => by cases e) rfl (by omega) (Nat.zero_le _) ?_
            intro A2 m2 c2 w10 hm2 ho hg hl
            obtain ⟨⟨hc10, hf10⟩, gs2, hat2, hb2, hg2⟩ := HpAt.grown (by decide) HAT9.out ho hg hl
            have hb3 := (below_butS HB9.out gs1).trans hb2
            have hg3 : ∀ i ∈ gs2, i ∈ gs1 ∨ wr.heap.size ≤ i := fun i hi => by
              rcases hg2 i hi with h | h
              · exact .inl h
              · have := HB9.out.size; exact .inr (by omega)
            have HAT2 := Lib.hid hat2
            have HB2 := Lib.hid hb3
            have HG2 := Lib.hid hg3
            have hci : (w10.setCell ⟨g, 1, none⟩ (.slice A2 m2 c2)).cell? ⟨g, 1, none⟩ = some (.slice A2 m2 c2) := World.cell?_setCell_same _ _ _ hc10
            have HM2 := Lib.hid hm2
            clear ho hg hl hat2 hb2 hg2 hb3 hg3 hm2
            go_wp2_with fail
            refine (rise_any HAT2.out (p0 := m2) (by rw [HM2.out]; exact upI_new HOF.out.ok x) (by rw [List.length_append, List.length_singleton]; omega) _ rfl).mono ?_
            rintro e w12 ⟨rfl, hmv⟩
            have HN : Hid (PuS w gs g m xs zs (k + 1) w12) := by
              have := push_one HOF.out HB1.out HG1.out HB2.out HG2.out rfl hmv
              rw [← HTK2.out] at this
              exact this
            clear hmv
            go_wp2_with fail
            go_roundw
            case rel => exact ⟨k + 1, by omega, by go_num, HN⟩
            case measure => simp [intOf]; omega
        · have hkn : k = j := by omega
          subst hkn
          have HE : Hid (WrO (fun w gs => HpS w gs g m (insAll xs zs)) gs w wr) := by
            obtain ⟨gs1, h1, h2, h3⟩ := HP.out
            rw [HTN.out] at h1
            exact ⟨gs1, h1, h2, h3⟩
          go_wp2_with fail
          go_ret
          exact ⟨rfl, HE.out⟩

theorem hpush_any (A : Option Addr) (n c : Nat) (zs : List It) (h : HpS w gs g m xs) (hz : Items w A n zs) (hfar : Far gs A n) (hm : 1 ≤ m ∧ m ≤ 8192) (hl : xs.length ≤ 8192) (hn : n ≤ 17592186044416) :
    Calls Try.prog 15 #[.pointer (some ⟨g, 0, none⟩), .slice A n c] w fun e w' => e = .returned (.int .i64 (pushN m xs zs)) ∧ WrO (fun w gs => HpS w gs g m (pushL m xs zs)) gs w w' := by
  unfold pushN pushL
  rw [hz.1]
  cases hb : goodAll zs with
  | false =>
    rw [if_neg (by simp), if_neg (by simp)]
    exact (push_form g A n c zs w hz hn hb).mono fun e w' h2 => ⟨h2.1, .same (h.below h2.2) h2.2⟩
  | true =>
    rw [if_pos rfl, if_pos rfl]
    by_cases hf : m - xs.length < n
    · rw [if_pos hf, if_pos hf]
      exact (push_full A n c zs h hz hn hb hm hl hf).mono fun e w' h2 => ⟨h2.1, .same (h.below h2.2) h2.2⟩
    · rw [if_neg hf, if_neg hf]
      exact push_ok A n c zs h hz hfar hb hm hl hf
end

end Go.Proofs.Ytmhmekmacdkdgaa
