/-
  Walks: the reference's NewHeap, Peek, Pop, Push.
-/
import Derived.Test.YtmhmekmacdkdgaaHpRefR
import Derived.Test.YtmhmekmacdkdgaaHpPush
import Derived.Test.YtmhmekmacdkdgaaRIt
namespace Go.Proofs.Ytmhmekmacdkdgaa
open Go.RowKit

abbrev HR : TypeId := 47
/-- The reference's heap at g holds the sorted row xs. -/
def HrS (w : World) (gs : List Nat) (g : Nat) (m : Int) (xs : List It) : Prop := Hp HR w gs g m xs ∧ Srd xs
section
variable {w w' : World} {gs hs : List Nat} {g : Nat} {m : Int} {xs : List It}
theorem HrS.butS (h : HrS w gs g m xs) (hb : ButS hs w w') (hn : ∀ k ∈ gs, k ∉ hs) : HrS w' gs g m xs := ⟨h.1.butS hb hn, h.2⟩
theorem HrS.below (h : HrS w gs g m xs) (hb : Below w.heap.size w w') : HrS w' gs g m xs := ⟨h.1.below hb, h.2⟩
theorem HrS.same (h : HrS w gs g m xs) (hk : ∀ k ∈ gs, w'.heap[k]? = w.heap[k]?) (hs : w.heap.size ≤ w'.heap.size) : HrS w' gs g m xs := ⟨h.1.same hk hs, h.2⟩
theorem HrS.lt (h : HrS w gs g m xs) : ∀ k ∈ gs, k < w.heap.size := h.1.lt
end

set_option maxHeartbeats 400000 in
theorem rnew_ok (m : Int) (w : World) (h : 1 ≤ m ∧ m ≤ 8192) :
    Calls Try.prog 9 #[.int .i64 m] w fun e w' => NewO (fun w gs g => HrS w gs g m []) e w w' := by
  have HN : Hid (NewO (fun w gs g => HrS w gs g m []) (.returned (.tuple #[.pointer (some ⟨w.heap.size, 0, none⟩), .int .i64 0])) w (w.alloc (.cells (hpC m none 0 0) 47))) :=
    ⟨w.heap.size, [w.heap.size], rfl, ⟨hp_made _ w m, List.Pairwise.nil⟩, (fun k hk => by simp at hk; omega), (Below.refl _ _).alloc (Nat.le_refl _) _⟩
  have h1 : ¬ m < 1 := by omega
  have h2 : ¬ 8192 < m := by omega
  clear h
  go_enter Try.func9, Try.ntmps9
  go_wp2_with fail
  go_ret2
  exact HN.out
set_option maxHeartbeats 400000 in
theorem rnew_no (m : Int) (w : World) (h : ¬ (1 ≤ m ∧ m ≤ 8192)) :
    Calls Try.prog 9 #[.int .i64 m] w fun e w' => e = .returned (.tuple #[.pointer none, .int .i64 1500]) ∧ w = w' := by
  by_cases h1 : m < 1
  · clear h
    go_enter Try.func9, Try.ntmps9
    go_wp2_with fail
    go_ret2
    exact ⟨rfl, rfl⟩
  · have h2 : 8192 < m := by omega
    clear h
    go_enter Try.func9, Try.ntmps9
    go_wp2_with fail
    go_ret2
    exact ⟨rfl, rfl⟩
section
variable {w : World} {gs : List Nat} {g : Nat} {m : Int} {xs : List It}
set_option maxRecDepth 100000 in
set_option maxHeartbeats 1000000 in
theorem rpeek_none (h : HrS w gs g m []) :
    Calls Try.prog 20 #[.pointer (some ⟨g, 0, none⟩)] w fun e w' => e = .returned (.tuple #[itV zeroIt, .int .i64 1502]) ∧ Below w.heap.size w w' := by
  obtain ⟨⟨A, c, h1⟩, _⟩ := h
  have hg := h1.st.lt
  have c1' : ∀ o, (w.alloc o).cell? ⟨g, 1, none⟩ = some (.slice A 0 c) := fun o => ((Below.refl _ w).alloc (Nat.le_refl _) o).cell hg |>.trans h1.c1
  have HAL : Hid (∀ o, Below w.heap.size w (w.alloc o)) := fun o => (Below.refl _ _).alloc (Nat.le_refl _) o
  clear h1
  go_enter Try.func20, Try.ntmps20
  go_wp2_with fail
  refine bodyPost_ret (ret_row rfl _ _ _ 34 (itA zeroIt) _ rfl (Has.made _ _ _) Try.underlying34 rfl (by exact Try.sizeItem)) rfl ?_
  exact ⟨rfl, HAL.out _⟩
set_option maxRecDepth 100000 in
set_option maxHeartbeats 1000000 in
theorem rpeek_some (h : HrS w gs g m xs) (h0 : 0 < xs.length) :
    Calls Try.prog 20 #[.pointer (some ⟨g, 0, none⟩)] w fun e w' => e = .returned (.tuple #[itV (nthI xs 0), .int .i64 0]) ∧ Below w.heap.size w w' := by
  obtain ⟨⟨A, c, h1⟩, _⟩ := h
  obtain ⟨b, rfl⟩ := h1.ablk h0
  have hx := h1.own.item (i := 0) h0
  have hg := h1.st.lt
  have c1' : ∀ o, (w.alloc o).cell? ⟨g, 1, none⟩ = some (.slice (some ⟨b, 0, none⟩) xs.length c) := fun o => ((Below.refl _ w).alloc (Nat.le_refl _) o).cell hg |>.trans h1.c1
  have HAL : Hid (∀ o, Below w.heap.size w (w.alloc o)) := fun o => (Below.refl _ _).alloc (Nat.le_refl _) o
  have HX : Hid (∀ o, (w.alloc o).rangeAt b 0 (itemL (nthI xs 0))) := fun o => rangeAt_keep (by simpa using hx) (by simp [itemL]) fun _ hp => ((Below.refl _ w).alloc (Nat.le_refl _) o).cell hp
  clear h1 hx
  generalize nthI xs 0 = x at HX ⊢
  generalize xs.length = n at c1' h0
  go_enter Try.func20, Try.ntmps20
  go_wp2_with (first | (refine load_item rfl _ rfl b 0 (by simp [go_sem]) (HX.out _) ?_) | (refine store_hasIt rfl _ _ rfl w.heap.size (z := x) rfl rfl (Has.made _ _ _) rfl ?_; rw [World.setRow_alloc_new]))
  refine bodyPost_ret (ret_row rfl _ _ _ 34 (itA x) _ rfl (Has.made _ _ _) Try.underlying34 rfl (by exact Try.sizeItem)) rfl ?_
  exact ⟨rfl, HAL.out _⟩

set_option maxRecDepth 100000 in
set_option maxHeartbeats 1000000 in
theorem rpush_form (g : Nat) (A : Option Addr) (n c : Nat) (zs : List It) (w : World) (hz : Items w A n zs) (hn : n ≤ 17592186044416) (hb : goodAll zs = false) :
    Calls Try.prog 16 #[.pointer (some ⟨g, 0, none⟩), .slice A n c] w fun e w' => e = .returned (.int .i64 1500) ∧ Below w.heap.size w w' := by
  have HZ := Lib.hid hz
  obtain ⟨q, hq1, hq2⟩ := goodAll_not hb
  rw [hz.1] at hq1
  have HQ := Lib.hid hq2
  clear hz hq2 hb
  go_enter Try.func16, Try.ntmps16
  go_wp2_with fail
  go_loopw [5] (fun i wr => ∃ j : Nat, j ≤ q ∧ i = .int .i64 j ∧ Hid (Below w.heap.size w wr)) (fun i _ => n - (intOf i).toNat)
  case atStart => exact ⟨0, Nat.zero_le _, rfl, Below.refl _ _⟩
  case round =>
    obtain ⟨j, hj, rfl, HW⟩ := hrel
    obtain ⟨b, o, rfl, hi⟩ := (HZ.out.below HW.out).2 (by omega)
    have HX := Lib.hid (hi j (by omega))
    clear hi
    cases hbx : itemB (nthI zs j) with
    | true =>
      have hjq : j < q := by
        rcases Nat.lt_or_ge j q with h | h
        · exact h
        · have e : j = q := by omega
          rw [e, HQ.out] at hbx; cases hbx
      have HI : Hid (∀ w', Calls Try.prog 30 #[itV (nthI zs j)] w' fun e w2 => e = .returned (.bool true) ∧ Below w'.heap.size w' w2) := fun w' => by rw [← hbx]; exact ritem_any _ _
      clear hbx
      generalize nthI zs j = x at HX HI
      go_wp2_with (first | (refine load_item rfl _ rfl b (o + j * 4) (by simp [go_sem]) HX.out ?_))
      refine (HI.out _).mono ?_
      rintro e w2 ⟨rfl, hb2⟩
      have HW2 := Lib.hid (HW.out.trans (hb2.mono HW.out.size))
      clear hb2
      go_wp2_with fail
      go_roundw
      case rel => exact ⟨j + 1, by omega, by go_num, HW2⟩
      case measure => simp [intOf]; omega
    | false =>
      have HI : Hid (∀ w', Calls Try.prog 30 #[itV (nthI zs j)] w' fun e w2 => e = .returned (.bool false) ∧ Below w'.heap.size w' w2) := fun w' => by rw [← hbx]; exact ritem_any _ _
      clear hbx
      generalize nthI zs j = x at HX HI
      go_wp2_with (first | (refine load_item rfl _ rfl b (o + j * 4) (by simp [go_sem]) HX.out ?_))
      refine (HI.out _).mono ?_
      rintro e w2 ⟨rfl, hb2⟩
      have HW2 := Lib.hid (HW.out.trans (hb2.mono HW.out.size))
      clear hb2
      go_wp2_with fail
      go_ret
      exact ⟨rfl, HW2.out⟩

/-- The row is another. -/
theorem HpAt.turned {w1 w2 : World} {A A' : Option Addr} {c c' k : Nat} {us vs : List It} (h : HpAt HR w1 gs g m us A c) (hb : Below w1.heap.size w1 w2) (ho : OwnIt w2 w1.heap.size (.slice A' k c') vs) :
    (w2.cell? ⟨g, 1, none⟩ = some (.slice A us.length c) ∧ w2.frozen? ⟨g, 1, none⟩ = false) ∧ ∃ gs', HpAt HR (w2.setCell ⟨g, 1, none⟩ (.slice A' k c')) gs' g m vs A' c' ∧ ButS gs w1 (w2.setCell ⟨g, 1, none⟩ (.slice A' k c')) ∧ ∀ i ∈ gs', i ∈ gs ∨ w1.heap.size ≤ i := by
  have hst : Has w2 g HR (hpC m A us.length c) := h.st.below hb h.st.lt
  have hk := ho.len
  subst hk
  have hb2 := setCell_butS w2 g 1 (.slice A' vs.length c')
  have hb3 : ButS gs w1 (w2.setCell ⟨g, 1, none⟩ (.slice A' vs.length c')) := (below_butS hb gs).andThen hb2 (fun i hi => .inl (by have e2 : i = g := (by simpa using hi); rw [e2]; exact h.inG))
  have hst2 : Has (w2.setCell ⟨g, 1, none⟩ (.slice A' vs.length c')) g HR (hpC m A' vs.length c') := hst.put 1 (.slice A' vs.length c')
  have ho2 : OwnIt w2 0 (.slice A' vs.length c') vs := ho.lo2 (Nat.zero_le _)
  have hne : ∀ i, (Value.slice A' vs.length c').ownBlock = some i → i ∉ [g] := fun i hi => by
    have := (World.ownsRow.lt ho i hi).1
    have hg := h.st.lt
    simp only [List.mem_singleton]
    omega
  have ho3 := ho2.butS hb2 hne
  rcases ho.shape with ⟨rfl, _, _, _⟩ | ⟨b', rfl⟩
  · exact ⟨⟨hst.cell 1, hst.mark 1⟩, gs, ⟨hst2, ho3, h.inG, (fun ad e => by cases e), fun i hi => Nat.lt_of_lt_of_le (h.lt i hi) hb3.size⟩, hb3, fun i hi => .inl hi⟩
  · have hlt := World.ownsRow.lt ho b' (by simp [Value.ownBlock])
    refine ⟨⟨hst.cell 1, hst.mark 1⟩, b' :: gs, ⟨hst2, ho3, List.mem_cons_of_mem _ h.inG, (fun ad e => by injection e with e; subst e; exact List.mem_cons_self ..), ?_⟩, hb3, ?_⟩
    · intro i hi
      rcases List.mem_cons.1 hi with rfl | hi
      · simpa [World.setCell] using hlt.2
      · exact Nat.lt_of_lt_of_le (h.lt i hi) hb3.size
    · intro i hi
      rcases List.mem_cons.1 hi with rfl | hi
      · exact .inr hlt.1
      · exact .inl hi

set_option maxRecDepth 100000 in
set_option maxHeartbeats 1000000 in
theorem rpush_full (A : Option Addr) (n c : Nat) (zs : List It) (h : HrS w gs g m xs) (hz : Items w A n zs) (hn : n ≤ 17592186044416) (hb : goodAll zs = true) (hm : 1 ≤ m ∧ m ≤ 8192) (hl : xs.length ≤ 8192) (hf : m - xs.length < n) :
    Calls Try.prog 16 #[.pointer (some ⟨g, 0, none⟩), .slice A n c] w fun e w' => e = .returned (.int .i64 1501) ∧ Below w.heap.size w w' := by
  have HZ := Lib.hid hz
  have HG : Hid (∀ i, i < n → itemB (nthI zs i) = true) := fun i hi => goodAll_at hb (by rw [hz.1]; exact hi)
  obtain ⟨⟨A0, c0, h1⟩, _⟩ := h
  have HH : Hid (∀ w', Below w.heap.size w w' → HpAt HR w' gs g m xs A0 c0) := fun w' hb => h1.below hb
  clear hz hb h1
  go_enter Try.func16, Try.ntmps16
  go_wp2_with fail
  go_loopw [5] (fun i wr => ∃ j : Nat, j ≤ n ∧ i = .int .i64 j ∧ Hid (Below w.heap.size w wr)) (fun i _ => n - (intOf i).toNat)
  case atStart => exact ⟨0, Nat.zero_le _, rfl, Below.refl _ _⟩
  case round =>
    obtain ⟨j, hj, rfl, HW⟩ := hrel
    by_cases hlt : j < n
    · obtain ⟨b, o, rfl, hi⟩ := (HZ.out.below HW.out).2 (by omega)
      have HX := Lib.hid (hi j (by omega))
      clear hi
      have HI : Hid (∀ w', Calls Try.prog 30 #[itV (nthI zs j)] w' fun e w2 => e = .returned (.bool true) ∧ Below w'.heap.size w' w2) := fun w' => by rw [← HG.out j hlt]; exact ritem_any _ _
      generalize nthI zs j = x at HX HI
      go_wp2_with (first | (refine load_item rfl _ rfl b (o + j * 4) (by simp [go_sem]) HX.out ?_))
      refine (HI.out _).mono ?_
      rintro e w2 ⟨rfl, hb2⟩
      have HW2 := Lib.hid (HW.out.trans (hb2.mono HW.out.size))
      clear hb2
      go_wp2_with fail
      go_roundw
      case rel => exact ⟨j + 1, by omega, by go_num, HW2⟩
      case measure => simp [intOf]; omega
    · have hjn : j = n := by omega
      subst hjn
      have c0' := (HH.out _ HW.out).c0
      have c1' := (HH.out _ HW.out).c1
      go_wp2_with fail
      go_quiet (fail)
      go_wp2_with fail
      go_ret
      exact ⟨rfl, below_drewN HW.out _⟩

/-- In the midst of pushing: the first j are in. -/
def PuR (w0 : World) (gs : List Nat) (g : Nat) (m : Int) (xs zs : List It) (j : Nat) (w : World) : Prop :=
  ∃ gs', HrS w gs' g m (insAll xs (zs.take j)) ∧ ButS gs w0 w ∧ ∀ k ∈ gs', k ∈ gs ∨ w0.heap.size ≤ k

set_option maxRecDepth 100000 in
set_option maxHeartbeats 1000000 in
theorem rpush_ok (A : Option Addr) (n c : Nat) (zs : List It) (h : HrS w gs g m xs) (hz : Items w A n zs) (hfar : Far gs A n) (hb : goodAll zs = true) (hm : 1 ≤ m ∧ m ≤ 8192) (hl : xs.length ≤ 8192) (hf : ¬ m - xs.length < n) :
    Calls Try.prog 16 #[.pointer (some ⟨g, 0, none⟩), .slice A n c] w fun e w' => e = .returned (.int .i64 0) ∧ WrO (fun w gs => HrS w gs g m (insAll xs zs)) gs w w' := by
  have HZ := Lib.hid hz
  have hzl := hz.1
  have HZB : Hid (∀ w', ButS gs w w' → Items w' A n zs) := fun w' hb => hz.butS hb hfar
  have HG : Hid (∀ i, i < n → itemB (nthI zs i) = true) := fun i hi => goodAll_at hb (by rw [hz.1]; exact hi)
  have HP0 : Hid (∀ w', Below w.heap.size w w' → PuR w gs g m xs zs 0 w') := fun w' hb => ⟨gs, h.below hb, below_butS hb gs, fun k hk => .inl hk⟩
  have HLT : Hid (∀ j, j < n → (insAll xs (zs.take j)).length < 8192) := fun j hj => by rw [insAll_len, List.length_take]; omega
  have HTK : Hid (∀ j, j < n → insAll xs (zs.take (j + 1)) = ins (nthI zs j) (insAll xs (zs.take j))) := fun j hj => insAll_take xs (by omega)
  have HTN : Hid (zs.take n = zs) := List.take_of_length_le (by omega)
  obtain ⟨⟨A0, c0, h1⟩, _⟩ := h
  have HH : Hid (∀ w', Below w.heap.size w w' → HpAt HR w' gs g m xs A0 c0) := fun w' hb => h1.below hb
  have hn : n ≤ 8192 := by omega
  clear hz hb h1 hfar hzl
  go_enter Try.func16, Try.ntmps16
  go_wp2_with fail
  go_loopw [5] (fun i wr => ∃ j : Nat, j ≤ n ∧ i = .int .i64 j ∧ Hid (Below w.heap.size w wr)) (fun i _ => n - (intOf i).toNat)
  case atStart => exact ⟨0, Nat.zero_le _, rfl, Below.refl _ _⟩
  case round =>
    obtain ⟨j, hj, rfl, HW⟩ := hrel
    by_cases hlt : j < n
    · obtain ⟨b, o, rfl, hi⟩ := (HZ.out.below HW.out).2 (by omega)
      have HX := Lib.hid (hi j (by omega))
      clear hi
      have HI : Hid (∀ w', Calls Try.prog 30 #[itV (nthI zs j)] w' fun e w2 => e = .returned (.bool true) ∧ Below w'.heap.size w' w2) := fun w' => by rw [← HG.out j hlt]; exact ritem_any _ _
      generalize nthI zs j = x at HX HI
      go_wp2_with (first | (refine load_item rfl _ rfl b (o + j * 4) (by simp [go_sem]) HX.out ?_))
      refine (HI.out _).mono ?_
      rintro e w2 ⟨rfl, hb2⟩
      have HW2 := Lib.hid (HW.out.trans (hb2.mono HW.out.size))
      clear hb2
      go_wp2_with fail
      go_roundw
      case rel => exact ⟨j + 1, by omega, by go_num, HW2⟩
      case measure => simp [intOf]; omega
    · have hjn : j = n := by omega
      subst hjn
      have c0' := (HH.out _ HW.out).c0
      have c1' := (HH.out _ HW.out).c1
      go_wp2_with fail
      go_quiet (fail)
      have HP1 : Hid (∀ q, PuR w gs g m xs zs 0 (wr.drewN q)) := fun q => HP0.out _ (below_drewN HW.out q)
      clear c0' c1' HH HP0 HW
      go_wp2_with fail
      clear hf
      go_loopw [6] (fun i wr => ∃ k : Nat, k ≤ j ∧ i = .int .i64 k ∧ Hid (PuR w gs g m xs zs k wr)) (fun i _ => j - (intOf i).toNat)
      case atStart => exact ⟨0, Nat.zero_le _, rfl, HP1.out _⟩
      case round =>
        clear HP1
        obtain ⟨k, hk, rfl, HP⟩ := hrel
        by_cases hlt2 : k < j
        · obtain ⟨gs1, ⟨⟨A1, c1, hat⟩, hsr⟩, hb1, hg1⟩ := HP.out
          obtain ⟨b, o, rfl, hi⟩ := (HZB.out _ hb1).2 (by omega)
          have HX := Lib.hid (hi k (by omega))
          have hvl : (insAll xs (zs.take k)).length ≤ 8192 := Nat.le_of_lt (HLT.out k hlt2)
          have HTK2 := Lib.hid (HTK.out k hlt2)
          have HAT := Lib.hid hat
          have HSR := Lib.hid hsr
          have HB1 := Lib.hid hb1
          have HG1 := Lib.hid hg1
          clear hi hat hb1 hg1 HP hsr
          generalize nthI zs k = x at HX HTK2
          generalize insAll xs (zs.take k) = us at HAT HTK2 HSR hvl
          go_upto_region 11 with fail
          refine hrp11_any (g := g) (b := b) (f := o) (k1 := k) (nz := j) (cz := c) (n := us.length) (c := c1) (B := wr.heap.size) (m := m) (A := A1) (x := x) (xs := us) ⟨rfl, rfl, rfl, rfl, rfl, HAT.out.st, HAT.out.own, HSR.out, hvl, HX.out, hlt2⟩ (by kernel_rfl) ?_
          intro E d w9 hB9 ho9
          obtain ⟨⟨hc9, hf9⟩, gs2, hat2, hb2, hg2⟩ := HAT.out.turned hB9 ho9
          have HN : Hid (PuR w gs g m xs zs (k + 1) (w9.setCell ⟨g, 1, none⟩ (.slice E (us.length + 1) d))) := by
            have hs := HB1.out.size
            refine ⟨gs2, ⟨⟨E, d, ?_⟩, ?_⟩, HB1.out.andThen hb2 HG1.out, fun i hi => ?_⟩
            · rw [HTK2.out]; exact hat2
            · rw [HTK2.out]; exact ins_srd x HSR.out
            · rcases hg2 i hi with h | h
              · exact HG1.out i h
              · exact .inr (by omega)
          clear hB9 ho9 hat2 hb2 hg2
          simp only [putAll, Act.put, List.setIfInBounds_toArray, List.set_cons_succ, List.set_cons_zero, List.drop_succ_cons, List.drop_zero]
          go_wp2_with fail
          go_roundw
          case rel => exact ⟨k + 1, by omega, by go_num, HN⟩
          case measure => simp [intOf]; omega
        · have hkn : k = j := by omega
          subst hkn
          have HE : Hid (WrO (fun w gs => HrS w gs g m (insAll xs zs)) gs w wr) := by
            obtain ⟨gs1, h1, h2, h3⟩ := HP.out
            rw [HTN.out] at h1
            exact ⟨gs1, h1, h2, h3⟩
          go_wp2_with fail
          go_ret
          exact ⟨rfl, HE.out⟩
theorem rpush_any (A : Option Addr) (n c : Nat) (zs : List It) (h : HrS w gs g m xs) (hz : Items w A n zs) (hfar : Far gs A n) (hm : 1 ≤ m ∧ m ≤ 8192) (hl : xs.length ≤ 8192) (hn : n ≤ 17592186044416) :
    Calls Try.prog 16 #[.pointer (some ⟨g, 0, none⟩), .slice A n c] w fun e w' => e = .returned (.int .i64 (pushN m xs zs)) ∧ WrO (fun w gs => HrS w gs g m (pushL m xs zs)) gs w w' := by
  unfold pushN pushL
  rw [hz.1]
  cases hb : goodAll zs with
  | false =>
    rw [if_neg (by simp), if_neg (by simp)]
    exact (rpush_form g A n c zs w hz hn hb).mono fun e w' h2 => ⟨h2.1, .same (h.below h2.2) h2.2⟩
  | true =>
    rw [if_pos rfl, if_pos rfl]
    by_cases hf : m - xs.length < n
    · rw [if_pos hf, if_pos hf]
      exact (rpush_full A n c zs h hz hn hb hm hl hf).mono fun e w' h2 => ⟨h2.1, .same (h.below h2.2) h2.2⟩
    · rw [if_neg hf, if_neg hf]
      exact rpush_ok A n c zs h hz hfar hb hm hl hf
end

end Go.Proofs.Ytmhmekmacdkdgaa
