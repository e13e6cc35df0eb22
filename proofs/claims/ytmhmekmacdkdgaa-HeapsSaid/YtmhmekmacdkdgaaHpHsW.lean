/-
  Walk: Heaps.
-/
import Derived.Test.YtmhmekmacdkdgaaG15a
import Derived.Test.YtmhmekmacdkdgaaHpAwake
import Derived.Test.YtmhmekmacdkdgaaItSpo
import Derived.Test.YtmhmekmacdkdgaaMask
import Derived.Deep.DeepCutAuto
import Derived.Deep.CutBlock
import Derived.Deep.QuietTactic
namespace Go.Proofs.Ytmhmekmacdkdgaa
open Go.RowKit

set_option maxRecDepth 100000 in
set_option maxHeartbeats 1000000 in
theorem heaps_no (m : Int) (V1 V2 : Value) (w : World) (hm : ¬ (1 ≤ m ∧ m ≤ 8192)) :
    Calls Try.prog 3 #[.int .i64 m, V1, V2] w fun e w' => e = .returned (.bool true) ∧ Below w.heap.size w w' := by
  have HA := Lib.hid (awake_any w)
  have HN := Lib.hid (hnew_no m w hm)
  have HM := Lib.hid (rnew_no m w hm)
  clear hm
  go_enter Try.func3, Try.ntmps3
  go_wp2_with fail
  refine (HN.out).mono ?_; rintro e w1 ⟨rfl, rfl⟩
  go_wp2_with fail
  refine (HM.out).mono ?_; rintro e w1 ⟨rfl, rfl⟩
  go_wp2_with (go_at_call 10; refine (num0_any _ _).mono ?_; rintro e w' ⟨rfl, rfl⟩)
  refine (HA.out).mono ?_; rintro e w3 ⟨rfl, b3⟩
  go_wp2_with fail
  go_ret
  exact ⟨rfl, b3⟩

/-- The reference's heap beside a write of the program's. -/
theorem HrS.heldK {w0 w w' : World} {hs bs : List Nat} {g y : Nat} {m m' : Int} {xs ys : List It} (h : HrS w hs y m xs) (hk : ∀ k, (k ∈ bs ∨ k < w0.heap.size) → w'.heap[k]? = w.heap[k]?) (hp : HpK w0 bs g m' ys w') (hsub : ∀ k ∈ hs, k ∈ bs) : HrS w' hs y m xs := by
  obtain ⟨gs, k1, k2, k3, k4⟩ := hp
  obtain ⟨⟨A, c, h1⟩, h2⟩ := h
  have hh : ∀ k ∈ hs, w'.heap[k]? = w.heap[k]? := fun k e => hk k (.inl (hsub k e))
  exact ⟨⟨A, c, (hh y h1.inG).trans h1.st, h1.own.same (fun k e => hh k (h1.own.blks h1.inA k e)), h1.inG, h1.inA, fun k e => k4 k (hsub k e)⟩, h2⟩
/-- The reference has written; what the law lent lies apart from all. -/
theorem DuoH.wroteB {w0 w w' : World} {bs hs : List Nat} {g y : Nat} {m : Int} {xs ys : List It} (hp : HpK w0 (bs ++ hs) g m xs w) (hf : ∀ k ∈ hs, w0.heap.size ≤ k) (hb : ButS hs w w') (h : ∃ hs', HrS w' hs' y m ys ∧ ∀ k ∈ hs', k ∈ hs ∨ w.heap.size ≤ k) (hx : xs = ys) (hr : (ys.length : Int) ≤ m) (hd : ∀ k ∈ bs, k ∉ hs) :
    ∃ hs', DuoH w0 g y m hs' ys w' ∧ HpK w0 (bs ++ hs') g m ys w' ∧ ∀ k ∈ bs, k ∉ hs' := by
  subst hx
  obtain ⟨hs', h1, h2⟩ := h
  obtain ⟨gs, k1, k2, k3, k4⟩ := hp
  have hz := k3.size
  have hk' : HpK w0 (bs ++ hs') g m xs w' := ⟨gs, k1.butS hb (fun k hk e => (k2 k hk).2 (List.mem_append_right _ e)), fun k hk => ⟨(k2 k hk).1, fun e => by
    rcases List.mem_append.1 e with e | e
    · exact (k2 k hk).2 (List.mem_append_left _ e)
    · rcases h2 k e with h3 | h3
      · exact (k2 k hk).2 (List.mem_append_right _ h3)
      · have := k1.lt k hk; omega⟩, hb.below k3 hz hf, fun b hb2 => by
    rcases List.mem_append.1 hb2 with e | e
    · exact Nat.lt_of_lt_of_le (k4 b (List.mem_append_left _ e)) hb.size
    · exact h1.lt b e⟩
  refine ⟨hs', ⟨hk'.less (fun b hb => List.mem_append_right _ hb), h1, fun k hk => ?_, hr⟩, hk', fun k hk e => ?_⟩
  · rcases h2 k hk with h3 | h3
    · exact hf k h3
    · omega
  · rcases h2 k e with h3 | h3
    · exact hd k hk h3
    · have := k4 k (List.mem_append_left _ hk); omega
theorem DuoH.spoilt {w0 w w' : World} {hs : List Nat} {g y q : Nat} {m : Int} {xs : List It} (h : DuoH w0 g y m hs xs w) (hk : HpK w0 ([q] ++ hs) g m xs w) (hq : ∀ k ∈ [q], k ∉ hs) (hlow : w0.heap.size ≤ q) (hb : ButS [q] w w') : DuoH w0 g y m hs xs w' := by
  obtain ⟨gs, k1, k2, k3, k4⟩ := hk
  have hz := k3.size
  refine ⟨⟨gs, k1.butS hb (fun k hk e => (k2 k hk).2 (List.mem_append_left _ e)), fun k hk => ⟨(k2 k hk).1, fun e => (k2 k hk).2 (List.mem_append_right _ e)⟩, hb.below k3 hz (fun k hk => by have e : k = q := (by simpa using hk); omega), fun b hb2 => Nat.lt_of_lt_of_le (k4 b (List.mem_append_right _ hb2)) hb.size⟩,
    h.rf.butS hb (fun k hk e => hq k e hk), h.far, h.room⟩
/-- The state between two rounds. -/
structure HsS (w : World) (g y : Nat) (m : Int) (wr : World) : Prop where
  duo : ∃ hs xs, DuoH w g y m hs xs wr

set_option maxRecDepth 100000 in
set_option maxHeartbeats 2000000 in
theorem heaps_ok (m : Int) (A : Option Addr) (n c : Nat) (xs0 : List It) (S : Option Addr) (n2 c2 : Nat) (st : List Int) (w : World) (hm : 1 ≤ m ∧ m ≤ 8192) (hx : Items w A n xs0) (hnil : A = none → c = 0 ∧ n = 0) (hnc : n ≤ c) (hc : c ≤ maxLen) (hr : Ints w S n2 st) (hn2 : n2 ≤ maxLen) :
    Calls Try.prog 3 #[.int .i64 m, .slice A n c, .slice S n2 c2] w fun e w' => e = .returned (.bool true) ∧ Below w.heap.size w w' := by
  unfold maxLen at hc hn2
  have HX := Lib.hid hx
  have HNIL := Lib.hid hnil
  have HR := Lib.hid hr
  have HM := Lib.hid hm
  have HAW := Lib.hid awake_any
  have HNE := Lib.hid (hnew_ok m w hm)
  have HRE := Lib.hid (fun w' => rnew_ok m w' hm)
  clear hx hnil hr hm
  go_enter Try.func3, Try.ntmps3
  go_wp2_with fail
  refine (HNE.out).mono ?_
  rintro e w1 h1
  obtain ⟨g, rfl, hk⟩ := hpK_new h1 (Below.refl w.heap.size w)
  have HK := Lib.hid hk
  clear h1 hk HNE
  go_wp2_with fail
  refine (HRE.out w1).mono ?_
  rintro e w2 ⟨y, hs, rfl, h1, h2, h3⟩
  have HS : Hid (HsS w g y m w2) := ⟨hs, [], ⟨by
    have hz := HK.out.size
    obtain ⟨gs, k1, k2, k3, k4⟩ := HK.out
    exact ⟨gs, k1.below h3, fun k hk => ⟨(k2 k hk).1, fun e => by have := h2 k e; have := k1.lt k hk; omega⟩, k3.trans (h3.mono hz), fun b hb => h1.lt b hb⟩,
    h1, fun k hk => by have := h2 k hk; have := HK.out.size; omega, by have h := HM.out; simp; omega⟩⟩
  clear h1 h2 h3 HK HRE
  go_wp2_with (go_at_call 10; refine (num0_any _ _).mono ?_; rintro e w' ⟨rfl, rfl⟩)
  go_loopw [11, 12] (fun at_ i wr => ∃ j a : Nat, j ≤ 60 ∧ i = .int .i64 j ∧ at_ = .int .i64 a ∧ a ≤ n ∧ a ≤ 3 * j ∧ Hid (HsS w g y m wr)) (fun _ i _ => 60 - (intOf i).toNat)
  case atStart => exact ⟨0, 0, by omega, rfl, rfl, by omega, by omega, HS⟩
  case round =>
    clear HS
    obtain ⟨j, a, hj, rfl, rfl, han, haj, HS⟩ := hrel
    obtain ⟨hs, xs, hduo⟩ := HS.out.duo
    have HD := Lib.hid hduo
    clear hduo HS
    by_cases hlt : j < n2 ∧ j < 60
    · obtain ⟨hjn, hj60⟩ := hlt
      obtain ⟨b, f, rfl, hc⟩ := HR.out.2 (by omega)
      have hcx : wr.cell? ⟨b, f + j, none⟩ = some (.int .i64 (nth st j)) := ((HD.out.hp.keep).cell (block_lt_of_cell (hc j (by omega)))).trans (hc j (by omega))
      clear hc
      generalize nth st j = x at hcx
      have hjn2 : (j : Int) < (n2 : Int) := by omega
      obtain ⟨r, hr⟩ : ∃ r, bits .and .i64 x 3 = r := ⟨_, rfl⟩
      obtain ⟨bk, hbk⟩ : ∃ bk : Bool, (r == 0) = bk := ⟨_, rfl⟩
      go_upto_if 69 with fail
      have hroom : xs.length ≤ 8192 := by have := HD.out.room; have := HM.out; omega
      go_cut [11] (fun at_ wx => ∃ (a2 : Nat) (hs2 : List Nat) (xs2 : List It), at_ = .int .i64 a2 ∧ a2 ≤ n ∧ a2 ≤ 3 * (j + 1) ∧ Hid (DuoH w g y m hs2 xs2 wx))
      case first =>
        cases bk with
        | true =>
          have HC := Lib.hid (HD.out.hp.popA hroom)
          have HCR : Hid (∀ w', HrS w' hs y m xs → Calls Try.prog 13 #[.pointer (some ⟨y, 0, none⟩)] w' fun e w2 => e = .returned (.tuple #[itV (nthI xs 0), .int .i64 (pn xs)]) ∧ WrO (fun w gs => HrS w gs y m xs.tail) hs w' w2) := fun w' h => h.popA hroom
          have HRM : Hid ((xs.tail.length : Int) ≤ m) := by have := HD.out.room; show _ ≤ _; rw [List.length_tail]; omega
          generalize nthI xs 0 = x0 at HC HCR
          generalize pn xs = e0 at HC HCR
          go_wp2_with fail
          refine (HC.out).mono ?_
          rintro e w3 ⟨rfl, h3, h3b⟩
          have HK3 : Hid (∀ o, HpK w hs g m xs.tail (w3.alloc o)) := fun o => h3.below ((Below.refl _ _).alloc (Nat.le_refl _) o)
          have HR3 : Hid (∀ o, HrS (w3.alloc o) hs y m xs) := fun o => (HD.out.rf.heldK h3b h3 (fun _ h => h)).below ((Below.refl _ _).alloc (Nat.le_refl _) o)
          have hlt3 : Hid (∀ k ∈ hs, k ≠ w3.heap.size) := fun k hk e => by
            obtain ⟨gs, k1, k2, k3, k4⟩ := h3
            have := k4 k hk; omega
          have HX3 := Lib.hid (Has.made w3 34 (itA x0))
          clear h3 h3b HC
          go_upto_region 13 with (refine store_hasIt rfl _ _ rfl w3.heap.size (z := x0) rfl rfl (Has.made _ _ _) rfl ?_; rw [World.setRow_alloc_new])
          have HK4 := Lib.hid (HK3.out (.cells (itA x0) 34))
          have HR4 := Lib.hid (HR3.out (.cells (itA x0) 34))
          generalize w3.alloc (.cells (itA x0) 34) = w4 at HX3 HK4 HR4 ⊢
          generalize w3.heap.size = p13 at HX3 hlt3 ⊢
          clear HK3 HR3
          go_wp2_with fail
          refine (HCR.out w4 HR4.out).mono ?_
          rintro e w5 ⟨rfl, hs5, k1, k2, k3⟩
          have HX5 : Hid (∀ o, Has (w5.alloc o) p13 34 (itA x0)) := fun o => (HX3.out.butS k2 (fun hh => hlt3.out _ hh rfl)).alloc o
          have HD5 : Hid (∀ o, ∃ hs', DuoH w g y m hs' xs.tail (w5.alloc o)) := fun o => by
            obtain ⟨hs', h⟩ := DuoH.wrote (bs := []) HK4.out HD.out.far k2 ⟨hs5, k1, k3⟩ rfl HRM.out
            exact ⟨hs', h.below ((Below.refl _ _).alloc (Nat.le_refl _) o)⟩
          have HY5 := Lib.hid (Has.made w5 34 (itA x0))
          clear k1 k2 k3 HX3 HK4 HR4 HCR
          go_upto_region 14 with (refine store_hasIt rfl _ _ rfl w5.heap.size (z := x0) rfl rfl (Has.made _ _ _) rfl ?_; rw [World.setRow_alloc_new])
          have HX6 := Lib.hid (HX5.out (.cells (itA x0) 34))
          have HD6 := Lib.hid (HD5.out (.cells (itA x0) 34))
          generalize w5.alloc (.cells (itA x0) 34) = w6 at HY5 HX6 HD6 ⊢
          generalize w5.heap.size = p15 at HY5 ⊢
          clear HX5 HD5
          go_wp2_with (first
            | (go_at_call 10; refine (num0_any _ _).mono ?_; rintro e w' ⟨rfl, rfl⟩)
            | (refine load_hasIt rfl _ rfl p13 (y := x0) rfl HX6.out ?_)
            | (refine load_hasIt rfl _ rfl p15 (y := x0) rfl HY5.out ?_))
          go_meet
          obtain ⟨hs', h⟩ := HD6.out
          exact ⟨a, hs', xs.tail, rfl, han, by omega, h⟩
        | false =>
          obtain ⟨t, ht, ht3⟩ : ∃ t : Nat, bits .and .i64 (x / 4) 3 = (t : Int) ∧ t ≤ 3 := ⟨(bits .and .i64 (x / 4) 3).toNat, by rw [mask3]; omega, by rw [mask3]; omega⟩
          obtain ⟨k, hk, hak, hkn, hk3⟩ : ∃ k : Nat, min (n : Int) ((a : Int) + (t : Int)) = k ∧ a ≤ k ∧ k ≤ n ∧ k ≤ a + 3 := ⟨min n (a + t), by omega, by omega, by omega, by omega⟩
          have HKK := Lib.hid hk
          clear hk
          go_upto_region 17 with fail
          rw [HKK.out]
          clear HKK ht hcx
          have hkc : k ≤ c := by omega
          have hl3 : k - a ≤ 3 := by omega
          have HIT : Hid (∀ w', Below w.heap.size w w' → Items w' (partA A a c) (k - a) ((xs0.drop a).take (k - a))) := fun w' hb => (HX.out.part hak hkn hnc).keep (fun p hp => hb.cell hp)
          have HFR : Hid (∀ ad, 0 < k - a → partA A a c = some ad → ad.block < w.heap.size) := fun ad h0 e => by
            obtain ⟨b', o', e2, hi⟩ := (HX.out.part hak hkn hnc).2 h0
            rw [e2] at e
            injection e with e
            subst e
            exact block_lt_of_cell (hi 0 h0 0 _ rfl)
          generalize (xs0.drop a).take (k - a) = zs at HIT
          have HPN : Hid (partA A a c = none → c - a = 0 ∧ k - a = 0) := fun e => partA_none HNIL.out hak hkn e
          have hkp := HD.out.hp.keep
          have HLD := Lib.hid (lenditems_any (partA A a c) (k - a) (c - a) zs wr (HIT.out wr hkp) (by omega) HPN.out)
          clear hkp
          go_wp2_with (refine cut_midIt rfl _ _ _ rfl (a := a) (k := k) rfl rfl rfl hak hkc ?_)
          refine (HLD.out).mono ?_
          rintro e w3 ⟨L, lc, rfl, ho3, hb3⟩
          have HO3 := Lib.hid ho3
          have HB3 := Lib.hid hb3
          clear ho3 hb3 HLD
          have hlen3 := HO3.out.len
          obtain ⟨q, rfl⟩ : ∃ q, L = some ⟨q, 0, none⟩ := by
            rcases HO3.out.shape with ⟨_, h1, _⟩ | h1
            · omega
            · exact h1
          have hq := World.ownsRow.lt HO3.out q (by simp [Value.ownBlock])
          have hwr := HD.out.hp.size
          have hqw : w.heap.size ≤ q := by omega
          have HK3 := Lib.hid (HD.out.hp.since HB3.out hq.1 hq.2)
          have hdis : Hid (∀ i ∈ [q], i ∉ hs) := fun i hi e => by
            have h1 : i = q := by simpa using hi
            have := HD.out.rf.lt i e
            omega
          have hzl : zs.length = k - a := (HIT.out w (Below.refl _ _)).1
          have HZ3 : Hid (Items w3 (some ⟨q, 0, none⟩) (k - a) zs) := by
            have h := HO3.out.items.take (k := k - a) (by omega)
            rw [List.take_append_of_le_length (by omega), List.take_of_length_le (by omega)] at h
            exact h
          have HC := Lib.hid (HK3.out.push (some ⟨q, 0, none⟩) (k - a) lc zs HZ3.out (fun ad _ e => by injection e with e; subst e; exact .inl (List.mem_cons_self ..)) HM.out hroom (by omega))
          obtain ⟨N, hN⟩ : ∃ N, pushN m xs zs = N := ⟨_, rfl⟩
          obtain ⟨X, hX⟩ : ∃ X, pushL m xs zs = X := ⟨_, rfl⟩
          have HN := Lib.hid hN
          have HXX := Lib.hid hX
          have HRX : Hid ((X.length : Int) ≤ m) := by show _ ≤ _; rw [← hX]; exact pushL_room HD.out.room
          clear hN hX hlen3 hq hzl HZ3
          go_wp2_with fail
          refine (HC.out).mono ?_
          rintro e w4 ⟨rfl, h4, h4b⟩
          rw [HN.out]
          rw [HXX.out] at h4
          have HK4 := Lib.hid h4
          have HR4 : Hid (HrS w4 hs y m xs) := (HD.out.rf.below HB3.out).heldK h4b h4 (fun _ h => List.mem_cons_of_mem _ h)
          have HO4 : Hid (OwnIt w4 wr.heap.size (.slice (some ⟨q, 0, none⟩) (k - a + 2) lc) (zs ++ [markIt, markIt])) := HO3.out.same (fun i hi => h4b i (.inl (by
            have : q = i := by simpa [Value.ownBlock] using hi
            simp [this])))
          clear h4 h4b HC HK3 HO3
          go_upto_region 19 with fail
          refine hhs19_any (hs := hs) (y := y) (n := n) (c := c) (i := a) (k := k) (lc := lc) (base := wr.heap.size) (B := w4.heap.size) (m := m) (N := N) (xs := xs) (xs' := X) (zs := zs) (A := A) (L := some ⟨q, 0, none⟩)
            ⟨rfl, rfl, rfl, rfl, rfl, rfl, rfl, rfl, fun i hi => HR4.out.lt i hi, HR4.out, HO4.out, HIT.out w4 HK4.out.keep, fun i hi e => hdis.out i (by
                have : q = i := by simpa [Value.ownBlock] using hi
                simp [this]) e, fun ad h0 e hh => by
                have h1 := HFR.out ad h0 e
                have h2 := HD.out.far _ hh
                omega, hak, hkc, by omega, HM.out, hroom, HN.out, HXX.out⟩ (by kernel_rfl) ?_
          intro w9 hI
          obtain ⟨hs9, hd9, hk9, hq9⟩ := DuoH.wroteB (bs := [q]) HK4.out HD.out.far hI.gr hI.st.post rfl HRX.out hdis.out
          have HD9 := Lib.hid hd9
          have HK9 := Lib.hid hk9
          have HQ9 := Lib.hid hq9
          have HO9 : Hid (OwnIt w9 wr.heap.size (.slice (some ⟨q, 0, none⟩) (k - a) lc) ((zs ++ [markIt, markIt]).take (k - a))) := hI.st.2.1.firsts (by omega)
          have HSP := Lib.hid (spoilitems_any q (k - a) lc _ _ w9 HO9.out (by omega))
          clear hI hd9 hk9 hq9 HK4 HR4 HO4 HN HXX HO9
          simp only [putAll, Act.put, List.setIfInBounds_toArray, List.set_cons_succ, List.set_cons_zero, List.drop_succ_cons, List.drop_zero]
          go_wp2_with fail
          refine (HSP.out).mono ?_
          rintro e w10 ⟨rfl, hbut⟩
          have HD10 := Lib.hid (HD9.out.spoilt HK9.out HQ9.out hqw hbut)
          clear hbut HD9 HK9 HQ9 HSP
          go_wp2_with fail
          go_meet
          exact ⟨k, hs9, X, rfl, hkn, by omega, HD10⟩
      case rest =>
        obtain ⟨a2, hs2, xs2, rfl, ha2, ha3, HD2⟩ := hcut
        obtain ⟨wB, hwB⟩ : ∃ u, u = wc := ⟨_, rfl⟩
        subst hwB
        clear HD hcx hr hbk hroom
        have hroom2 : xs2.length ≤ 8192 := by have := HD2.out.room; have := HM.out; omega
        have HC := Lib.hid (HD2.out.hp.peekA hroom2)
        have HCR : Hid (∀ w', HrS w' hs2 y m xs2 → Calls Try.prog 20 #[.pointer (some ⟨y, 0, none⟩)] w' fun e w2 => e = .returned (.tuple #[itV (nthI xs2 0), .int .i64 (pn xs2)]) ∧ Below w'.heap.size w' w2) := fun w' h => h.peekA
        generalize nthI xs2 0 = x0 at HC HCR
        generalize pn xs2 = e0 at HC HCR
        go_wp2_with fail
        refine (HC.out).mono ?_
        rintro e w3 ⟨rfl, hb3⟩
        have HD3 : Hid (∀ o, DuoH w g y m hs2 xs2 (w3.alloc o)) := fun o => HD2.out.below (below_alloc hb3 (Nat.le_refl _) o)
        have HX3 := Lib.hid (Has.made w3 34 (itA x0))
        clear hb3 HC HD2
        go_upto_region 24 with (refine store_hasIt rfl _ _ rfl w3.heap.size (z := x0) rfl rfl (Has.made _ _ _) rfl ?_; rw [World.setRow_alloc_new])
        have HD4 := Lib.hid (HD3.out (.cells (itA x0) 34))
        generalize w3.alloc (.cells (itA x0) 34) = w4 at HX3 HD4 ⊢
        generalize w3.heap.size = p20 at HX3 ⊢
        clear HD3
        go_wp2_with fail
        refine (HCR.out w4 HD4.out.rf).mono ?_
        rintro e w5 ⟨rfl, hb5⟩
        have HD5 : Hid (∀ o, DuoH w g y m hs2 xs2 (w5.alloc o)) := fun o => HD4.out.below (below_alloc hb5 (Nat.le_refl _) o)
        have HX5 : Hid (∀ o, Has (w5.alloc o) p20 34 (itA x0)) := fun o => (HX3.out.below hb5 HX3.out.lt).alloc o
        have HY5 := Lib.hid (Has.made w5 34 (itA x0))
        clear hb5 HD4 HX3 HCR
        go_upto_region 25 with (refine store_hasIt rfl _ _ rfl w5.heap.size (z := x0) rfl rfl (Has.made _ _ _) rfl ?_; rw [World.setRow_alloc_new])
        have HD6 := Lib.hid (HD5.out (.cells (itA x0) 34))
        have HX6 := Lib.hid (HX5.out (.cells (itA x0) 34))
        generalize w5.alloc (.cells (itA x0) 34) = w6 at HY5 HX6 HD6 ⊢
        generalize w5.heap.size = p22 at HY5 ⊢
        clear HD5 HX5
        obtain ⟨⟨E, d, hat⟩, hsr⟩ := HD6.out.rf
        have HST := Lib.hid hat.st
        clear hat hsr
        refine hhs25_any (g := g) (y := y) (p1 := p20) (p2 := p22) (nl := xs2.length) (d := d) (m := m) (r := e0) (E := E) (x := x0) ⟨rfl, rfl, rfl, rfl, rfl, rfl, rfl, HX6.out, HY5.out, HST.out, fun w' hb => (HD6.out.hp.below hb).len⟩ (by kernel_rfl) ?_
        intro w9 hB9
        have HN : Hid (HsS w g y m w9) := ⟨hs2, xs2, HD6.out.below hB9⟩
        clear hB9 HD6 HX6 HY5 HST
        simp only [putAll, Act.put, List.setIfInBounds_toArray, List.set_cons_succ, List.set_cons_zero]
        go_wp2_with fail
        go_roundw
        case rel => exact ⟨j + 1, a2, by omega, by go_num, rfl, ha2, ha3, HN⟩
        case measure => simp [intOf]; omega
    · have HE := Lib.hid HD.out.hp.keep
      have HAE := Lib.hid (HAW.out wr)
      by_cases hjn : j < n2
      · have hj60 : j = 60 := by omega
        have hjn2 : (j : Int) < (n2 : Int) := by omega
        subst hj60
        go_wp2_with fail
        refine (HAE.out).mono ?_; rintro e w3 ⟨rfl, b3⟩
        go_wp2_with fail
        go_ret
        exact ⟨rfl, HE.out.trans (b3.mono HE.out.size)⟩
      · have hjn2 : ¬ (j : Int) < (n2 : Int) := by omega
        go_wp2_with fail
        refine (HAE.out).mono ?_; rintro e w3 ⟨rfl, b3⟩
        go_wp2_with fail
        go_ret
        exact ⟨rfl, HE.out.trans (b3.mono HE.out.size)⟩

theorem heaps_any (m : Int) (A : Option Addr) (n c : Nat) (xs0 : List It) (S : Option Addr) (n2 c2 : Nat) (st : List Int) (w : World) (_ : (Lit.int .i64 m).wf = true) (hx : Items w A n xs0) (hnil : A = none → c = 0 ∧ n = 0) (hnc : n ≤ c) (hc : c ≤ maxLen) (hr : Ints w S n2 st) (hn2 : n2 ≤ maxLen) (_ : ∀ x ∈ st, (Lit.int .i64 x).wf = true) :
    Calls Try.prog 3 #[.int .i64 m, .slice A n c, .slice S n2 c2] w fun e w' => e = .returned (.bool true) ∧ Below w.heap.size w w' := by
  by_cases hm : 1 ≤ m ∧ m ≤ 8192
  · exact heaps_ok m A n c xs0 S n2 c2 st w hm hx hnil hnc hc hr hn2
  · exact heaps_no m _ _ w hm

end Go.Proofs.Ytmhmekmacdkdgaa
