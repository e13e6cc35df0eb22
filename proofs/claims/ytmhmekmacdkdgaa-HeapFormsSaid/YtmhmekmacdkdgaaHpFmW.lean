/-
  Walk: HeapForms.
-/
import Derived.Test.YtmhmekmacdkdgaaHpFmP
import Derived.Test.YtmhmekmacdkdgaaHpAwake
import Derived.Test.YtmhmekmacdkdgaaMask
namespace Go.Proofs.Ytmhmekmacdkdgaa
open Go.RowKit

theorem uOne (a : Int) (q : Nat) (hq : 0 < q) (hq2 : q ≤ 1000) : ∃ k : Nat, 1 ≤ k ∧ k ≤ q ∧ wrap64 (1 + wrap64 ((IntKind.u64.wrap a).tmod (q : Int))) = k := by
  obtain ⟨k, h1, h2⟩ := uLow a q hq hq2
  refine ⟨k + 1, by omega, by omega, ?_⟩
  rw [h2, IntWalk.wrap64_in _ ⟨by omega, by omega⟩]
  omega
/-- Behind the rows made. -/
structure FmS (w wB : World) (g k j : Nat) (A : Option Addr) (c : Nat) (wr : World) : Prop where
  hp : HpK w [] g k [] wB
  keep : Below wB.heap.size wB wr
  own : OwnIt wr wB.heap.size (.slice A j c) (fmXs j)

set_option maxRecDepth 100000 in
set_option maxHeartbeats 1000000 in
theorem heapforms_any (a0 a1 x : Int) (w : World) (_ : (Lit.int .i64 a0).wf = true) (_ : (Lit.int .i64 a1).wf = true) (_ : (Lit.int .i64 x).wf = true) :
    Calls Try.prog 5 #[.int .i64 a0, .int .i64 a1, .int .i64 x] w fun e w' => e = .returned (.bool true) ∧ Below w.heap.size w w' := by
  obtain ⟨r, hr, hr0, hr1⟩ : ∃ r : Int, bits .and .i64 x 1023 = r ∧ 0 ≤ r ∧ r ≤ 1023 := ⟨_, mask1023 x, by omega, by omega⟩
  have HU0 : Hid (∃ k : Nat, 1 ≤ k ∧ k ≤ 20 ∧ wrap64 (1 + wrap64 ((IntKind.u64.wrap a0).tmod 20)) = (k : Int)) := uOne a0 20 (by omega) (by omega)
  have HU1 : Hid (∃ k : Nat, 1 ≤ k ∧ k ≤ 30 ∧ wrap64 (1 + wrap64 ((IntKind.u64.wrap a1).tmod 30)) = (k : Int)) := uOne a1 30 (by omega) (by omega)
  have HA := Lib.hid (awake_any w)
  go_enter Try.func5, Try.ntmps5
  go_wp2_with fail
  refine (HA.out).mono ?_; rintro e w1 ⟨rfl, b1⟩
  have H1 := Lib.hid b1
  clear b1 HA
  go_wp2_with fail
  refine (hnew_no (1 - (1 + r)) _ (by omega)).mono ?_; rintro e w2 ⟨rfl, rfl⟩
  go_wp2_with fail
  refine (hnew_no (8192 + (1 + r)) _ (by omega)).mono ?_; rintro e w2 ⟨rfl, rfl⟩
  go_wp2_with fail
  obtain ⟨k, k1, k2, ek⟩ := HU0.out
  rw [ek]
  clear ek HU0
  refine (hnew_ok k w1 (by omega)).mono ?_
  rintro e w2 h1
  obtain ⟨g, rfl, hk⟩ := hpK_new h1 H1.out
  have HK := Lib.hid hk
  have HF0 : Hid (FmS w w2 g k 0 none 0 w2) := ⟨hk, Below.refl _ _, OwnIt.nil _ _⟩
  clear h1 hk H1
  obtain ⟨m, m1, m2, em⟩ := HU1.out
  clear HU1
  go_upto_region 10 with (go_at_call 10; refine (num0_any _ _).mono ?_; rintro e w' ⟨rfl, rfl⟩)
  go_wp2_with fail
  rw [em]
  clear em
  go_loopw [16, 17] (fun sl i wr => ∃ (j : Nat) (A : Option Addr) (c : Nat), j ≤ m ∧ i = .int .i64 j ∧ sl = .slice A j c ∧ Hid (FmS w w2 g k j A c wr)) (fun _ i _ => m - (intOf i).toNat)
  case atStart => exact ⟨0, none, 0, Nat.zero_le _, rfl, rfl, HF0⟩
  case round =>
    clear HF0
    obtain ⟨j, A, c, hj, rfl, rfl, HF⟩ := hrel
    by_cases hlt : j < m
    · go_wp2_with fail
      refine (item0_any _ _ _ _ _).mono ?_
      rintro e w3 ⟨rfl, hb⟩
      have hs2 := HF.out.keep.size
      have hs3 := hb.size
      have HO1 : Hid (∀ o, OwnIt (w3.alloc o) w2.heap.size (.slice A j c) (fmXs j)) := fun o => HF.out.own.below (below_alloc hb (Nat.le_refl _) o)
      have HB1 : Hid (∀ o, Below w2.heap.size w2 (w3.alloc o)) := fun o => HF.out.keep.trans (below_alloc (hb.mono hs2) hs2 o)
      have hsz : ∀ o, w2.heap.size ≤ (w3.alloc o).heap.size := fun o => by simp; omega
      have hkj : (j + 1) * 32 ≤ 140737488355328 := by omega
      have HLj : Hid ((fmXs j).length = j) := fmXs_len j
      clear hb hs2 hs3
      go_wp2_with (at_builtin; refine app_its (v := .slice A j c) (ys := [fmX j]) rfl _ _ rfl rfl (HO1.out _) rfl (Items.one (Has.made _ _ _)) (fun e => by cases e) HLj.out hkj (hsz _) ?_; intro A4 m4 c4 w4 hm4 ho4 hg4 _; have HO4 := Lib.hid ho4; have HB4 := Lib.hid ((HB1.out _).trans (grow_below hg4 (fun b hb => (World.ownsRow.lt (HO1.out (.cells #[] 34)) _ hb).1) (hsz _))); have HM4 := Lib.hid hm4; clear ho4 hg4 hm4)
      have HN : Hid (FmS w w2 g k (j + 1) A4 c4 w4) := by
        have ho := HO4.out
        rw [HM4.out, fmXs_succ] at ho
        exact ⟨HF.out.hp, HB4.out, ho⟩
      go_roundw
      case rel => exact ⟨j + 1, A4, c4, by omega, by go_num, by rw [HM4.out], HN⟩
      case measure => simp [intOf]; omega
    · have hjm : j = m := by omega
      subst hjm
      obtain ⟨b, rfl⟩ : ∃ b, A = some ⟨b, 0, none⟩ := by
        rcases HF.out.own.shape with ⟨_, h1, _⟩ | h1
        · omega
        · exact h1
      have hbl := World.ownsRow.lt HF.out.own b (by simp [Value.ownBlock])
      have hwb : w.heap.size ≤ b := Nat.le_trans HF.out.hp.size hbl.1
      have HQ := Lib.hid (HF.out.hp.since HF.out.keep hbl.1 hbl.2)
      have HO := Lib.hid HF.out.own
      clear HF HK hbl hj hlt
      obtain ⟨q, rfl⟩ : ∃ q, j = q + 1 := ⟨j - 1, by omega⟩
      by_cases hkj : k < q + 1
      · have hkj2 : (k : Int) < (q : Int) + 1 := by omega
        obtain ⟨X, hpn, hxl, hx0⟩ : ∃ X : List It, (pushN k [] (fmXs (q + 1)) = 1501 ∧ pushL k [] (fmXs (q + 1)) = X) ∧ X.length = 0 ∧ X.length ≤ k := ⟨([] : List It), by
          unfold pushN pushL
          rw [fmXs_good m2, if_pos rfl, if_pos rfl, fmXs_len]
          simp only [List.length_nil]
          rw [if_pos (by omega), if_pos (by omega)]
          exact ⟨rfl, rfl⟩, by rfl, by simp⟩
        have hp0 : pushN k X [] = 0 ∧ pushL k X [] = X := by
          have hg : goodAll [] = true := rfl
          unfold pushN pushL
          rw [hg, if_pos rfl, if_pos rfl, if_neg (by simp; omega), if_neg (by simp; omega)]
          exact ⟨rfl, rfl⟩
        have HPN := Lib.hid hpn
        have HXL := Lib.hid hxl
        have HP0 := Lib.hid hp0
        have HX0 := Lib.hid hx0
        clear hpn hxl hp0 hx0
        go_wp2_with fail
        refine (HQ.out.push (some ⟨b, 0, none⟩) (q + 1) c (fmXs (q + 1)) HO.out.items (fun ad _ e => by injection e with e; subst e; exact .inl (List.mem_cons_self ..)) (by omega) (by simp) (by omega)).mono ?_
        rintro e w4 ⟨rfl, hk4, hs4⟩
        rw [HPN.out.1]
        rw [HPN.out.2] at hk4
        have HK4 := Lib.hid hk4
        have HO4 : Hid (OwnIt w4 w2.heap.size (.slice (some ⟨b, 0, none⟩) (q + 1) c) (fmXs (q + 1))) := HO.out.same (fun i hi => hs4 i (.inl (by
          have : b = i := by simpa [Value.ownBlock] using hi
          simp [this])))
        have HL4 := Lib.hid hk4.len
        rw [HXL.out] at HL4
        have hit := HO4.out.item (i := q) (by omega) 2 _ rfl
        have hmk := HO4.out.blk
        clear hk4 hs4 HQ HO
        obtain ⟨-, -, -, -, cur, hh4, -⟩ := hmk
        have hfr := hh4.mark (q * 4 + 2)
        have HK5 := Lib.hid (HK4.out.stored (b := b) (List.mem_cons_self ..) hwb (q * 4 + 2) (.int .i64 (1 - (1 + r))))
        have HO5 := Lib.hid ((HO4.out.setQ (i := q) (by omega) (1 - (1 + r))).items)
        clear hh4
        have HBAD : Hid (goodAll ((fmXs (q + 1)).set q ⟨(nthI (fmXs (q + 1)) q).s, (nthI (fmXs (q + 1)) q).t, 1 - (1 + r), (nthI (fmXs (q + 1)) q).v⟩) = false) := by
          refine goodAll_bad (i := q) (by rw [List.length_set, fmXs_len]; omega) (itemB_false ?_)
          simp only [nthI, List.getD_eq_getElem?_getD]
          rw [List.getElem?_set_self (by rw [fmXs_len]; omega)]
          simp only [Option.getD_some]
          omega
        generalize ((fmXs (q + 1)).set q ⟨(nthI (fmXs (q + 1)) q).s, (nthI (fmXs (q + 1)) q).t, 1 - (1 + r), (nthI (fmXs (q + 1)) q).v⟩) = zs at HO5 HBAD
        have hbad : pushN k X zs = 1500 ∧ pushL k X zs = X := by
          unfold pushN pushL
          rw [HBAD.out, if_neg (by simp), if_neg (by simp)]
          exact ⟨rfl, rfl⟩
        have HBB := Lib.hid hbad
        clear HK4 HO4 HBAD hbad
        go_wp2_with (go_at_call 10; refine (num0_any _ _).mono ?_; rintro e w' ⟨rfl, rfl⟩)
        refine (HL4.out).mono ?_
        rintro e w' ⟨rfl, rfl⟩
        go_wp2_with fail
        refine (HK5.out.push (some ⟨b, 0, none⟩) (q + 1) c zs HO5.out (fun ad _ e => by injection e with e; subst e; exact .inl (List.mem_cons_self ..)) (by omega) (by have := HX0.out; omega) (by omega)).mono ?_
        rintro e w5 ⟨rfl, hk5, -⟩
        rw [HBB.out.1]
        rw [HBB.out.2] at hk5
        have HK6 := Lib.hid hk5
        clear hk5 HK5 HO5 hit hfr
        go_wp2_with fail
        refine (HK6.out.push none 0 0 [] (Items.nil _ _) (fun ad h _ => by omega) (by omega) (by have := HX0.out; omega) (by omega)).mono ?_
        rintro e w6 ⟨rfl, hk6, -⟩
        rw [HP0.out.1]
        rw [HP0.out.2] at hk6
        have HE := Lib.hid hk6.keep
        have HL6 := Lib.hid hk6.len
        rw [HXL.out] at HL6
        clear hk6 HK6
        go_wp2_with (first | (go_at_call 10; refine (num0_any _ _).mono ?_; rintro e w' ⟨rfl, rfl⟩) | (go_at_call 21; refine (HL6.out).mono ?_; rintro e w' ⟨rfl, rfl⟩))
        go_ret
        exact ⟨rfl, HE.out⟩
      · have hkj2 : ¬ (k : Int) < (q : Int) + 1 := by omega
        obtain ⟨X, hpn, hxl, hx0⟩ : ∃ X : List It, (pushN k [] (fmXs (q + 1)) = 0 ∧ pushL k [] (fmXs (q + 1)) = X) ∧ X.length = (q + 1) ∧ X.length ≤ k := ⟨insAll [] (fmXs (q + 1)), by
          unfold pushN pushL
          rw [fmXs_good m2, if_pos rfl, if_pos rfl, fmXs_len]
          simp only [List.length_nil]
          rw [if_neg (by omega), if_neg (by omega)]
          exact ⟨rfl, rfl⟩, by rw [insAll_len, fmXs_len]; simp, by rw [insAll_len, fmXs_len]; simp; omega⟩
        have hp0 : pushN k X [] = 0 ∧ pushL k X [] = X := by
          have hg : goodAll [] = true := rfl
          unfold pushN pushL
          rw [hg, if_pos rfl, if_pos rfl, if_neg (by simp; omega), if_neg (by simp; omega)]
          exact ⟨rfl, rfl⟩
        have HPN := Lib.hid hpn
        have HXL := Lib.hid hxl
        have HP0 := Lib.hid hp0
        have HX0 := Lib.hid hx0
        clear hpn hxl hp0 hx0
        go_wp2_with fail
        refine (HQ.out.push (some ⟨b, 0, none⟩) (q + 1) c (fmXs (q + 1)) HO.out.items (fun ad _ e => by injection e with e; subst e; exact .inl (List.mem_cons_self ..)) (by omega) (by simp) (by omega)).mono ?_
        rintro e w4 ⟨rfl, hk4, hs4⟩
        rw [HPN.out.1]
        rw [HPN.out.2] at hk4
        have HK4 := Lib.hid hk4
        have HO4 : Hid (OwnIt w4 w2.heap.size (.slice (some ⟨b, 0, none⟩) (q + 1) c) (fmXs (q + 1))) := HO.out.same (fun i hi => hs4 i (.inl (by
          have : b = i := by simpa [Value.ownBlock] using hi
          simp [this])))
        have HL4 := Lib.hid hk4.len
        rw [HXL.out] at HL4
        have hit := HO4.out.item (i := q) (by omega) 2 _ rfl
        have hmk := HO4.out.blk
        clear hk4 hs4 HQ HO
        obtain ⟨-, -, -, -, cur, hh4, -⟩ := hmk
        have hfr := hh4.mark (q * 4 + 2)
        have HK5 := Lib.hid (HK4.out.stored (b := b) (List.mem_cons_self ..) hwb (q * 4 + 2) (.int .i64 (1 - (1 + r))))
        have HO5 := Lib.hid ((HO4.out.setQ (i := q) (by omega) (1 - (1 + r))).items)
        clear hh4
        have HBAD : Hid (goodAll ((fmXs (q + 1)).set q ⟨(nthI (fmXs (q + 1)) q).s, (nthI (fmXs (q + 1)) q).t, 1 - (1 + r), (nthI (fmXs (q + 1)) q).v⟩) = false) := by
          refine goodAll_bad (i := q) (by rw [List.length_set, fmXs_len]; omega) (itemB_false ?_)
          simp only [nthI, List.getD_eq_getElem?_getD]
          rw [List.getElem?_set_self (by rw [fmXs_len]; omega)]
          simp only [Option.getD_some]
          omega
        generalize ((fmXs (q + 1)).set q ⟨(nthI (fmXs (q + 1)) q).s, (nthI (fmXs (q + 1)) q).t, 1 - (1 + r), (nthI (fmXs (q + 1)) q).v⟩) = zs at HO5 HBAD
        have hbad : pushN k X zs = 1500 ∧ pushL k X zs = X := by
          unfold pushN pushL
          rw [HBAD.out, if_neg (by simp), if_neg (by simp)]
          exact ⟨rfl, rfl⟩
        have HBB := Lib.hid hbad
        clear HK4 HO4 HBAD hbad
        go_wp2_with (go_at_call 10; refine (num0_any _ _).mono ?_; rintro e w' ⟨rfl, rfl⟩)
        refine (HL4.out).mono ?_
        rintro e w' ⟨rfl, rfl⟩
        go_wp2_with fail
        refine (HK5.out.push (some ⟨b, 0, none⟩) (q + 1) c zs HO5.out (fun ad _ e => by injection e with e; subst e; exact .inl (List.mem_cons_self ..)) (by omega) (by have := HX0.out; omega) (by omega)).mono ?_
        rintro e w5 ⟨rfl, hk5, -⟩
        rw [HBB.out.1]
        rw [HBB.out.2] at hk5
        have HK6 := Lib.hid hk5
        clear hk5 HK5 HO5 hit hfr
        go_wp2_with fail
        refine (HK6.out.push none 0 0 [] (Items.nil _ _) (fun ad h _ => by omega) (by omega) (by have := HX0.out; omega) (by omega)).mono ?_
        rintro e w6 ⟨rfl, hk6, -⟩
        rw [HP0.out.1]
        rw [HP0.out.2] at hk6
        have HE := Lib.hid hk6.keep
        have HL6 := Lib.hid hk6.len
        rw [HXL.out] at HL6
        clear hk6 HK6
        go_wp2_with (first | (go_at_call 10; refine (num0_any _ _).mono ?_; rintro e w' ⟨rfl, rfl⟩) | (go_at_call 21; refine (HL6.out).mono ?_; rintro e w' ⟨rfl, rfl⟩))
        go_ret
        exact ⟨rfl, HE.out⟩

end Go.Proofs.Ytmhmekmacdkdgaa
