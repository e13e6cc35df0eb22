/-
  Walk: the reference's sorted.
-/
import Derived.Test.YtmhmekmacdkdgaaHpSortR
import Derived.Test.YtmhmekmacdkdgaaHpPop
import Derived.Deep.DeepCutAuto
import Derived.Deep.QuietTactic
import Derived.Deep.CutBlock
import Derived.OwnWalk
namespace Go.Proofs.Ytmhmekmacdkdgaa
open Go.RowKit

set_option maxRecDepth 100000 in
set_option maxHeartbeats 1000000 in
theorem sorted_any {base : Nat} (A : Option Addr) (n c : Nat) (xs : List It) (x : It) (w : World) (ho : OwnIt w base (.slice A n c) xs) (hs : Srd xs) (hn : n ≤ 8192) :
    Calls Try.prog 31 #[.slice A n c, itV x] w fun e w' => ∃ A' c', e = .returned (.slice A' (n + 1) c') ∧ OwnIt w' w.heap.size (.slice A' (n + 1) c') (ins x xs) ∧ Below w.heap.size w w' := by
  have hl := ho.len
  have hcap := ho.cap.1
  have HI : Hid (∀ k, k ≤ n → (∀ i, k ≤ i → i < n → lt4 x (nthI xs i) = true) → (k = 0 ∨ lt4 x (nthI xs (k - 1)) = false) → [] ++ xs.take k ++ [x] ++ xs.drop k = ins x xs) := fun k h1 h2 h3 => by
    rw [← ins_at hs x k (by omega) (fun i a b => h2 i a (by omega)) h3]; simp
  have HO : Hid (∀ w', Below (w.heap.size + 1) (w.alloc (.cells (itA x) 34)) w' → OwnIt w' base (.slice A n c) xs) := fun w' hb =>
    (ho.below ((Below.refl _ w).alloc (Nat.le_refl _) _)).below (by simpa using hb)
  have HX : Hid (∀ w', Below (w.heap.size + 1) (w.alloc (.cells (itA x) 34)) w' → Has w' w.heap.size 34 (itA x)) := fun w' hb => (Has.made w _ _).below hb (by omega)
  have HT : Hid (∀ w', Below (w.heap.size + 1) (w.alloc (.cells (itA x) 34)) w' → Below w.heap.size w w') := fun w' hb => ((Below.refl _ w).alloc (Nat.le_refl _) _).trans (hb.mono (by omega))
  have hnil : A = none → c = 0 ∧ n = 0 := fun e => by
    rcases ho.shape with ⟨_, h1, h2, _⟩ | ⟨b, h1⟩
    · exact ⟨h2, h1⟩
    · rw [e] at h1; cases h1
  have HSH : Hid (0 < n → ∃ b, A = some ⟨b, 0, none⟩) := fun h0 => by
    rcases ho.shape with ⟨_, h1, _⟩ | h1
    · omega
    · exact h1
  have HNIL := Lib.hid hnil
  clear ho hs hl hnil
  go_enter Try.func31, Try.ntmps31
  go_upto_block 0 with fail
  go_cut [5] (fun i wx => ∃ k : Nat, k ≤ n ∧ i = .int .i64 k ∧ Hid ([] ++ xs.take k ++ [x] ++ xs.drop k = ins x xs) ∧ Hid (Below (w.heap.size + 1) (w.alloc (.cells (itA x) 34)) wx))
  case first =>
    go_wp2_with fail
    go_loopw [5] (fun i wr => ∃ k : Nat, k ≤ n ∧ i = .int .i64 k ∧ Hid (∀ i, k ≤ i → i < n → lt4 x (nthI xs i) = true) ∧ Hid (Below (w.heap.size + 1) (w.alloc (.cells (itA x) 34)) wr)) (fun i _ => (intOf i).toNat)
    case atStart => exact ⟨n, Nat.le_refl _, rfl, fun i h1 h2 => by omega, Below.refl _ _⟩
    case round =>
      obtain ⟨k, hk, rfl, HA, HB⟩ := hrel
      by_cases h0 : k = 0
      · have HEQ := Lib.hid (HI.out k hk HA.out (.inl h0))
        subst h0
        have HBq : Hid (∀ q, Below (w.heap.size + 1) (w.alloc (.cells (itA x) 34)) (wr.drewN q)) := fun q => below_drewN HB.out q
        go_upto_region 2 with fail
        go_quiet (fail)
        go_wp2_with fail
        go_meet
        exact ⟨0, hk, rfl, HEQ, HBq.out _⟩
      · obtain ⟨b, rfl⟩ := HSH.out (by omega)
        have HY := Lib.hid ((HO.out _ HB.out).item (i := k - 1) (by omega))
        have HBX := Lib.hid (HX.out _ HB.out)
        cases hr : lt4 x (nthI xs (k - 1)) with
        | true =>
          have HA9 : Hid (∀ i, k - 1 ≤ i → i < n → lt4 x (nthI xs i) = true) := fun i h1 h2 => by
            by_cases e : i = k - 1
            · rw [e]; exact hr
            · exact HA.out i (by omega) h2
          go_upto_region 2 with fail
          refine hso2_any (p := w.heap.size) (b := b) (n := n) (c := c) (k1 := k - 1) (z := k) (x := x) (y := nthI xs (k - 1)) (r := true) ⟨rfl, rfl, rfl, rfl, HBX.out, HY.out, by omega, by omega, by omega, hr⟩ (by kernel_rfl) ?_
          intro w9 hB9
          have HB9 := Lib.hid (HB.out.trans (hB9.mono (by have := HB.out.size; simp at this; omega)))
          clear hB9 hr
          simp only [putAll, Act.put, List.setIfInBounds_toArray, List.set_cons_succ, List.set_cons_zero]
          go_wp2_with fail
          go_roundw
          case rel => exact ⟨k - 1, by omega, by rw [show ((k - 1 : Nat) : Int) = (k : Int) - 1 by omega], HA9, HB9⟩
          case measure => simp [intOf]; omega
        | false =>
          have HEQ := Lib.hid (HI.out k hk HA.out (.inr hr))
          go_upto_region 2 with fail
          refine hso2_any (p := w.heap.size) (b := b) (n := n) (c := c) (k1 := k - 1) (z := k) (x := x) (y := nthI xs (k - 1)) (r := false) ⟨rfl, rfl, rfl, rfl, HBX.out, HY.out, by omega, by omega, by omega, hr⟩ (by kernel_rfl) ?_
          intro w9 hB9
          have HB9 := Lib.hid (HB.out.trans (hB9.mono (by have := HB.out.size; simp at this; omega)))
          clear hB9 hr
          simp only [putAll, Act.put, List.setIfInBounds_toArray, List.set_cons_succ, List.set_cons_zero]
          go_wp2_with fail
          go_meet
          exact ⟨k, hk, rfl, HEQ, HB9⟩
  case rest =>
    obtain ⟨k, hk, rfl, HEQ, HB⟩ := hcut
    have hkc : k ≤ c := by omega
    have hs0 : w.heap.size + 1 ≤ wc.heap.size := by have := HB.out.size; simpa using this
    have HB1 := Lib.hid (below_alloc HB.out (by simp) (.cells #[] 34))
    have HE1 : Hid (OwnIt (wc.alloc (.cells #[] 34)) (w.heap.size + 1) (.slice (some ⟨wc.heap.size, 0, none⟩) 0 0) []) := own_mk hs0 rfl (Nat.le_refl _) (Nat.zero_le _) (Has.made _ _ _) rfl rfl
    have hsz1 : w.heap.size + 1 ≤ (wc.alloc (.cells #[] 34)).heap.size := by simp; omega
    have HT1 := Lib.hid ((HO.out _ HB1.out).items.take hk)
    have hnk : A = none → c = 0 ∧ k = 0 := fun e => ⟨(HNIL.out e).1, by have := (HNIL.out e).2; omega⟩
    have HNK := Lib.hid hnk
    have hk1 : (0 + k) * 32 ≤ 140737488355328 := by omega
    clear HI hnk
    go_upto_region 5 with (first
      | (at_builtin; refine app_its (v := .slice (some ⟨wc.heap.size, 0, none⟩) 0 0) rfl _ _ rfl rfl HE1.out rfl HT1.out HNK.out rfl hk1 hsz1 ?_; intro A2 m2 c2 w2 hm2 ho2 hg2 _; have HO2 := Lib.hid ho2; have HB2 := Lib.hid (HB1.out.trans (grow_below hg2 (fun b hb => (by have : wc.heap.size = b := (by simpa [Value.ownBlock] using hb); omega)) hsz1)); have HM2 := Lib.hid hm2; clear ho2 hg2 hm2)
      | (refine cut_toIt (u := k) rfl _ _ rfl rfl rfl rfl hkc ?_))
    have HX2 := Lib.hid (HX.out _ HB2.out)
    have hs2 : w.heap.size + 1 ≤ w2.heap.size := by have := HB2.out.size; simpa using this
    have HB3 : Hid (∀ o, Below (w.heap.size + 1) (w.alloc (.cells (itA x) 34)) (w2.alloc o)) := fun o => below_alloc HB2.out (by simp) o
    have HO3 : Hid (∀ o, OwnIt (w2.alloc o) (w.heap.size + 1) (.slice A2 m2 c2) ([] ++ xs.take k)) := fun o => HO2.out.below ((Below.refl _ _).alloc (Nat.le_refl _) o)
    have hs3 : ∀ o, w.heap.size + 1 ≤ (w2.alloc o).heap.size := fun o => by simp; omega
    have hl3 : ([] ++ xs.take k).length = m2 := HO2.out.len
    have hm3 : m2 ≤ k := by have h : m2 = 0 + k := HM2.out; omega
    have hk3 : (m2 + 1) * 32 ≤ 140737488355328 := by omega
    clear HO2
    have HL3 := Lib.hid hl3
    clear hl3
    go_upto_region 6 with (first
      | (at_builtin; refine app_its (v := .slice A2 m2 c2) (ys := [x]) rfl _ _ rfl rfl (HO3.out _) rfl (Items.one (Has.made _ _ _)) (fun e => by cases e) HL3.out hk3 (hs3 _) ?_; intro A4 m4 c4 w4 hm4 ho4 hg4 _; have HO4 := Lib.hid ho4; have HB4 := Lib.hid ((HB3.out _).trans (grow_below hg4 (fun b hb => (World.ownsRow.lt (HO3.out (.cells #[] 34)) _ hb).1) (hs3 _))); have HM4 := Lib.hid hm4; clear ho4 hg4 hm4)
      | (refine load_hasIt rfl _ rfl w.heap.size rfl HX2.out ?_))
    have hs4 : w.heap.size + 1 ≤ w4.heap.size := by have := HB4.out.size; simpa using this
    have hit4 := (HO.out _ HB4.out).items
    have HIT4 := Lib.hid hit4
    have hnil4 : A = none → c = 0 := fun e => (HNIL.out e).1
    have hm4 : m4 ≤ k + 1 := by have h : m4 = m2 + 1 := HM4.out; omega
    have hl4 : ([] ++ xs.take k ++ [x]).length = m4 := HO4.out.len
    have HL4 := Lib.hid hl4
    clear hit4 hl4
    have HN4 := Lib.hid hnil4
    have HC4 := Lib.hid hcap
    clear hnil4
    have hk5 : ∀ q, q ≤ n → (m4 + q) * 32 ≤ 140737488355328 := fun q hq => by omega
    have HK5 := Lib.hid hk5
    clear hk5
    go_wp2_with (first
      | (at_builtin; refine app_its (v := .slice A4 m4 c4) (ys := xs.drop k) rfl _ _ rfl rfl HO4.out rfl HI5.out HN5.out HL4.out (HK5.out _ (by have h : m5 = n - k := HM5.out; omega)) hs4 ?_; intro A6 m6 c6 w6 hm6 ho6 hg6 _; have HO6 := Lib.hid ho6; have HB6 := Lib.hid (HB4.out.trans (grow_below hg6 (fun b hb => (World.ownsRow.lt HO4.out _ hb).1) hs4)); have HM6 := Lib.hid hm6; clear ho6 hg6 hm6)
      | (refine cut_fromIt (u := k) (xs := xs) rfl _ _ rfl rfl rfl rfl hk HC4.out HIT4.out HN4.out ?_; intro A5 m5 c5 hm5 hi5 hn5; have HM5 := Lib.hid hm5; have HI5 := Lib.hid hi5; have HN5 := Lib.hid hn5; clear hm5 hi5 hn5))
    go_ret
    have hf := HO6.out
    have hlen := hf.len
    rw [HEQ.out] at hf hlen
    rw [ins_len] at hlen
    have hx0 : xs.length = n := (HO.out _ HB4.out).len
    obtain rfl : m6 = n + 1 := by omega
    refine ⟨A6, c6, rfl, ?_, HT.out _ HB6.out⟩
    rcases hf.shape with ⟨_, h1, _⟩ | ⟨b6, rfl⟩
    · omega
    · exact hf.lo (by have := hf.blk.2.1; omega)

end Go.Proofs.Ytmhmekmacdkdgaa
