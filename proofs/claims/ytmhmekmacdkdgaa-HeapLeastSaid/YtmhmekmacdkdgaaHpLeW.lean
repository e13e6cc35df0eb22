/-
  Walk: HeapLeast.
-/
import Derived.Test.YtmhmekmacdkdgaaHpLeR
import Derived.Test.YtmhmekmacdkdgaaHpLeR2
import Derived.Test.YtmhmekmacdkdgaaHpAwake
import Derived.Test.YtmhmekmacdkdgaaHpRefR
import Derived.Deep.DeepCutAuto
import Derived.Deep.CutBlock
import Derived.Deep.QuietTactic
import Derived.OwnWalk
namespace Go.Proofs.Ytmhmekmacdkdgaa
open Go.RowKit

set_option maxRecDepth 100000 in
set_option maxHeartbeats 4000000 in
theorem heapleast_any (A : Option Addr) (n c : Nat) (ps : List Int) (w : World) (hr : Ints w A n ps) (hn : n ≤ maxLen) (_ : ∀ x ∈ ps, (Lit.int .i64 x).wf = true) :
    Calls Try.prog 7 #[.slice A n c] w fun e w' => e = .returned (.bool true) ∧ Below w.heap.size w w' := by
  unfold maxLen at hn
  have HR := Lib.hid hr
  clear hr
  have HA := Lib.hid (awake_any w)
  go_enter Try.func7, Try.ntmps7
  go_wp2_with fail
  refine (HA.out).mono ?_; rintro e w1 ⟨rfl, b1⟩
  have H1 := Lib.hid b1
  clear b1 HA
  go_wp2_with fail
  refine (hnew_ok 64 w1 (by omega)).mono ?_
  rintro e w2 h1
  obtain ⟨g, rfl, hk⟩ := hpK_new h1 H1.out
  have HT : Hid (LeS w g 0 none 0 [] [] w2) := ⟨hk, OwnIt.nil _ _, List.Perm.refl _, (fun y h => by cases h), List.Pairwise.nil, Nat.le_refl _⟩
  clear h1 hk H1
  go_wp2_with (go_at_call 10; refine (num0_any _ _).mono ?_; rintro e w' ⟨rfl, rfl⟩)
  go_loopw [5, 6] (fun rw i wr => ∃ (j l : Nat) (B : Option Addr) (d : Nat) (R xs : List It), j ≤ 50 ∧ i = .int .i64 j ∧ rw = .slice B l d ∧ Hid (R.length = l) ∧ Hid (LeS w g j B d R xs wr)) (fun _ i _ => 50 - (intOf i).toNat)
  case atStart => exact ⟨0, 0, none, 0, [], [], by omega, rfl, rfl, rfl, HT⟩
  case round =>
    clear HT
    obtain ⟨j, l, B, d, R, xs, hj, rfl, rfl, HRl, HT⟩ := hrel
    by_cases hlt : j < n ∧ j < 50
    · obtain ⟨hjn, hj50⟩ := hlt
      obtain ⟨b, f, rfl, hc⟩ := HR.out.2 (by omega)
      have hcx : wr.cell? ⟨b, f + j, none⟩ = some (.int .i64 (nth ps j)) := ((HT.out.hp.keep).cell (block_lt_of_cell (hc j (by omega)))).trans (hc j (by omega))
      clear hc
      generalize nth ps j = x at hcx
      have hll : l ≤ 50 := by rw [← HRl.out]; exact Nat.le_trans HT.out.ok.len (by omega)
      have hjn2 : (j : Int) < (n : Int) := by omega
      obtain ⟨r, hr⟩ : ∃ r, bits .and .i64 x 3 = r := ⟨_, rfl⟩
      obtain ⟨bk, hbk⟩ : ∃ bk : Bool, decide (r = 3 ∧ 0 < l) = bk := ⟨_, rfl⟩
      have HBK := Lib.hid hbk
      clear hbk
      go_upto_region 10 with fail
      go_cut [50] (fun v wx => v = .bool bk ∧ wx = wr)
      case first =>
        by_cases hr3 : r = 3
        · subst hr3
          by_cases hl0 : 0 < l
          · have hl1 : (0 : Int) < (l : Int) := by omega
            have e : bk = true := by rw [← HBK.out]; exact decide_eq_true ⟨rfl, hl0⟩
            subst e
            go_wp2_with fail
            go_meet
            exact ⟨rfl, rfl⟩
          · have hl1 : l = 0 := by omega
            have e : bk = false := by rw [← HBK.out]; exact decide_eq_false (fun h => hl0 h.2)
            subst e
            subst hl1
            go_wp2_with fail
            go_meet
            exact ⟨rfl, rfl⟩
        · have e : bk = false := by rw [← HBK.out]; exact decide_eq_false (fun h => hr3 h.1)
          subst e
          have hr4 : (r == 3) = false := by simpa using hr3
          clear hr3
          go_wp2_with fail
          go_meet
          exact ⟨rfl, rfl⟩
      case rest =>
        obtain ⟨rfl, rfl⟩ := hcut
        obtain ⟨wA, hwA⟩ : ∃ u, u = wc := ⟨_, rfl⟩
        subst hwA
        go_upto_if 50 with fail
        go_cut [5] (fun rw wx => ∃ (l2 : Nat) (B2 : Option Addr) (d2 : Nat) (R2 xs2 : List It), rw = .slice B2 l2 d2 ∧ Hid (R2.length = l2) ∧ Hid (LeS w g (j + 1) B2 d2 R2 xs2 wx))
        case first =>
          cases bk with
          | true =>
            have hl0 : 0 < l := (of_decide_eq_true HBK.out).2
            obtain ⟨y, p, hy, hp, hsame, hperm, hok⟩ := le_first HT.out.perm HT.out.ok (by rw [HRl.out]; exact hl0)
            rw [HRl.out] at hp
            have hxl : xs.length = l := by rw [HT.out.perm.length_eq]; exact HRl.out
            have HC := Lib.hid (HT.out.hp.popV y hy xs.tail rfl (by omega) (by omega))
            have HS := Lib.hid hsame
            have HPM := Lib.hid hperm
            have HOK := Lib.hid hok
            clear hy hsame hperm hok hxl HBK
            go_wp2_with fail
            refine (HC.out).mono ?_
            rintro e w3 ⟨rfl, h3, h3b⟩
            have HK3 : Hid (∀ o, HpK w (bsOf B) g 64 xs.tail (w3.alloc o)) := fun o => h3.below ((Below.refl _ _).alloc (Nat.le_refl _) o)
            have HO3 : Hid (∀ o, OwnIt (w3.alloc o) w.heap.size (.slice B l d) R) := fun o => by
              have h := HT.out.own
              rw [HRl.out] at h
              exact (h.heldBy h3b).below ((Below.refl _ _).alloc (Nat.le_refl _) o)
            have HX3 := Lib.hid (Has.made w3 34 (itA y))
            clear h3 h3b HC
            go_upto_region 12 with (refine store_hasIt rfl _ _ rfl w3.heap.size (z := y) rfl rfl (Has.made _ _ _) rfl ?_; rw [World.setRow_alloc_new])
            have HK4 := Lib.hid (HK3.out (.cells (itA y) 34))
            have HO4 := Lib.hid (HO3.out (.cells (itA y) 34))
            generalize w3.alloc (.cells (itA y) 34) = w4 at HX3 HK4 HO4 ⊢
            generalize w3.heap.size = p7 at HX3 ⊢
            clear HK3 HO3
            obtain ⟨bb, rfl⟩ : ∃ bb, B = some ⟨bb, 0, none⟩ := by
              rcases HO4.out.shape with ⟨_, h1, _⟩ | h1
              · omega
              · exact h1
            go_upto_block 2 with fail
            go_cut [9] (fun at_ wx => at_ = .int .i64 p ∧ Hid (Below w4.heap.size w4 wx))
            case first =>
              go_wp2_with fail
              go_loopw [9, 10] (fun at_ qi wq => ∃ q : Nat, q ≤ l ∧ qi = .int .i64 q ∧ at_ = .int .i64 (if p < q then (p : Int) else -1) ∧ Hid (Below w4.heap.size w4 wq)) (fun _ qi _ => l - (intOf qi).toNat)
              case atStart => exact ⟨0, Nat.zero_le _, rfl, by rw [if_neg (by omega)], Below.refl _ _⟩
              case round =>
                obtain ⟨q, hq, rfl, rfl, HB⟩ := hrel
                by_cases hql : q < l
                · have HY := Lib.hid (rangeAt_keep (HO4.out.item (i := q) hql) (by simp [itemL]) fun _ hp => HB.out.cell hp)
                  have HXq := Lib.hid (HX3.out.below HB.out HX3.out.lt)
                  have hsq := HS.out q (by rw [HRl.out]; exact hql)
                  by_cases hqp : q = p
                  · have hr2 : same4 (nthI R q) y = true := by rw [hsq]; exact decide_eq_true hqp
                    subst hqp
                    go_upto_region 16 with fail
                    refine hle16_any (b := bb) (n := l) (c := d) (k1 := q) (p := p7) (y := nthI R q) (x := y) (r := true) ⟨rfl, rfl, rfl, rfl, HY.out, HXq.out, hql, hr2⟩ (by kernel_rfl) ?_
                    intro w9 hB9
                    have HB9 := Lib.hid (HB.out.trans (hB9.mono HB.out.size))
                    clear hB9 hr2 hsq
                    simp only [putAll, Act.put, List.setIfInBounds_toArray, List.set_cons_succ, List.set_cons_zero]
                    go_wp2_with fail
                    go_roundw
                    case rel => exact ⟨q + 1, by omega, by go_num, by rw [if_pos (Nat.lt_succ_self _)], HB9⟩
                    case measure => simp [intOf]; omega
                  · have HQ : Hid ((if p < q + 1 then (p : Int) else -1) = if p < q then (p : Int) else -1) := by
                      by_cases h : p < q
                      · exact (if_pos (show p < q + 1 by omega)).trans (if_pos h).symm
                      · exact (if_neg (show ¬ p < q + 1 by omega)).trans (if_neg h).symm
                    have hr2 : same4 (nthI R q) y = false := by rw [hsq]; exact decide_eq_false hqp
                    go_upto_region 16 with fail
                    refine hle16_any (b := bb) (n := l) (c := d) (k1 := q) (p := p7) (y := nthI R q) (x := y) (r := false) ⟨rfl, rfl, rfl, rfl, HY.out, HXq.out, hql, hr2⟩ (by kernel_rfl) ?_
                    intro w9 hB9
                    have HB9 := Lib.hid (HB.out.trans (hB9.mono HB.out.size))
                    clear hB9 hr2 hsq
                    simp only [putAll, Act.put, List.setIfInBounds_toArray, List.set_cons_succ, List.set_cons_zero]
                    go_wp2_with fail
                    go_roundw
                    case rel => exact ⟨q + 1, by omega, by go_num, by rw [HQ.out], HB9⟩
                    case measure => simp [intOf]; omega
                · have hql2 : q = l := by omega
                  subst hql2
                  rw [if_pos hp]
                  go_wp2_with fail
                  go_meet
                  exact ⟨rfl, HB⟩
            case rest =>
              obtain ⟨rfl, HB5⟩ := hcut
              obtain ⟨w5, hw5⟩ : ∃ u, u = wc := ⟨_, rfl⟩
              subst hw5
              have hs4 := HB5.out.size
              have HK5 := Lib.hid (HK4.out.below HB5.out)
              have HO5 := Lib.hid (HO4.out.below HB5.out)
              have hcap := HO5.out.cap.1
              have hpd : p ≤ d := by omega
              have hws : w.heap.size ≤ w5.heap.size := HK5.out.size
              have HAL : Hid (Below w5.heap.size w5 (w5.alloc (.cells #[] 34))) := (Below.refl _ _).alloc (Nat.le_refl _) _
              have HE1 : Hid (OwnIt (w5.alloc (.cells #[] 34)) w5.heap.size (.slice (some ⟨w5.heap.size, 0, none⟩) 0 0) []) := it_empty w5
              have hsz1 : w5.heap.size ≤ (w5.alloc (.cells #[] 34)).heap.size := by simp
              have HT1 := Lib.hid (((HO5.out.below HAL.out).items).take (k := p) (by omega))
              have hk1 : (0 + p) * 32 ≤ 140737488355328 := by omega
              clear HS HX3 HK4 HO4
              go_upto_region 20 with (go_at_call 10; refine (num0_any _ _).mono ?_; rintro e w' ⟨rfl, rfl⟩)
              go_upto_region 21 with (first
                | (at_builtin; refine app_its (v := .slice (some ⟨w5.heap.size, 0, none⟩) 0 0) (ys := R.take p) rfl _ _ rfl rfl HE1.out rfl HT1.out (fun e => by cases e) rfl hk1 hsz1 ?_; intro A6 m6 c6 w6 hm6 ho6 hg6 _; have HO6 := Lib.hid ho6; have HB6 := Lib.hid (HAL.out.trans (grow_below hg6 (fun b hb => (World.ownsRow.lt HE1.out _ hb).1) hsz1)); have HM6 := Lib.hid hm6; clear ho6 hg6 hm6)
                | (refine cut_toIt (u := p) rfl _ _ rfl rfl rfl rfl hpd ?_))
              have hm6 : m6 ≤ p := by have h : m6 = 0 + p := HM6.out; omega
              have hl6 : ([] ++ R.take p).length = m6 := HO6.out.len
              have HL6 := Lib.hid hl6
              have HIT6 := Lib.hid (HO5.out.below HB6.out).items
              have hs6 : w5.heap.size ≤ w6.heap.size := HB6.out.size
              have HK6 : Hid (∀ q, q ≤ l → (m6 + q) * 32 ≤ 140737488355328) := fun q hq => by omega
              have hcap2 : p + 1 ≤ l := by omega
              clear hl6
              go_wp2_with (first
                | (at_builtin; refine app_its (v := .slice A6 m6 c6) (ys := R.drop (p + 1)) rfl _ _ rfl rfl HO6.out rfl HI7.out HN7.out HL6.out (HK6.out _ (by have h : m7 = l - (p + 1) := HM7.out; omega)) hs6 ?_; intro A8 m8 c8 w8 hm8 ho8 hg8 _; have HO8 := Lib.hid ho8; have HB8 := Lib.hid (HB6.out.trans (grow_below hg8 (fun b hb => (World.ownsRow.lt HO6.out _ hb).1) hs6)); have HM8 := Lib.hid hm8; clear ho8 hg8 hm8)
                | (refine cut_fromIt (u := p + 1) (xs := R) rfl _ _ rfl rfl rfl (show (p : Int) + 1 = ((p + 1 : Nat) : Int) by omega) hcap2 hcap HIT6.out (fun e => by cases e) ?_; intro A7 m7 c7 hm7 hi7 hn7; have HM7 := Lib.hid hm7; have HI7 := Lib.hid hi7; have HN7 := Lib.hid hn7; clear hm7 hi7 hn7))
              go_meet
              have ho := HO8.out
              rw [List.nil_append] at ho
              have hl8 : (cutAt R p).length = m8 := ho.len
              refine ⟨m8, A8, c8, cutAt R p, xs.tail, rfl, hl8, HK5.out.sinceOwn HB8.out ho, ?_, HPM.out, HOK.out.up⟩
              rw [hl8]
              exact ho.lo2 hws
          | false =>
            obtain ⟨v, hv, va, vb⟩ : ∃ v, bits .and .i64 (x / 4) 31 = v ∧ 0 ≤ v ∧ v ≤ 31 := ⟨_, rfl, by rw [mask31]; omega, by rw [mask31]; omega⟩
            obtain ⟨z, hz⟩ : ∃ z : It, z = ⟨1, v, (j : Int) + 1, (j : Int)⟩ := ⟨_, rfl⟩
            have hzi : itemB z = true := by subst hz; exact itemB_iff.2 (by simp only; omega)
            have hzv : z.v = (j : Int) := by subst hz; rfl
            have HZI := Lib.hid hzi
            have HOK : Hid (LeOk (j + 1) (R ++ [z])) := HT.out.ok.push hzi hzv
            have hxl : xs.length = l := by rw [HT.out.perm.length_eq]; exact HRl.out
            have HXL := Lib.hid hxl
            have HHZ := Lib.hid hz
            clear hzi hzv hz hxl HBK va vb
            go_wp2_with fail
            refine (item0_any _ _ _ _ _).mono ?_
            rintro e w3 ⟨rfl, hb3⟩
            have HK3 : Hid (∀ o, HpK w (w3.heap.size :: bsOf B) g 64 xs (w3.alloc o)) := fun o => (HT.out.hp.below hb3).fresh o
            have HO3 : Hid (∀ o, OwnIt (w3.alloc o) w.heap.size (.slice B l d) R) := fun o => by
              have h := HT.out.own
              rw [HRl.out] at h
              exact h.below (below_alloc hb3 (Nat.le_refl _) o)
            have HX3 := Lib.hid (Has.made w3 34 (itA ⟨1, v, (j : Int) + 1, (j : Int)⟩))
            clear hb3
            go_upto_region 24 with (refine store_hasIt rfl _ _ rfl w3.heap.size (z := ⟨1, v, (j : Int) + 1, (j : Int)⟩) rfl rfl (Has.made _ _ _) rfl ?_; rw [World.setRow_alloc_new])
            have HK4 := Lib.hid (HK3.out (.cells (itA ⟨1, v, (j : Int) + 1, (j : Int)⟩) 34))
            have HO4 := Lib.hid (HO3.out (.cells (itA ⟨1, v, (j : Int) + 1, (j : Int)⟩) 34))
            generalize w3.alloc (.cells (itA ⟨1, v, (j : Int) + 1, (j : Int)⟩) 34) = w4 at HX3 HK4 HO4 ⊢
            generalize w3.heap.size = p12 at HX3 HK4 ⊢
            clear HK3 HO3
            rw [← HHZ.out] at HX3
            have HB5 : Hid (∀ o, Below w4.heap.size w4 (w4.alloc o)) := fun o => (Below.refl _ _).alloc (Nat.le_refl _) o
            have HC := Lib.hid (fun (o : Obj) (ho : o = .cells (itA z) 34) => HK4.out.push1 (w' := w4.alloc o) (z := z) (HB5.out o) (Nat.le_refl _) (by rw [ho]; exact Has.made _ _ _) HZI.out (by rw [HXL.out]; omega) (by omega))
            go_wp2_with (refine load_hasIt rfl _ rfl p12 rfl HX3.out ?_)
            refine (HC.out _ rfl).mono ?_
            rintro e w6 ⟨rfl, h6, h6b⟩
            have HX6 : Hid (Has w6 p12 34 (itA z)) := (h6b _ (.inl (List.mem_cons_self ..))).trans (HX3.out.alloc _)
            have HO6 : Hid (∀ o, OwnIt (w6.alloc o) w.heap.size (.slice B l d) R) := fun o => ((HO4.out.below (HB5.out _)).heldBy (w0 := w) (w' := w6) (fun k hk => h6b k (hk.imp (fun h => List.mem_cons_of_mem _ h) id))).below ((Below.refl _ _).alloc (Nat.le_refl _) o)
            have HK6 : Hid (∀ o, HpK w (bsOf B) g 64 (ins z xs) (w6.alloc o)) := fun o => (h6.less (fun b hb => List.mem_cons_of_mem _ hb)).below ((Below.refl _ _).alloc (Nat.le_refl _) o)
            have hsz6 : ∀ o, w.heap.size ≤ (w6.alloc o).heap.size := fun o => (HK6.out o).size
            have hk6 : (l + 1) * 32 ≤ 140737488355328 := by omega
            clear h6 h6b HC HX3 HK4 HO4 hcx hv
            go_wp2_with (first
              | (go_at_call 10; refine (num0_any _ _).mono ?_; rintro e w' ⟨rfl, rfl⟩)
              | (at_builtin; refine app_its (v := .slice B l d) (ys := [z]) rfl _ _ rfl rfl (HO6.out _) rfl (Items.one (Has.made _ _ _)) (fun e => by cases e) HRl.out hk6 (hsz6 _) ?_; intro A8 m8 c8 w8 hm8 ho8 hg8 hl8; have HO8 := Lib.hid ho8; have HK8 := Lib.hid ((HK6.out _).app (HO6.out _) hg8 hl8 ho8); have HM8 := Lib.hid hm8; clear ho8 hg8 hm8 hl8)
              | (refine load_hasIt rfl _ rfl p12 rfl HX6.out ?_))
            go_meet
            have hl8 : (R ++ [z]).length = m8 := HO8.out.len
            refine ⟨m8, A8, c8, R ++ [z], ins z xs, rfl, hl8, HK8.out, by rw [hl8]; exact HO8.out, ?_, HOK.out⟩
            exact (ins_perm z xs).trans ((List.Perm.cons z HT.out.perm).trans (List.perm_append_singleton z R).symm)
        case rest =>
          obtain ⟨l2, B2, d2, R2, xs2, rfl, HR2, HT2⟩ := hcut
          obtain ⟨wB, hwB⟩ : ∃ u, u = wc := ⟨_, rfl⟩
          subst hwB
          clear HT hcx hr HBK HRl
          have hl2 : l2 ≤ 50 := by rw [← HR2.out]; exact Nat.le_trans HT2.out.ok.len (by omega)
          have hxl2 : xs2.length = l2 := by rw [HT2.out.perm.length_eq]; exact HR2.out
          have HLn : Hid (∀ w', Below wB.heap.size wB w' → Calls Try.prog 21 #[.pointer (some ⟨g, 0, none⟩)] w' fun e w2 => e = .returned (.int .i64 (l2 : Nat)) ∧ w' = w2) := fun w' hb => by
            have h := (HT2.out.hp.below hb).len
            rw [hxl2] at h
            exact h
          have HN : Hid (∀ w', Below wB.heap.size wB w' → LeS w g (j + 1) B2 d2 R2 xs2 w') := fun w' hb => ⟨HT2.out.hp.below hb, HT2.out.own.below hb, HT2.out.perm, HT2.out.ok⟩
          by_cases h0 : l2 = 0
          · subst h0
            obtain rfl : xs2 = [] := List.length_eq_zero_iff.1 hxl2
            clear hxl2
            have HC := Lib.hid HT2.out.hp.peekNone
            go_wp2_with fail
            refine (HC.out).mono ?_
            rintro e w3 ⟨rfl, hb3⟩
            have hb3a := below_alloc hb3 (Nat.le_refl _) (.cells (itA zeroIt) 34)
            have HB3 := Lib.hid hb3a
            clear hb3 hb3a HC
            go_upto_region 29 with (refine store_hasIt rfl _ _ rfl w3.heap.size (z := zeroIt) rfl rfl (Has.made _ _ _) rfl ?_; rw [World.setRow_alloc_new])
            generalize w3.alloc (.cells (itA zeroIt) 34) = w4 at HB3 ⊢
            go_wp2_with (first | (go_at_call 10; refine (num0_any _ _).mono ?_; rintro e w' ⟨rfl, rfl⟩) | (go_at_call 21; refine (HLn.out _ HB3.out).mono ?_; rintro e w' ⟨rfl, rfl⟩))
            refine wp_loop_rounds 1 ?_; rw [rounds_succ]
            go_wp2_with fail
            go_roundw
            case rel => exact ⟨j + 1, 0, B2, d2, R2, [], by omega, by go_num, rfl, HR2, HN.out _ HB3.out⟩
            case measure => simp [intOf]; omega
          · have HC := Lib.hid (HT2.out.hp.peek (by omega) (by omega))
            have HLE : Hid (∀ q, q < l2 → ¬ (nthI R2 q).t < (nthI xs2 0).t ∧ ((nthI R2 q).t = (nthI xs2 0).t → ¬ (nthI R2 q).q < (nthI xs2 0).q)) := fun q hq => le_least HT2.out.hp.srd HT2.out.perm (by rw [HR2.out]; exact hq)
            have HO : Hid (∀ w', Below wB.heap.size wB w' → OwnIt w' w.heap.size (.slice B2 l2 d2) R2) := fun w' hb => by
              have h := HT2.out.own
              rw [HR2.out] at h
              exact h.below hb
            clear hxl2
            generalize nthI xs2 0 = y at HC HLE
            go_wp2_with fail
            refine (HC.out).mono ?_
            rintro e w3 ⟨rfl, hb3⟩
            have hb3a := below_alloc hb3 (Nat.le_refl _) (.cells (itA y) 34)
            have HB3 := Lib.hid hb3a
            have HX3 := Lib.hid (Has.made w3 34 (itA y))
            clear hb3 hb3a HC
            go_upto_region 29 with (refine store_hasIt rfl _ _ rfl w3.heap.size (z := y) rfl rfl (Has.made _ _ _) rfl ?_; rw [World.setRow_alloc_new])
            generalize w3.alloc (.cells (itA y) 34) = w4 at HB3 HX3 ⊢
            generalize w3.heap.size = p14 at HX3 ⊢
            have hl1 : (0 : Int) < (l2 : Int) := by omega
            have hl4 : 0 < l2 := by omega
            obtain ⟨b2, rfl⟩ : ∃ b2, B2 = some ⟨b2, 0, none⟩ := by
              rcases (HO.out w4 HB3.out).shape with ⟨_, h1, _⟩ | h1
              · omega
              · exact h1
            go_wp2_with (first | (go_at_call 10; refine (num0_any _ _).mono ?_; rintro e w' ⟨rfl, rfl⟩) | (go_at_call 21; refine (HLn.out _ HB3.out).mono ?_; rintro e w' ⟨rfl, rfl⟩))
            go_loopw [16] (fun qi wq => ∃ q : Nat, q ≤ l2 ∧ qi = .int .i64 q ∧ Hid (Below w4.heap.size w4 wq)) (fun qi _ => l2 - (intOf qi).toNat)
            case atStart => exact ⟨0, Nat.zero_le _, rfl, Below.refl _ _⟩
            case round =>
              obtain ⟨q, hq, rfl, HB⟩ := hrel
              have hs3 := HB3.out.size
              have HBq := Lib.hid (HB3.out.trans (HB.out.mono hs3))
              by_cases hql : q < l2
              · have hit := (HO.out _ HBq.out).item (i := q) hql
                have hle := HLE.out q hql
                have c1 : wr.cell? ⟨b2, q * 4 + 1, none⟩ = some (.int .i64 (nthI R2 q).t) := hit 1 _ rfl
                have c2 : wr.cell? ⟨b2, q * 4 + 2, none⟩ = some (.int .i64 (nthI R2 q).q) := hit 2 _ rfl
                have hx := Lib.hid (HX3.out.below HB.out HX3.out.lt)
                have HC1 := Lib.hid c1
                have HC2 := Lib.hid c2
                clear hit c1 c2
                generalize nthI R2 q = z at HC1 HC2 hle
                obtain ⟨ht, hqq⟩ := hle
                have hqlz : (q : Int) < (l2 : Int) := by omega
                have HD1 : Hid (decide (z.t < y.t) = false) := decide_eq_false (by omega)
                clear ht
                by_cases he : z.t = y.t
                · have HG1 : Hid ((z.t == y.t) = true) := by show _ = _; simpa using he
                  have HD3 : Hid (decide (z.q < y.q) = false) := decide_eq_false (by have := hqq he; omega)
                  clear he hqq
                  go_upto_region 34 with fail
                  refine hlt34_any (b := b2) (n := l2) (c := d2) (k1 := q) (p := p14) (z := z) (y := y) ⟨rfl, rfl, rfl, rfl, HC1.out, HC2.out, hx.out, hql, HD1.out, HG1.out, HD3.out⟩ (by kernel_rfl) ?_
                  intro w9 hB9
                  have HB9 := Lib.hid (HB.out.trans (hB9.mono HB.out.size))
                  clear hB9 HC1 HC2 hx HD1 HG1 HD3
                  simp only [putAll, Act.put, List.setIfInBounds_toArray, List.set_cons_succ, List.set_cons_zero]
                  go_wp2_with fail
                  go_roundw
                  case rel => exact ⟨q + 1, by omega, by go_num, HB9⟩
                  case measure => simp [intOf]; omega
                · have HG1 : Hid ((z.t == y.t) = false) := by show _ = _; simpa using he
                  clear he hqq
                  go_upto_region 34 with fail
                  refine hlf34_any (b := b2) (n := l2) (c := d2) (k1 := q) (p := p14) (z := z) (y := y) ⟨rfl, rfl, rfl, rfl, HC1.out, HC2.out, hx.out, hql, HD1.out, HG1.out⟩ (by kernel_rfl) ?_
                  intro w9 hB9
                  have HB9 := Lib.hid (HB.out.trans (hB9.mono HB.out.size))
                  clear hB9 HC1 HC2 hx HD1 HG1
                  simp only [putAll, Act.put, List.setIfInBounds_toArray, List.set_cons_succ, List.set_cons_zero]
                  go_wp2_with fail
                  go_roundw
                  case rel => exact ⟨q + 1, by omega, by go_num, HB9⟩
                  case measure => simp [intOf]; omega
              · have hq2 : q = l2 := by omega
                subst hq2
                go_wp2_with fail
                go_roundw
                case rel => exact ⟨j + 1, q, some ⟨b2, 0, none⟩, d2, R2, xs2, by omega, by go_num, rfl, HR2, HN.out _ HBq.out⟩
                case measure => simp [intOf]; omega
    · have HE := Lib.hid HT.out.hp.keep
      by_cases hjn : j < n
      · have hj50 : j = 50 := by omega
        have hjn2 : (j : Int) < (n : Int) := by omega
        subst hj50
        go_wp2_with fail
        go_ret
        exact ⟨rfl, HE.out⟩
      · have hjn2 : ¬ (j : Int) < (n : Int) := by omega
        go_wp2_with fail
        go_ret
        exact ⟨rfl, HE.out⟩

end Go.Proofs.Ytmhmekmacdkdgaa
