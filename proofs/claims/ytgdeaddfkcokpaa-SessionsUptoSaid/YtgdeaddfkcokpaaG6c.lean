/-
  Walks: slices.insertionSortCmpFunc, slices.stableCmpFunc, slices.SortStableFunc at items, and the comparison that session hands in.
  Walks: slices.stableCmpFunc, slices.SortStableFunc at items, and the comparison that session hands in.
-/
import Derived.Test.YtgdeaddfkcokpaaSymM
import Derived.Test.YtgdeaddfkcokpaaCmp
import Derived.Deep.CutBlock
namespace Go.Proofs.Ytgdeaddfkcokpaa
open Go.Shelf Go.RowKit Go.Lib Go.Sort

set_option maxHeartbeats 4000000 in
set_option maxRecDepth 100000 in
theorem insert_any (g : Nat) (cb : Array Value) (cf : It → It → Int) (blk off cap a b : Nat) (d0 d : Array It) (w0 w : World)
    (eg : ∀ args w, (callFunc g args).run Try.prog w = .ok (.enter g args) w) (hcmp : CmpLays Try.prog g cb encIt 4 cf blk off d0.size w0) (hcf : ∀ x y, cf x y < 0 ↔ x.t < y.t)
    (R : RowK encIt 4 w0 blk off d0) (hs : d0.size = d.size) (S : SWK encIt 4 w0 blk off d w) (hab : a ≤ b) (hb : b ≤ d.size) (hsz : d.size < 4611686018427387904) :
    Calls Try.prog 78 #[.slice (some ⟨blk, off, none⟩) d.size cap, .int .i64 a, .int .i64 b, .func (.func g) #[] cb] w fun e w' => e = .returned (.tuple #[]) ∧ SWK encIt 4 w0 blk off (insertionSort ltT d a b) w' := by
  have mixed := mixed_
  have aE := item_agg
  have zE := item_size
  obtain ⟨k, hk4⟩ : ∃ k, k = 4 := ⟨4, rfl⟩
  rw [← hk4] at zE R S hcmp ⊢
  have S0 : Aside (SWK encIt k w0 blk off d w) := S
  have HC : Aside (CmpLays Try.prog g cb encIt k cf blk off d0.size w0) := hcmp
  have HF : Hid (∀ x y, cf x y < 0 ↔ x.t < y.t) := hcf
  clear S hcmp hcf hk4
  go_enter Try.func78, Try.ntmps78
  go_wp2
  go_loopg [8] (b - a) (fun g1 vi wr => ∃ (i : Nat) (dk : Array It), vi = .int .i64 i ∧ a < i ∧ i ≤ b + 1 ∧ b + 1 - i ≤ g1 + 1 ∧ dk.size = d.size ∧ Aside (SWK encIt k w0 blk off dk wr) ∧ Hid (insOuter ltT a b i dk = insOuter ltT a b (a + 1) d))
  case atStart => exact ⟨a + 1, d, by go_num, by omega, by omega, by omega, rfl, S0, rfl⟩
  case round =>
    clear S0
    obtain ⟨i, dk, rfl, hai, hib, hg1, hsk, S1, HO⟩ := hrel
    by_cases hlt : i < b
    · have hltz : (i : Int) < (b : Int) := by omega
      go_wp2
      go_loopg [9] i (fun g2 vj wr2 => ∃ (j : Nat) (dj : Array It), vj = .int .i64 j ∧ a ≤ j ∧ j ≤ i ∧ j ≤ g2 ∧ dj.size = d.size ∧ Aside (SWK encIt k w0 blk off dj wr2) ∧ Hid (insInner ltT a j dj = insInner ltT a i dk))
      case atStart => exact ⟨i, dk, rfl, by omega, Nat.le_refl _, Nat.le_refl _, hsk, S1, rfl⟩
      case round =>
        clear S1
        obtain ⟨j, dj, rfl, haj, hji, hg2, hsj, S1, HI⟩ := hrel
        have OUT : Aside ((j ≤ a ∨ ltT dj[j]! dj[j - 1]! = false) → insOuter ltT a b (i + 1) dj = insOuter ltT a b (a + 1) d) := fun hs => by
          rw [← HO.out, insOuter_go _ _ _ _ _ hlt, ← HI.out, insInner_stop _ _ _ _ hs]
        by_cases hja : a < j
        · have hjaz : (a : Int) < (j : Int) := by omega
          obtain ⟨jp, rfl⟩ : ∃ jp, j = jp + 1 := ⟨j - 1, by omega⟩
          obtain ⟨x, hx⟩ : ∃ x, x = dj[jp + 1]! := ⟨_, rfl⟩
          obtain ⟨y, hy⟩ : ∃ x, x = dj[jp]! := ⟨_, rfl⟩
          have hjaz' : (a : Int) < (jp : Int) + 1 := by omega
          have ea : ((jp : Int) + 1).toNat = jp + 1 := by omega
          have pa : (0 : Int) ≤ (jp : Int) + 1 := by omega
          have ba : (jp : Int) + 1 < (d.size : Int) := by omega
          have ra : IntKind.i64.wrap ((jp : Int) + 1) = (jp : Int) + 1 := by rw [IntKind.wrap_i64]; omega
          have ec : ((jp : Int)).toNat = jp := by omega
          have pc : (0 : Int) ≤ (jp : Int) := by omega
          have bc : (jp : Int) < (d.size : Int) := by omega
          have rc : IntKind.i64.wrap ((jp : Int)) = (jp : Int) := by rw [IntKind.wrap_i64]; omega
          have la := S1.out.ld R (by omega) Try.prog (jp + 1) (by omega)
          have lb := S1.out.ld R (by omega) Try.prog jp (by omega)
          rw [← hx] at la
          rw [← hy] at lb
          have hc := S1.out.cmp HC.out (by omega) x y
          by_cases hv : cf x y < 0
          · have hd : decide (cf x y < 0) = true := decide_eq_true hv
            have HV : Hid (ltT dj[jp + 1]! dj[jp]! = true) := by show _ = _; rw [← hx, ← hy]; exact decide_eq_true ((HF.out x y).1 hv)
            clear hx hy
            go_wp2_with fail
            go_quiet_grown (first | (go_at_fn g; refine Calls.grown_of (hc _ _)))
            have S2 : Aside (SWK encIt k w0 blk off dj (grow (wr.drewN nq) osq)) := S1.out.grown nq osq
            clear la lb hc S1
            generalize grow (wr.drewN nq) osq = w2 at S2 ⊢
            clear nq osq
            go_wp2_with fail
            have S3 : Aside (SWK encIt k w0 blk off (swp dj (jp + 1) jp) ((w2.drew.setCells blk (off + (jp + 1) * k) (encIt dj[jp]!)).setCells blk (off + jp * k) (encIt dj[jp + 1]!))) := S2.out.swapped R (jp + 1) jp (by omega) (by omega)
            have la := S2.out.ld1 R (by omega) Try.prog (jp + 1) (by omega)
            have lb := S2.out.ld1 R (by omega) Try.prog jp (by omega)
            have sa := S2.out.st1 R (by omega) Try.prog (jp + 1) (by omega) dj[jp]!
            have sb := S2.out.st2 R (by omega) Try.prog (jp + 1) jp (by omega) (by omega) dj[jp]! dj[jp + 1]!
            have na : (encIt dj[jp + 1]!).length = k := R.hk _
            have nb : (encIt dj[jp]!).length = k := R.hk _
            generalize encIt dj[jp + 1]! = cI at S3 la sb na
            generalize encIt dj[jp]! = cJ at S3 lb sa sb nb
            clear S2
            go_big_region_o
            clear la lb sa sb
            generalize (w2.drew.setCells blk (off + (jp + 1) * k) cJ).setCells blk (off + jp * k) cI = w3 at S3 ⊢
            go_wp2
            go_roundg jp
            case measure => omega
            case rel =>
              refine ⟨jp, swp dj (jp + 1) jp, by first | rfl | go_num | (congr 1; omega), by omega, by omega, Nat.le_refl _, by rw [size_swp]; exact hsj, S3, (show Hid _ from ?_)⟩
              show _ = _
              have := insInner_go ltT a (jp + 1) dj hja (by simp only [Nat.add_sub_cancel]; exact HV.out)
              simp only [Nat.add_sub_cancel] at this
              rw [← HI.out, this]
          · have hd : decide (cf x y < 0) = false := decide_eq_false hv
            have HV : Hid (ltT dj[jp + 1]! dj[jp]! = false) := by show _ = _; rw [← hx, ← hy]; exact decide_eq_false (fun q => hv ((HF.out x y).2 q))
            clear hx hy
            go_wp2_with fail
            go_quiet_grown (first | (go_at_fn g; refine Calls.grown_of (hc _ _)))
            have S2 : Aside (SWK encIt k w0 blk off dj (grow (wr.drewN nq) osq)) := S1.out.grown nq osq
            clear la lb hc S1
            generalize grow (wr.drewN nq) osq = w2 at S2 ⊢
            clear nq osq
            go_wp2
            go_roundg (b - (i + 1))
            case measure => omega
            case rel => exact ⟨i + 1, dj, by go_num, by omega, by omega, by omega, hsj, S2, OUT.out (Or.inr (by simp only [Nat.add_sub_cancel]; exact HV.out))⟩
        · have hjaz : decide ((j : Int) > (a : Int)) = false := decide_eq_false (by omega)
          have hjaz' : ¬ (a : Int) < (j : Int) := by omega
          go_wp2_with fail
          go_big_region_o
          have S2 : Aside (SWK encIt k w0 blk off dj wr.drew) := S1.out.drew
          clear S1
          generalize wr.drew = w2 at S2 ⊢
          go_wp2
          go_roundg (b - (i + 1))
          case measure => omega
          case rel => exact ⟨i + 1, dj, by go_num, by omega, by omega, by omega, hsj, S2, OUT.out (Or.inl (by omega))⟩
    · have hltz : ¬ (i : Int) < (b : Int) := by omega
      go_wp2
      go_end0
      refine ⟨rfl, ?_⟩
      have := S1.out
      have e : insertionSort ltT d a b = dk := by unfold Sort.insertionSort; rw [← HO.out, insOuter_stop _ _ _ _ _ hlt]
      rwa [e]

end Go.Proofs.Ytgdeaddfkcokpaa

namespace Go.Proofs.Ytgdeaddfkcokpaa
open Go.Shelf Go.RowKit Go.Lib Go.Sort

set_option maxHeartbeats 4000000 in
set_option maxRecDepth 100000 in
theorem stable_any (g : Nat) (cb : Array Value) (cf : It → It → Int) (blk off cap n : Nat) (d0 : Array It) (w0 : World)
    (eg : ∀ args w, (callFunc g args).run Try.prog w = .ok (.enter g args) w) (hcmp : CmpLays Try.prog g cb encIt 4 cf blk off d0.size w0) (hcf : ∀ x y, cf x y < 0 ↔ x.t < y.t)
    (R : RowK encIt 4 w0 blk off d0) (hn : d0.size = n) (hsz : n < 4611686018427387904) :
    Calls Try.prog 76 #[.slice (some ⟨blk, off, none⟩) n cap, .int .i64 n, .func (.func g) #[] cb] w0 fun e w' => e = .returned (.tuple #[]) ∧ ∃ e, (Mrg 0 n d0 e ∧ Srt 0 n e) ∧ SWK encIt 4 w0 blk off e w' := by
  have HN : Hid (d0.size = n) := hn
  have RR : Aside (RowK encIt 4 w0 blk off d0) := R
  have S0 : Aside (SWK encIt 4 w0 blk off d0 w0) := SWK.start R.hH
  have HI : Aside (∀ (a b : Nat) (d : Array It) (w : World), d.size = n → SWK encIt 4 w0 blk off d w → a ≤ b → b ≤ n →
      Calls Try.prog 78 #[.slice (some ⟨blk, off, none⟩) n cap, .int .i64 a, .int .i64 b, .func (.func g) #[] cb] w fun e w' => e = .returned (.tuple #[]) ∧ SWK encIt 4 w0 blk off (insertionSort ltT d a b) w') := fun a b d w hd S hab hb => by
    have := insert_any g cb cf blk off cap a b d0 d w0 w eg hcmp hcf R (by omega) S hab (by omega) (by omega)
    rwa [hd] at this
  have HS : Aside (∀ (a m b : Nat) (d : Array It) (w : World), d.size = n → SWK encIt 4 w0 blk off d w → a < m → m < b → b ≤ n → Srt a m d → Srt m b d →
      Calls Try.prog 79 #[.slice (some ⟨blk, off, none⟩) n cap, .int .i64 a, .int .i64 m, .int .i64 b, .func (.func g) #[] cb] w fun e w' => e = .returned (.tuple #[]) ∧ ∃ e, (Mrg a b d e ∧ Srt a b e) ∧ SWK encIt 4 w0 blk off e w') := fun a m b d w hd S h1 h2 hb hl hr => by
    have := sym_all g cb cf blk off cap d0 w0 eg hcmp hcf R (by omega) (b - a + 1) a m b d w (by omega) (by omega) S h1 h2 (by omega) hl hr
    rwa [hd] at this
  clear hn R hcmp hcf
  go_enter Try.func76, Try.ntmps76
  go_upto_region 2 with fail
  go_wp2_with fail
  go_loopg [7, 8] n (fun kx s t wr => ∃ (a : Nat) (d : Array It), s = .int .i64 a ∧ t = .int .i64 ((a : Int) + 20) ∧ a ≤ n ∧ n - a ≤ kx ∧ d.size = n ∧ Aside (SWK encIt 4 w0 blk off d wr) ∧ Hid (Mrg 0 n d0 d) ∧ Hid (Done 20 a d))
  case atStart => exact ⟨0, d0, rfl, rfl, Nat.zero_le _, Nat.le_refl _, HN.out, S0, Mrg.refl _ _ _, Done.zero _ _⟩
  case round =>
    clear S0
    obtain ⟨a, d, rfl, rfl, han, hkx, hds, S1, HM, HD⟩ := hrel
    by_cases hlt : a + 20 ≤ n
    · as_aux_lemma =>
      have hltz : (a : Int) + 20 ≤ (n : Int) := by omega
      have hcon := HI.out a (a + 20) d wr hds S1.out (by omega) hlt
      rw [show ((a + 20 : Nat) : Int) = (a : Int) + 20 by omega] at hcon
      go_wp2_with (go_at_call 78; refine hcon.mono ?_; rintro e w' ⟨rfl, hs1⟩)
      go_roundg (n - (a + 20))
      case measure => omega
      case rel =>
        obtain ⟨m1, r1⟩ := ins_mrg (a := a) (b := a + 20) (d := d) (by omega) (by omega)
        exact ⟨a + 20, _, by go_num, by go_num, hlt, Nat.le_refl _, m1.size.trans hds, hs1, HM.out.trans (m1.wide (by omega) hlt), HD.out.step m1 r1⟩
    · as_aux_lemma =>
      have hltz : ¬ (a : Int) + 20 ≤ (n : Int) := by omega
      have hcon := HI.out a n d wr hds S1.out han (Nat.le_refl _)
      obtain ⟨m1, r1⟩ := ins_mrg (a := a) (b := n) (d := d) (by omega) (by omega)
      have hC : Hid (Ch 20 n 0 (insertionSort ltT d a n)) := HD.out.end_ han (by omega) m1 r1
      have hM : Hid (Mrg 0 n d0 (insertionSort ltT d a n)) := HM.out.trans (m1.wide (by omega) (Nat.le_refl _))
      have hz : (insertionSort ltT d a n).size = n := m1.size.trans hds
      clear HD HM m1 r1
      go_upto_region 6 with fail
      go_upto_region 7 with (go_at_call 78; refine hcon.mono ?_; rintro e w' ⟨rfl, hs1⟩)
      have S2 : Aside (SWK encIt 4 w0 blk off (insertionSort ltT d a n) w') := hs1
      clear hs1 hcon S1
      generalize insertionSort ltT d a n = d1 at hC hM hz S2
      go_wp2_with fail
      go_loopg [6] n (fun kx s wr => ∃ (s' : Nat) (d : Array It), s = .int .i64 s' ∧ 0 < s' ∧ s' ≤ 2 * n + 20 ∧ n - s' ≤ kx ∧ d.size = n ∧ Aside (SWK encIt 4 w0 blk off d wr) ∧ Hid (Mrg 0 n d0 d) ∧ Hid (Ch s' n 0 d))
      case atStart => exact ⟨20, d1, rfl, by omega, by omega, by omega, hz, S2, hM, hC⟩
      case round =>
        clear S2 hM hC hz
        obtain ⟨s, d, rfl, hs0, hsn, hkx, hds, S1, HM, HC⟩ := hrel
        by_cases hlt2 : s < n
        · as_aux_lemma =>
          have hltz2 : (s : Int) < (n : Int) := by omega
          go_wp2_with fail
          go_loopg [7, 8] n (fun kx x y wr => ∃ (a : Nat) (d : Array It), x = .int .i64 a ∧ y = .int .i64 ((a : Int) + 2 * (s : Int)) ∧ a ≤ n ∧ n - a ≤ kx ∧ d.size = n ∧ Aside (SWK encIt 4 w0 blk off d wr) ∧ Hid (Mrg 0 n d0 d) ∧ Hid (Done (2 * s) a d) ∧ Hid (Ch s n a d))
          case atStart => exact ⟨0, d, rfl, by go_num, Nat.zero_le _, Nat.le_refl _, hds, S1, HM, Done.zero _ _, HC⟩
          case round =>
            clear S1 HM HC hds
            have hkx0 := hkx
            clear hkx
            obtain ⟨a, d, rfl, rfl, han, hkx, hds, S1, HM, HD, HC⟩ := hrel
            by_cases hlt3 : a + 2 * s ≤ n
            · as_aux_lemma =>
              have hltz3 : (a : Int) + 2 * (s : Int) ≤ (n : Int) := by omega
              have hh := HC.out.head
              rw [Nat.min_eq_left (by omega)] at hh
              have ht := HC.out.tail.head
              rw [Nat.min_eq_left (by omega), show a + s + s = a + 2 * s by omega] at ht
              have hcon := HS.out a (a + s) (a + 2 * s) d wr hds S1.out (by omega) (by omega) hlt3 hh ht
              rw [show ((a + s : Nat) : Int) = (a : Int) + (s : Int) by omega, show ((a + 2 * s : Nat) : Int) = (a : Int) + 2 * (s : Int) by omega] at hcon
              clear hh ht
              go_wp2_with (go_at_call 79; refine hcon.mono ?_; rintro e w' ⟨rfl, e1, hr1, hs1⟩)
              go_roundg (n - (a + 2 * s))
              case measure => omega
              case rel =>
                have hc2 := HC.out.tail.tail
                rw [show a + s + s = a + 2 * s by omega] at hc2
                exact ⟨a + 2 * s, e1, by go_num, by go_num, hlt3, Nat.le_refl _, hr1.1.size.trans hds, hs1, HM.out.trans (hr1.1.wide (by omega) hlt3), HD.out.step hr1.1 hr1.2, hc2.out hr1.1 (Nat.le_refl _)⟩
            · as_aux_lemma =>
              have hltz3 : ¬ (a : Int) + 2 * (s : Int) ≤ (n : Int) := by omega
              by_cases hmn : a + s < n
              · have hmnz : (a : Int) + (s : Int) < (n : Int) := by omega
                have hh := HC.out.head
                rw [Nat.min_eq_left (by omega)] at hh
                have ht := HC.out.tail.head
                rw [Nat.min_eq_right (by omega)] at ht
                have hcon := HS.out a (a + s) n d wr hds S1.out (by omega) hmn (Nat.le_refl _) hh ht
                rw [show ((a + s : Nat) : Int) = (a : Int) + (s : Int) by omega] at hcon
                clear hh ht
                go_wp2_with (go_at_call 79; refine hcon.mono ?_; rintro e w' ⟨rfl, e1, hr1, hs1⟩)
                go_roundg (n - 2 * s)
                case measure => omega
                case rel =>
                  exact ⟨2 * s, e1, by congr 1; omega, by omega, by omega, Nat.le_refl _, hr1.1.size.trans hds, hs1, HM.out.trans (hr1.1.wide (by omega) (Nat.le_refl _)), HD.out.end_ han (by omega) hr1.1 hr1.2⟩
              · have hmnz : ¬ (a : Int) + (s : Int) < (n : Int) := by omega
                have hh := HC.out.head
                rw [Nat.min_eq_right (by omega)] at hh
                have HE : Hid (Ch (2 * s) n 0 d) := HD.out.end_ han (by omega) (Mrg.refl _ _ _) hh
                clear hh HD HC
                go_wp2_with fail
                go_roundg (n - 2 * s)
                case measure => omega
                case rel => exact ⟨2 * s, d, by congr 1; omega, by omega, by omega, Nat.le_refl _, hds, S1, HM, HE⟩
        · as_aux_lemma =>
          have hltz2 : ¬ (s : Int) < (n : Int) := by omega
          go_wp2_with fail
          go_end0
          have hh := HC.out.head
          rw [Nat.min_eq_right (by omega)] at hh
          exact ⟨rfl, d, ⟨HM.out, hh⟩, S1.out⟩

theorem cmp71 (x y : It) (W : World) : Calls Try.prog 71 #[.agg (encIt x).toArray, .agg (encIt y).toArray] W fun e w' => e = .returned (.int .i64 (cmpI x.t y.t)) ∧ ∃ q os', w' = grow (W.drewN q) os' := by
  have hcon := fun W' => cmp_any x.t y.t W'
  show Calls Try.prog 71 #[.agg #[.int .i64 x.s, .int .i64 x.t, .int .i64 x.q, .int .i64 x.v], .agg #[.int .i64 y.s, .int .i64 y.t, .int .i64 y.q, .int .i64 y.v]] W _
  generalize cmpI x.t y.t = r at hcon ⊢
  go_enter Try.func71, Try.ntmps71
  go_wp2_with (go_at_call 72; refine (hcon _).mono ?_; rintro e w' ⟨rfl, rfl⟩)
  go_ret
  exact ⟨rfl, 0, _, by rw [alloc_eq_grow, alloc_eq_grow, grow_grow]; rfl⟩
theorem cmpI_lt (a b : Int) : cmpI a b < 0 ↔ a < b := by
  unfold cmpI
  split
  · simp; assumption
  · split <;> simp <;> omega

set_option maxHeartbeats 400000 in
theorem sortStable_any (blk off cap n : Nat) (d0 : Array It) (w0 : World) (R : RowK encIt 4 w0 blk off d0) (hn : d0.size = n) (hsz : n < 4611686018427387904) :
    Calls Try.prog 70 #[.slice (some ⟨blk, off, none⟩) n cap, .func (.func 71) #[] #[]] w0 fun e w' => e = .returned (.tuple #[]) ∧ ∃ e, (Mrg 0 n d0 e ∧ Srt 0 n e) ∧ SWK encIt 4 w0 blk off e w' := by
  have eg : ∀ args w, (callFunc 71 args).run Try.prog w = .ok (.enter 71 args) w := enters_of Try.func71 (by kernel_rfl) rfl
  have hcon := stable_any 71 #[] (fun x y => cmpI x.t y.t) blk off cap n d0 w0 eg (fun _ _ _ _ x y => cmp71 x y _) (fun x y => cmpI_lt _ _) R hn hsz
  clear R
  go_enter Try.func70, Try.ntmps70
  go_wp2_with (go_at_call 76; refine hcon.mono ?_; rintro e w' ⟨rfl, e1, hr1, hs1⟩)
  go_end0
  exact ⟨rfl, e1, hr1, hs1⟩

end Go.Proofs.Ytgdeaddfkcokpaa
