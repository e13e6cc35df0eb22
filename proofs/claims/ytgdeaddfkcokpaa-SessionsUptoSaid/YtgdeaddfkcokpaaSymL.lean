/-
  Walks: slices.symMergeCmpFunc at items where one side holds one element.
-/
import Derived.Test.YtgdeaddfkcokpaaG6a
namespace Go.Proofs.Ytgdeaddfkcokpaa
open Go.Shelf Go.RowKit Go.Lib Go.Sort

set_option maxHeartbeats 4000000 in
set_option maxRecDepth 100000 in
theorem symL_any (g : Nat) (cb : Array Value) (cf : It → It → Int) (blk off cap a m b : Nat) (d0 d : Array It) (w0 w : World)
    (eg : ∀ args w, (callFunc g args).run Try.prog w = .ok (.enter g args) w) (hcmp : CmpLays Try.prog g cb encIt 4 cf blk off d0.size w0) (hcf : ∀ x y, cf x y < 0 ↔ x.t < y.t)
    (R : RowK encIt 4 w0 blk off d0) (hs : d0.size = d.size) (S : SWK encIt 4 w0 blk off d w) (hm : m = a + 1) (hmb : m ≤ b) (hb : b ≤ d.size) (hsz : d.size < 4611686018427387904) (hr : Srt m b d) :
    Calls Try.prog 79 #[.slice (some ⟨blk, off, none⟩) d.size cap, .int .i64 a, .int .i64 m, .int .i64 b, .func (.func g) #[] cb] w fun e w' => e = .returned (.tuple #[]) ∧ ∃ e, (Mrg a b d e ∧ Srt a b e) ∧ SWK encIt 4 w0 blk off e w' := by
  have mixed := mixed_
  have aE := item_agg
  have zE := item_size
  obtain ⟨k, hk4⟩ : ∃ k, k = 4 := ⟨4, rfl⟩
  rw [← hk4] at zE R S hcmp ⊢
  have S0 : Aside (SWK encIt k w0 blk off d w) := S
  have HC : Aside (CmpLays Try.prog g cb encIt k cf blk off d0.size w0) := hcmp
  have HF : Hid (∀ x y, cf x y < 0 ↔ x.t < y.t) := hcf
  have HM : Hid (m = a + 1) := hm
  have HR : Hid (Srt m b d) := hr
  have q0 : ((m : Int) - (a : Int) == 1) = true := by rw [hm]; simp; omega
  have q1 : m ≤ a + 1 := by omega
  have q2 : a + 1 ≤ m := by omega
  have q3 : (a : Int) < (d.size : Int) := by omega
  have e3 : ((a : Int)).toNat = a := by omega
  have r3 : IntKind.i64.wrap ((a : Int)) = (a : Int) := by rw [IntKind.wrap_i64]; omega
  clear S hcmp hcf hm hr hk4
  go_enter Try.func79, Try.ntmps79
  go_wp2
  go_loopg [10, 11] (b - m) (fun kx s t wr => ∃ (i j : Nat), s = .int .i64 i ∧ t = .int .i64 j ∧ m ≤ i ∧ i ≤ j ∧ j ≤ b ∧ j - i ≤ kx ∧ Aside (SWK encIt k w0 blk off d wr) ∧ Hid (i = m ∨ (d[i - 1]!).t < (d[a]!).t) ∧ Hid (j = b ∨ (d[a]!).t ≤ (d[j]!).t))
  case atStart => exact ⟨m, b, rfl, rfl, Nat.le_refl _, hmb, Nat.le_refl _, Nat.le_refl _, S0, Or.inl rfl, Or.inl rfl⟩
  case round =>
    clear S0
    obtain ⟨i, j, rfl, rfl, hi, hij, hj, hkx, S1, F1, F2⟩ := hrel
    by_cases hlt : i < j
    · have hltz : (i : Int) < (j : Int) := by omega
      obtain ⟨h, hh⟩ : ∃ h, h = (i + j) / 2 := ⟨_, rfl⟩
      have ea : (((i : Int) + (j : Int)) / 2).toNat = h := by omega
      have pa : (0 : Int) ≤ ((i : Int) + (j : Int)) / 2 := by omega
      have ba : ((i : Int) + (j : Int)) / 2 < (d.size : Int) := by omega
      have hi1 : i ≤ h := by omega
      have hi2 : h < j := by omega
      have E1 : Hid (((i : Int) + (j : Int)) / 2 = (h : Int)) := by show _ = _; omega
      clear hh
      obtain ⟨x, hx⟩ : ∃ x, x = d[h]! := ⟨_, rfl⟩
      obtain ⟨y, hy⟩ : ∃ x, x = d[a]! := ⟨_, rfl⟩
      have la := S1.out.ld R (by omega) Try.prog h (by omega)
      have lb := S1.out.ld R (by omega) Try.prog a (by omega)
      rw [← hx] at la
      rw [← hy] at lb
      have hc := S1.out.cmp HC.out (by omega) x y
      by_cases hv : cf x y < 0
      · have hd : decide (cf x y < 0) = true := decide_eq_true hv
        have HV : Hid ((d[h]!).t < (d[a]!).t) := by show _ < _; rw [← hx, ← hy]; exact (HF.out x y).1 hv
        clear hx hy
        go_wp2_with fail
        go_quiet_grown (first | (go_at_fn g; refine Calls.grown_of (hc _ _)))
        have S2 : Aside (SWK encIt k w0 blk off d (grow (wr.drewN nq) osq)) := S1.out.grown nq osq
        clear la lb hc S1
        generalize grow (wr.drewN nq) osq = w2 at S2 ⊢
        clear nq osq
        go_wp2
        go_roundg (j - (h + 1))
        case measure => omega
        case rel => exact ⟨h + 1, j, by rw [E1.out]; go_num, rfl, by omega, by omega, hj, Nat.le_refl _, S2, Or.inr (by rw [Nat.add_sub_cancel]; exact HV.out), F2⟩
      · have hd : decide (cf x y < 0) = false := decide_eq_false hv
        have HV : Hid ((d[a]!).t ≤ (d[h]!).t) := by show _ ≤ _; rw [← hx, ← hy]; exact Int.not_lt.1 fun q => hv ((HF.out x y).2 q)
        clear hx hy
        go_wp2_with fail
        go_quiet_grown (first | (go_at_fn g; refine Calls.grown_of (hc _ _)))
        have S2 : Aside (SWK encIt k w0 blk off d (grow (wr.drewN nq) osq)) := S1.out.grown nq osq
        clear la lb hc S1
        generalize grow (wr.drewN nq) osq = w2 at S2 ⊢
        clear nq osq
        go_wp2
        go_roundg (h - i)
        case measure => omega
        case rel => exact ⟨i, h, rfl, by rw [E1.out], hi, hi1, by omega, Nat.le_refl _, S2, F1, Or.inr HV.out⟩
    · have hltz : ¬ (i : Int) < (j : Int) := by omega
      have F2' : Hid (i = b ∨ (d[a]!).t ≤ (d[i]!).t) := by have := F2.out; rwa [show j = i by omega] at this
      clear F2
      go_wp2
      go_loopg [13] (i - 1 - a) (fun kx s wr2 => ∃ (c : Nat) (dk : Array It), s = .int .i64 c ∧ a ≤ c ∧ c ≤ i - 1 ∧ i - 1 - c ≤ kx ∧ dk.size = d.size ∧ Aside (SWK encIt k w0 blk off dk wr2) ∧ Hid (IsRot a (a + 1) (c + 1) d dk))
      case atStart => exact ⟨a, d, rfl, Nat.le_refl _, by omega, Nat.le_refl _, rfl, S1, rot_none_right d⟩
      case round =>
        clear S1
        obtain ⟨c, dk, rfl, hc1, hc2, hkc, hds, S1, HI⟩ := hrel
        by_cases hlt2 : c < i - 1
        · have hltz2 : (c : Int) < (i : Int) - 1 := by omega
          go_wp2_with fail
          have ea : ((c : Int)).toNat = c := by omega
          have pa : (0 : Int) ≤ (c : Int) := by omega
          have ba : (c : Int) < (d.size : Int) := by omega
          have ra : IntKind.i64.wrap ((c : Int)) = (c : Int) := by rw [IntKind.wrap_i64]; omega
          have ec : ((c : Int) + 1).toNat = c + 1 := by omega
          have pc : (0 : Int) ≤ (c : Int) + 1 := by omega
          have bc : (c : Int) + 1 < (d.size : Int) := by omega
          have rc : IntKind.i64.wrap ((c : Int) + 1) = (c : Int) + 1 := by rw [IntKind.wrap_i64]; omega
          have S2 : Aside (SWK encIt k w0 blk off (swp dk c (c + 1)) ((wr.drew.setCells blk (off + c * k) (encIt dk[c + 1]!)).setCells blk (off + (c + 1) * k) (encIt dk[c]!))) := S1.out.swapped R c (c + 1) (by omega) (by omega)
          have la := S1.out.ld1 R (by omega) Try.prog c (by omega)
          have lb := S1.out.ld1 R (by omega) Try.prog (c + 1) (by omega)
          have sa := S1.out.st1 R (by omega) Try.prog c (by omega) dk[c + 1]!
          have sb := S1.out.st2 R (by omega) Try.prog c (c + 1) (by omega) (by omega) dk[c + 1]! dk[c]!
          have na : (encIt dk[c]!).length = k := R.hk _
          have nb : (encIt dk[c + 1]!).length = k := R.hk _
          generalize encIt dk[c]! = cI at S2 la sb na
          generalize encIt dk[c + 1]! = cJ at S2 lb sa sb nb
          clear S1
          go_wp2_with fail
          go_big_region_o
          clear la lb sa sb
          generalize (wr.drew.setCells blk (off + c * k) cJ).setCells blk (off + (c + 1) * k) cI = w3 at S2 ⊢
          go_wp2
          go_roundg (i - 1 - (c + 1))
          case measure => omega
          case rel => exact ⟨c + 1, swp dk c (c + 1), by go_num, by omega, by omega, Nat.le_refl _, by rw [size_swp]; exact hds, S2, rot_right HI.out hc1 (by omega)⟩
        · have hltz2 : ¬ (c : Int) < (i : Int) - 1 := by omega
          go_wp2
          (try simp only [Exit.inBlock, Exit.then]); refine bodyPost_ret (results_none rfl _ _ _) rfl ?_
          refine ⟨rfl, dk, ?_, S1.out⟩
          have h1 := HI.out
          have h2 := HM.out
          have h3 := HR.out
          have h4 := F1.out
          rw [h2] at h3 h4
          rw [show c + 1 = i by omega] at h1
          exact sym_left h3 (by omega) (by omega) hb h4 F2'.out h1

set_option maxHeartbeats 4000000 in
set_option maxRecDepth 100000 in
theorem symR_any (g : Nat) (cb : Array Value) (cf : It → It → Int) (blk off cap a m b : Nat) (d0 d : Array It) (w0 w : World)
    (eg : ∀ args w, (callFunc g args).run Try.prog w = .ok (.enter g args) w) (hcmp : CmpLays Try.prog g cb encIt 4 cf blk off d0.size w0) (hcf : ∀ x y, cf x y < 0 ↔ x.t < y.t)
    (R : RowK encIt 4 w0 blk off d0) (hs : d0.size = d.size) (S : SWK encIt 4 w0 blk off d w) (hm : a + 1 < m) (hmb : b = m + 1) (hb : b ≤ d.size) (hsz : d.size < 4611686018427387904) (hr : Srt a m d) :
    Calls Try.prog 79 #[.slice (some ⟨blk, off, none⟩) d.size cap, .int .i64 a, .int .i64 m, .int .i64 b, .func (.func g) #[] cb] w fun e w' => e = .returned (.tuple #[]) ∧ ∃ e, (Mrg a b d e ∧ Srt a b e) ∧ SWK encIt 4 w0 blk off e w' := by
  have mixed := mixed_
  have aE := item_agg
  have zE := item_size
  obtain ⟨k, hk4⟩ : ∃ k, k = 4 := ⟨4, rfl⟩
  rw [← hk4] at zE R S hcmp ⊢
  have S0 : Aside (SWK encIt k w0 blk off d w) := S
  have HC : Aside (CmpLays Try.prog g cb encIt k cf blk off d0.size w0) := hcmp
  have HF : Hid (∀ x y, cf x y < 0 ↔ x.t < y.t) := hcf
  have HM : Hid (b = m + 1) := hmb
  have HR : Hid (Srt a m d) := hr
  have q0 : ((m : Int) - (a : Int) == 1) = false := by simp; omega
  have q4 : ((b : Int) - (m : Int) == 1) = true := by rw [hmb]; simp; omega
  have q1 : m < d.size := by omega
  have q3 : (m : Int) < (d.size : Int) := by omega
  have e3 : ((m : Int)).toNat = m := by omega
  have r3 : IntKind.i64.wrap ((m : Int)) = (m : Int) := by rw [IntKind.wrap_i64]; omega
  clear S hcmp hcf hmb hr hk4
  go_enter Try.func79, Try.ntmps79
  go_wp2
  go_loopg [14, 15] (m - a) (fun kx s t wr => ∃ (i j : Nat), s = .int .i64 i ∧ t = .int .i64 j ∧ a ≤ i ∧ i ≤ j ∧ j ≤ m ∧ j - i ≤ kx ∧ Aside (SWK encIt k w0 blk off d wr) ∧ Hid (i = a ∨ (d[i - 1]!).t ≤ (d[m]!).t) ∧ Hid (j = m ∨ (d[m]!).t < (d[j]!).t))
  case atStart => exact ⟨a, m, rfl, rfl, Nat.le_refl _, by omega, Nat.le_refl _, Nat.le_refl _, S0, Or.inl rfl, Or.inl rfl⟩
  case round =>
    clear S0
    obtain ⟨i, j, rfl, rfl, hi, hij, hj, hkx, S1, F1, F2⟩ := hrel
    by_cases hlt : i < j
    · have hltz : (i : Int) < (j : Int) := by omega
      obtain ⟨h, hh⟩ : ∃ h, h = (i + j) / 2 := ⟨_, rfl⟩
      have ea : (((i : Int) + (j : Int)) / 2).toNat = h := by omega
      have pa : (0 : Int) ≤ ((i : Int) + (j : Int)) / 2 := by omega
      have ba : ((i : Int) + (j : Int)) / 2 < (d.size : Int) := by omega
      have hi1 : i ≤ h := by omega
      have hi2 : h < j := by omega
      have E1 : Hid (((i : Int) + (j : Int)) / 2 = (h : Int)) := by show _ = _; omega
      clear hh
      obtain ⟨x, hx⟩ : ∃ x, x = d[m]! := ⟨_, rfl⟩
      obtain ⟨y, hy⟩ : ∃ x, x = d[h]! := ⟨_, rfl⟩
      have la := S1.out.ld R (by omega) Try.prog m (by omega)
      have lb := S1.out.ld R (by omega) Try.prog h (by omega)
      rw [← hx] at la
      rw [← hy] at lb
      have hc := S1.out.cmp HC.out (by omega) x y
      by_cases hv : cf x y < 0
      · have hd : decide (cf x y < 0) = true := decide_eq_true hv
        have HV : Hid ((d[m]!).t < (d[h]!).t) := by show _ < _; rw [← hx, ← hy]; exact (HF.out x y).1 hv
        clear hx hy
        go_wp2_with fail
        go_quiet_grown (first | (go_at_fn g; refine Calls.grown_of (hc _ _)))
        have S2 : Aside (SWK encIt k w0 blk off d (grow (wr.drewN nq) osq)) := S1.out.grown nq osq
        clear la lb hc S1
        generalize grow (wr.drewN nq) osq = w2 at S2 ⊢
        clear nq osq
        go_wp2
        go_roundg (h - i)
        case measure => omega
        case rel => exact ⟨i, h, rfl, by rw [E1.out], hi, hi1, by omega, Nat.le_refl _, S2, F1, Or.inr HV.out⟩
      · have hd : decide (cf x y < 0) = false := decide_eq_false hv
        have HV : Hid ((d[h]!).t ≤ (d[m]!).t) := by show _ ≤ _; rw [← hx, ← hy]; exact Int.not_lt.1 fun q => hv ((HF.out x y).2 q)
        clear hx hy
        go_wp2_with fail
        go_quiet_grown (first | (go_at_fn g; refine Calls.grown_of (hc _ _)))
        have S2 : Aside (SWK encIt k w0 blk off d (grow (wr.drewN nq) osq)) := S1.out.grown nq osq
        clear la lb hc S1
        generalize grow (wr.drewN nq) osq = w2 at S2 ⊢
        clear nq osq
        go_wp2
        go_roundg (j - (h + 1))
        case measure => omega
        case rel => exact ⟨h + 1, j, by rw [E1.out]; go_num, rfl, by omega, by omega, hj, Nat.le_refl _, S2, Or.inr (by rw [Nat.add_sub_cancel]; exact HV.out), F2⟩
    · have hltz : ¬ (i : Int) < (j : Int) := by omega
      have F2' : Hid (i = m ∨ (d[m]!).t < (d[i]!).t) := by have := F2.out; rwa [show j = i by omega] at this
      clear F2
      go_wp2
      go_loopg [17] (m - i) (fun kx s wr2 => ∃ (c : Nat) (dk : Array It), s = .int .i64 c ∧ i ≤ c ∧ c ≤ m ∧ c - i ≤ kx ∧ dk.size = d.size ∧ Aside (SWK encIt k w0 blk off dk wr2) ∧ Hid (IsRot c m (m + 1) d dk))
      case atStart => exact ⟨m, d, rfl, by omega, Nat.le_refl _, Nat.le_refl _, rfl, S1, rot_none_left d⟩
      case round =>
        clear S1
        obtain ⟨c, dk, rfl, hc1, hc2, hkc, hds, S1, HI⟩ := hrel
        by_cases hlt2 : i < c
        · obtain ⟨c, rfl⟩ : ∃ c', c = c' + 1 := ⟨c - 1, by omega⟩
          have hltz2 : (i : Int) < ((c + 1 : Nat) : Int) := by omega
          have hltz3 : (i : Int) < (c : Int) + 1 := by omega
          go_wp2_with fail
          have ea : ((c : Int)).toNat = c := by omega
          have pa : (0 : Int) ≤ (c : Int) := by omega
          have ba : (c : Int) < (d.size : Int) := by omega
          have ra : IntKind.i64.wrap ((c : Int)) = (c : Int) := by rw [IntKind.wrap_i64]; omega
          have ec : ((c : Int) + 1).toNat = c + 1 := by omega
          have pc : (0 : Int) ≤ (c : Int) + 1 := by omega
          have bc : (c : Int) + 1 < (d.size : Int) := by omega
          have rc : IntKind.i64.wrap ((c : Int) + 1) = (c : Int) + 1 := by rw [IntKind.wrap_i64]; omega
          have S2 : Aside (SWK encIt k w0 blk off (swp dk (c + 1) c) ((wr.drew.setCells blk (off + (c + 1) * k) (encIt dk[c]!)).setCells blk (off + c * k) (encIt dk[c + 1]!))) := S1.out.swapped R (c + 1) c (by omega) (by omega)
          have la := S1.out.ld1 R (by omega) Try.prog (c + 1) (by omega)
          have lb := S1.out.ld1 R (by omega) Try.prog c (by omega)
          have sa := S1.out.st1 R (by omega) Try.prog (c + 1) (by omega) dk[c]!
          have sb := S1.out.st2 R (by omega) Try.prog (c + 1) c (by omega) (by omega) dk[c]! dk[c + 1]!
          have na : (encIt dk[c + 1]!).length = k := R.hk _
          have nb : (encIt dk[c]!).length = k := R.hk _
          generalize encIt dk[c + 1]! = cI at S2 la sb na
          generalize encIt dk[c]! = cJ at S2 lb sa sb nb
          clear S1
          go_wp2_with fail
          go_big_region_o
          clear la lb sa sb
          generalize (wr.drew.setCells blk (off + (c + 1) * k) cJ).setCells blk (off + c * k) cI = w3 at S2 ⊢
          go_wp2
          go_roundg (c - i)
          case measure => omega
          case rel => exact ⟨c, swp dk (c + 1) c, by first | rfl | go_num | (congr 1; omega), by omega, by omega, Nat.le_refl _, by rw [size_swp]; exact hds, S2, rot_left HI.out hc2 q1⟩
        · have hltz2 : ¬ (i : Int) < (c : Int) := by omega
          go_wp2
          (try simp only [Exit.inBlock, Exit.then]); refine bodyPost_ret (results_none rfl _ _ _) rfl ?_
          refine ⟨rfl, dk, ?_, S1.out⟩
          have h1 := HI.out
          rw [show c = i by omega] at h1
          rw [HM.out]
          exact sym_right HR.out hi (by omega) q1 F1.out F2'.out h1

end Go.Proofs.Ytgdeaddfkcokpaa
