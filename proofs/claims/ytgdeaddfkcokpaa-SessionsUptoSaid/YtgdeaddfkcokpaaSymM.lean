/-
  Walks: slices.symMergeCmpFunc at items, whole.
-/
import Derived.Test.YtgdeaddfkcokpaaSymL
import Derived.Deep.DeepCutAuto
namespace Go.Proofs.Ytgdeaddfkcokpaa
open Go.Shelf Go.RowKit Go.Lib Go.Sort

/-- What symMergeCmpFunc does for ranges of less than N. -/
def SymOk (g : Nat) (cb : Array Value) (blk off cap : Nat) (d0 : Array It) (w0 : World) (N : Nat) : Prop :=
  ∀ (a m b : Nat) (d : Array It) (w : World), b - a < N → d0.size = d.size → SWK encIt 4 w0 blk off d w → a < m → m < b → b ≤ d.size → Srt a m d → Srt m b d →
    Calls Try.prog 79 #[.slice (some ⟨blk, off, none⟩) d.size cap, .int .i64 a, .int .i64 m, .int .i64 b, .func (.func g) #[] cb] w fun e w' => e = .returned (.tuple #[]) ∧ ∃ e, (Mrg a b d e ∧ Srt a b e) ∧ SWK encIt 4 w0 blk off e w'

set_option maxHeartbeats 4000000 in
set_option maxRecDepth 100000 in
theorem symM_any (g : Nat) (cb : Array Value) (cf : It → It → Int) (blk off cap a m b N : Nat) (d0 d : Array It) (w0 w : World)
    (eg : ∀ args w, (callFunc g args).run Try.prog w = .ok (.enter g args) w) (hcmp : CmpLays Try.prog g cb encIt 4 cf blk off d0.size w0) (hcf : ∀ x y, cf x y < 0 ↔ x.t < y.t)
    (R : RowK encIt 4 w0 blk off d0) (hs : d0.size = d.size) (S : SWK encIt 4 w0 blk off d w) (hN : b - a < N + 1) (hih : SymOk g cb blk off cap d0 w0 N) (hm : a + 1 < m) (hmb : m + 1 < b) (hb : b ≤ d.size) (hsz : d.size < 4611686018427387904) (hl : Srt a m d) (hr : Srt m b d) :
    Calls Try.prog 79 #[.slice (some ⟨blk, off, none⟩) d.size cap, .int .i64 a, .int .i64 m, .int .i64 b, .func (.func g) #[] cb] w fun e w' => e = .returned (.tuple #[]) ∧ ∃ e, (Mrg a b d e ∧ Srt a b e) ∧ SWK encIt 4 w0 blk off e w' := by
  have mixed := mixed_
  have aE := item_agg
  have zE := item_size
  have IH : Aside (SymOk g cb blk off cap d0 w0 N) := hih
  have S4 : Aside (SWK encIt 4 w0 blk off d w) := S
  have HC : Aside (CmpLays Try.prog g cb encIt 4 cf blk off d0.size w0) := hcmp
  have RR : Aside (RowK encIt 4 w0 blk off d0) := R
  have HF : Hid (∀ x y, cf x y < 0 ↔ x.t < y.t) := hcf
  have HL : Hid (Srt a m d) := hl
  have HR : Hid (Srt m b d) := hr
  have q0 : ((m : Int) - (a : Int) == 1) = false := by simp; omega
  have q4 : ((b : Int) - (m : Int) == 1) = false := by simp; omega
  obtain ⟨mid, hmid⟩ : ∃ mid, mid = (a + b) / 2 := ⟨_, rfl⟩
  have M1 : a < mid := by omega
  have M2 : mid < b := by omega
  have E0 : Hid (((a : Int) + (b : Int)) / 2 = (mid : Int)) := by show _ = _; omega
  have M3 : a + b ≤ 2 * mid + 1 := by omega
  have M4 : 2 * mid ≤ a + b := by omega
  clear S R hcmp hcf hl hr hih hmid
  go_enter Try.func79, Try.ntmps79
  go_upto_region 25 with fail
  rw [E0.out]
  clear E0
  go_upto_if 140 with fail
  go_cut [20, 21] (fun s r wx => ∃ st r0 : Nat, s = .int .i64 st ∧ r = .int .i64 r0 ∧ wx = w ∧ a ≤ st ∧ st ≤ r0 ∧ r0 ≤ m ∧ r0 ≤ mid ∧ mid + m ≤ st + b ∧ Hid ((st = a ∨ st + b = mid + m) ∧ (r0 = m ∨ r0 = mid)))
  case first =>
    as_aux_lemma =>
    by_cases hgt : mid < m
    · have hgz : (mid : Int) < (m : Int) := by omega
      go_wp2_with fail
      go_meet
      case rel => exact ⟨mid + m - b, mid, by congr 1; omega, rfl, rfl, by omega, by omega, by omega, by omega, by omega, Or.inr (by omega), Or.inr rfl⟩
    · have hgz : ¬ (mid : Int) < (m : Int) := by omega
      go_wp2_with fail
      go_meet
      case rel => exact ⟨a, m, rfl, rfl, rfl, by omega, by omega, by omega, by omega, by omega, Or.inl rfl, Or.inl rfl⟩
  case rest =>
    as_aux_lemma =>
    obtain ⟨st, r0, rfl, rfl, rfl, t1, t2, t3, t4, t5, HT⟩ := hcut
    go_upto_region 33 with fail
    go_wp2_with fail
    go_loopg [20, 21] (r0 - st) (fun kx s t wr => ∃ (i j : Nat), s = .int .i64 i ∧ t = .int .i64 j ∧ st ≤ i ∧ i ≤ j ∧ j ≤ r0 ∧ j - i ≤ kx ∧ Aside (SWK encIt 4 w0 blk off d wr) ∧ Hid (i = st ∨ (d[i - 1]!).t ≤ (d[mid + m - i]!).t) ∧ Hid (j = r0 ∨ (d[mid + m - 1 - j]!).t < (d[j]!).t))
    case atStart => exact ⟨st, r0, rfl, rfl, Nat.le_refl _, t2, Nat.le_refl _, Nat.le_refl _, S4, Or.inl rfl, Or.inl rfl⟩
    case round =>
      as_aux_lemma =>
      clear S4
      obtain ⟨i, j, rfl, rfl, hi, hij, hj, hkx, S1, F1, F2⟩ := hrel
      by_cases hlt : i < j
      · have hltz : (i : Int) < (j : Int) := by omega
        obtain ⟨k, hk4⟩ : ∃ k, k = 4 := ⟨4, rfl⟩
        have R := RR.out
        have hcm := HC.out
        have S1' := S1.out
        rw [← hk4] at zE R S1' hcm
        obtain ⟨h, hh⟩ : ∃ h, h = (i + j) / 2 := ⟨_, rfl⟩
        have hi1 : i ≤ h := by omega
        have hi2 : h < j := by omega
        have E1 : Hid (((i : Int) + (j : Int)) / 2 = (h : Int)) := by show _ = _; omega
        obtain ⟨z, hz⟩ : ∃ z, z = mid + m - 1 - h := ⟨_, rfl⟩
        have ez : ((mid : Int) + (m : Int) - 1 - (h : Int)).toNat = z := by omega
        have pz : (0 : Int) ≤ (mid : Int) + (m : Int) - 1 - (h : Int) := by omega
        have pz2 : (h : Int) ≤ (mid : Int) + (m : Int) - 1 := by omega
        have bz : (mid : Int) + (m : Int) - 1 - (h : Int) < (d.size : Int) := by omega
        have rz : IntKind.i64.wrap ((mid : Int) + (m : Int) - 1 - (h : Int)) = (mid : Int) + (m : Int) - 1 - (h : Int) := by rw [IntKind.wrap_i64]; omega
        have ba : (h : Int) < (d.size : Int) := by omega
        have HZ : Hid (z = mid + m - 1 - h) := hz
        have hzs : z < d.size := by omega
        clear hh hz
        obtain ⟨x, hx⟩ : ∃ x, x = d[z]! := ⟨_, rfl⟩
        obtain ⟨y, hy⟩ : ∃ x, x = d[h]! := ⟨_, rfl⟩
        have la := S1'.ld R (by omega) Try.prog z (by omega)
        have lb := S1'.ld R (by omega) Try.prog h (by omega)
        rw [← hx] at la
        rw [← hy] at lb
        have hc := S1'.cmp hcm (by omega) x y
        have HK : Hid (k = 4) := hk4
        clear hcm S1' R hk4
        by_cases hv : cf x y < 0
        · as_aux_lemma =>
          have hd : decide (cf x y < 0) = true := decide_eq_true hv
          have HV : Hid ((d[mid + m - 1 - h]!).t < (d[h]!).t) := by show _ < _; rw [← HZ.out, ← hx, ← hy]; exact (HF.out x y).1 hv
          clear hx hy
          go_upto_region 35 with fail
          rw [E1.out]
          go_quiet_grown (first | (go_at_fn g; refine Calls.grown_of (hc _ _)))
          have S2 : Aside (SWK encIt 4 w0 blk off d (grow (wr.drewN nq) osq)) := S1.out.grown nq osq
          clear la lb hc S1
          generalize grow (wr.drewN nq) osq = w2 at S2 ⊢
          clear nq osq
          go_wp2
          go_roundg (h - i)
          case measure => omega
          case rel => exact ⟨i, h, rfl, rfl, hi, hi1, by omega, Nat.le_refl _, S2, F1, Or.inr HV.out⟩
        · as_aux_lemma =>
          have hd : decide (cf x y < 0) = false := decide_eq_false hv
          have HV : Hid ((d[h]!).t ≤ (d[mid + m - 1 - h]!).t) := by show _ ≤ _; rw [← HZ.out, ← hx, ← hy]; exact Int.not_lt.1 fun q => hv ((HF.out x y).2 q)
          clear hx hy
          go_upto_region 35 with fail
          rw [E1.out]
          go_quiet_grown (first | (go_at_fn g; refine Calls.grown_of (hc _ _)))
          have S2 : Aside (SWK encIt 4 w0 blk off d (grow (wr.drewN nq) osq)) := S1.out.grown nq osq
          clear la lb hc S1
          generalize grow (wr.drewN nq) osq = w2 at S2 ⊢
          clear nq osq
          go_wp2
          go_roundg (j - (h + 1))
          case measure => omega
          case rel => exact ⟨h + 1, j, by go_num, rfl, by omega, by omega, hj, Nat.le_refl _, S2, Or.inr (by rw [Nat.add_sub_cancel, show mid + m - (h + 1) = mid + m - 1 - h by omega]; exact HV.out), F2⟩
      · as_aux_lemma =>
        have hltz : ¬ (i : Int) < (j : Int) := by omega
        obtain ⟨e', he'⟩ : ∃ e', e' = mid + m - i := ⟨_, rfl⟩
        have e1 : m ≤ e' := by omega
        have e2 : e' ≤ b := by omega
        have e3 : i + e' ≤ mid + m := by omega
        have e4 : mid + m ≤ i + e' := by omega
        have e5 : mid ≤ e' := by omega
        have EE : Hid ((mid : Int) + (m : Int) - (i : Int) = (e' : Int)) := by show _ = _; omega
        have G1 : Hid (i = a ∨ e' = b ∨ (d[i - 1]!).t ≤ (d[e']!).t) := by
          have := F1.out
          rw [← he'] at this
          have := HT.out
          show _ ∨ _ ∨ _
          omega
        have G2 : Hid (i = m ∨ e' = m ∨ (d[e' - 1]!).t < (d[i]!).t) := by
          have := F2.out
          rw [show j = i by omega, show mid + m - 1 - i = e' - 1 by omega] at this
          have := HT.out
          show _ ∨ _ ∨ _
          omega
        clear F1 F2 he' HT
        go_upto_region 39 with fail
        rw [EE.out]
        clear EE
        go_cut [185] (fun v wx => v = .bool (decide (i < m ∧ m < e')) ∧ wx = wr)
        case first =>
          as_aux_lemma =>
          by_cases c1 : i < m
          · have c1z : (i : Int) < (m : Int) := by omega
            by_cases c2 : m < e'
            · have c2z : (m : Int) < (e' : Int) := by omega
              go_wp2_with fail
              go_meet
              case rel => exact ⟨by rw [decide_eq_true (show i < m ∧ m < e' from ⟨c1, c2⟩)], rfl⟩
            · have c2z : ¬ (m : Int) < (e' : Int) := by omega
              go_wp2_with fail
              go_meet
              case rel => exact ⟨by rw [decide_eq_false (show ¬ (i < m ∧ m < e') from fun q => c2 q.2)], rfl⟩
          · have c1z : ¬ (i : Int) < (m : Int) := by omega
            go_wp2_with fail
            go_meet
            case rel => exact ⟨by rw [decide_eq_false (show ¬ (i < m ∧ m < e') from fun q => c1 q.1)], rfl⟩
        case rest =>
        as_aux_lemma =>
        obtain ⟨rfl, rfl⟩ := hcut
        go_upto_if 185 with fail
        go_cut [] (fun wx => ∃ e1, Hid (IsRot i m e' d e1) ∧ Aside (SWK encIt 4 w0 blk off e1 wx))
        case first =>
          as_aux_lemma =>
          by_cases c1 : i < m ∧ m < e'
          · have hcon := rotate_any g cb blk off cap i m e' d0 d w0 _ RR.out hs S1.out c1.1 c1.2 (by omega) hsz
            rw [decide_eq_true c1]
            go_wp2_with (go_at_call 80; refine hcon.mono ?_; rintro e w' ⟨rfl, e1, hr1, hs1⟩)
            go_meet
            case rel => exact ⟨e1, hr1, hs1⟩
          · rw [decide_eq_false c1]
            go_wp2_with fail
            go_meet
            case rel =>
              refine ⟨d, ?_, S1⟩
              show IsRot _ _ _ _ _
              by_cases c2 : i = m
              · rw [c2]; exact rot_none_left d
              · rw [show e' = m by omega]; exact rot_none_right d
        case rest =>
          as_aux_lemma =>
          obtain ⟨d1, H1, S2⟩ := hcut
          clear S1
          have HH : Hid (Halves a i mid e' b d d1) := sym_mid HL.out HR.out hb (by omega) (by omega) e1 e2 (by omega) G1.out G2.out H1.out
          have z1 : d1.size = d.size := H1.out.size
          clear G1 G2 H1
          go_upto_region 41 with fail
          go_cut [199] (fun v wx => v = .bool (decide (a < i ∧ i < mid)) ∧ wx = wc)
          case first =>
            as_aux_lemma =>
            by_cases c1 : a < i
            · have c1z : (a : Int) < (i : Int) := by omega
              by_cases c2 : i < mid
              · have c2z : (i : Int) < (mid : Int) := by omega
                go_wp2_with fail
                go_meet
                case rel => exact ⟨by rw [decide_eq_true (show a < i ∧ i < mid from ⟨c1, c2⟩)], rfl⟩
              · have c2z : ¬ (i : Int) < (mid : Int) := by omega
                go_wp2_with fail
                go_meet
                case rel => exact ⟨by rw [decide_eq_false (show ¬ (a < i ∧ i < mid) from fun q => c2 q.2)], rfl⟩
            · have c1z : ¬ (a : Int) < (i : Int) := by omega
              go_wp2_with fail
              go_meet
              case rel => exact ⟨by rw [decide_eq_false (show ¬ (a < i ∧ i < mid) from fun q => c1 q.1)], rfl⟩
          case rest =>
          as_aux_lemma =>
          obtain ⟨rfl, rfl⟩ := hcut
          go_upto_if 199 with fail
          go_cut [] (fun wx => ∃ e1, Hid (Mrg a mid d1 e1 ∧ Srt a mid e1) ∧ Aside (SWK encIt 4 w0 blk off e1 wx))
          case first =>
            as_aux_lemma =>
            by_cases c1 : a < i ∧ i < mid
            · have hcon := IH.out a i mid d1 _ (by omega) (by omega) S2.out c1.1 c1.2 (by omega) HH.out.s1 HH.out.s2
              rw [z1] at hcon
              rw [decide_eq_true c1]
              go_wp2_with (go_at_call 79; refine hcon.mono ?_; rintro e w' ⟨rfl, e1, hr1, hs1⟩)
              go_meet
              case rel => exact ⟨e1, hr1, hs1⟩
            · rw [decide_eq_false c1]
              go_wp2_with fail
              go_meet
              case rel =>
                refine ⟨d1, ⟨Mrg.refl _ _ _, ?_⟩, S2⟩
                by_cases c2 : i = a
                · have := HH.out.s2; rwa [c2] at this
                · have := HH.out.s1; rwa [show i = mid by omega] at this
          case rest =>
            as_aux_lemma =>
            obtain ⟨d2, H2, S3⟩ := hcut
            clear S2
            have z2 : d2.size = d.size := H2.out.1.size.trans z1
            by_cases c1 : mid < e'
            · have c1z : (mid : Int) < (e' : Int) := by omega
              by_cases c2 : e' < b
              · have c2z : (e' : Int) < (b : Int) := by omega
                have hcon := IH.out mid e' b d2 wc (by omega) (by omega) S3.out c1 c2 (by omega) (HH.out.s3.out H2.out.1 (Or.inr (Nat.le_refl _))) (HH.out.s4.out H2.out.1 (Or.inr (by omega)))
                rw [z2] at hcon
                go_wp2_with (go_at_call 79; refine hcon.mono ?_; rintro e w' ⟨rfl, e1, hr1, hs1⟩)
                go_end0
                exact ⟨rfl, e1, HH.out.end_ (by omega) (by omega) H2.out.1 H2.out.2 hr1.1 hr1.2, hs1⟩
              · have c2z : ¬ (e' : Int) < (b : Int) := by omega
                go_wp2_with fail
                go_end0
                exact ⟨rfl, d2, HH.out.end_ (by omega) (by omega) H2.out.1 H2.out.2 (Mrg.refl _ _ _) (by have := HH.out.s3.out H2.out.1 (Or.inr (Nat.le_refl _)); rwa [show e' = b by omega] at this), S3.out⟩
            · have c1z : ¬ (mid : Int) < (e' : Int) := by omega
              go_wp2_with fail
              go_end0
              exact ⟨rfl, d2, HH.out.end_ (by omega) (by omega) H2.out.1 H2.out.2 (Mrg.refl _ _ _) (by have := HH.out.s4.out H2.out.1 (Or.inr (by omega)); rwa [show e' = mid by omega] at this), S3.out⟩

theorem sym_all (g : Nat) (cb : Array Value) (cf : It → It → Int) (blk off cap : Nat) (d0 : Array It) (w0 : World)
    (eg : ∀ args w, (callFunc g args).run Try.prog w = .ok (.enter g args) w) (hcmp : CmpLays Try.prog g cb encIt 4 cf blk off d0.size w0) (hcf : ∀ x y, cf x y < 0 ↔ x.t < y.t)
    (R : RowK encIt 4 w0 blk off d0) (hsz : d0.size < 4611686018427387904) : ∀ N, SymOk g cb blk off cap d0 w0 N := by
  intro N
  induction N with
  | zero => intro a m b d w h; omega
  | succ N ih =>
    intro a m b d w hN hs S h1 h2 hb hl hr
    by_cases c1 : m = a + 1
    · exact symL_any g cb cf blk off cap a m b d0 d w0 w eg hcmp hcf R hs S c1 (by omega) hb (by omega) hr
    · by_cases c2 : b = m + 1
      · exact symR_any g cb cf blk off cap a m b d0 d w0 w eg hcmp hcf R hs S (by omega) c2 hb (by omega) hl
      · exact symM_any g cb cf blk off cap a m b N d0 d w0 w eg hcmp hcf R hs S hN ih (by omega) (by omega) hb (by omega) hl hr

end Go.Proofs.Ytgdeaddfkcokpaa
