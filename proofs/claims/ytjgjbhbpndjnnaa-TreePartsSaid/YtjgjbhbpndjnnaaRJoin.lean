/-
  Walk: the reference's Join.
-/
import Derived.Test.YtjgjbhbpndjnnaaAccRegs
import Derived.Test.YtjgjbhbpndjnnaaTwo
import Derived.Test.YtjgjbhbpndjnnaaRj17
import Derived.Test.YtjgjbhbpndjnnaaG15
import Derived.Deep.DeepCutAuto
import Derived.Deep.CutBlock
import Derived.Deep.QuietTactic
namespace Go.Proofs.Ytjgjbhbpndjnnaa
open Go.RowKit

/-- The call hands out this aggregate. -/
def JoinOut (J : Ac) (w : World) (e : Ending) (w' : World) : Prop :=
  ∃ A n c, e = .returned (.tuple #[accV J A n c, .int .i64 0]) ∧ AccIn w' w.heap.size J A n c ∧ Below w.heap.size w w'
/-- What a join hands out. -/
def JoinR (bs : List Int) (xs : List Ac) (w : World) (e : Ending) (w' : World) : Prop :=
  ((boundsB bs && togB (bs.length + 1) (-1) xs) = false ∧ BadAcc 100 w e w') ∨
  ((boundsB bs && togB (bs.length + 1) (-1) xs) = true ∧ totalA xs ≤ 8192 ∧ JoinOut (joinAc bs xs) w e w') ∨
  ((boundsB bs && togB (bs.length + 1) (-1) xs) = true ∧ 8192 < totalA xs ∧ BadAcc 101 w e w')

structure RjS (w : World) (B : Option Addr) (m : Nat) (bs : List Int) (A : Option Addr) (n : Nat) (xs : List Ac) (wr : World) : Prop where
  res : Has wr w.heap.size 29 (accC zeroAc none 0 0)
  bs : Ints wr B m bs
  row : Accs wr A n xs
  keep : Below w.heap.size w wr
theorem RjS.below {w : World} {B : Option Addr} {m : Nat} {bs : List Int} {A : Option Addr} {n : Nat} {xs : List Ac} {wr wy : World} (h : RjS w B m bs A n xs wr) (hb : Below wr.heap.size wr wy) : RjS w B m bs A n xs wy :=
  ⟨h.res.below hb h.res.lt, h.bs.below hb, h.row.below hb, h.keep.trans (hb.mono h.keep.size)⟩
/-- The last one that is not empty, and its series. -/
def AtS (xs : List Ac) (n : Nat) (at_ s : Int) : Prop := (at_ = -1 ∧ s = -1) ∨ ∃ p : Nat, p < n ∧ at_ = (p : Int) ∧ s = (nthA xs p).f.s ∧ 0 ≤ s
theorem tog_bad {M s : Int} {Z : Ac} {r : List Ac} (h : fitB Z M = false) : togB M s (Z :: r) = false := by simp [togB, h]
theorem tog_none {M s : Int} {Z : Ac} {r : List Ac} (h : fitB Z M = true) (h0 : Z.n = 0) : togB M s (Z :: r) = togB M s r := by simp [togB, h, h0]
theorem tog_off {M s : Int} {Z : Ac} {r : List Ac} (h : fitB Z M = true) (h0 : ¬ Z.n = 0) (h1 : 0 ≤ s) (h2 : ¬ Z.f.s = s) : togB M s (Z :: r) = false := by simp [togB, h, h0, h1, h2]
theorem tog_on {M s : Int} {Z : Ac} {r : List Ac} (h : fitB Z M = true) (h0 : ¬ Z.n = 0) (h1 : ¬ 0 ≤ s ∨ Z.f.s = s) : togB M s (Z :: r) = togB M Z.f.s r := by
  have h3 : ¬ (0 ≤ s ∧ ¬ Z.f.s = s) := by omega
  simp only [togB, h, h0, if_false, Bool.true_and]
  rw [if_neg h3]
theorem fit_series {Z : Ac} {M : Int} (h : fitB Z M = true) (h0 : ¬ Z.n = 0) : 0 ≤ Z.f.s := by
  unfold fitB at h
  rw [if_neg h0] at h
  simp only [Bool.and_eq_true] at h
  obtain ⟨_, _, h1, _⟩ := h
  have h2 := of_decide_eq_true h1
  exact (itemB_iff.1 h2.1).1

/-- What stands at the head of each round of the second loop. -/
structure JoS (w : World) (g : Nat) (O : Ac) (D : Option Addr) (k c : Nat) (wr : World) : Prop where
  res : Has wr w.heap.size 29 (accC zeroAc none 0 0)
  out : Has wr g 29 (accC O D k c)
  hist : AccIn wr w.heap.size O D k c
  far : ∀ ad, D = some ad → ad.block ≠ w.heap.size ∧ ad.block ≠ g
  gw : w.heap.size < g
  keep : Below w.heap.size w wr
theorem JoS.below {w : World} {g : Nat} {O : Ac} {D : Option Addr} {k c : Nat} {wr wy : World} (h : JoS w g O D k c wr) (hb : Below wr.heap.size wr wy) : JoS w g O D k c wy :=
  ⟨h.res.below hb h.res.lt, h.out.below hb h.out.lt, h.hist.below hb, h.far, h.gw, h.keep.trans (hb.mono h.keep.size)⟩
theorem JoS.turn {w : World} {g : Nat} {O O' : Ac} {D D' : Option Addr} {k c k' c' : Nat} {wr : World} (h : JoS w g O D k c wr) (hN : AccIn wr w.heap.size O' D' k' c') (hf : ∀ ad, D' = some ad → ad.block ≠ w.heap.size ∧ ad.block ≠ g) : JoS w g O' D' k' c' (wr.setRow g (accC O' D' k' c')) :=
  ⟨h.res.rowFar (by have := h.gw; omega) _, h.out.row _, ⟨hN.hist.row (fun ad e => (hf ad e).2) _, hN.cap, hN.most, hN.new, fun ad e => by obtain ⟨cs, hh⟩ := hN.typ ad e; exact ⟨cs, hh.rowFar (hf ad e).2 _⟩⟩, hf, h.gw, below_row h.keep (by have := h.gw; omega) _⟩
theorem prefix_fit {M : Nat} {xs : List Ac} (ha : ∀ i, i < xs.length → Fit M (nthA xs i)) {j : Nat} (hj : j ≤ xs.length) (hn : (joinTo M xs j).n ≤ 8192) : Fit M (joinTo M xs j) := by
  have e : joinTo M (xs.take j) j = joinTo M xs j := by unfold joinTo; rw [List.take_take, Nat.min_self]
  rw [← e]
  refine joinTo_fit (fun i hi => ?_) ?_ (by rw [List.length_take]; omega)
  · have hi2 : i < j := by rw [List.length_take] at hi; omega
    have e2 : nthA (xs.take j) i = nthA xs i := by simp [nthA, hi2]
    rw [e2]
    exact ha i (by omega)
  · rw [joinTo_n hj] at hn
    unfold totalA
    rw [List.map_take]; rw [List.map_take] at hn
    exact hn
theorem prefix_zero {M : Nat} {xs : List Ac} (ha : ∀ i, i < xs.length → 0 ≤ (nthA xs i).n) : ∀ j, j ≤ xs.length → 0 ≤ (joinTo M xs j).n ∧ ((joinTo M xs j).n = 0 → joinTo M xs j = ⟨0, 0, 0, 0, zeroIt, zeroIt, List.replicate M 0⟩) := by
  intro j
  induction j with
  | zero => intro _; exact ⟨Int.le_refl _, fun _ => rfl⟩
  | succ j ih =>
    intro hj
    obtain ⟨h1, h2⟩ := ih (by omega)
    have hz := ha j (by omega)
    rw [joinTo_succ (by omega)]
    unfold joinStep
    by_cases h0 : (nthA xs j).n = 0
    · rw [if_pos h0]; exact ⟨h1, h2⟩
    · rw [if_neg h0]
      have e : (addAc (joinTo M xs j) (nthA xs j)).n = (joinTo M xs j).n + (nthA xs j).n := rfl
      rw [e]
      exact ⟨by omega, fun e2 => by omega⟩
theorem prefix_le {M : Nat} {xs : List Ac} (ha : ∀ i, i < xs.length → 0 ≤ (nthA xs i).n) {j : Nat} (hj : j ≤ xs.length) : (joinTo M xs j).n ≤ totalA xs := by
  rw [joinTo_n hj]
  unfold totalA
  rw [List.map_take]
  refine isum_take_le (fun i hi => ?_) j
  have hi2 : i < xs.length := by simpa using hi
  have e : nth (xs.map (·.n)) i = (nthA xs i).n := by simp [nth, nthA, hi2]
  rw [e]; exact ha i hi2

set_option maxRecDepth 100000 in
set_option maxHeartbeats 4000000 in
theorem rjoin_any (B : Option Addr) (m d : Nat) (bs : List Int) (A : Option Addr) (n c : Nat) (xs : List Ac) (w : World) (hbs : Ints w B m bs) (hm : m ≤ maxLen) (hr : Accs w A n xs) (hn : n ≤ 17592186044416) :
    Calls Try.prog 14 #[.slice B m d, .slice A n c] w (JoinR bs xs w) := by
  have HLX := Lib.hid hr.1
  have hS0 : RjS w B m bs A n xs (w.alloc (.cells (accC zeroAc none 0 0) 29)) := by
    have hb : Below w.heap.size w (w.alloc (.cells (accC zeroAc none 0 0) 29)) := (Below.refl _ _).alloc (Nat.le_refl _) _
    exact ⟨Has.made _ _ _, hbs.below hb, hr.below hb, hb⟩
  have HS := Lib.hid hS0
  have HROW := Lib.hid hr
  have HLB := Lib.hid hbs.1
  clear hS0 hbs hr
  have HM := Lib.hid hm
  go_enter Try.func14, Try.ntmps14
  go_wp2_with fail
  refine (rbounds_any B m d bs _ HS.out.bs hm).mono ?_
  rintro e w1 ⟨rfl, k, hk⟩
  replace HS := Lib.hid (HS.out.below (hk ▸ below_drewN (Below.refl _ _) k))
  clear hk k
  cases hbb : boundsB bs
  · have HBB := Lib.hid hbb; clear hbb
    go_upto_region 2 with fail
    go_wp2_with (refine wpList_store_row rfl 29 _ _ rfl w.heap.size (accC zeroAc none 0 0) rfl rfl 29 _ HS.out.res Try.sizeAcc rfl (accC_one _ _ _ _) ?_)
    refine bodyPost_ret (ret_row rfl _ _ _ 29 (accC zeroAc none 0 0) _ rfl (HS.out.res.row _) Try.underlying29 rfl (by exact Try.sizeAcc)) rfl ?_
    exact .inl ⟨by rw [HBB.out]; rfl, rfl, below_row HS.out.keep (Nat.le_refl _) _⟩
  · have HBB := Lib.hid hbb; clear hbb
    have HACC : Hid (∀ Z, accB Z bs = fitB Z (bs.length + 1)) := fun Z => by unfold accB; rw [HBB.out]; rfl
    have HT0 : Hid (togB (bs.length + 1) (-1) xs = togB (bs.length + 1) (-1) (xs.drop 0)) := rfl
    go_upto_block 0 with fail
    go_cut [] (fun wx => Hid (togB (bs.length + 1) (-1) xs = true) ∧ Hid (RjS w B m bs A n xs wx))
    case first =>
      go_wp2_with fail
      go_loopw [6, 7] (fun x i wr => ∃ (j : Nat) (at_ s : Int), j ≤ n ∧ i = .int .i64 j ∧ x = .int .i64 at_ ∧ Hid (AtS xs n at_ s) ∧ Hid (togB (bs.length + 1) (-1) xs = togB (bs.length + 1) s (xs.drop j)) ∧ Hid (RjS w B m bs A n xs wr)) (fun _ i _ => n - (intOf i).toNat)
      case atStart => exact ⟨0, -1, -1, Nat.zero_le _, rfl, rfl, .inl ⟨rfl, rfl⟩, HT0, HS⟩
      case round =>
        clear HS HT0
        obtain ⟨j, at_, s, hj, rfl, rfl, HAT, HT, HS⟩ := hrel
        by_cases hlt : j < n
        · obtain ⟨b, o, rfl, hi⟩ := HS.out.row.2 (by omega)
          obtain ⟨A1, k1, c1, r1⟩ := hi j hlt
          have HD : Hid (xs.drop j = nthA xs j :: xs.drop (j + 1)) := drop_nthA (by rw [HLX.out]; exact hlt)
          have hjn : (j : Int) < (n : Int) := by omega
          have R1 := Lib.hid r1; clear r1
          have HI := Lib.hid hi; clear hi
          obtain ⟨Z, hZ⟩ : ∃ Z, nthA xs j = Z := ⟨_, rfl⟩
          rw [hZ] at HD R1
          have HZ := Lib.hid hZ; clear hZ
          go_wp2_with (refine load_acc rfl _ rfl _ _ rfl R1.out ?_)
          refine (raccmay_any Z A1 k1 c1 B m d bs _ R1.out.2.1 HS.out.bs (Nat.le_trans R1.out.2.2.1 R1.out.2.2.2) HM.out).mono ?_
          rintro e w2 ⟨rfl, hb⟩
          rw [HACC.out Z]
          replace HS := Lib.hid (HS.out.below hb)
          replace R1 := Lib.hid (R1.out.keep fun _ hp => hb.cell hp)
          replace HI : Hid (∀ i, i < n → ∃ B k c, AccAt w2 b (o + i * 13) (nthA xs i) B k c) := fun i hi => by
            obtain ⟨B, k, c, h⟩ := HI.out i hi
            exact ⟨B, k, c, h.keep fun _ hp => hb.cell hp⟩
          clear hb
          cases hfit : fitB Z (bs.length + 1)
          · have HF := Lib.hid hfit; clear hfit
            go_upto_region 8 with fail
            go_wp2_with (refine wpList_store_row rfl 29 _ _ rfl w.heap.size (accC zeroAc none 0 0) rfl rfl 29 _ HS.out.res Try.sizeAcc rfl (accC_one _ _ _ _) ?_)
            refine bodyPost_ret (ret_row rfl _ _ _ 29 (accC zeroAc none 0 0) _ rfl (HS.out.res.row _) Try.underlying29 rfl (by exact Try.sizeAcc)) rfl ?_
            exact .inl ⟨by rw [HT.out, HD.out, tog_bad HF.out]; simp, rfl, below_row HS.out.keep (Nat.le_refl _) _⟩
          · have HF := Lib.hid hfit; clear hfit
            have cn : w2.cell? ⟨b, o + j * 13, none⟩ = some (.int .i64 Z.n) := R1.out.1 0 _ rfl
            have cs : w2.cell? ⟨b, o + j * 13 + 4, none⟩ = some (.int .i64 Z.f.s) := R1.out.1 4 _ rfl
            by_cases h0 : Z.n = 0
            · have h0' : (Z.n == 0) = true := by simp [h0]
              have HT2 : Hid (togB (bs.length + 1) (-1) xs = togB (bs.length + 1) s (xs.drop (j + 1))) := by rw [Hid, HT.out, HD.out, tog_none HF.out h0]
              clear h0
              go_wp2_with fail
              go_roundw
              case rel => exact ⟨j + 1, at_, s, by omega, by go_num, rfl, HAT, HT2, HS⟩
              case measure => simp [intOf]; omega
            · have h0' : (Z.n == 0) = false := by simp [h0]
              have H0 := Lib.hid h0; clear h0
              rcases HAT.out with ⟨rfl, rfl⟩ | ⟨p, hp, rfl, hs, hs0⟩
              · have HT2 : Hid (togB (bs.length + 1) (-1) xs = togB (bs.length + 1) Z.f.s (xs.drop (j + 1))) := by rw [Hid, HT.out, HD.out, tog_on HF.out H0.out (Or.inl (by decide))]
                have HAT2 : Hid (AtS xs n (j : Int) Z.f.s) := .inr ⟨j, hlt, rfl, by rw [HZ.out], fit_series HF.out H0.out⟩
                clear HAT
                go_wp2_with fail
                go_quiet (fail)
                replace HS := Lib.hid (HS.out.below (below_drewN (Below.refl _ _) nq))
                go_wp2_with fail
                go_roundw
                case rel => exact ⟨j + 1, (j : Int), Z.f.s, by omega, by go_num, rfl, HAT2, HT2, HS⟩
                case measure => simp [intOf]; omega
              · obtain ⟨A2, k2, c2, r2⟩ := HI.out p hp
                have cp0 : w2.cell? ⟨b, o + p * 13 + 4, none⟩ = some (.int .i64 (nthA xs p).f.s) := r2.1 4 _ rfl
                have cp : w2.cell? ⟨b, o + p * 13 + 4, none⟩ = some (.int .i64 s) := by rw [cp0, hs]
                clear r2 cp0 HAT hs
                have hpn : (p : Int) < (n : Int) := by omega
                have hp0 : (0 : Int) ≤ (p : Int) := by omega
                by_cases hse : Z.f.s = s
                · have hse' : (Z.f.s != s) = false := by simp [hse]
                  have HT2 : Hid (togB (bs.length + 1) (-1) xs = togB (bs.length + 1) Z.f.s (xs.drop (j + 1))) := by rw [Hid, HT.out, HD.out, tog_on HF.out H0.out (Or.inr hse)]
                  have HAT2 : Hid (AtS xs n (j : Int) Z.f.s) := .inr ⟨j, hlt, rfl, by rw [HZ.out], fit_series HF.out H0.out⟩
                  clear hse
                  go_wp2_with fail
                  go_quiet (fail)
                  replace HS := Lib.hid (HS.out.below (below_drewN (Below.refl _ _) nq))
                  go_wp2_with fail
                  go_roundw
                  case rel => exact ⟨j + 1, (j : Int), Z.f.s, by omega, by go_num, rfl, HAT2, HT2, HS⟩
                  case measure => simp [intOf]; omega
                · have hse' : (Z.f.s != s) = true := by simp [hse]
                  have HT2 : Hid (togB (bs.length + 1) (-1) xs = false) := by rw [Hid, HT.out, HD.out, tog_off HF.out H0.out hs0 hse]
                  clear hse
                  go_wp2_with fail
                  go_quiet (fail)
                  replace HS := Lib.hid (HS.out.below (below_drewN (Below.refl _ _) nq))
                  go_upto_region 11 with fail
                  go_wp2_with (refine wpList_store_row rfl 29 _ _ rfl w.heap.size (accC zeroAc none 0 0) rfl rfl 29 _ HS.out.res Try.sizeAcc rfl (accC_one _ _ _ _) ?_)
                  refine bodyPost_ret (ret_row rfl _ _ _ 29 (accC zeroAc none 0 0) _ rfl (HS.out.res.row _) Try.underlying29 rfl (by exact Try.sizeAcc)) rfl ?_
                  exact .inl ⟨by rw [HT2.out]; simp, rfl, below_row HS.out.keep (Nat.le_refl _) _⟩
        · have hjm : j = n := by omega
          subst hjm
          have HTT : Hid (togB (bs.length + 1) (-1) xs = true) := by rw [Hid, HT.out, List.drop_of_length_le (by rw [HLX.out]; exact Nat.le_refl _)]; rfl
          go_wp2
          go_meet
          exact ⟨HTT, HS⟩
    case rest =>
      clear HS HT0
      obtain ⟨HTT, HS⟩ := hcut
      have hm8 : m ≤ 8 := by have := (boundsB_true HBB.out).1; rw [HLB.out] at this; exact this
      have HFIT : Hid (∀ i, i < n → Fit (bs.length + 1) (nthA xs i)) := fun i hi => fit_of (m := bs.length + 1) (togB_fit HTT.out (i := i) (by rw [HLX.out]; exact hi))
      have HFIT2 : Hid (∀ i, i < xs.length → Fit (bs.length + 1) (nthA xs i)) := fun i hi => HFIT.out i (by rw [← HLX.out]; exact hi)
      have HN0 : Hid (∀ i, i < xs.length → 0 ≤ (nthA xs i).n) := fun i hi => (HFIT2.out i hi).n0
      obtain ⟨i0, hi0, hz0, hs0, hy0⟩ := info_parts Try.infoInt
      have hmk := fun W => make_ints (P := Try.prog) 25 3 i0 Try.underlying25 hi0 hz0 hs0 hy0 m (by omega) W
      clear hi0 hz0 hs0 hy0
      go_upto_region 14 with (refine store_new rfl _ _ rfl (ac := startJ bs) (A := some ⟨wc.heap.size, 0, none⟩) (k := m + 1) (c := m + 1) (by simp [go_sem]) rfl rfl ?_; intro wn hbn hvn)
      clear hmk
      rw [show (wc.alloc (.cells (zeros (m + 1)) 3)).heap.size = wc.heap.size + 1 from by simp] at hvn
      have hb' : Below wc.heap.size wc wn := ((Below.refl _ _).alloc (Nat.le_refl _) _).trans (hbn.mono (by simp))
      have hz : Has wn wc.heap.size 3 (ints (startJ bs).h) := by
        have h := has_below (Has.made wc 3 (zeros (m + 1))) hbn
        rw [zeros_ints] at h
        have e : (startJ bs).h = List.replicate (m + 1) 0 := by simp only [startJ]; rw [HLB.out]
        rw [e]; exact h
      have HJ : Hid (JoS w (wc.heap.size + 1) (joinTo (bs.length + 1) xs 0) (some ⟨wc.heap.size, 0, none⟩) (m + 1) (m + 1) wn) := by
        have e : joinTo (bs.length + 1) xs 0 = startJ bs := rfl
        have hw := HS.out.res.lt
        rw [Hid, e]
        exact ⟨(HS.out.below hb').res, hvn, ⟨ints_of_has hz (by rw [start_hlen, HLB.out]), Nat.le_refl _, by unfold maxLen; omega, (fun ad e => by injection e with e; subst e; exact Nat.le_of_lt hw), (fun ad e => by injection e with e; subst e; exact ⟨_, hz⟩)⟩, fun ad e => by injection e with e; subst e; exact ⟨show wc.heap.size ≠ w.heap.size by omega, show wc.heap.size ≠ wc.heap.size + 1 by omega⟩, by omega, (HS.out.below hb').keep⟩
      clear hbn hvn hb' hz HS
      generalize wc.heap.size + 1 = g at HJ ⊢
      go_wp2_with fail
      go_loopw [9] (fun i wr => ∃ (j : Nat) (D : Option Addr) (k cc : Nat), j ≤ n ∧ i = .int .i64 j ∧ Hid ((joinTo (bs.length + 1) xs j).n ≤ 8192) ∧ Hid (JoS w g (joinTo (bs.length + 1) xs j) D k cc wr)) (fun i _ => n - (intOf i).toNat)
      case atStart => exact ⟨0, _, _, _, Nat.zero_le _, rfl, show (0 : Int) ≤ 8192 by decide, HJ⟩
      case round =>
        clear HJ
        obtain ⟨j, D, k, cc, hj, rfl, HNN, HJ⟩ := hrel
        by_cases hlt : j < n
        · obtain ⟨b, o, rfl, hi⟩ := (HROW.out.below HJ.out.keep).2 (by omega)
          obtain ⟨A1, k1, c1, r1⟩ := hi j hlt
          clear hi
          have hjn : (j : Int) < (n : Int) := by omega
          have hjx : j < xs.length := by rw [HLX.out]; exact hlt
          have HFZ := Lib.hid (HFIT.out j hlt)
          have HFO := Lib.hid (prefix_fit HFIT2.out (Nat.le_of_lt hjx) HNN.out)
          have HST := Lib.hid (joinTo_succ (m := bs.length + 1) hjx)
          have HPZ := Lib.hid ((prefix_zero (M := bs.length + 1) HN0.out j (Nat.le_of_lt hjx)).2)
          have hpl := prefix_le (M := bs.length + 1) HN0.out (j := j + 1) hjx
          have HPL := Lib.hid hpl; clear hpl hjx
          obtain ⟨Z, hZ⟩ : ∃ Z, nthA xs j = Z := ⟨_, rfl⟩
          rw [hZ] at r1 HFZ HST
          clear hZ
          obtain ⟨O, hO⟩ : ∃ O, joinTo (bs.length + 1) xs j = O := ⟨_, rfl⟩
          rw [hO] at HNN HJ HFO HST HPZ
          clear hO
          obtain rfl : k = bs.length + 1 := HJ.out.hist.hist.1.symm.trans HFO.out.len
          obtain rfl : k1 = bs.length + 1 := r1.2.1.1.symm.trans HFZ.out.len
          have R1 := Lib.hid r1; clear r1
          have cn : wr.cell? ⟨b, o + j * 13, none⟩ = some (.int .i64 Z.n) := R1.out.1 0 _ rfl
          have co : wr.cell? ⟨g, 0, none⟩ = some (.int .i64 O.n) := HJ.out.out.cell 0
          have hnn : O.n ≤ 8192 := HNN.out
          have hzn : Z.n ≤ 8192 := HFZ.out.n1
          by_cases hz : Z.n = 0
          · have hz' : (Z.n == 0) = true := by simp [hz]
            have HE : Hid (joinTo (bs.length + 1) xs (j + 1) = O) := by rw [Hid, HST.out]; unfold joinStep; rw [if_pos hz]
            clear hz
            go_wp2_with fail
            go_roundw
            case rel => exact ⟨j + 1, D, _, cc, by omega, by go_num, by rw [Hid, HE.out]; exact hnn, by rw [HE.out]; exact HJ⟩
            case measure => simp [intOf]; omega
          · have hz' : (Z.n == 0) = false := by simp [hz]
            have HZ0 := Lib.hid hz; clear hz
            by_cases ho : O.n = 0
            · have ho' : (O.n == 0) = true := by simp [ho]
              have HE : Hid (joinTo (bs.length + 1) xs (j + 1) = Z) := by
                rw [Hid, HST.out, HPZ.out ho]
                unfold joinStep
                rw [if_neg HZ0.out]
                exact add_start bs Z HFZ.out.len
              clear ho
              go_wp2_with (refine load_acc rfl _ rfl _ _ rfl R1.out ?_)
              refine (rcopyacc_any Z A1 _ c1 _ R1.out.2.1 (by have := HLB.out; omega) (fun e => by
                obtain ⟨b9, o9, e2, _⟩ := R1.out.2.1.at_ (k := 0) (by omega)
                rw [e] at e2; cases e2)).mono ?_
              rintro e w2 ⟨A2, k2, c2, rfl, hin, hb⟩
              have hgl := HJ.out.out.lt
              have hwl := HJ.out.keep.size
              have HJ2 := Lib.hid (HJ.out.below hb)
              have HJ3 : Hid (JoS w g Z A2 k2 c2 (w2.setRow g (accC Z A2 k2 c2))) := HJ2.out.turn (hin.mono hwl) (fun ad e => by have := hin.new ad e; have := HJ.out.gw; omega)
              clear hb hin co cn HJ
              go_upto_region 21 with (refine store_has rfl _ _ rfl g rfl rfl HJ2.out.out rfl ?_)
              have co2 : (w2.setRow g (accC Z A2 k2 c2)).cell? ⟨g, 0, none⟩ = some (.int .i64 Z.n) := HJ3.out.out.cell 0
              clear HJ2
              generalize w2.setRow g (accC Z A2 k2 c2) = w3 at HJ3 co2 ⊢
              go_wp2_with fail
              go_roundw
              case rel => exact ⟨j + 1, A2, k2, c2, by omega, by go_num, by rw [Hid, HE.out]; exact hzn, by rw [HE.out]; exact HJ3⟩
              case measure => simp [intOf]; omega
            · have ho' : (O.n == 0) = false := by simp [ho]
              have HE : Hid (joinTo (bs.length + 1) xs (j + 1) = addAc O Z) := by rw [Hid, HST.out]; unfold joinStep; rw [if_neg HZ0.out]
              have hm9 : bs.length + 1 ≤ 9 := by rw [HLB.out]; omega
              have hgl := HJ.out.out.lt
              have hwl := HJ.out.keep.size
              have HCALL : Hid (∀ W, Below wr.heap.size wr W → Calls Try.prog 50 #[.agg (accC O D (bs.length + 1) cc), .agg (accC Z A1 (bs.length + 1) c1)] W (FoldAcc (addAc O Z) W)) := fun W hW => by
                have hf := HFO.out
                have hz := HFZ.out
                exact two_any O Z D A1 (bs.length + 1) cc c1 W (HJ.out.hist.hist.below hW) (R1.out.2.1.below hW) hm9 ho ⟨hf.n0, hf.n1⟩ ⟨hz.n0, hz.n1⟩
                  ⟨by have := hf.s0; have := hf.n1; omega, by have := hf.s1; have := hf.n1; omega⟩ ⟨by have := hz.s0; have := hz.n1; omega, by have := hz.s1; have := hz.n1; omega⟩
                  (fun i hi => ⟨hf.low i hi, by have := hf.top i hi; have := hf.n1; omega, hz.low i hi, by have := hz.top i hi; have := hz.n1; omega⟩)
              have HR : Hid ((addAc O Z).n = O.n + Z.n) := rfl
              clear ho
              generalize addAc O Z = R at HE HCALL HR
              go_upto_region 17 with fail
              refine rj17_any (g := g) (b1 := b) (o1 := o) (n := n) (d := c) (j := j) (O := O) (Z := Z) (R := R) (D := D) (A1 := A1) (k := bs.length + 1) (c := cc) (k1 := bs.length + 1) (c1 := c1) ⟨rfl, rfl, rfl, rfl, HJ.out.out, R1.out, hlt, HCALL.out⟩ (by kernel_rfl) ?_
              intro A5 k5 c5 w5 hB5 hin5
              have HJ5 := Lib.hid (HJ.out.below hB5)
              have HJ6 : Hid (JoS w g R A5 k5 c5 (w5.setRow g (accC R A5 k5 c5))) := HJ5.out.turn (hin5.mono hwl) (fun ad e => by have := hin5.new ad e; have := HJ.out.gw; omega)
              clear hB5 hin5 co cn HCALL HJ
              simp only [putAll, Act.put, List.setIfInBounds_toArray, List.set_cons_succ, List.set_cons_zero, List.drop_succ_cons, List.drop_zero]
              refine store_has rfl _ _ rfl g rfl rfl HJ5.out.out rfl ?_
              have co2 : (w5.setRow g (accC R A5 k5 c5)).cell? ⟨g, 0, none⟩ = some (.int .i64 R.n) := HJ6.out.out.cell 0
              clear HJ5
              generalize w5.setRow g (accC R A5 k5 c5) = w6 at HJ6 co2 ⊢
              by_cases hbig : R.n ≤ 8192
              · go_wp2_with fail
                go_roundw
                case rel => exact ⟨j + 1, A5, k5, c5, by omega, by go_num, by rw [Hid, HE.out]; exact hbig, by rw [HE.out]; exact HJ6⟩
                case measure => simp [intOf]; omega
              · have HT8 : Hid (8192 < totalA xs) := by have := HPL.out; rw [HE.out] at this; show (8192 : Int) < _; omega
                go_upto_region 22 with fail
                go_wp2_with (refine wpList_store_row rfl 29 _ _ rfl w.heap.size (accC zeroAc none 0 0) rfl rfl 29 _ HJ6.out.res Try.sizeAcc rfl (accC_one _ _ _ _) ?_)
                refine bodyPost_ret (ret_row rfl _ _ _ 29 (accC zeroAc none 0 0) _ rfl (HJ6.out.res.row _) Try.underlying29 rfl (by exact Try.sizeAcc)) rfl ?_
                exact .inr (.inr ⟨by rw [HBB.out, HTT.out]; rfl, HT8.out, rfl, below_row HJ6.out.keep (Nat.le_refl _) _⟩)
        · have hjm : j = n := by omega
          subst hjm
          have hall := joinTo_all (bs := bs) (xs := xs) (j := j) (by rw [HLX.out]; exact Nat.le_refl _)
          have htot : totalA xs ≤ 8192 := by
            have h1 := HNN.out
            rw [joinTo_n (by rw [HLX.out]; exact Nat.le_refl _), List.take_of_length_le (by rw [HLX.out]; exact Nat.le_refl _)] at h1
            exact h1
          obtain ⟨J, hJ⟩ : ∃ J, joinAc bs xs = J := ⟨_, rfl⟩
          rw [hall, hJ] at HJ
          have HTOT := Lib.hid htot
          have HJE := Lib.hid hJ
          clear hall htot hJ
          go_upto_region 23 with fail
          go_wp2_with (first | (refine load_has rfl _ rfl g rfl HJ.out.out ?_) | (refine store_has rfl _ _ rfl w.heap.size rfl rfl HJ.out.res rfl ?_))
          refine bodyPost_ret (ret_row rfl _ _ _ 29 (accC J D k cc) _ rfl (HJ.out.res.row _) Try.underlying29 rfl (by exact Try.sizeAcc)) rfl ?_
          refine .inr (.inl ⟨by rw [HBB.out, HTT.out]; rfl, HTOT.out, ?_⟩)
          rw [HJE.out]
          exact ⟨D, k, cc, rfl, ⟨HJ.out.hist.hist.row (fun ad e => (HJ.out.far ad e).1) _, HJ.out.hist.cap, HJ.out.hist.most, HJ.out.hist.new, fun ad e => by obtain ⟨cs, hh⟩ := HJ.out.hist.typ ad e; exact ⟨cs, hh.rowFar (HJ.out.far ad e).1 _⟩⟩, below_row HJ.out.keep (Nat.le_refl _) _⟩

end Go.Proofs.Ytjgjbhbpndjnnaa
