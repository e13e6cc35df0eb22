/-
  Walks: the laws' helpers CopyAccs and SameAccs; the reference's One where it refuses.
  Walk: the reference's histMay.
-/
import Derived.Test.YtjgjbhbpndjnnaaOwnG
import Derived.Test.YtjgjbhbpndjnnaaG11
import Derived.Test.YtjgjbhbpndjnnaaROne
namespace Go.Proofs.Ytjgjbhbpndjnnaa
open Go.RowKit

/-- A slice of aggregates that came in: each with buckets that memory bears. -/
def AccsR (w : World) (A : Option Addr) (n : Nat) (xs : List Ac) : Prop :=
  xs.length = n ∧ (0 < n → ∃ b o : Nat, A = some ⟨b, o, none⟩ ∧ ∀ i, i < n → ∃ B k c, AccAt w b (o + i * 13) (nthA xs i) B k c ∧ (B = none → c = 0) ∧ k * 8 ≤ 140737488351232)
theorem AccsR.accs {w : World} {A : Option Addr} {n : Nat} {xs : List Ac} (h : AccsR w A n xs) : Accs w A n xs :=
  ⟨h.1, fun hn => by
    obtain ⟨b, o, e, hi⟩ := h.2 hn
    exact ⟨b, o, e, fun i hlt => by obtain ⟨B, k, c, hx, _⟩ := hi i hlt; exact ⟨B, k, c, hx⟩⟩⟩
theorem AccsR.below {w w' : World} {A : Option Addr} {n : Nat} {xs : List Ac} (h : AccsR w A n xs) (hb : Below w.heap.size w w') : AccsR w' A n xs :=
  ⟨h.1, fun hn => by
    obtain ⟨b, o, e, hi⟩ := h.2 hn
    exact ⟨b, o, e, fun i hlt => by obtain ⟨B, k, c, hx, hy⟩ := hi i hlt; exact ⟨B, k, c, hx.keep (fun _ hp => hb.cell hp), hy⟩⟩⟩

/-- The row of copies so far. -/
structure CaS (w : World) (xs : List Ac) (j : Nat) (v : Value) (rs : List Rw) (wr : World) : Prop where
  own : OwnG wr w.heap.size v rs
  acs : rs.map (·.a) = xs.take j
  keep : Below w.heap.size w wr

set_option maxRecDepth 100000 in
set_option maxHeartbeats 4000000 in
theorem copyaccs_any (A : Option Addr) (n c : Nat) (xs : List Ac) (w : World) (hr : AccsR w A n xs) (hn : n * 120 ≤ 140737488351232) :
    Calls Try.prog 10 #[.slice A n c] w fun e w' => ∃ A' c' rs, e = .returned (.slice A' n c') ∧ OwnG w' w.heap.size (.slice A' n c') rs ∧ rs.map (·.a) = xs ∧ Below w.heap.size w w' := by
  have HR := Lib.hid hr
  have HL := Lib.hid hr.1
  have hP0 : Hid (CaS w xs 0 (.slice none 0 0) [] w) := ⟨OwnG.nil _ _, rfl, Below.refl _ _⟩
  clear hr
  go_enter Try.func10, Try.ntmps10
  go_wp2_with fail
  go_loopw [3, 4] (fun x i wr => ∃ (j : Nat) (D : Option Addr) (e : Nat) (rs : List Rw), j ≤ n ∧ i = .int .i64 j ∧ x = .slice D j e ∧ Hid (CaS w xs j (.slice D j e) rs wr)) (fun _ i _ => n - (intOf i).toNat)
  case atStart => exact ⟨0, none, 0, [], Nat.zero_le _, rfl, rfl, hP0⟩
  case round =>
    clear hP0
    obtain ⟨j, D, e, rs, hj, rfl, rfl, HP⟩ := hrel
    by_cases hlt : j < n
    · obtain ⟨b, o, rfl, hi⟩ := (HR.out.below HP.out.keep).2 (by omega)
      obtain ⟨Bj, kj, cj, hAt, hnil, hk8⟩ := hi j hlt
      clear hi
      have HTK : Hid (xs.take (j + 1) = xs.take j ++ [nthA xs j]) := by
        have hjl : j < xs.length := by rw [HL.out]; exact hlt
        rw [Hid, List.take_succ_eq_append_getElem hjl]
        simp [nthA, hjl]
      have hjn : (j : Int) < (n : Int) := by omega
      have hrl : rs.length = j := by have := congrArg List.length HP.out.acs; rw [List.length_map, List.length_take, HL.out] at this; omega
      have HRL := Lib.hid hrl; clear hrl
      generalize nthA xs j = Z at hAt HTK
      have HAT := Lib.hid hAt; clear hAt
      have HNIL := Lib.hid hnil; clear hnil
      go_wp2_with (refine load_acc rfl _ rfl _ _ rfl HAT.out ?_)
      refine (copyown_any Z Bj kj cj _ HAT.out.2.1 hk8 HNIL.out).mono ?_
      rintro e2 w2 ⟨A2, k2, c2, rfl, hown, hb⟩
      have HK := Lib.hid (HP.out.keep.trans (hb.mono HP.out.keep.size))
      have HO := Lib.hid (HP.out.own.below hb)
      have HN := Lib.hid (hown.mono (Nat.zero_le _))
      have HACS := Lib.hid HP.out.acs
      clear hown hb HAT HNIL HP
      go_wp2_with (first
        | (refine lit1 rfl _ rfl rfl ?_; intro wl hbl hvl; have HBL := Lib.hid hbl; have HVL := Lib.hid hvl; clear hbl hvl)
        | (refine app_accG rfl _ _ rfl rfl (HO.out.below HBL.out) rfl (r := ⟨Z, A2, k2, c2⟩) HVL.out (HN.out.below HBL.out) (by rw [HRL.out]; omega) (by have := HBL.out.size; have := HK.out.size; omega) ?_; intro v' w' hown hbb; obtain ⟨D2, e2, rfl, _⟩ := hown.form; have HW := Lib.hid hown; clear hown; have HBB := Lib.hid hbb; clear hbb))
      have hown := HW.out
      rw [show (rs ++ [(⟨Z, A2, k2, c2⟩ : Rw)]).length = j + 1 by simp [HRL.out]] at hown
      have HP3 : Hid (CaS w xs (j + 1) (.slice D2 (j + 1) e2) (rs ++ [⟨Z, A2, k2, c2⟩]) w') := ⟨hown, by rw [List.map_append, HACS.out, HTK.out]; rfl, (HK.out.trans (HBL.out.mono HK.out.size)).trans HBB.out⟩
      clear hown HW HBB HBL HVL HN HO HK
      go_wp2_with fail
      go_roundw
      case rel => exact ⟨j + 1, D2, e2, _, by omega, by go_num, by simp [HRL.out], HP3⟩
      case measure => simp [intOf]; omega
    · have hjm : j = n := by omega
      subst hjm
      go_wp2
      go_ret
      exact ⟨D, e, rs, rfl, HP.out.own, by rw [HP.out.acs, List.take_of_length_le (by rw [HL.out]; exact Nat.le_refl _)], HP.out.keep⟩

set_option maxRecDepth 100000 in
set_option maxHeartbeats 2000000 in
theorem rone_bad (x : It) (B : Option Addr) (m d : Nat) (bs : List Int) (w : World) (hbs : Ints w B m bs) (hm : m ≤ maxLen) (hno : (itemB x && boundsB bs) = false) :
    Calls Try.prog 12 #[.agg #[.int .i64 x.s, .int .i64 x.t, .int .i64 x.q, .int .i64 x.v], .slice B m d] w (BadAcc 100 w) := by
  have HN := Lib.hid hno; clear hno
  go_enter Try.func12, Try.ntmps12
  go_wp2_with fail
  refine (ritem_any x _).mono ?_
  rintro e w1 ⟨rfl, hb1⟩
  have hB1 : Below w.heap.size w w1 := (((Below.refl _ _).alloc (Nat.le_refl _) _).alloc (by simp) _).trans (hb1.mono (by simp; omega))
  have H4 : Has w1 (w.heap.size + 1) 29 _ := Has.below (heap_alloc2_new w _ _) hb1 (by simp)
  cases h1 : itemB x
  · go_upto_region 2 with fail
    go_wp2_with (refine wpList_store_row rfl 29 _ _ rfl (w.heap.size + 1) (accC zeroAc none 0 0) rfl rfl 29 _ H4 Try.sizeAcc rfl (accC_one _ _ _ _) ?_)
    refine bodyPost_ret (ret_row rfl _ _ _ 29 (accC zeroAc none 0 0) _ rfl (H4.row _) Try.underlying29 rfl (by exact Try.sizeAcc)) rfl ?_
    exact ⟨rfl, below_row hB1 (by omega) _⟩
  · go_wp2_with fail
    refine (rbounds_any B m d bs _ (hbs.below hB1) hm).mono ?_
    rintro e w2 ⟨rfl, k, rfl⟩
    have h2 : boundsB bs = false := by have := HN.out; rw [h1] at this; simpa using this
    rw [h2]
    have H4' := H4.drewN k
    go_upto_region 2 with fail
    go_wp2_with (refine wpList_store_row rfl 29 _ _ rfl (w.heap.size + 1) (accC zeroAc none 0 0) rfl rfl 29 _ H4' Try.sizeAcc rfl (accC_one _ _ _ _) ?_)
    refine bodyPost_ret (ret_row rfl _ _ _ 29 (accC zeroAc none 0 0) _ rfl (H4'.row _) Try.underlying29 rfl (by exact Try.sizeAcc)) rfl ?_
    exact ⟨rfl, below_row (below_drewN hB1 _) (by omega) _⟩

end Go.Proofs.Ytjgjbhbpndjnnaa

namespace Go.Proofs.Ytjgjbhbpndjnnaa
open Go.RowKit

/-- Counts from 0 on, all together m. -/
def histR (hs : List Int) (m : Int) : Bool := decide ((∀ i, i < hs.length → 0 ≤ nth hs i) ∧ isum hs = m)
theorem isum_app (a b : List Int) : isum (a ++ b) = isum a + isum b := by
  induction a with
  | nil => simp [isum]
  | cons x r ih => simp only [List.cons_append, isum, ih]; omega
theorem isum_pos {h : List Int} (hp : ∀ i, i < h.length → 0 ≤ nth h i) : 0 ≤ isum h := by
  induction h with
  | nil => simp [isum]
  | cons x r ih =>
    have h0 := hp 0 (by simp)
    have := ih (fun i hi => by have := hp (i + 1) (by simpa using hi); rwa [nth_cons_succ] at this)
    rw [nth_cons_zero] at h0
    simp only [isum]; omega
theorem isum_take_leR {h : List Int} (hp : ∀ i, i < h.length → 0 ≤ nth h i) (k : Nat) : isum (h.take k) ≤ isum h := by
  have e : isum h = isum (h.take k) + isum (h.drop k) := by rw [← isum_app, List.take_append_drop]
  have : 0 ≤ isum (h.drop k) := isum_pos (fun i hi => by
    have := hp (k + i) (by simp at hi; omega)
    have e2 : nth (h.drop k) i = nth h (k + i) := by simp [nth]
    rw [e2]; exact this)
  omega

set_option maxRecDepth 100000 in
set_option maxHeartbeats 1000000 in
theorem rhist_any (A : Option Addr) (n c : Nat) (hs : List Int) (m : Int) (w : World) (hr : Ints w A n hs) (hm : 0 ≤ m ∧ m ≤ 8192) (hn : n ≤ maxLen) :
    Calls Try.prog 53 #[.slice A n c, .int .i64 m] w fun e w' => e = .returned (.bool (histR hs m)) ∧ w = w' := by
  have HL := Lib.hid hr.1
  unfold maxLen at hn
  obtain ⟨hm1, hm2⟩ := hm
  go_enter Try.func53, Try.ntmps53
  go_wp2
  go_loop [5, 6] (fun s i => ∃ (j : Nat) (L : Int), j ≤ n ∧ i = .int .i64 j ∧ s = .int .i64 L ∧ 0 ≤ L ∧ L ≤ 8192 ∧ Hid (isum (hs.take j) = m - L) ∧ Hid (∀ x, x < j → 0 ≤ nth hs x)) (fun _ i => n - (intOf i).toNat)
  case atStart => exact ⟨0, m, Nat.zero_le _, rfl, rfl, hm1, hm2, by simp [Hid, isum], fun x hx => absurd hx (Nat.not_lt_zero _)⟩
  case round =>
    obtain ⟨j, L, hj, rfl, rfl, hL0, hL1, HS, HA⟩ := hrel
    by_cases hlt : j < n
    · obtain ⟨b, o, rfl, hc⟩ := hr.at_ (k := 0) (by omega)
      have hcell := hc j hlt
      clear hc
      have HJ : Hid (j < hs.length) := by rw [Hid, HL.out]; exact hlt
      have HT : Hid (isum (hs.take (j + 1)) = m - L + nth hs j) := by rw [Hid, isum_take_succ HJ.out, HS.out]
      obtain ⟨v, hv⟩ : ∃ v, nth hs j = v := ⟨_, rfl⟩
      rw [hv] at HT hcell
      have HV := Lib.hid hv; clear hv
      by_cases h1 : v < 0
      · go_wp2
        go_ret
        exact ⟨ret_bool (decide_eq_false (fun k => by have := k.1 j HJ.out; rw [HV.out] at this; omega)).symm, rfl⟩
      · by_cases h2 : L < v
        · go_wp2
          go_ret
          exact ⟨ret_bool (decide_eq_false (fun k => by have := isum_take_leR k.1 (j + 1); rw [HT.out, k.2] at this; omega)).symm, rfl⟩
        · go_wp2
          go_round
          case rel => exact ⟨j + 1, L - v, by omega, by go_num, rfl, by omega, by omega, by rw [Hid, HT.out]; omega, fun x hx => by rcases Nat.lt_succ_iff_lt_or_eq.1 hx with h | rfl <;> first | exact HA.out x h | (rw [HV.out]; omega)⟩
          case measure => simp [intOf]; omega
    · have hkn : j = n := by omega
      subst hkn
      have HT : Hid (isum hs = m - L) := by have := HS.out; rwa [List.take_of_length_le (by rw [HL.out]; exact Nat.le_refl _)] at this
      have HE : Hid (histR hs m = (L == 0)) := by
        rw [Hid, Bool.eq_iff_iff, beq_iff_eq]
        unfold histR
        rw [decide_eq_true_eq, HT.out]
        exact ⟨fun h => by omega, fun h => ⟨fun i hi => HA.out i (by rw [HL.out] at hi; exact hi), by omega⟩⟩
      go_wp2
      go_ret
      exact ⟨ret_bool HE.out.symm, rfl⟩

end Go.Proofs.Ytjgjbhbpndjnnaa
