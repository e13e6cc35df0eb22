/-
  Walks: cmp.Less, the library's isNaN, slices.BinarySearch over rising numbers, rules.Bucket, the reference's bucket.
  Plain functions on aggregates. No program here.
  Walks: acc.histFits, restIsZero, endsFit, valuesFit, fits, May.
  Walks: acc.fits, acc.May.
  Walks: acc.One.
-/
import Derived.Test.YtbpaepkcchpmbaaGreatG2
import Derived.Test.YtbpaepkcchpmbaaGreatG0
import Derived.Laws.StructEq
import Derived.Deep.DeepCutAuto
import Derived.Deep.WholeRow
namespace Go.Proofs.YtbpaepkcchpmbaaGreat
open Go.RowKit

set_option maxRecDepth 100000 in
set_option maxHeartbeats 400000 in
theorem less_any (a b : Int) (w : World) :
    Calls Tryz.prog 248 #[.int .i64 a, .int .i64 b] w fun e w' => e = .returned (.bool (decide (a < b))) ∧ w = w' := by
  go_enter Tryz.func248, Tryz.ntmps248
  go_wp2
  go_ret
  exact ⟨rfl, rfl⟩

def Found (k : Nat) (w : World) (e : Ending) (w' : World) : Prop := ∃ q, e = .returned (.tuple #[.int .i64 (k : Int), .bool q]) ∧ w = w'

set_option maxRecDepth 100000 in
set_option maxHeartbeats 1000000 in
theorem search_any (A : Option Addr) (n c : Nat) (bs : List Int) (v : Int) (w : World) (hr : Ints w A n bs) (hn : n ≤ 8) (hup : ∀ i, i < bs.length - 1 → nth bs i < nth bs (i + 1)) :
    Calls Tryz.prog 233 #[.slice A n c, .int .i64 v] w (Found (bkt bs v) w) := by
  have HL := Lib.hid hr.1
  have HU := Lib.hid (rising_of hup); clear hup
  go_enter Tryz.func233, Tryz.ntmps233
  go_wp2
  go_loop [7, 8] (fun i j => ∃ a b : Nat, a ≤ b ∧ b ≤ n ∧ i = .int .i64 a ∧ j = .int .i64 b ∧ Hid (∀ x, x < a → nth bs x < v) ∧ Hid (∀ x, b ≤ x → x < n → v ≤ nth bs x)) (fun i j => (intOf j - intOf i).toNat)
  case atStart => exact ⟨0, n, Nat.zero_le _, Nat.le_refl _, rfl, rfl, fun x hx => absurd hx (Nat.not_lt_zero _), fun x h1 h2 => by omega⟩
  case round =>
    obtain ⟨i, j, hij, hjn, rfl, rfl, H1, H2⟩ := hrel
    by_cases hlt : i < j
    · obtain ⟨b, o, rfl, hc⟩ := hr.at_ (k := 0) (by omega)
      have hcell := hc ((i + j) / 2) (by omega)
      clear hc
      have e1 : ((i : Int) + j) / 2 = ((i + j) / 2 : Nat) := by omega
      have E1 := Lib.hid e1; clear e1
      by_cases hord : nth bs ((i + j) / 2) < v
      · go_wp2_with (go_at_call 248; refine (less_any _ _ _).mono ?_; rintro e w' ⟨rfl, rfl⟩)
        go_round
        case rel => exact ⟨(i + j) / 2 + 1, j, by omega, by omega, by rw [E1.out]; go_num, rfl, fun x hx => by
          rcases Nat.lt_succ_iff_lt_or_eq.1 hx with h | h
          · have := HU.out x ((i + j) / 2) h (by rw [HL.out]; omega); omega
          · rw [h]; exact hord, H2⟩
        case measure => simp [intOf]; omega
      · go_wp2_with (go_at_call 248; refine (less_any _ _ _).mono ?_; rintro e w' ⟨rfl, rfl⟩)
        go_round
        case rel => exact ⟨i, (i + j) / 2, by omega, by omega, rfl, by rw [E1.out], H1, fun x hx hxn => by
          rcases Nat.lt_or_eq_of_le hx with h | h
          · have := HU.out ((i + j) / 2) x h (by rw [HL.out]; omega); omega
          · rw [← h]; omega⟩
        case measure => simp [intOf]; omega
    · have hkn : i = j := by omega
      subst hkn
      have HB : Hid (bkt bs v = i) := bkt_eq (by rw [HL.out]; omega) H1.out (fun h => H2.out i (Nat.le_refl _) (by rw [HL.out] at h; exact h))
      by_cases hin : i < n
      · obtain ⟨b, o, rfl, hc⟩ := hr.at_ (k := 0) (by omega)
        have hcell := hc i hin
        clear hc
        by_cases heq : nth bs i = v
        · have h1 : (nth bs i == v) = true := by simp [heq]
          clear heq
          go_wp2
          go_ret2
          exact ⟨_, by rw [HB.out]; rfl, rfl⟩
        · have h1 : (nth bs i == v) = false := by simp [heq]
          clear heq
          go_wp2
          go_ret2
          exact ⟨_, by rw [HB.out]; rfl, rfl⟩
      · go_wp2
        go_ret2
        exact ⟨_, by rw [HB.out]; rfl, rfl⟩

set_option maxRecDepth 100000 in
set_option maxHeartbeats 400000 in
theorem bucket_any (A : Option Addr) (n c : Nat) (bs : List Int) (v : Int) (w : World) (hr : Ints w A n bs) (hn : n ≤ 8) (hup : ∀ i, i < bs.length - 1 → nth bs i < nth bs (i + 1)) :
    Calls Tryz.prog 218 #[.slice A n c, .int .i64 v] w fun e w' => e = .returned (.int .i64 (bkt bs v : Nat)) ∧ w = w' := by
  have H := Lib.hid (search_any A n c bs v w hr hn hup); clear hup
  go_enter Tryz.func218, Tryz.ntmps218
  go_wp2_with fail
  refine H.out.mono ?_
  rintro e w' ⟨q, rfl, rfl⟩
  go_wp2
  go_ret
  exact ⟨rfl, rfl⟩

set_option maxRecDepth 100000 in
set_option maxHeartbeats 1000000 in
theorem rbucket_any (A : Option Addr) (n c : Nat) (bs : List Int) (v : Int) (w : World) (hr : Ints w A n bs) (hn : n ≤ maxLen) :
    Calls Tryz.prog 160 #[.int .i64 v, .slice A n c] w fun e w' => e = .returned (.int .i64 (bkt bs v : Nat)) ∧ w = w' := by
  have HL := Lib.hid hr.1
  unfold maxLen at hn
  go_enter Tryz.func160, Tryz.ntmps160
  go_wp2
  go_loop [5] (fun i => ∃ a : Nat, a ≤ n ∧ i = .int .i64 a ∧ Hid (∀ x, x < a → nth bs x < v)) (fun i => n - (intOf i).toNat)
  case atStart => exact ⟨0, Nat.zero_le _, rfl, fun x hx => absurd hx (Nat.not_lt_zero _)⟩
  case round =>
    obtain ⟨i, hin, rfl, H1⟩ := hrel
    by_cases hlt : i < n
    · obtain ⟨b, o, rfl, hc⟩ := hr.at_ (k := 0) (by omega)
      have hcell := hc i hlt
      clear hc
      by_cases hord : nth bs i < v
      · go_wp2
        go_round
        case rel => exact ⟨i + 1, by omega, by go_num, fun x hx => by rcases Nat.lt_succ_iff_lt_or_eq.1 hx with h | rfl <;> first | exact H1.out x h | omega⟩
        case measure => simp [intOf]; omega
      · have HB : Hid (bkt bs v = i) := bkt_eq (by rw [HL.out]; omega) H1.out (fun _ => by omega)
        go_wp2
        go_ret
        exact ⟨by rw [HB.out]; rfl, rfl⟩
    · have HB : Hid (bkt bs v = i) := bkt_eq (by rw [HL.out]; omega) H1.out (fun h => by rw [HL.out] at h; omega)
      go_wp2
      go_ret
      exact ⟨by rw [HB.out]; rfl, rfl⟩

end Go.Proofs.YtbpaepkcchpmbaaGreat

namespace Go.Proofs.YtbpaepkcchpmbaaGreat

theorem itemB_iff {x : It} : itemB x = true ↔ (0 ≤ x.s ∧ x.s ≤ 1048575 ∧ -1099511627776 ≤ x.t ∧ x.t ≤ 1099511627776 ∧ 1 ≤ x.q ∧ x.q ≤ 1073741823 ∧ -1099511627776 ≤ x.v ∧ x.v ≤ 1099511627776) := by
  unfold itemB wi
  simp only [Bool.and_eq_true, decide_eq_true_eq]
  omega
theorem itemB_false {x : It} (h : ¬ (0 ≤ x.s ∧ x.s ≤ 1048575 ∧ -1099511627776 ≤ x.t ∧ x.t ≤ 1099511627776 ∧ 1 ≤ x.q ∧ x.q ≤ 1073741823 ∧ -1099511627776 ≤ x.v ∧ x.v ≤ 1099511627776)) : itemB x = false := by
  rw [Bool.eq_false_iff]; exact fun e => h (itemB_iff.1 e)
/-- Does x stand ahead of y? -/
def beforeB (x y : It) : Bool := decide (x.t < y.t ∨ (x.t = y.t ∧ x.q < y.q))
theorem cmpT_before (x y : It) : decide (cmpT x y < 0) = beforeB x y := by
  unfold cmpT beforeB cmpI
  rw [decide_eq_decide]
  by_cases h1 : x.t < y.t
  · simp [h1]
  · by_cases h2 : y.t < x.t
    · simp [h1, h2]; omega
    · by_cases h3 : x.q < y.q
      · simp [h1, h2, h3]; omega
      · by_cases h4 : y.q < x.q <;> simp [h1, h2, h3, h4]
theorem cmpT_after (x y : It) : decide (cmpT x y ≤ 0) = !beforeB y x := by
  unfold cmpT beforeB cmpI
  rw [← decide_not, decide_eq_decide]
  by_cases h1 : x.t < y.t
  · simp [h1]; omega
  · by_cases h2 : y.t < x.t
    · simp [h1, h2]
    · by_cases h3 : x.q < y.q
      · simp [h1, h2, h3]; omega
      · by_cases h4 : y.q < x.q <;> simp [h1, h2, h3, h4] <;> omega
theorem cmpT_geq (x y : It) : decide (0 ≤ cmpT x y) = !beforeB x y := by
  rw [← cmpT_before, ← decide_not, decide_eq_decide]; omega
theorem cmpT_bd (x y : It) : -1 ≤ cmpT x y ∧ cmpT x y ≤ 1 := by
  unfold cmpT cmpI
  split <;> split <;> (try split) <;> omega

/-- The sum of numbers. -/
def isum : List Int → Int
  | [] => 0
  | b :: r => b + isum r
theorem isum_take_succ {h : List Int} {j : Nat} (hj : j < h.length) : isum (h.take (j + 1)) = isum (h.take j) + nth h j := by
  induction h generalizing j with
  | nil => simp at hj
  | cons b r ih =>
    cases j with
    | zero => simp [isum, nth]
    | succ j =>
      rw [List.take_succ_cons, List.take_succ_cons, nth_cons_succ]
      simp only [isum]
      rw [ih (by simpa using hj)]
      omega

def histB (a : Ac) (m : Int) : Bool := decide ((a.h.length : Int) = m ∧ (∀ i, i < a.h.length → 0 ≤ nth a.h i ∧ nth a.h i ≤ 8192) ∧ isum a.h = a.n)
def zeroB (a : Ac) : Bool := decide (a.s = 0 ∧ a.mn = 0 ∧ a.mx = 0 ∧ (a.f.s = 0 ∧ a.f.t = 0 ∧ a.f.q = 0 ∧ a.f.v = 0) ∧ a.l.s = 0 ∧ a.l.t = 0 ∧ a.l.q = 0 ∧ a.l.v = 0)
def endsB (a : Ac) : Bool := decide (itemB a.f = true ∧ itemB a.l = true ∧ a.f.s = a.l.s ∧ beforeB a.l a.f = false)
def valsB (a : Ac) : Bool := decide (-1099511627776 ≤ a.mn ∧ a.mn ≤ a.mx ∧ a.mx ≤ 1099511627776 ∧ a.mn ≤ a.f.v ∧ a.f.v ≤ a.mx ∧ a.mn ≤ a.l.v ∧ a.l.v ≤ a.mx ∧ a.n * a.mn ≤ a.s ∧ a.s ≤ a.n * a.mx)
def fitB (a : Ac) (m : Int) : Bool := wi a.n 0 8192 && (histB a m && if a.n = 0 then zeroB a else endsB a && valsB a)
def accB (a : Ac) (bs : List Int) : Bool := boundsB bs && fitB a (bs.length + 1)

theorem histB_out {a : Ac} {m : Int} {n j : Nat} (h1 : a.h.length = n) (hj : j < n) (hv : wi (nth a.h j) 0 8192 = false) : histB a m = false :=
  decide_eq_false (fun h => by
    have h2 := wi_mk (h.2.1 j (by omega))
    rw [hv] at h2
    cases h2)
theorem histB_sum {a : Ac} {m S : Int} {n : Nat} (h1 : a.h.length = n) (h2 : (n : Int) = m) (h3 : ∀ x, x < n → 0 ≤ nth a.h x ∧ nth a.h x ≤ 8192) (h4 : isum (a.h.take n) = S) : histB a m = (S == a.n) := by
  rw [List.take_of_length_le (by omega)] at h4
  unfold histB
  rw [Bool.eq_iff_iff, decide_eq_true_eq, beq_iff_eq, h4, h1]
  exact ⟨fun h => h.2.2, fun h => ⟨h2, h3, h⟩⟩

theorem mul_bd {n m : Int} (h0 : 0 ≤ n) (h1 : n ≤ 8192) (h2 : -1099511627776 ≤ m) (h3 : m ≤ 1099511627776) : -9007199254740992 ≤ n * m ∧ n * m ≤ 9007199254740992 := by
  have e1 : n * m ≤ n * 1099511627776 := Int.mul_le_mul_of_nonneg_left h3 h0
  have e2 : n * (-1099511627776) ≤ n * m := Int.mul_le_mul_of_nonneg_left h2 h0
  omega

theorem valsB_no {a : Ac} (h : wi a.mn (-1099511627776) a.mx = false ∨ ¬ a.mx ≤ 1099511627776 ∨ wi a.f.v a.mn a.mx = false ∨ wi a.l.v a.mn a.mx = false) : valsB a = false := by
  refine decide_eq_false fun k => ?_
  unfold wi at h
  simp only [decide_eq_false_iff_not] at h
  omega
theorem valsB_yes {a : Ac} (h1 : wi a.mn (-1099511627776) a.mx = true) (h2 : a.mx ≤ 1099511627776) (h3 : wi a.f.v a.mn a.mx = true) (h4 : wi a.l.v a.mn a.mx = true) : valsB a = wi a.s (a.n * a.mn) (a.n * a.mx) := by
  unfold wi at *
  unfold valsB
  rw [decide_eq_decide]
  have g1 := of_decide_eq_true h1
  have g3 := of_decide_eq_true h3
  have g4 := of_decide_eq_true h4
  exact ⟨fun h => ⟨h.2.2.2.2.2.2.2.1, h.2.2.2.2.2.2.2.2⟩, fun h => ⟨g1.1, g1.2, h2, g3.1, g3.2, g4.1, g4.2, h.1, h.2⟩⟩

end Go.Proofs.YtbpaepkcchpmbaaGreat

namespace Go.Proofs.YtbpaepkcchpmbaaGreat
open Go.RowKit

set_option maxRecDepth 100000 in
set_option maxHeartbeats 1000000 in
theorem histFits_any (a : Ac) (A : Option Addr) (n c : Nat) (m : Int) (w : World) (hr : Ints w A n a.h) (hm : 0 ≤ m ∧ m ≤ 9) (hn : n ≤ maxLen) :
    Calls Tryz.prog 252 #[.agg #[.int .i64 a.n, .int .i64 a.s, .int .i64 a.mn, .int .i64 a.mx, .int .i64 a.f.s, .int .i64 a.f.t, .int .i64 a.f.q, .int .i64 a.f.v, .int .i64 a.l.s, .int .i64 a.l.t, .int .i64 a.l.q, .int .i64 a.l.v, .slice A n c], .int .i64 m] w
      fun e w' => e = .returned (.bool (histB a m)) ∧ Below w.heap.size w w' := by
  have HL := Lib.hid hr.1
  unfold maxLen at hn
  by_cases hnm : (n : Int) = m
  · have h1 : ((n : Int) != m) = false := by simp [hnm]
    have HM := Lib.hid hnm; clear hnm
    have hn9 : n ≤ 9 := by have := HM.out; omega
    go_enter Tryz.func252, Tryz.ntmps252
    go_wp2
    go_loop [5, 16] (fun s i => ∃ (j : Nat) (S : Int), j ≤ n ∧ i = .int .i64 j ∧ s = .int .i64 S ∧ 0 ≤ S ∧ S ≤ 8192 * j ∧ Hid (isum (a.h.take j) = S) ∧ Hid (∀ x, x < j → 0 ≤ nth a.h x ∧ nth a.h x ≤ 8192)) (fun _ i => n - (intOf i).toNat)
    case atStart => exact ⟨0, 0, Nat.zero_le _, rfl, rfl, by omega, by omega, rfl, fun x hx => absurd hx (Nat.not_lt_zero _)⟩
    case round =>
      obtain ⟨j, S, hj, rfl, rfl, hS0, hS1, HS, HA⟩ := hrel
      by_cases hlt : j < n
      · obtain ⟨b, o, rfl, hc⟩ := hr.at_ (k := 0) (by omega)
        have hlt2 := block_lt_of_cell (hc j hlt)
        have hcell := hc j hlt
        clear hc
        cases hv : wi (nth a.h j) 0 8192
        · go_wp2_with (go_at_call 75; refine (within_any _ _ _ _).mono ?_; rintro e w' ⟨rfl, rfl⟩)
          go_ret
          exact ⟨ret_bool (histB_out HL.out hlt hv).symm, (Below.refl _ _).alloc (Nat.le_refl _) _⟩
        · obtain ⟨hv2, hv3⟩ := wi_true hv
          have hS2 : S ≤ 81920 := by omega
          go_wp2_with (go_at_call 75; refine (within_any _ _ _ _).mono ?_; rintro e w' ⟨rfl, rfl⟩)
          go_round
          case rel =>
            exact ⟨j + 1, S + nth a.h j, by omega, by go_num, rfl, by omega, by omega, by rw [Hid, isum_take_succ (by rw [HL.out]; exact hlt), HS.out], fun x hx => by rcases Nat.lt_succ_iff_lt_or_eq.1 hx with h | rfl <;> first | exact HA.out x h | exact ⟨hv2, hv3⟩⟩
          case measure => simp [intOf]; omega
      · have hkn : j = n := by omega
        subst hkn
        go_wp2
        go_ret
        exact ⟨ret_bool (histB_sum HL.out HM.out HA.out HS.out).symm, (Below.refl _ _).alloc (Nat.le_refl _) _⟩
  · have h1 : ((n : Int) != m) = true := by simp [hnm]
    have hb : histB a m = false := decide_eq_false (fun h => hnm (by rw [← h.1, hr.1]))
    clear hnm
    rw [hb]; clear hb
    go_enter Tryz.func252, Tryz.ntmps252
    go_wp2
    go_ret
    exact ⟨rfl, (Below.refl _ _).alloc (Nat.le_refl _) _⟩

set_option maxRecDepth 100000 in
set_option maxHeartbeats 1000000 in
theorem endsFit_any (a : Ac) (A : Option Addr) (n c : Nat) (w : World) :
    Calls Tryz.prog 254 #[.agg #[.int .i64 a.n, .int .i64 a.s, .int .i64 a.mn, .int .i64 a.mx, .int .i64 a.f.s, .int .i64 a.f.t, .int .i64 a.f.q, .int .i64 a.f.v, .int .i64 a.l.s, .int .i64 a.l.t, .int .i64 a.l.q, .int .i64 a.l.v, .slice A n c]] w
      fun e w' => e = .returned (.bool (endsB a)) ∧ Below w.heap.size w w' := by
  go_enter Tryz.func254, Tryz.ntmps254
  go_wp2_with fail
  refine (item_any a.f _).mono ?_
  rintro e w1 ⟨rfl, hb1⟩
  have hB1 : Below w.heap.size w w1 := ((Below.refl _ _).alloc (Nat.le_refl _) _).trans (hb1.mono (by simp))
  have hc1 := oldCells hb1 (Nat.le_refl _)
  cases h1 : itemB a.f
  · go_wp2
    go_ret
    exact ⟨ret_bool (by simp [endsB, h1]), hB1⟩
  · go_wp2_with fail
    refine (item_any a.l _).mono ?_
    rintro e w2 ⟨rfl, hb2⟩
    have hB2 : Below w.heap.size w w2 := hB1.trans (hb2.mono hB1.size)
    have hb2' := hb2.mono (B' := w.heap.size + 1) (by have := hb1.size; simpa using this)
    have hc2 : ∀ b o, b < w.heap.size + 1 → w2.cell? ⟨b, o, none⟩ = w1.cell? ⟨b, o, none⟩ := fun b o h => hb2'.cell (p := ⟨b, o, none⟩) h
    clear hb2'
    cases h2 : itemB a.l
    · go_wp2
      go_ret
      exact ⟨ret_bool (by simp [endsB, h2]), hB2⟩
    · by_cases h3 : a.f.s = a.l.s
      · have h3' : (a.f.s == a.l.s) = true := by simp [h3]
        have H3 := Lib.hid h3; clear h3
        go_wp2_with fail
        refine (compare_any a.f a.l _).mono ?_
        rintro e w3 ⟨rfl, hb3⟩
        have hB3 : Below w.heap.size w w3 := hB2.trans (hb3.mono hB2.size)
        have hq := cmpT_after a.f a.l
        have HQ := Lib.hid hq; clear hq
        go_wp2
        go_ret
        exact ⟨ret_bool (by rw [HQ.out]; simp [endsB, h1, h2, H3.out]), hB3⟩
      · have h3' : (a.f.s == a.l.s) = false := by simp [h3]
        have H3 := Lib.hid h3; clear h3
        go_wp2
        go_ret
        exact ⟨ret_bool (by simp [endsB, H3.out]), hB2⟩

set_option maxRecDepth 100000 in
set_option maxHeartbeats 1000000 in
theorem zero_any (a : Ac) (A : Option Addr) (n c : Nat) (w : World) :
    Calls Tryz.prog 253 #[.agg #[.int .i64 a.n, .int .i64 a.s, .int .i64 a.mn, .int .i64 a.mx, .int .i64 a.f.s, .int .i64 a.f.t, .int .i64 a.f.q, .int .i64 a.f.v, .int .i64 a.l.s, .int .i64 a.l.t, .int .i64 a.l.q, .int .i64 a.l.v, .slice A n c]] w
      fun e w' => e = .returned (.bool (zeroB a)) ∧ Below w.heap.size w w' := by
  go_enter Tryz.func253, Tryz.ntmps253
  go_wp2
  all_goals
    go_ret
    exact ⟨ret_bool (by simp [zeroB, *]), by repeat (first | exact Below.refl _ _ | refine Below.drew ?_ | refine Below.alloc ?_ (by simp <;> omega) _)⟩

set_option maxRecDepth 100000 in
set_option maxHeartbeats 1000000 in
theorem vals_any (a : Ac) (A : Option Addr) (n c : Nat) (w : World) (hn : 0 ≤ a.n ∧ a.n ≤ 8192) :
    Calls Tryz.prog 255 #[.agg #[.int .i64 a.n, .int .i64 a.s, .int .i64 a.mn, .int .i64 a.mx, .int .i64 a.f.s, .int .i64 a.f.t, .int .i64 a.f.q, .int .i64 a.f.v, .int .i64 a.l.s, .int .i64 a.l.t, .int .i64 a.l.q, .int .i64 a.l.v, .slice A n c]] w
      fun e w' => e = .returned (.bool (valsB a)) ∧ Below w.heap.size w w' := by
  cases h1 : wi a.mn (-1099511627776) a.mx
  · go_enter Tryz.func255, Tryz.ntmps255
    go_wp2_with (go_at_call 75; refine (within_any _ _ _ _).mono ?_; rintro e w' ⟨rfl, rfl⟩)
    go_ret
    exact ⟨ret_bool (valsB_no (Or.inl h1)).symm, (Below.refl _ _).alloc (Nat.le_refl _) _⟩
  · obtain ⟨g1, g2⟩ := wi_true h1
    by_cases h2 : a.mx ≤ 1099511627776
    · obtain ⟨p1, p2⟩ := mul_bd hn.1 hn.2 g1 (Int.le_trans g2 h2)
      obtain ⟨p3, p4⟩ := mul_bd hn.1 hn.2 (Int.le_trans g1 g2) h2
      cases h3 : wi a.f.v a.mn a.mx
      · go_enter Tryz.func255, Tryz.ntmps255
        go_wp2_with (go_at_call 75; refine (within_any _ _ _ _).mono ?_; rintro e w' ⟨rfl, rfl⟩)
        go_ret
        exact ⟨ret_bool (valsB_no (Or.inr (Or.inr (Or.inl h3)))).symm, (Below.refl _ _).alloc (Nat.le_refl _) _⟩
      · cases h4 : wi a.l.v a.mn a.mx
        · go_enter Tryz.func255, Tryz.ntmps255
          go_wp2_with (go_at_call 75; refine (within_any _ _ _ _).mono ?_; rintro e w' ⟨rfl, rfl⟩)
          go_ret
          exact ⟨ret_bool (valsB_no (Or.inr (Or.inr (Or.inr h4)))).symm, (Below.refl _ _).alloc (Nat.le_refl _) _⟩
        · go_enter Tryz.func255, Tryz.ntmps255
          go_wp2_with (go_at_call 75; refine (within_any _ _ _ _).mono ?_; rintro e w' ⟨rfl, rfl⟩)
          go_ret
          exact ⟨ret_bool (valsB_yes h1 h2 h3 h4).symm, (Below.refl _ _).alloc (Nat.le_refl _) _⟩
    · have h2' : decide (a.mx ≤ 1099511627776) = false := decide_eq_false h2
      go_enter Tryz.func255, Tryz.ntmps255
      go_wp2_with (go_at_call 75; refine (within_any _ _ _ _).mono ?_; rintro e w' ⟨rfl, rfl⟩)
      go_ret
      exact ⟨ret_bool (valsB_no (Or.inr (Or.inl (by omega)))).symm, (Below.refl _ _).alloc (Nat.le_refl _) _⟩

end Go.Proofs.YtbpaepkcchpmbaaGreat

namespace Go.Proofs.YtbpaepkcchpmbaaGreat
open Go.RowKit

set_option maxRecDepth 100000 in
set_option maxHeartbeats 1000000 in
theorem fits_any (a : Ac) (A : Option Addr) (n c : Nat) (m : Int) (w : World) (hr : Ints w A n a.h) (hm : 0 ≤ m ∧ m ≤ 9) (hn : n ≤ maxLen) :
    Calls Tryz.prog 250 #[.agg #[.int .i64 a.n, .int .i64 a.s, .int .i64 a.mn, .int .i64 a.mx, .int .i64 a.f.s, .int .i64 a.f.t, .int .i64 a.f.q, .int .i64 a.f.v, .int .i64 a.l.s, .int .i64 a.l.t, .int .i64 a.l.q, .int .i64 a.l.v, .slice A n c], .int .i64 m] w
      fun e w' => e = .returned (.bool (fitB a m)) ∧ Below w.heap.size w w' := by
  have hbox : ∀ o, Below w.heap.size w (w.alloc o) := fun o => (Below.refl _ _).alloc (Nat.le_refl _) o
  have HBOX := Lib.hid hbox; clear hbox
  cases h1 : wi a.n 0 8192
  · go_enter Tryz.func250, Tryz.ntmps250
    go_wp2_with (go_at_call 75; refine (within_any _ _ _ _).mono ?_; rintro e w' ⟨rfl, rfl⟩)
    go_ret
    exact ⟨ret_bool (by simp [fitB, h1]), HBOX.out _⟩
  · obtain ⟨g1, g2⟩ := wi_true h1
    go_enter Tryz.func250, Tryz.ntmps250
    go_wp2_with fail
    refine (within_any _ _ _ _).mono ?_
    rintro e w1 ⟨rfl, rfl⟩
    go_wp2_with fail
    refine (histFits_any a A n c m _ (hr.below (HBOX.out _)) hm hn).mono ?_
    rintro e w2 ⟨rfl, hb2⟩
    have hB2 : Below w.heap.size w w2 := (HBOX.out _).trans (hb2.mono (by simp))
    have hc2 : ∀ b o, b < w.heap.size + 1 → w2.cell? ⟨b, o, none⟩ = _ := fun b o h => oldCells hb2 (Nat.le_refl _) b o (by simpa using h)
    cases h2 : histB a m
    · go_wp2
      go_ret
      exact ⟨ret_bool (by simp [fitB, h2]), hB2⟩
    · by_cases h3 : a.n = 0
      · have h3' : (a.n == 0) = true := by simp [h3]
        have H3 := Lib.hid h3; clear h3
        go_wp2_with fail
        refine (zero_any a A n c _).mono ?_
        rintro e w3 ⟨rfl, hb3⟩
        have hB3 : Below w.heap.size w w3 := hB2.trans (hb3.mono hB2.size)
        go_wp2
        go_ret
        exact ⟨ret_bool (by unfold fitB; rw [h1, h2, if_pos H3.out]; simp), hB3⟩
      · have h3' : (a.n == 0) = false := by simp [h3]
        have H3 := Lib.hid h3; clear h3
        go_wp2_with fail
        refine (endsFit_any a A n c _).mono ?_
        rintro e w3 ⟨rfl, hb3⟩
        have hB3 : Below w.heap.size w w3 := hB2.trans (hb3.mono hB2.size)
        have hc3 : ∀ b o, b < w.heap.size + 1 → w3.cell? ⟨b, o, none⟩ = w2.cell? ⟨b, o, none⟩ := fun b o h => oldCells hb3 (Nat.le_refl _) b o (by have := hb2.size; simp at this; omega)
        cases h4 : endsB a
        · go_wp2
          go_ret
          exact ⟨ret_bool (by simp [fitB, h1, h2, h4, H3.out]), hB3⟩
        · go_wp2_with fail
          refine (vals_any a A n c _ ⟨g1, g2⟩).mono ?_
          rintro e w4 ⟨rfl, hb4⟩
          have hB4 : Below w.heap.size w w4 := hB3.trans (hb4.mono hB3.size)
          go_wp2
          go_ret
          exact ⟨ret_bool (by simp [fitB, h1, h2, h4, H3.out]), hB4⟩

set_option maxRecDepth 100000 in
set_option maxHeartbeats 1000000 in
theorem may_any (a : Ac) (A : Option Addr) (n c : Nat) (B : Option Addr) (m d : Nat) (bs : List Int) (w : World) (hr : Ints w A n a.h) (hbs : Ints w B m bs) (hn : n ≤ maxLen) (hm : m ≤ maxLen) :
    Calls Tryz.prog 245 #[.agg #[.int .i64 a.n, .int .i64 a.s, .int .i64 a.mn, .int .i64 a.mx, .int .i64 a.f.s, .int .i64 a.f.t, .int .i64 a.f.q, .int .i64 a.f.v, .int .i64 a.l.s, .int .i64 a.l.t, .int .i64 a.l.q, .int .i64 a.l.v, .slice A n c], .slice B m d] w
      fun e w' => e = .returned (.bool (accB a bs)) ∧ Below w.heap.size w w' := by
  have hbox : ∀ o, Below w.heap.size w (w.alloc o) := fun o => (Below.refl _ _).alloc (Nat.le_refl _) o
  have HBOX := Lib.hid hbox; clear hbox
  go_enter Tryz.func245, Tryz.ntmps245
  go_wp2_with fail
  refine (bounds_any B m d bs _ (hbs.below (HBOX.out _)) hm).mono ?_
  rintro e w1 ⟨rfl, k, rfl⟩
  cases h1 : boundsB bs
  · go_wp2
    go_ret
    exact ⟨ret_bool (by simp [accB, h1]), below_drewN (HBOX.out _) _⟩
  · have h8 := (boundsB_true h1).1
    have hlen := hbs.1
    have hm8 : m ≤ 8 := by omega
    have HM := Lib.hid hlen; clear hlen h8
    go_wp2_with fail
    refine (fits_any a A n c _ _ ((hr.below (HBOX.out _)).drewN _) (by omega) hn).mono ?_
    rintro e w2 ⟨rfl, hb2⟩
    go_wp2
    go_ret
    exact ⟨ret_bool (by simp [accB, h1, HM.out]), (below_drewN (HBOX.out _) _).trans (hb2.mono (by simp))⟩

end Go.Proofs.YtbpaepkcchpmbaaGreat

namespace Go.Proofs.YtbpaepkcchpmbaaGreat
open Go.RowKit

/-- An aggregate's value. -/
def accC (a : Ac) (A : Option Addr) (n c : Nat) : Array Value := #[.int .i64 a.n, .int .i64 a.s, .int .i64 a.mn, .int .i64 a.mx, .int .i64 a.f.s, .int .i64 a.f.t, .int .i64 a.f.q, .int .i64 a.f.v, .int .i64 a.l.s, .int .i64 a.l.t, .int .i64 a.l.q, .int .i64 a.l.v, .slice A n c]
theorem accC_one (a : Ac) (A : Option Addr) (n c : Nat) : (accC a A n c).all (·.oneCell') = true := by simp [accC, Value.oneCell']
@[go_sem] abbrev accV (a : Ac) (A : Option Addr) (n c : Nat) : Value := .agg (accC a A n c)
def zeroAc : Ac := ⟨0, 0, 0, 0, zeroIt, zeroIt, []⟩
/-- The call hands out the aggregate a, its buckets in new memory. -/
def GoodAcc (a : Ac) (w : World) (e : Ending) (w' : World) : Prop :=
  ∃ g, w.heap.size ≤ g ∧ e = .returned (.tuple #[accV a (some ⟨g, 0, none⟩) a.h.length a.h.length, .int .i64 0]) ∧ w'.heap[g]? = some (.cells (ints a.h) 3 (0, 0)) ∧ Below w.heap.size w w'
/-- The call hands out an error and nothing. -/
def BadAcc (code : Int) (w : World) (e : Ending) (w' : World) : Prop :=
  e = .returned (.tuple #[accV zeroAc none 0 0, .int .i64 code]) ∧ Below w.heap.size w w'
def oneAc (x : It) (bs : List Int) : Ac := ⟨1, x.v, x.v, x.v, x, x, (List.replicate (bs.length + 1) 0).set (bkt bs x.v) 1⟩

theorem Tryz.infoInt : (Tryz.prog.info? 3).map (fun i => (i.zero, i.size, i.bytes)) = some (some (.int .i64 0), 1, 8) := by kernel_rfl

theorem Tryz.sizeAcc : (Tryz.prog.info? 144).map (·.size) = some 13 := by kernel_rfl

set_option maxRecDepth 100000 in
set_option maxHeartbeats 1000000 in
theorem one_bad (x : It) (B : Option Addr) (m d : Nat) (bs : List Int) (w : World) (hbs : Ints w B m bs) (hm : m ≤ maxLen) (hno : (itemB x && boundsB bs) = false) :
    Calls Tryz.prog 187 #[.agg #[.int .i64 x.s, .int .i64 x.t, .int .i64 x.q, .int .i64 x.v], .slice B m d] w (BadAcc 100 w) := by
  have HN := Lib.hid hno; clear hno
  go_enter Tryz.func187, Tryz.ntmps187
  go_wp2_with fail
  refine (item_any x _).mono ?_
  rintro e w1 ⟨rfl, hb1⟩
  have hB1 : Below w.heap.size w w1 := (((Below.refl _ _).alloc (Nat.le_refl _) _).alloc (by simp) _).trans (hb1.mono (by simp; omega))
  have H4 : Has w1 (w.heap.size + 1) 144 _ := Has.below (heap_alloc2_new w _ _) hb1 (by simp)
  have hc1 : ∀ b o, b < w.heap.size + 2 → w1.cell? ⟨b, o, none⟩ = _ := oldCells hb1 (by simp)
  cases h1 : itemB x
  · go_wp2_with (refine wpList_store_row rfl 144 _ _ rfl (w.heap.size + 1) (accC zeroAc none 0 0) rfl rfl 144 _ H4 Tryz.sizeAcc rfl (accC_one _ _ _ _) ?_)
    refine bodyPost_ret (ret_row rfl _ _ _ 144 (accC zeroAc none 0 0) _ rfl (H4.row _) Tryz.underlying144 rfl (by exact Tryz.sizeAcc)) rfl ?_
    exact ⟨rfl, below_row hB1 (by omega) _⟩
  · go_wp2_with fail
    refine (bounds_any B m d bs _ (hbs.below hB1) hm).mono ?_
    rintro e w2 ⟨rfl, k, rfl⟩
    have h2 : boundsB bs = false := by have := HN.out; rw [h1] at this; simpa using this
    rw [h2]
    have H4' := H4.drewN k
    go_wp2_with (refine wpList_store_row rfl 144 _ _ rfl (w.heap.size + 1) (accC zeroAc none 0 0) rfl rfl 144 _ H4' Tryz.sizeAcc rfl (accC_one _ _ _ _) ?_)
    refine bodyPost_ret (ret_row rfl _ _ _ 144 (accC zeroAc none 0 0) _ rfl (H4'.row _) Tryz.underlying144 rfl (by exact Tryz.sizeAcc)) rfl ?_
    exact ⟨rfl, below_row (below_drewN hB1 _) (by omega) _⟩

set_option maxRecDepth 100000 in
set_option maxHeartbeats 1000000 in
theorem one_ok (x : It) (B : Option Addr) (m d : Nat) (bs : List Int) (w : World) (hbs : Ints w B m bs) (hx : itemB x = true) (hb : boundsB bs = true) :
    Calls Tryz.prog 187 #[.agg #[.int .i64 x.s, .int .i64 x.t, .int .i64 x.q, .int .i64 x.v], .slice B m d] w (GoodAcc (oneAc x bs) w) := by
  have hlen := hbs.1
  have h8 := boundsB_true hb
  obtain ⟨h81, h82, h83⟩ := h8
  have hm8 : m ≤ 8 := by omega
  have HU := Lib.hid h83; clear h83 h82
  have HL := Lib.hid hlen; clear hlen h81
  have hkb : bkt bs x.v ≤ m := by have := bkt_le bs x.v; rw [HL.out] at this; exact this
  obtain ⟨i0, hi0, hz0, hs0, hy0⟩ := info_parts Tryz.infoInt
  have hmk := fun W => make_ints (P := Tryz.prog) 57 3 i0 Tryz.underlying57 hi0 hz0 hs0 hy0 m (by omega) W
  clear hi0 hz0 hs0 hy0
  go_enter Tryz.func187, Tryz.ntmps187
  go_wp2_with fail
  refine (item_any x _).mono ?_
  rintro e w1 ⟨rfl, hb1⟩
  have hB1 : Below w.heap.size w w1 := (((Below.refl _ _).alloc (Nat.le_refl _) _).alloc (by simp) _).trans (hb1.mono (by simp; omega))
  have H4 : Has w1 (w.heap.size + 1) 144 _ := Has.below (heap_alloc2_new w _ _) hb1 (by simp)
  have hc1 : ∀ b o, b < w.heap.size + 2 → w1.cell? ⟨b, o, none⟩ = _ := oldCells hb1 (by simp)
  rw [hx]
  go_wp2_with fail
  refine (bounds_any B m d bs _ (hbs.below hB1) (by unfold maxLen; omega)).mono ?_
  rintro e w2 ⟨rfl, k, hk⟩
  have hb2 : Below w1.heap.size w1 w2 := hk ▸ below_drewN (Below.refl _ _) k
  clear hk
  rw [hb]
  have hw1 : w.heap.size + 2 ≤ w1.heap.size := by have := hb1.size; simpa using this
  have H4' : Has w2 (w.heap.size + 1) 144 _ := Has.below H4 hb2 (by omega)
  have hc2 : ∀ b o, b < w.heap.size + 2 → w2.cell? ⟨b, o, none⟩ = _ := oldCells hb2 hw1
  have hB2 := hB1.trans (hb2.mono hB1.size)
  have hw2 : w.heap.size + 2 ≤ w2.heap.size := by have := hb2.size; omega
  have HBS := hbs.below hB2
  go_wp2_with (refine wpList_store_row rfl 144 _ _ rfl _ (accC ⟨1, x.v, x.v, x.v, x, x, []⟩ none 0 0) rfl rfl 144 _ (Has.made _ _ _) Tryz.sizeAcc rfl (accC_one _ _ _ _) ?_; rw [World.setRow_alloc_new]; unfold accC)
  have hx3 : w2.cell? ⟨w.heap.size, 3, none⟩ = some (.int .i64 x.v) := by
    rw [hc2 _ _ (by omega), hc1 _ _ (by omega)]; simp [go_sem]
  have hk3 : ∀ o1 o2, ((w2.alloc o1).alloc o2).cell? ⟨w.heap.size, 3, none⟩ = some (.int .i64 x.v) := fun o1 o2 => by
    rw [Below.cell (((Below.refl w2.heap.size w2).alloc (Nat.le_refl _) o1).alloc (by simp) o2) (show w.heap.size < w2.heap.size by omega)]; exact hx3
  have hkz : (zeros (m + 1))[bkt bs x.v]? = some (.int .i64 0) := by simp [zeros, hkb, Nat.lt_succ_iff]
  have hki : ((bkt bs x.v : Nat) : Int) < (m : Int) + 1 := by omega
  go_region_held3 (fun w' => w'.cell? ⟨w2.heap.size, 12, none⟩ = some (.slice (some ⟨w2.heap.size + 1, 0, none⟩) (m + 1) (m + 1)) ∧ w'.cell? ⟨w.heap.size, 3, none⟩ = some (.int .i64 x.v)) (simp [go_sem, World.cell?_alloc_past, hk3])
    (first
      | (go_at_call 218; refine (bucket_any B m d bs x.v _ (HBS.below (by repeat (first | exact Below.refl _ _ | refine Below.drew ?_ | refine Below.alloc ?_ (by simp <;> omega) _))) (by omega) HU.out).mono ?_; rintro e w' ⟨rfl, rfl⟩))
  have HN4 : ∀ A C, Has (((w2.alloc A).alloc C).drew) (w.heap.size + 1) 144 _ := fun A C => ((H4'.alloc A).alloc C).drew
  have HLEN : Hid ((oneAc x bs).h.length = m + 1) := by simp [Hid, oneAc, HL.out]
  have HCS : Hid ((zeros (m + 1)).setIfInBounds (bkt bs x.v) (.int .i64 1) = ints (oneAc x bs).h) := by rw [Hid, zeros_ints, ints_set]; simp [oneAc, HL.out]
  go_wp2_with (refine wpList_store_row rfl 144 _ _ rfl (w.heap.size + 1) (accC (oneAc x bs) (some ⟨w2.heap.size + 1, 0, none⟩) (m + 1) (m + 1)) rfl rfl 144 _ (HN4 _ _) Tryz.sizeAcc rfl (accC_one _ _ _ _) ?_)
  refine bodyPost_ret (ret_row rfl _ _ _ 144 (accC (oneAc x bs) (some ⟨w2.heap.size + 1, 0, none⟩) (m + 1) (m + 1)) _ rfl ((HN4 _ _).row _) Tryz.underlying144 rfl (by exact Tryz.sizeAcc)) rfl ?_
  refine ⟨w2.heap.size + 1, by omega, ?_, ?_, ?_⟩
  · rw [HLEN.out]; rfl
  · exact HCS.out ▸ Has.rowFar (Has.drew (heap_alloc2_new w2 _ _)) (by omega) _
  · refine below_row ?_ (by omega) _
    exact Below.drew (below_alloc (below_alloc hB2 (Nat.le_refl _) _) (Nat.le_refl _) _)

end Go.Proofs.YtbpaepkcchpmbaaGreat
