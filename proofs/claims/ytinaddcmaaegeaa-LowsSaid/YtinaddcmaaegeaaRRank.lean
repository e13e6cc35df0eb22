/-
  Walk: the reference's rank.
-/
import Derived.Test.YtinaddcmaaegeaaLow
import Derived.Test.YtinaddcmaaegeaaRow
import Derived.Deep.DeepCutAuto
namespace Go.Proofs.Ytinaddcmaaegeaa
open Go.RowKit

@[go_sem] theorem quC_0 (q : Qu) (B : Option Addr) (m d : Nat) : (quC q B m d)[0]? = some (.int .i64 q.kind) := rfl
@[go_sem] theorem quC_1 (q : Qu) (B : Option Addr) (m d : Nat) : (quC q B m d)[1]? = some (.int .i64 q.agg) := rfl
@[go_sem] theorem quC_2 (q : Qu) (B : Option Addr) (m d : Nat) : (quC q B m d)[2]? = some (.int .i64 q.size) := rfl
@[go_sem] theorem quC_3 (q : Qu) (B : Option Addr) (m d : Nat) : (quC q B m d)[3]? = some (.int .i64 q.slide) := rfl
@[go_sem] theorem quC_4 (q : Qu) (B : Option Addr) (m d : Nat) : (quC q B m d)[4]? = some (.slice B m d) := rfl
@[go_sem] theorem quC_5 (q : Qu) (B : Option Addr) (m d : Nat) : (quC q B m d)[5]? = some (.int .i64 q.rank) := rfl
/-- Query and aggregate, each in a variable of its own. -/
structure RRk (w : World) (q : Qu) (B : Option Addr) (m d : Nat) (a : Ac) (A : Option Addr) (k c : Nat) (wr : World) : Prop where
  qu : Has wr w.heap.size 53 (quC q B m d)
  ac : Has wr (w.heap.size + 1) 29 (accC a A k c)
  keep : Below w.heap.size w wr

set_option maxRecDepth 100000 in
set_option maxHeartbeats 4000000 in
theorem rrank_any (q : Qu) (B : Option Addr) (m d : Nat) (a : Ac) (A : Option Addr) (k c : Nat) (w : World) (hbs : Ints w B m q.bs) (ha : Ints w A k a.h) (hm : m ≤ 8) (hk : k = m + 1) (h1 : 0 ≤ q.rank ∧ q.rank ≤ 1000) (h2 : 0 ≤ a.n ∧ a.n ≤ 8192) (h3 : ∀ i, i < k → 0 ≤ nth a.h i ∧ nth a.h i ≤ 8192) :
    Calls Try.prog 58 #[.agg (quC q B m d), .agg (accC a A k c)] w fun e w' => e = .returned (.int .i64 (rankV q.bs a.h (place q.rank a.n) a.mx)) ∧ Below w.heap.size w w' := by
  subst hk
  have HLB := Lib.hid hbs.1
  have HLA := Lib.hid ha.1
  have HBS := Lib.hid hbs
  have HAH := Lib.hid ha
  have H3 := Lib.hid h3; clear h3
  obtain ⟨r1, r2⟩ := h1
  obtain ⟨n1, n2⟩ := h2
  have p1 : 0 ≤ q.rank * a.n := Int.mul_nonneg r1 n1
  have p2 : q.rank * a.n ≤ 8192000 := by
    have g1 := Int.mul_le_mul_of_nonneg_right r2 n1
    have g2 := Int.mul_le_mul_of_nonneg_left n2 (show (0 : Int) ≤ 1000 by decide)
    omega
  obtain ⟨P, hP⟩ : ∃ P, place q.rank a.n = P := ⟨_, rfl⟩
  have hP2 : P = max 1 ((q.rank * a.n + 999) / 1000) := by rw [← hP]; rfl
  have HP2 := Lib.hid hP2
  have P1 : 1 ≤ P := by omega
  have P2 : P ≤ 8193 := by omega
  have HV : Hid (rankV q.bs a.h P a.mx = rankGo q.bs a.h P a.mx (m - 0) 0) := by unfold rankV; rw [HLB.out]; rfl
  rw [hP]
  generalize rankV q.bs a.h P a.mx = V at HV ⊢
  clear hbs ha hP hP2
  have HR0 : ∀ w' : World, w' = (w.alloc (.cells (quC q B m d) 53)).alloc (.cells (accC a A (m + 1) c) 29) → RRk w q B m d a A (m + 1) c w' := fun w' e => by
    subst e
    exact ⟨heap_alloc2_old _ _ _, heap_alloc2_new _ _ _, below_alloc ((Below.refl _ _).alloc (Nat.le_refl _) _) (by simp) _⟩
  have HRR := Lib.hid (HR0 _ rfl); clear HR0
  go_enter Try.func58, Try.ntmps58
  go_upto_region 2 with fail
  go_cut [5] (fun x wx => x = .int .i64 P ∧ Hid (RRk w q B m d a A (m + 1) c wx))
  case first =>
    by_cases h : 1 ≤ (q.rank * a.n + 999) / 1000
    · have e : P = (q.rank * a.n + 999) / 1000 := by rw [HP2.out]; omega
      have HE := Lib.hid e; clear e
      go_wp2_with fail
      go_meet
      exact ⟨by rw [HE.out], HRR⟩
    · have e : P = 1 := by rw [HP2.out]; omega
      have HE := Lib.hid e; clear e
      go_wp2_with fail
      go_meet
      exact ⟨by rw [HE.out], HRR⟩
  case rest =>
    obtain ⟨rfl, HR⟩ := hcut
    clear HRR HP2 p1 p2
    go_wp2_with fail
    go_loopw [5, 6] (fun x i wr => ∃ (j : Nat) (L : Int), j ≤ m ∧ i = .int .i64 j ∧ x = .int .i64 L ∧ L ≤ 8193 ∧ 1 - 8192 * j ≤ L ∧ Hid (isum (a.h.take j) = P - L) ∧ Hid (V = rankGo q.bs a.h P a.mx (m - j) j) ∧ Hid (RRk w q B m d a A (m + 1) c wr)) (fun _ i _ => m - (intOf i).toNat)
    case atStart => exact ⟨0, P, Nat.zero_le _, rfl, rfl, by omega, by omega, by simp [Hid, isum], HV, HR⟩
    case round =>
      clear HR HV
      obtain ⟨j, L, hj, rfl, rfl, L1, L2, HS, HV, HR⟩ := hrel
      have cQ : ∀ i, wr.cell? ⟨w.heap.size, i, none⟩ = (quC q B m d)[i]? := fun i => HR.out.qu.cell i
      have cA : ∀ i, wr.cell? ⟨w.heap.size + 1, i, none⟩ = (accC a A (m + 1) c)[i]? := fun i => HR.out.ac.cell i
      by_cases hlt : j < m
      · have hjm : (j : Int) < (m : Int) := by omega
        have hjm1 : (j : Int) < (m : Int) + 1 := by omega
        have hjm8 : j < 8 := by omega
        obtain ⟨b, o, rfl, hc⟩ := HAH.out.at_ (k := 0) (by omega)
        have hcell : wr.cell? ⟨b, o + j, none⟩ = some (.int .i64 (nth a.h j)) := (HR.out.keep.cell (block_lt_of_cell (hc j (by omega)))).trans (hc j (by omega))
        clear hc
        obtain ⟨b2, o2, rfl, hc⟩ := HBS.out.at_ (k := 0) (by omega)
        have hcell2 : wr.cell? ⟨b2, o2 + j, none⟩ = some (.int .i64 (nth q.bs j)) := (HR.out.keep.cell (block_lt_of_cell (hc j (by omega)))).trans (hc j (by omega))
        clear hc
        obtain ⟨x1, x2⟩ := H3.out j (by omega)
        have HT : Hid (isum (a.h.take (j + 1)) = P - L + nth a.h j) := by rw [Hid, isum_take_succ (by rw [HLA.out]; omega), HS.out]
        have e1 : m - j = (m - (j + 1)) + 1 := by omega
        generalize hx : nth a.h j = x at x1 x2 hcell HT
        clear hx
        by_cases hge : L ≤ x
        · have HE : Hid (V = nth q.bs j) := by
            have := HV.out
            rw [e1, rankGo_yes (by rw [HT.out]; omega)] at this
            exact this
          clear e1
          go_wp2_with fail
          go_ret
          exact ⟨ret_int HE.out.symm, HR.out.keep⟩
        · have HE : Hid (V = rankGo q.bs a.h P a.mx (m - (j + 1)) (j + 1)) := by
            have := HV.out
            rw [e1, rankGo_no (by rw [HT.out]; omega)] at this
            exact this
          clear e1
          go_wp2_with fail
          go_roundw
          case rel => exact ⟨j + 1, L - x, by omega, by go_num, rfl, by omega, by omega, by rw [Hid, HT.out]; omega, HE, HR⟩
          case measure => simp [intOf]; omega
      · have hkn : j = m := by omega
        subst hkn
        have HE : Hid (V = a.mx) := by
          have := HV.out
          rw [Nat.sub_self] at this
          exact this
        go_wp2_with fail
        go_ret
        exact ⟨ret_int HE.out.symm, HR.out.keep⟩

end Go.Proofs.Ytinaddcmaaegeaa
