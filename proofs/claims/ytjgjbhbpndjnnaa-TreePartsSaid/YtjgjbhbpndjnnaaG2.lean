/-
  The frame behind a region whose facts are shown one by one, written as what it was with slots turned. No program here.
  Walk of the leaf rules.Within; answers that are one. (Out of XLeaf.)
  Walks: rules.Bounds, the reference's BoundsMay.
  Walks of the leaves: rules.Item, cmp.Compare, the reference's within.
  Walks: cmp.Or at two values, rules.Compare.
-/
import Derived.Test.YtjgjbhbpndjnnaaAny
import Derived.Test.YtjgjbhbpndjnnaaProg
import Derived.Test.YtjgjbhbpndjnnaaG0
import Derived.WalkKit
import Derived.WalkSpells
import Derived.WalkLawsBesides
import Derived.BigQuiet
import Derived.Lib.Hide
import Derived.Deep.QuietTactic
import Derived.StillTailTactics
import Derived.Deep.RegionHeld3
namespace Go.Proofs.Ytjgjbhbpndjnnaa
open Go.RowKit

/-- The frame a0 with these slots turned. -/
def putAll (a0 : Act) : List (Nat × Value) → Act
  | [] => a0
  | p :: r => putAll (a0.put (some p.1) p.2) r
theorem put_size (a : Act) (t : Nat) (v : Value) : (a.put (some t) v).tmps.size = a.tmps.size := by simp [Act.put]
theorem putAll_size (vs : List (Nat × Value)) : ∀ a0 : Act, (putAll a0 vs).tmps.size = a0.tmps.size := by
  induction vs with
  | nil => intro a0; rfl
  | cons p r ih => intro a0; simp only [putAll]; rw [ih, put_size]
theorem putAll_defers (vs : List (Nat × Value)) : ∀ a0 : Act, (putAll a0 vs).defers = a0.defers := by
  induction vs with
  | nil => intro a0; rfl
  | cons p r ih => intro a0; simp only [putAll]; rw [ih]; rfl
theorem put_get (a : Act) {t s : Nat} (v : Value) (hs : t ≠ s) : (a.put (some t) v).tmps.getD s undef = a.tmps.getD s undef := by simp [Act.put, hs]
theorem put_get_same (a : Act) {t : Nat} (v : Value) (h : t < a.tmps.size) : (a.put (some t) v).tmps.getD t undef = v := by simp [Act.put, h]
theorem putAll_far (vs : List (Nat × Value)) : ∀ (a0 : Act) (s : Nat), s ∉ vs.map (·.1) → (putAll a0 vs).tmps.getD s undef = a0.tmps.getD s undef := by
  induction vs with
  | nil => intro a0 s _; rfl
  | cons p r ih =>
    intro a0 s hs
    simp only [List.map_cons, List.mem_cons, not_or] at hs
    simp only [putAll]
    rw [ih _ _ hs.2, put_get _ _ (Ne.symm hs.1)]
def valsAre (a : Act) : List (Nat × Value) → Prop
  | [] => True
  | p :: r => a.tmps.getD p.1 undef = p.2 ∧ valsAre a r
theorem putAll_same (vs : List (Nat × Value)) : ∀ (a0 a : Act), nodupB (vs.map (·.1)) = true → a.tmps.size = a0.tmps.size → a.defers = a0.defers → valsAre a vs → (∀ s, s ∉ vs.map (·.1) → a.tmps.getD s undef = a0.tmps.getD s undef) → a = putAll a0 vs := by
  induction vs with
  | nil =>
    intro a0 a _ hs hd _ ho
    obtain ⟨t, d⟩ := a
    obtain ⟨t0, d0⟩ := a0
    simp only at hs hd
    subst hd
    show Act.mk t d = Act.mk t0 d
    congr 1
    apply Array.ext hs
    intro i h1 h2
    have := ho i (by simp)
    simpa [h1, h2] using this
  | cons p r ih =>
    intro a0 a hnd hs hd hv ho
    simp only [List.map_cons, nodupB, Bool.and_eq_true] at hnd
    have hp : p.1 ∉ r.map (·.1) := by have := hnd.1; simpa using this
    simp only [putAll]
    refine ih _ a hnd.2 (by rw [put_size]; exact hs) hd hv.2 fun s hsr => ?_
    by_cases e : p.1 = s
    · subst e
      by_cases hl : p.1 < a0.tmps.size
      · rw [put_get_same _ _ hl]; exact hv.1
      · have h1 : a.tmps.getD p.1 undef = undef := by simp [Array.getD, show ¬ p.1 < a.tmps.size by omega]
        have h2 : (a0.put (some p.1) p.2).tmps.getD p.1 undef = undef := by simp [Array.getD, put_size, hl]
        rw [h1, h2]
    · rw [put_get _ _ e]
      refine ho s ?_
      simp only [List.map_cons, List.mem_cons, not_or]
      exact ⟨fun h => e h.symm, hsr⟩
/-- Behind a head: the frame, written as what it was with these slots turned. -/
theorem frame_is {a0 a : Act} {D : List (Option Tmp)} (hF : FrD D a0 a) (vs : List (Nat × Value)) (hv : valsAre a vs) (hnd : nodupB (vs.map (·.1)) = true) (hD : D.all (fun d => match d with | some t => (vs.map (·.1)).contains t | none => true) = true) : a = putAll a0 vs :=
  putAll_same vs a0 a hnd hF.size hF.defers hv fun s hs => hF.other s (by
    rw [← Bool.not_eq_true]
    intro hc
    have hm : some s ∈ D := by simpa using hc
    have := List.all_eq_true.1 hD (some s) hm
    simp only [List.contains_iff_mem] at this
    exact hs this)

end Go.Proofs.Ytjgjbhbpndjnnaa

namespace Go.Proofs.Ytjgjbhbpndjnnaa
open Go.RowKit

theorem ret_int {k : IntKind} {a b : Int} (h : a = b) : Ending.returned (.int k a) = .returned (.int k b) := by rw [h]
theorem ret_bool {a b : Bool} (h : a = b) : Ending.returned (.bool a) = .returned (.bool b) := by rw [h]

set_option maxRecDepth 100000 in
set_option maxHeartbeats 400000 in
theorem within_any (n lo hi : Int) (w : World) :
    Calls Try.prog 70 #[.int .i64 n, .int .i64 lo, .int .i64 hi] w fun e w' => e = .returned (.bool (wi n lo hi)) ∧ w = w' := by
  by_cases h1 : lo ≤ n
  · by_cases h2 : n ≤ hi
    · rw [wi_mk ⟨h1, h2⟩]
      go_enter Try.func70, Try.ntmps70
      go_wp2
      go_ret
      exact ⟨rfl, rfl⟩
    · rw [wi_false (by omega)]
      go_enter Try.func70, Try.ntmps70
      go_wp2
      go_ret
      exact ⟨rfl, rfl⟩
  · rw [wi_false (by omega)]
    go_enter Try.func70, Try.ntmps70
    go_wp2
    go_ret
    exact ⟨rfl, rfl⟩

end Go.Proofs.Ytjgjbhbpndjnnaa

namespace Go.Proofs.Ytjgjbhbpndjnnaa
open Go.RowKit

set_option maxRecDepth 100000 in
set_option maxHeartbeats 1000000 in
theorem bounds_any (A : Option Addr) (n c : Nat) (bs : List Int) (w : World) (hr : Ints w A n bs) (hn : n ≤ maxLen) :
    Calls Try.prog 41 #[.slice A n c] w fun e w' => e = .returned (.bool (boundsB bs)) ∧ ∃ k, w' = w.drewN k := by
  have hlen := hr.1
  unfold maxLen at hn
  by_cases h8 : 8 < n
  · have hb : boundsB bs = false := boundsB_false (by rw [hlen]; omega)
    rw [hb]
    clear hb
    have HL := Lib.hid hlen; clear hlen
    go_enter Try.func41, Try.ntmps41
    go_wp2
    go_ret
    exact ⟨rfl, 0, rfl⟩
  · have HL := Lib.hid hlen; clear hlen
    go_enter Try.func41, Try.ntmps41
    go_wp2
    go_loop [11] (fun i => ∃ k : Nat, k ≤ n ∧ i = .int .i64 k ∧ ∀ i, i < k → inV (nth bs i) = true) (fun i => n - (intOf i).toNat)
    case atStart => exact ⟨0, Nat.zero_le _, rfl, fun i hi => absurd hi (Nat.not_lt_zero _)⟩
    case round =>
      obtain ⟨k, hk, rfl, hall⟩ := hrel
      have HA := Lib.hid hall; clear hall
      by_cases hlt : k < n
      · obtain ⟨b, o, rfl, hc⟩ := hr.at_ hlt
        have hcell := hc k hlt
        clear hc
        cases hv : wi (nth bs k) (-1099511627776) 1099511627776
        · go_wp2_with (go_at_call 70; refine (within_any _ _ _ _).mono ?_; rintro e w' ⟨rfl, rfl⟩)
          go_ret
          exact ⟨ret_bool (boundsB_false (fun h => by have := h.2.1 k (by rw [HL.out]; exact hlt); unfold inV at this; rw [hv] at this; cases this)).symm, 0, rfl⟩
        · go_wp2_with (go_at_call 70; refine (within_any _ _ _ _).mono ?_; rintro e w' ⟨rfl, rfl⟩)
          go_round
          case rel => exact ⟨k + 1, by omega, by go_num, fun i hi => by rcases Nat.lt_succ_iff_lt_or_eq.1 hi with h | rfl <;> first | exact HA.out i h | exact hv⟩
          case measure => simp [intOf]; omega
      · have hkn : k = n := by omega
        subst hkn
        go_wp2
        go_loopw [22] (fun i wr => ∃ j : Nat, j ≤ k - 1 ∧ i = .int .i64 j ∧ (∀ i, i < j → nth bs i < nth bs (i + 1)) ∧ ∃ m, wr = w.drewN m) (fun i _ => k - (intOf i).toNat)
        case atStart => exact ⟨0, Nat.zero_le _, rfl, fun i hi => absurd hi (Nat.not_lt_zero _), 0, rfl⟩
        case round =>
          obtain ⟨j, hj, rfl, hall, m, rfl⟩ := hrel
          have HB := Lib.hid hall; clear hall
          by_cases hlt : (j : Int) < (k : Int) - 1
          · obtain ⟨b, o, rfl, hc⟩ := hr.at_ (k := 0) (by omega)
            have hc0 := hc j (by omega)
            have hc1 := hc (j + 1) (by omega)
            clear hc
            have hjk : (j : Int) < (k : Int) := by omega
            have hjk1 : (j : Int) + 1 < (k : Int) := by omega
            by_cases hord : nth bs (j + 1) ≤ nth bs j
            · have q1 : IntKind.i64.wrap ((j : Int) + 1) = (j : Int) + 1 := IntWalk.i64_in _ (by omega)
              have q2 : 0 ≤ (j : Int) + 1 := by omega
              have q3 : ((j : Int) + 1).toNat = j + 1 := by omega
              go_wp2
              go_quiet (fail)
              clear q1 q2 q3
              go_wp2
              go_ret
              exact ⟨ret_bool (boundsB_false (fun h => by have := h.2.2 j (by rw [HL.out]; omega); omega)).symm, m + nq, by first | rfl | rw [World.drewN_drewN]⟩
            · have q1 : IntKind.i64.wrap ((j : Int) + 1) = (j : Int) + 1 := IntWalk.i64_in _ (by omega)
              have q2 : 0 ≤ (j : Int) + 1 := by omega
              have q3 : ((j : Int) + 1).toNat = j + 1 := by omega
              go_wp2
              go_quiet (fail)
              clear q1 q2 q3
              go_wp2
              go_roundw
              case rel => exact ⟨j + 1, by omega, by go_num, fun i hi => by rcases Nat.lt_succ_iff_lt_or_eq.1 hi with h | rfl <;> first | exact HB.out i h | omega, m + nq, by first | rfl | rw [World.drewN_drewN]⟩
              case measure => simp [intOf]; omega
          · go_wp2
            go_ret
            exact ⟨ret_bool (boundsB_mk ⟨by rw [HL.out]; omega, fun i hi => HA.out i (by rw [HL.out] at hi; exact hi), fun i hi => HB.out i (by rw [HL.out] at hi; omega)⟩).symm, m, rfl⟩

end Go.Proofs.Ytjgjbhbpndjnnaa

namespace Go.Proofs.Ytjgjbhbpndjnnaa
open Go.RowKit

set_option maxRecDepth 100000 in
set_option maxHeartbeats 400000 in
theorem cmp_any (a b : Int) (w : World) :
    Calls Try.prog 89 #[.int .i64 a, .int .i64 b] w fun e w' => e = .returned (.int .i64 (cmpI a b)) ∧ w = w' := by
  unfold cmpI
  by_cases h1 : a < b
  · rw [if_pos h1]
    go_enter Try.func89, Try.ntmps89
    go_wp2
    go_ret
    exact ⟨rfl, rfl⟩
  · rw [if_neg h1]
    by_cases h2 : b < a
    · rw [if_pos h2]
      go_enter Try.func89, Try.ntmps89
      go_wp2
      go_ret
      exact ⟨rfl, rfl⟩
    · rw [if_neg h2]
      go_enter Try.func89, Try.ntmps89
      go_wp2
      go_ret
      exact ⟨rfl, rfl⟩

set_option maxRecDepth 100000 in
set_option maxHeartbeats 400000 in
theorem item_any (x : It) (w : World) :
    Calls Try.prog 40 #[.agg #[.int .i64 x.s, .int .i64 x.t, .int .i64 x.q, .int .i64 x.v]] w fun e w' => e = .returned (.bool (itemB x)) ∧ Below w.heap.size w w' := by
  unfold itemB
  cases h1 : wi x.s 0 1048575
  · go_enter Try.func40, Try.ntmps40
    go_wp2_with (go_at_call 70; refine (within_any _ _ _ _).mono ?_; rintro e w' ⟨rfl, rfl⟩)
    go_ret
    exact ⟨rfl, (Below.refl _ _).alloc (Nat.le_refl _) _⟩
  · cases h2 : wi x.t (-1099511627776) 1099511627776
    · go_enter Try.func40, Try.ntmps40
      go_wp2_with (go_at_call 70; refine (within_any _ _ _ _).mono ?_; rintro e w' ⟨rfl, rfl⟩)
      go_ret
      exact ⟨rfl, (Below.refl _ _).alloc (Nat.le_refl _) _⟩
    · cases h3 : wi x.q 1 1073741823
      · go_enter Try.func40, Try.ntmps40
        go_wp2_with (go_at_call 70; refine (within_any _ _ _ _).mono ?_; rintro e w' ⟨rfl, rfl⟩)
        go_ret
        exact ⟨rfl, (Below.refl _ _).alloc (Nat.le_refl _) _⟩
      · cases h4 : wi x.v (-1099511627776) 1099511627776
        all_goals
          go_enter Try.func40, Try.ntmps40
          go_wp2_with (go_at_call 70; refine (within_any _ _ _ _).mono ?_; rintro e w' ⟨rfl, rfl⟩)
          go_ret
          exact ⟨rfl, (Below.refl _ _).alloc (Nat.le_refl _) _⟩

end Go.Proofs.Ytjgjbhbpndjnnaa

namespace Go.Proofs.Ytjgjbhbpndjnnaa
open Go.RowKit

def orI (a b : Int) : Int := if a = 0 then b else a

set_option maxRecDepth 100000 in
set_option maxHeartbeats 400000 in
theorem or_any (a b : Int) (g : Nat) (w : World) (h0 : w.cell? ⟨g, 0, none⟩ = some (.int .i64 a)) (h1 : w.cell? ⟨g, 1, none⟩ = some (.int .i64 b)) :
    Calls Try.prog 88 #[.slice (some ⟨g, 0, none⟩) 2 2] w fun e w' => e = .returned (.int .i64 (orI a b)) ∧ w = w' := by
  unfold orI
  by_cases ha : a = 0
  · subst ha
    rw [if_pos rfl]
    by_cases hb : b = 0
    · subst hb
      go_enter Try.func88, Try.ntmps88
      go_wp2
      refine wp_loop_rounds 3 ?_; rw [rounds_succ]
      go_wp2
      rw [rounds_succ]
      go_wp2
      rw [rounds_succ]
      go_wp2
      go_ret
      exact ⟨rfl, rfl⟩
    · go_enter Try.func88, Try.ntmps88
      go_wp2
      refine wp_loop_rounds 2 ?_; rw [rounds_succ]
      go_wp2
      rw [rounds_succ]
      go_wp2
      go_ret
      exact ⟨rfl, rfl⟩
  · rw [if_neg ha]
    go_enter Try.func88, Try.ntmps88
    go_wp2
    refine wp_loop_rounds 1 ?_; rw [rounds_succ]
    go_wp2
    go_ret
    exact ⟨rfl, rfl⟩

theorem cmpT_or (x y : It) : orI (cmpI x.t y.t) (cmpI x.q y.q) = cmpT x y := by
  unfold orI cmpT; rfl

set_option maxRecDepth 100000 in
set_option maxHeartbeats 400000 in
theorem compare_any (x y : It) (w : World) :
    Calls Try.prog 72 #[.agg #[.int .i64 x.s, .int .i64 x.t, .int .i64 x.q, .int .i64 x.v], .agg #[.int .i64 y.s, .int .i64 y.t, .int .i64 y.q, .int .i64 y.v]] w
      fun e w' => e = .returned (.int .i64 (cmpT x y)) ∧ Below w.heap.size w w' := by
  go_enter Try.func72, Try.ntmps72
  go_wp2
  go_region_held3 (fun w' => w'.cell? ⟨w.heap.size, 1, none⟩ = some (.int .i64 x.t) ∧ w'.cell? ⟨w.heap.size, 2, none⟩ = some (.int .i64 x.q) ∧ w'.cell? ⟨w.heap.size + 1, 1, none⟩ = some (.int .i64 y.t) ∧ w'.cell? ⟨w.heap.size + 1, 2, none⟩ = some (.int .i64 y.q)) (simp [go_sem, World.cell?_alloc_past])
    (first
      | (go_at_call 89; refine (cmp_any _ _ _).mono ?_; rintro e w' ⟨rfl, rfl⟩)
      | (go_at_call 88; refine (or_any (cmpI x.t y.t) (cmpI x.q y.q) _ _ (by simp [go_sem]) (by simp [go_sem])).mono ?_; rintro e w' ⟨rfl, rfl⟩))
  go_wp2
  go_ret
  exact ⟨by rw [cmpT_or]; rfl, by repeat (first | exact Below.refl _ _ | refine Below.drew ?_ | refine Below.alloc ?_ (by simp <;> omega) _)⟩

end Go.Proofs.Ytjgjbhbpndjnnaa
