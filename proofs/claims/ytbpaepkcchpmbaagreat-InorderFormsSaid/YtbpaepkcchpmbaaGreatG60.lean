import Derived.Test.YtbpaepkcchpmbaaGreatG0
import Derived.Test.YtbpaepkcchpmbaaGreatG7
import Derived.WalkSpells
import Derived.WalkLawsBesides
import Derived.Lib.Hide
import Derived.Deep.Cut
namespace Go.Proofs.YtbpaepkcchpmbaaGreat
def okT (t : Int) : Prop := -1099511627776 ≤ t ∧ t ≤ 1099511627776
instance (t : Int) : Decidable (okT t) := inferInstanceAs (Decidable (_ ∧ _))
def seeN (t : Int) : Int := if okT t then 0 else 1600
def seeT (T t : Int) : Int := if okT t then max T t else T
def seeK (L T K t : Int) : Int := if okT t then max K (min L (T - t)) else K
def seeB (b : Bool) (t : Int) : Bool := if okT t then true else b
def seeM (b : Bool) (M t : Int) : Int := if okT t then (if b = true ∧ t ≤ M then M else t) else M
def seeR (L : Int) (b : Bool) (M K t : Int) : Int := if okT t then max K (min (seeM b M t - t) L) else K
structure Tie (L T K : Int) (b : Bool) (M : Int) : Prop where
  l0 : 0 ≤ L
  l1 : L ≤ 1073741824
  t0 : -1099511627776 ≤ T
  t1 : T ≤ 1099511627776
  k0 : 0 ≤ K
  k1 : K ≤ L
  m0 : -1099511627776 ≤ M
  m1 : M ≤ 1099511627776
  same : (b = true ∧ M = T) ∨ (b = false ∧ T = -1099511627776)
def okL (m L : Int) : Prop := -4398046511104 ≤ m ∧ m ≤ 4398046511104 ∧ 0 ≤ L ∧ L ≤ 1073741824
instance (m L : Int) : Decidable (okL m L) := inferInstanceAs (Decidable (_ ∧ _))
def lineN (m L : Int) : Int := if okL m L then max (m - L) (-4398046511104) else -4398046511104
end Go.Proofs.YtbpaepkcchpmbaaGreat
namespace Go.Proofs.YtbpaepkcchpmbaaGreat
open Go.RowKit
set_option maxRecDepth 100000 in
set_option maxHeartbeats 400000 in
theorem gwithin_any (n lo hi : Int) (w : World) :
    Calls Tryz.prog 75 #[.int .i64 n, .int .i64 lo, .int .i64 hi] w fun e w' => e = .returned (.bool (wi n lo hi)) ∧ w = w' := by
  by_cases h1 : lo ≤ n
  · by_cases h2 : n ≤ hi
    · rw [wi_mk ⟨h1, h2⟩]
      go_enter Tryz.func75, Tryz.ntmps75
      go_wp2
      go_ret
      exact ⟨rfl, rfl⟩
    · rw [wi_false (by omega)]
      go_enter Tryz.func75, Tryz.ntmps75
      go_wp2
      go_ret
      exact ⟨rfl, rfl⟩
  · rw [wi_false (by omega)]
    go_enter Tryz.func75, Tryz.ntmps75
    go_wp2
    go_ret
    exact ⟨rfl, rfl⟩
theorem gwithin_yes (n lo hi : Int) (w : World) (h : lo ≤ n ∧ n ≤ hi) :
    Calls Tryz.prog 75 #[.int .i64 n, .int .i64 lo, .int .i64 hi] w fun e w' => e = .returned (.bool true) ∧ w = w' := by
  have := gwithin_any n lo hi w
  rwa [wi_mk h] at this
theorem gwithin_no (n lo hi : Int) (w : World) (h : n < lo ∨ hi < n) :
    Calls Tryz.prog 75 #[.int .i64 n, .int .i64 lo, .int .i64 hi] w fun e w' => e = .returned (.bool false) ∧ w = w' := by
  have := gwithin_any n lo hi w
  rwa [wi_false (by omega)] at this
end Go.Proofs.YtbpaepkcchpmbaaGreat
namespace Go.Proofs.YtbpaepkcchpmbaaGreat
open Go.RowKit
set_option maxRecDepth 100000 in
set_option maxHeartbeats 400000 in
theorem mayLate_any (n : Int) (w : World) :
    Calls Tryz.prog 137 #[.int .i64 n] w fun e w' => e = .returned (.bool (wi n 0 1073741824)) ∧ w = w' := by
  go_enter Tryz.func137, Tryz.ntmps137
  go_wp2_with (go_at_call 75; refine (gwithin_any _ _ _ _).mono ?_; rintro e w' ⟨rfl, rfl⟩)
  go_ret
  exact ⟨rfl, rfl⟩
theorem mayLate_yes (n : Int) (w : World) (h : 0 ≤ n ∧ n ≤ 1073741824) :
    Calls Tryz.prog 137 #[.int .i64 n] w fun e w' => e = .returned (.bool true) ∧ w = w' := by
  have := mayLate_any n w
  rwa [wi_mk h] at this
theorem mayLate_no (n : Int) (w : World) (h : n < 0 ∨ 1073741824 < n) :
    Calls Tryz.prog 137 #[.int .i64 n] w fun e w' => e = .returned (.bool false) ∧ w = w' := by
  have := mayLate_any n w
  rwa [wi_false (by omega)] at this
theorem line_max (m L : Int) (h : okL m L) : lineN m L = (if -4398046511104 > m - L then -4398046511104 else m - L) := by
  unfold lineN
  rw [if_pos h]
  split <;> omega
set_option maxRecDepth 100000 in
set_option maxHeartbeats 400000 in
theorem line_any (m L : Int) (w : World) :
    Calls Tryz.prog 106 #[.int .i64 m, .int .i64 L] w fun e w' => e = .returned (.int .i64 (lineN m L)) ∧ w = w' := by
  by_cases h1 : -4398046511104 ≤ m ∧ m ≤ 4398046511104
  · by_cases h2 : 0 ≤ L ∧ L ≤ 1073741824
    · have hok : okL m L := ⟨h1.1, h1.2, h2.1, h2.2⟩
      have hw : wrap64 (m - L) = m - L := IntWalk.wrap64_in _ (by omega)
      by_cases h3 : -4398046511104 > m - L
      · have he : lineN m L = -4398046511104 := by rw [line_max m L hok, if_pos h3]
        rw [he]
        clear hok he
        go_enter Tryz.func106, Tryz.ntmps106
        go_wp2_with (first | (go_at_call 75; refine (gwithin_yes _ _ _ _ h1).mono ?_; rintro e w' ⟨rfl, rfl⟩) | (go_at_call 137; refine (mayLate_yes _ _ h2).mono ?_; rintro e w' ⟨rfl, rfl⟩))
        go_ret
        exact ⟨rfl, rfl⟩
      · have he : lineN m L = m - L := by rw [line_max m L hok, if_neg h3]
        rw [he]
        clear hok he
        go_enter Tryz.func106, Tryz.ntmps106
        go_wp2_with (first | (go_at_call 75; refine (gwithin_yes _ _ _ _ h1).mono ?_; rintro e w' ⟨rfl, rfl⟩) | (go_at_call 137; refine (mayLate_yes _ _ h2).mono ?_; rintro e w' ⟨rfl, rfl⟩))
        go_ret
        exact ⟨rfl, rfl⟩
    · have he : lineN m L = -4398046511104 := by unfold lineN; rw [if_neg (fun h => h2 ⟨h.2.2.1, h.2.2.2⟩)]
      have h3 : L < 0 ∨ 1073741824 < L := by omega
      rw [he]
      clear he
      go_enter Tryz.func106, Tryz.ntmps106
      go_wp2_with (first | (go_at_call 75; refine (gwithin_yes _ _ _ _ h1).mono ?_; rintro e w' ⟨rfl, rfl⟩) | (go_at_call 137; refine (mayLate_no _ _ h3).mono ?_; rintro e w' ⟨rfl, rfl⟩))
      go_ret
      exact ⟨rfl, rfl⟩
  · have he : lineN m L = -4398046511104 := by unfold lineN; rw [if_neg (fun h => h1 ⟨h.1, h.2.1⟩)]
    have h3 : m < -4398046511104 ∨ 4398046511104 < m := by omega
    rw [he]
    clear he
    go_enter Tryz.func106, Tryz.ntmps106
    go_wp2_with (go_at_call 75; refine (gwithin_no _ _ _ _ h3).mono ?_; rintro e w' ⟨rfl, rfl⟩)
    go_ret
    exact ⟨rfl, rfl⟩
end Go.Proofs.YtbpaepkcchpmbaaGreat
