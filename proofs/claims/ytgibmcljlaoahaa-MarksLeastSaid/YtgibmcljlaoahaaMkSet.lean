/-
  Walks: Set, the program's and the reference's.
-/
import Derived.Test.YtgibmcljlaoahaaMkSetR
import Derived.Test.YtgibmcljlaoahaaMkLeast
import Derived.Test.YtgibmcljlaoahaaGLeaf
import Derived.Deep.Cut
namespace Go.Proofs.Ytgibmcljlaoahaa
open Go.RowKit

theorem SetO.no {T : TypeId} {g b c : Nat} {xs : List Int} {s t : Int} {w : World} (h : Mk T w g b c xs) (hn : ¬ okM xs.length s t) : SetO T g b c xs s t (.returned (.tuple #[.bool false, .int .i64 1300])) w w := by
  obtain ⟨h1, h2, h3⟩ := set_no hn
  unfold SetO
  rw [h1, h2, h3]
  exact ⟨rfl, h, ButS.refl _ _⟩
theorem SetO.ok {T : TypeId} {g b c : Nat} {xs : List Int} {k : Nat} {t M : Int} {w w' : World} (h : Mk T w g b c xs) (hok : okM xs.length (k : Int) t) (hM : max (nth xs k) t = M) (hb : Below w.heap.size w w') :
    Mk T (w'.setCell ⟨b, k, none⟩ (.int .i64 M)) g b c (setI xs k t) ∧ ButS [b] w (w'.setCell ⟨b, k, none⟩ (.int .i64 M)) := by
  subst hM
  have e := (set_ok hok).2
  rw [Int.toNat_natCast] at e
  rw [e]
  exact ⟨(h.below hb).put k _, (below_butS hb _).trans (setCell_butS _ _ _ _)⟩
theorem SetO.fin {T : TypeId} {g b c : Nat} {xs : List Int} {s t : Int} {w w' : World} (hok : okM xs.length s t) (h : Mk T w' g b c (setI xs s t) ∧ ButS [b] w w') {r : Bool} (hr : decide (least (setI xs s t) > least xs) = r) : SetO T g b c xs s t (.returned (.tuple #[.bool r, .int .i64 0])) w w' := by
  subst hr
  unfold SetO
  rw [(set_ok hok).1]
  exact ⟨rfl, h.1, h.2⟩

set_option maxRecDepth 100000 in
set_option maxHeartbeats 1000000 in
theorem mset_no (g b c : Nat) (xs : List Int) (s t : Int) (w : World) (h : Mk 51 w g b c xs) (hn : ¬ okM xs.length s t) :
    Calls Try.prog 11 #[.pointer (some ⟨g, 0, none⟩), .int .i64 s, .int .i64 t] w fun e w' => SetO 51 g b c xs s t e w w' := by
  have HE := Lib.hid (SetO.no h hn)
  have c0 := h.cell0
  have hp := h.pos
  have hs := h.small
  obtain ⟨n, hl⟩ : ∃ n, xs.length = n := ⟨_, rfl⟩
  unfold okM at hn
  rw [hl] at c0 hp hs hn
  clear h
  by_cases h1 : 0 ≤ s ∧ s ≤ (n : Int) - 1
  · have h2 : t < -4398046511103 ∨ 4398046511104 < t := by omega
    clear hn
    go_enter Try.func11, Try.ntmps11
    go_wp2_with fail
    refine (gwithin_yes _ _ _ _ h1).mono ?_; rintro e w' ⟨rfl, rfl⟩
    go_wp2_with fail
    refine (gwithin_no _ _ _ _ h2).mono ?_; rintro e w' ⟨rfl, rfl⟩
    go_wp2_with fail
    go_ret2
    exact HE.out
  · have h2 : s < 0 ∨ (n : Int) - 1 < s := by omega
    clear hn h1
    go_enter Try.func11, Try.ntmps11
    go_wp2_with fail
    refine (gwithin_no _ _ _ _ h2).mono ?_; rintro e w' ⟨rfl, rfl⟩
    go_wp2_with fail
    go_ret2
    exact HE.out

set_option maxRecDepth 100000 in
set_option maxHeartbeats 1000000 in
theorem mset_ok (g b c : Nat) (xs : List Int) (s t : Int) (w : World) (h : Mk 51 w g b c xs) (hok : okM xs.length s t) :
    Calls Try.prog 11 #[.pointer (some ⟨g, 0, none⟩), .int .i64 s, .int .i64 t] w fun e w' => SetO 51 g b c xs s t e w w' := by
  obtain ⟨k, rfl⟩ : ∃ k : Nat, s = k := ⟨s.toNat, by obtain ⟨h1, _⟩ := hok; omega⟩
  obtain ⟨n, hl⟩ : ∃ n, xs.length = n := ⟨_, rfl⟩
  obtain ⟨z, hz⟩ : ∃ z, nth xs k = z := ⟨_, rfl⟩
  obtain ⟨M, hM⟩ : ∃ M, max (nth xs k) t = M := ⟨_, rfl⟩
  obtain ⟨L, hL⟩ : ∃ L, least xs = L := ⟨_, rfl⟩
  obtain ⟨ys, hy⟩ : ∃ ys, setI xs k t = ys := ⟨_, rfl⟩
  have HK := Lib.hid (And.intro h hok)
  have hs := h.small
  have c0 := h.cell0
  have HL := Lib.hid (mleast_any g b c xs w h)
  rw [hL] at HL
  unfold okM at hok
  rw [hl] at hok hs c0
  have hkn : k < n := by omega
  have hkn2 : (k : Int) < (n : Int) := by omega
  have hcz : w.cell? ⟨b, 0 + k, none⟩ = some (.int .i64 z) := by rw [Nat.zero_add, ← hz]; exact h.cellAt k (by omega)
  have hst : Has w g 51 #[.slice (some ⟨b, 0, none⟩) n c] := by rw [← hl]; exact h.st
  have hM2 : (if t > z then t else z) = M := by rw [← hM, hz]; split <;> omega
  have hw1 : 0 ≤ (k : Int) ∧ (k : Int) ≤ (n : Int) - 1 := by omega
  have hw2 : -4398046511103 ≤ t ∧ t ≤ 4398046511104 := by omega
  have HE := Lib.hid (And.intro hM (And.intro hy (And.intro hL (And.intro hst hcz))))
  clear h hok hM hy hL hz hl hst hcz
  go_enter Try.func11, Try.ntmps11
  go_wp2_with fail
  refine (gwithin_yes _ _ _ _ hw1).mono ?_; rintro e w' ⟨rfl, rfl⟩
  go_wp2_with fail
  refine (gwithin_yes _ _ _ _ hw2).mono ?_; rintro e w' ⟨rfl, rfl⟩
  go_wp2_with fail
  refine (HL.out).mono ?_; rintro e w' ⟨rfl, rfl⟩
  go_upto_region 6 with fail
  refine ms6_any (g := g) (b := b) (c := c) (n := n) (k := k) (t := t) (z := z) (M := M) ⟨rfl, rfl, rfl, rfl, HE.out.2.2.2.1, HE.out.2.2.2.2, hkn, hM2⟩ (by kernel_rfl) ?_
  intro w2 hb2
  simp only [putAll, Act.put, List.setIfInBounds_toArray, List.set_cons_succ, List.set_cons_zero, List.drop_succ_cons, List.drop_zero]
  have hcz2 : w2.cell? ⟨b, k, none⟩ = some (.int .i64 z) := by have := HE.out.2.2.2.2; rw [Nat.zero_add] at this; exact (hb2.cell (block_lt_of_cell this)).trans this
  have hfz2 : w2.frozen? ⟨b, k, none⟩ = false := (HK.out.1.below hb2).markAt k
  have HX := Lib.hid (SetO.ok HK.out.1 HK.out.2 HE.out.1 hb2)
  have HL2 := Lib.hid (mleast_any g b c _ _ HX.out.1)
  rw [HE.out.2.1] at HL2
  go_wp2_with fail
  refine (HL2.out).mono ?_; rintro e w' ⟨rfl, rfl⟩
  go_wp2_with fail
  go_ret2
  exact SetO.fin HK.out.2 HX.out (by rw [HE.out.2.1, HE.out.2.2.1])

theorem mset_any (g b c : Nat) (xs : List Int) (s t : Int) (w : World) (h : Mk 51 w g b c xs) :
    Calls Try.prog 11 #[.pointer (some ⟨g, 0, none⟩), .int .i64 s, .int .i64 t] w fun e w' => SetO 51 g b c xs s t e w w' := by
  by_cases hok : okM xs.length s t
  · exact mset_ok g b c xs s t w h hok
  · exact mset_no g b c xs s t w h hok

set_option maxRecDepth 100000 in
set_option maxHeartbeats 1000000 in
theorem rset_no (g b c : Nat) (xs : List Int) (s t : Int) (w : World) (h : Mk 43 w g b c xs) (hn : ¬ okM xs.length s t) :
    Calls Try.prog 12 #[.pointer (some ⟨g, 0, none⟩), .int .i64 s, .int .i64 t] w fun e w' => SetO 43 g b c xs s t e w w' := by
  have HE := Lib.hid (SetO.no h hn)
  have c0 := h.cell0
  have hs := h.small
  obtain ⟨n, hl⟩ : ∃ n, xs.length = n := ⟨_, rfl⟩
  unfold okM at hn
  rw [hl] at c0 hs hn
  clear h
  by_cases h1 : s < 0
  · clear hn
    go_enter Try.func12, Try.ntmps12
    go_wp2_with fail
    go_ret2
    exact HE.out
  · by_cases h2 : (n : Int) ≤ s
    · clear hn
      go_enter Try.func12, Try.ntmps12
      go_wp2_with fail
      go_ret2
      exact HE.out
    · by_cases h3 : t ≤ -4398046511104
      · clear hn
        go_enter Try.func12, Try.ntmps12
        go_wp2_with fail
        go_ret2
        exact HE.out
      · have h4 : 4398046511104 < t := by omega
        clear hn
        go_enter Try.func12, Try.ntmps12
        go_wp2_with fail
        go_ret2
        exact HE.out

set_option maxRecDepth 100000 in
set_option maxHeartbeats 1000000 in
theorem rset_ok (g b c : Nat) (xs : List Int) (s t : Int) (w : World) (h : Mk 43 w g b c xs) (hok : okM xs.length s t) :
    Calls Try.prog 12 #[.pointer (some ⟨g, 0, none⟩), .int .i64 s, .int .i64 t] w fun e w' => SetO 43 g b c xs s t e w w' := by
  obtain ⟨k, rfl⟩ : ∃ k : Nat, s = k := ⟨s.toNat, by obtain ⟨h1, _⟩ := hok; omega⟩
  obtain ⟨n, hl⟩ : ∃ n, xs.length = n := ⟨_, rfl⟩
  obtain ⟨z, hz⟩ : ∃ z, nth xs k = z := ⟨_, rfl⟩
  obtain ⟨M, hM⟩ : ∃ M, max (nth xs k) t = M := ⟨_, rfl⟩
  obtain ⟨L, hL⟩ : ∃ L, least xs = L := ⟨_, rfl⟩
  obtain ⟨ys, hy⟩ : ∃ ys, setI xs k t = ys := ⟨_, rfl⟩
  have HK := Lib.hid (And.intro h hok)
  have hs := h.small
  have c0 := h.cell0
  have HL := Lib.hid (rleast_any g b c xs w h)
  rw [hL] at HL
  unfold okM at hok
  rw [hl] at hok hs c0
  have hkn : k < n := by omega
  have hkn2 : ¬ (n : Int) ≤ (k : Int) := by omega
  have hcz : w.cell? ⟨b, 0 + k, none⟩ = some (.int .i64 z) := by rw [Nat.zero_add, ← hz]; exact h.cellAt k (by omega)
  have hst : Has w g 43 #[.slice (some ⟨b, 0, none⟩) n c] := by rw [← hl]; exact h.st
  have hM2 : (if t > z then t else z) = M := by rw [← hM, hz]; split <;> omega
  have hw1 : ¬ (k : Int) < 0 := by omega
  have hw2 : ¬ t ≤ -4398046511104 := by omega
  have hw3 : ¬ 4398046511104 < t := by omega
  have HE := Lib.hid (And.intro hM (And.intro hy (And.intro hL (And.intro hst hcz))))
  clear h hok hM hy hL hz hl hst hcz
  go_enter Try.func12, Try.ntmps12
  go_wp2_with fail
  refine (HL.out).mono ?_; rintro e w' ⟨rfl, rfl⟩
  go_upto_region 4 with fail
  refine rs4_any (g := g) (b := b) (c := c) (n := n) (k := k) (t := t) (z := z) (M := M) ⟨rfl, rfl, rfl, rfl, HE.out.2.2.2.1, HE.out.2.2.2.2, hkn, hM2⟩ (by kernel_rfl) ?_
  intro w2 hb2
  simp only [putAll, Act.put, List.setIfInBounds_toArray, List.set_cons_succ, List.set_cons_zero, List.drop_succ_cons, List.drop_zero]
  have hcz2 : w2.cell? ⟨b, k, none⟩ = some (.int .i64 z) := by have := HE.out.2.2.2.2; rw [Nat.zero_add] at this; exact (hb2.cell (block_lt_of_cell this)).trans this
  have hfz2 : w2.frozen? ⟨b, k, none⟩ = false := (HK.out.1.below hb2).markAt k
  have hkn3 : (k : Int) < (n : Int) := by omega
  have HX := Lib.hid (SetO.ok HK.out.1 HK.out.2 HE.out.1 hb2)
  have HL2 := Lib.hid (rleast_any g b c _ _ HX.out.1)
  rw [HE.out.2.1] at HL2
  go_wp2_with fail
  refine (HL2.out).mono ?_; rintro e w' ⟨rfl, rfl⟩
  go_wp2_with fail
  go_ret2
  exact SetO.fin HK.out.2 HX.out (by rw [HE.out.2.1, HE.out.2.2.1])

theorem rset_any (g b c : Nat) (xs : List Int) (s t : Int) (w : World) (h : Mk 43 w g b c xs) :
    Calls Try.prog 12 #[.pointer (some ⟨g, 0, none⟩), .int .i64 s, .int .i64 t] w fun e w' => SetO 43 g b c xs s t e w w' := by
  by_cases hok : okM xs.length s t
  · exact rset_ok g b c xs s t w h hok
  · exact rset_no g b c xs s t w h hok

end Go.Proofs.Ytgibmcljlaoahaa
