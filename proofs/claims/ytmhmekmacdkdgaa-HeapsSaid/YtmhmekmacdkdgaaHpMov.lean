/-
  Walks: the heap's at, ahead, lesserChild, swap.
-/
import Derived.Test.YtmhmekmacdkdgaaHpCmp
import Derived.Test.YtmhmekmacdkdgaaHpSwpR
import Derived.Test.YtmhmekmacdkdgaaIt1
import Derived.Great.Walk
namespace Go.Proofs.Ytmhmekmacdkdgaa
open Go.RowKit

abbrev HT : TypeId := 54

set_option maxRecDepth 100000 in
set_option maxHeartbeats 1000000 in
theorem at_raw (g b n c p : Nat) (z : Int) (x : It) (w : World) (c1 : w.cell? ⟨g, 1, none⟩ = some (.slice (some ⟨b, 0, none⟩) n c)) (hx : w.rangeAt b (p * 4) (itemL x)) (hp : p < n) (hn : n ≤ 17592186044416) (hz : z = (p : Int) + 1) :
    Calls Try.prog 33 #[.pointer (some ⟨g, 0, none⟩), .int .i64 z] w fun e w' => e = .returned (itV x) ∧ Below w.heap.size w w' := by
  subst hz
  have hg : g < w.heap.size := block_lt_of_cell c1
  have c1' : ∀ o, (w.alloc o).cell? ⟨g, 1, none⟩ = some (.slice (some ⟨b, 0, none⟩) n c) := fun o => ((Below.refl _ w).alloc (Nat.le_refl _) o).cell hg |>.trans c1
  have HX : Hid (∀ o, (w.alloc o).rangeAt b (p * 4) (itemL x)) := fun o => rangeAt_keep hx (by simp [itemL]) fun _ hp => ((Below.refl _ w).alloc (Nat.le_refl _) o).cell hp
  have HAL : Hid (∀ o, Below w.heap.size w (w.alloc o)) := fun o => (Below.refl _ _).alloc (Nat.le_refl _) o
  clear hx c1
  go_enter Try.func33, Try.ntmps33
  go_wp2_with (refine load_item rfl _ rfl b (p * 4) (by simp [go_sem]) (HX.out _) ?_)
  exact bodyPost_ret (v := itV x) (by simp [results, Try.results33, go_sem]) rfl ⟨rfl, HAL.out _⟩

section
variable {gs : List Nat} {g c : Nat} {m : Int} {ys : List It} {A : Option Addr} {w : World}
theorem HpAt.place (h : HpAt HT w gs g m ys A c) {p : Nat} (h1 : 1 ≤ p) (h2 : p ≤ ys.length) : ∃ b, A = some ⟨b, 0, none⟩ ∧ w.rangeAt b ((p - 1) * 4) (itemL (pl ys p)) := by
  obtain ⟨b, rfl⟩ := h.ablk (by omega)
  exact ⟨b, rfl, h.own.item (by omega)⟩
theorem at_any (h : HpAt HT w gs g m ys A c) {p : Nat} (h1 : 1 ≤ p) (h2 : p ≤ ys.length) (hn : ys.length ≤ 8192) (z : Int) (hz : z = p) :
    Calls Try.prog 33 #[.pointer (some ⟨g, 0, none⟩), .int .i64 z] w fun e w' => e = .returned (itV (pl ys p)) ∧ Below w.heap.size w w' := by
  obtain ⟨b, rfl, hx⟩ := h.place h1 h2
  exact at_raw g b ys.length c (p - 1) z (pl ys p) w h.c1 hx (by omega) (by omega) (by omega)

set_option maxRecDepth 100000 in
set_option maxHeartbeats 1000000 in
theorem ahead_any (h : HpAt HT w gs g m ys A c) {p q : Nat} (h1 : 1 ≤ p) (h2 : p ≤ ys.length) (h3 : 1 ≤ q) (h4 : q ≤ ys.length) (hn : ys.length ≤ 8192) (z1 z2 : Int) (hz1 : z1 = p) (hz2 : z2 = q) :
    Calls Try.prog 35 #[.pointer (some ⟨g, 0, none⟩), .int .i64 z1, .int .i64 z2] w fun e w' => e = .returned (.bool (lt4 (pl ys p) (pl ys q))) ∧ Below w.heap.size w w' := by
  have H1 := Lib.hid (at_any h h1 h2 hn z1 hz1)
  have H2 : Hid (∀ w', Below w.heap.size w w' → Calls Try.prog 33 #[.pointer (some ⟨g, 0, none⟩), .int .i64 z2] w' fun e w2 => e = .returned (itV (pl ys q)) ∧ Below w'.heap.size w' w2) := fun w' hb => at_any (h.below hb) h3 h4 hn z2 hz2
  clear h hz1 hz2
  rw [← cmp4_lt]
  generalize pl ys p = x at H1 ⊢
  generalize pl ys q = y at H2 ⊢
  go_enter Try.func35, Try.ntmps35
  go_wp2_with fail
  refine (H1.out).mono ?_
  rintro e w1 ⟨rfl, hb⟩
  have HB := Lib.hid hb; clear hb
  go_wp2_with fail
  refine (H2.out _ HB.out).mono ?_
  rintro e w2 ⟨rfl, hb⟩
  have HB2 := Lib.hid (HB.out.trans (hb.mono HB.out.size)); clear hb
  go_wp2_with fail
  refine (compare4_any x y _).mono ?_
  rintro e w3 ⟨rfl, hb⟩
  have HB3 := Lib.hid (HB2.out.trans (hb.mono HB2.out.size)); clear hb
  go_wp2_with fail
  go_ret
  exact ⟨rfl, HB3.out⟩

set_option maxRecDepth 100000 in
set_option maxHeartbeats 1000000 in
theorem kid_any (h : HpAt HT w gs g m ys A c) {p : Nat} (h1 : 1 ≤ p) (h2 : p ≤ 8192) (hn : ys.length ≤ 8192) (z : Int) (hz : z = p) :
    Calls Try.prog 34 #[.pointer (some ⟨g, 0, none⟩), .int .i64 z] w fun e w' => e = .returned (.int .i64 (kid ys p : Nat)) ∧ Below w.heap.size w w' := by
  have c1 := h.c1
  unfold kid
  by_cases e1 : ys.length < 2 * p
  · rw [if_pos e1]
    generalize ys.length = n at c1 e1 hn
    clear h
    go_enter Try.func34, Try.ntmps34
    go_wp2_with fail
    go_ret
    exact ⟨rfl, Below.refl _ _⟩
  · rw [if_neg e1]
    by_cases e2 : 2 * p < ys.length
    · have H1 := Lib.hid (ahead_any h (p := 2 * p + 1) (q := 2 * p) (by omega) (by omega) (by omega) (by omega) hn (2 * (p : Int) + 1) (2 * (p : Int)) (by omega) (by omega))
      generalize hb : lt4 (pl ys (2 * p + 1)) (pl ys (2 * p)) = b at H1 ⊢
      have er : (if 2 * p < ys.length ∧ b = true then 2 * p + 1 else 2 * p) = if b = true then 2 * p + 1 else 2 * p := by cases b <;> simp [e2]
      rw [er]
      clear er h hb
      generalize ys.length = n at c1 e1 e2 hn
      subst hz
      cases b with
      | true =>
        go_enter Try.func34, Try.ntmps34
        go_wp2_with fail
        refine (H1.out).mono ?_
        rintro e w1 ⟨rfl, hb⟩
        have HB := Lib.hid hb; clear hb
        go_wp2_with fail
        go_ret
        exact ⟨by simp, HB.out⟩
      | false =>
        go_enter Try.func34, Try.ntmps34
        go_wp2_with fail
        refine (H1.out).mono ?_
        rintro e w1 ⟨rfl, hb⟩
        have HB := Lib.hid hb; clear hb
        go_wp2_with fail
        go_ret
        exact ⟨by simp, HB.out⟩
    · rw [if_neg (fun h => e2 h.1)]
      clear h
      generalize ys.length = n at c1 e1 e2 hn
      go_enter Try.func34, Try.ntmps34
      go_wp2_with fail
      go_ret
      exact ⟨by subst hz; simp, Below.refl _ _⟩
end

end Go.Proofs.Ytmhmekmacdkdgaa
