/-
  Walk: the slice laws' first look.
-/
import Derived.Test.YtkbocjmdbfddhaaSlCut
import Derived.Test.YtkbocjmdbfddhaaWLit
namespace Go.Proofs.Ytkbocjmdbfddhaa
open Go.RowKit

/-- slice.Unit, slice.At, slice.Cut where their answers are known. -/
theorem unit_lit (kd ag sz sl rk u : Int) (B : Option Addr) (m d : Nat) (bs : List Int) (w : World) (hb : Ints w B m bs) (hm : m ≤ maxLen) (h1 : mayQ kd ag sz sl bs rk = true) (h2 : kd ≠ 2) (hu : unitQ kd sz sl = u) :
    Calls Try.prog 22 #[.agg #[.int .i64 kd, .int .i64 ag, .int .i64 sz, .int .i64 sl, .slice B m d, .int .i64 rk]] w (OutUnit u w) := by
  subst hu
  exact unit_ok kd ag sz sl rk B m d bs w hb hm h1 h2
theorem at_lit (kd ag sz sl rk t s e : Int) (B : Option Addr) (m d : Nat) (bs : List Int) (w : World) (hb : Ints w B m bs) (hm : m ≤ maxLen) (h1 : mayQ kd ag sz sl bs rk = true) (h2 : kd ≠ 2) (h3 : wi t (-1099511627776) 1099511627776 = true)
    (hs : t / unitQ kd sz sl * unitQ kd sz sl = s) (he : s + unitQ kd sz sl = e) :
    Calls Try.prog 24 #[.agg #[.int .i64 kd, .int .i64 ag, .int .i64 sz, .int .i64 sl, .slice B m d, .int .i64 rk], .int .i64 t] w
      fun x w' => x = .returned (.tuple #[.agg #[.int .i64 s, .int .i64 e], .int .i64 0]) ∧ Below w.heap.size w w' := by
  subst hs he
  exact at_ok kd ag sz sl rk t B m d bs w hb hm h1 h2 h3
theorem cut_lit (kd ag sz sl rk s e : Int) (B : Option Addr) (m d n : Nat) (bs : List Int) (ss : List (Int × Int)) (w : World) (hb : Ints w B m bs) (hm : m ≤ maxLen)
    (h1 : mayQ kd ag sz sl bs rk = true) (h2 : kd ≠ 2) (h3 : cutB kd sz sl s e = true) (hn : (n : Int) = sz / unitQ kd sz sl) (hss : cutL s (unitQ kd sz sl) n = ss) :
    Calls Try.prog 26 #[.agg #[.int .i64 kd, .int .i64 ag, .int .i64 sz, .int .i64 sl, .slice B m d, .int .i64 rk], .agg #[.int .i64 s, .int .i64 e]] w
      fun x w' => ∃ A c, x = .returned (.tuple #[.slice A n c, .int .i64 0]) ∧ OwnS w' w.heap.size (.slice A n c) ss ∧ Below w.heap.size w w' := by
  have := cut_ok kd ag sz sl rk s e B m d n bs w hb hm h1 h2 h3 hn
  rw [hss] at this
  have hl : ss.length = n := by rw [← hss, cutL_len]
  subst hl
  exact this

structure AwC (w : World) (g h : Nat) (wr : World) : Prop where
  box : Has wr g 24 #[.int .i64 1, .int .i64 0, .int .i64 6, .int .i64 4, .slice none 0 0, .int .i64 0]
  sp : Has wr h 38 #[.int .i64 (-2), .int .i64 0]
  keep : Below w.heap.size w wr
theorem AwC.below {w : World} {g h : Nat} {wr wy : World} (H : AwC w g h wr) (hb : Below wr.heap.size wr wy) : AwC w g h wy := ⟨H.box.below hb H.box.lt, H.sp.below hb H.sp.lt, H.keep.trans (hb.mono H.keep.size)⟩

set_option maxRecDepth 100000 in
set_option maxHeartbeats 2000000 in
theorem sawake_any (w : World) :
    Calls Try.prog 28 #[] w fun e w' => e = .returned (.bool true) ∧ Below w.heap.size w w' := by
  have C1 : Hid (∀ W : World, Calls Try.prog 22 #[.agg #[.int .i64 1, .int .i64 0, .int .i64 6, .int .i64 4, .slice none 0 0, .int .i64 0]] W (OutUnit 2 W)) :=
    fun W => unit_lit 1 0 6 4 0 2 none 0 0 [] W Ints.nil (Nat.zero_le _) (by decide) (by decide) (by decide)
  have C2 : Hid (∀ W : World, Calls Try.prog 24 #[.agg #[.int .i64 1, .int .i64 0, .int .i64 6, .int .i64 4, .slice none 0 0, .int .i64 0], .int .i64 (-1)] W
      fun x w' => x = .returned (.tuple #[.agg #[.int .i64 (-2), .int .i64 0], .int .i64 0]) ∧ Below W.heap.size W w') :=
    fun W => at_lit 1 0 6 4 0 (-1) (-2) 0 none 0 0 [] W Ints.nil (Nat.zero_le _) (by decide) (by decide) (by decide) (by decide) (by decide)
  have C3 : Hid (∀ W : World, Calls Try.prog 26 #[.agg #[.int .i64 1, .int .i64 0, .int .i64 6, .int .i64 4, .slice none 0 0, .int .i64 0], .agg #[.int .i64 (-4), .int .i64 2]] W
      fun x w' => ∃ A c, x = .returned (.tuple #[.slice A 3 c, .int .i64 0]) ∧ OwnS w' W.heap.size (.slice A 3 c) [(-4, -2), (-2, 0), (0, 2)] ∧ Below W.heap.size W w') :=
    fun W => cut_lit 1 0 6 4 0 (-4) 2 none 0 0 3 [] _ W Ints.nil (Nat.zero_le _) (by decide) (by decide) (by decide) (by decide) (by decide)
  have C4 : Hid (∀ W : World, Calls Try.prog 26 #[.agg #[.int .i64 1, .int .i64 0, .int .i64 6, .int .i64 4, .slice none 0 0, .int .i64 0], .agg #[.int .i64 (-3), .int .i64 3]] W (NoCut W)) :=
    fun W => cut_bad 1 0 6 4 0 (-3) 3 none 0 0 [] W Ints.nil (Nat.zero_le _) (by decide)
  have C5 : Hid (∀ W : World, Calls Try.prog 22 #[.agg #[.int .i64 2, .int .i64 0, .int .i64 2, .int .i64 0, .slice none 0 0, .int .i64 0]] W (NoUnit W)) :=
    fun W => unit_bad 2 0 2 0 0 none 0 0 [] W Ints.nil (Nat.zero_le _) (by decide)
  have HM : Hid (Has (w.alloc (.cells #[.int .i64 1, .int .i64 0, .int .i64 6, .int .i64 4, .slice none 0 0, .int .i64 0] 24)) w.heap.size 24 #[.int .i64 1, .int .i64 0, .int .i64 6, .int .i64 4, .slice none 0 0, .int .i64 0]) := Has.made _ _ _
  have HB0 : Hid (∀ o, Below w.heap.size w (w.alloc o)) := fun o => (Below.refl _ _).alloc (Nat.le_refl _) o
  go_enter Try.func28, Try.ntmps28
  go_wp2_with fail
  refine (C1.out _).mono ?_
  rintro e w1 ⟨rfl, b1⟩
  have HA1 := Lib.hid (HM.out.below b1 (by simp))
  have HB1 : Hid (Below w.heap.size w w1) := (HB0.out _).trans (b1.mono (by simp))
  have hc1 : ∀ i, w1.cell? ⟨w.heap.size, i, none⟩ = _ := fun i => HA1.out.cell i
  clear b1 HM HB0 C1
  go_wp2_with fail
  refine (C2.out _).mono ?_
  rintro e w2 ⟨rfl, b2⟩
  have HA2 := Lib.hid (HA1.out.below b2 HA1.out.lt)
  have HB2 := Lib.hid (HB1.out.trans (b2.mono HB1.out.size))
  have hc2 : ∀ o i, (w2.alloc o).cell? ⟨w.heap.size, i, none⟩ = _ := fun o i => (HA2.out.alloc o).cell i
  clear b2 hc1 HA1 HB1 C2
  have HS2 : Hid (AwC w w.heap.size w2.heap.size (w2.alloc (.cells #[.int .i64 (-2), .int .i64 0] 38))) := ⟨HA2.out.alloc _, Has.made _ _ _, HB2.out.alloc HB2.out.size _⟩
  go_wp2_with fail
  refine (C3.out _).mono ?_
  rintro e w3 ⟨A3, c3, rfl, o3, b3⟩
  have HS3 := Lib.hid (HS2.out.below b3)
  have HO3 : Hid (OwnS w3 0 (.slice A3 3 c3) [(-4, -2), (-2, 0), (0, 2)]) := o3.mono (Nat.zero_le _)
  have hc3 : ∀ i, w3.cell? ⟨w.heap.size, i, none⟩ = _ := fun i => HS3.out.box.cell i
  generalize w2.heap.size = gs at *
  clear o3 b3 hc2 HA2 HB2 HS2 C3
  go_wp2_with fail
  refine (C4.out _).mono ?_
  rintro e w4 ⟨rfl, b4⟩
  have HS4 := Lib.hid (HS3.out.below b4)
  have HO4 := Lib.hid (HO3.out.below b4)
  clear b4 hc3 HS3 HO3 C4
  go_wp2_with fail
  refine (C5.out _).mono ?_
  rintro e w5 ⟨rfl, b5⟩
  have HS5 := Lib.hid (HS4.out.below b5)
  have HO5 := Lib.hid (HO4.out.below b5)
  have hd5 : ∀ i, w5.cell? ⟨gs, i, none⟩ = _ := fun i => HS5.out.sp.cell i
  clear b5 HS4 HO4 C5
  go_wp2_with (go_at_call 17; refine (wnum_any _ _).mono ?_; rintro e w' ⟨rfl, rfl⟩)
  refine (sameSpans_true A3 _ 3 c3 3 [(-4, -2), (-2, 0), (0, 2)] _ (own_keep HO5.out ((Below.refl _ _).alloc (Nat.le_refl _) _)) (spans_lit [(-4, -2), (-2, 0), (0, 2)] (Has.made _ _ _) rfl rfl) (by decide)).mono ?_
  rintro e w6 ⟨rfl, k6, hw6⟩
  have hB6 : Below w5.heap.size w5 w6 := by rw [hw6]; exact below_drewN ((Below.refl _ _).alloc (Nat.le_refl _) _) k6
  have HS6 := Lib.hid (HS5.out.below hB6)
  clear hB6 HS5 HO5 hw6 hd5
  go_wp2_with (go_at_call 17; refine (wnum_any _ _).mono ?_; rintro e w' ⟨rfl, rfl⟩)
  go_ret
  exact ⟨rfl, HS6.out.keep⟩

end Go.Proofs.Ytkbocjmdbfddhaa
