/-
  Walks: the laws' item and one; the queue as a law sees it.
  Walk: the laws' awake.
-/
import Derived.Test.YtjmaeiilkbfnaaaQ12
import Derived.Test.YtjmaeiilkbfnaaaROne
namespace Go.Proofs.Ytjmaeiilkbfnaaa
open Go.RowKit

set_option maxRecDepth 100000 in
set_option maxHeartbeats 400000 in
theorem item17_any (s t q v : Int) (w : World) :
    Calls Try.prog 33 #[.int .i64 s, .int .i64 t, .int .i64 q, .int .i64 v] w fun e w' => e = .returned (.agg #[.int .i64 s, .int .i64 t, .int .i64 q, .int .i64 v]) ∧ Below w.heap.size w w' := by
  go_enter Try.func33, Try.ntmps33
  go_wp2
  exact bodyPost_ret (v := .agg #[.int .i64 s, .int .i64 t, .int .i64 q, .int .i64 v]) (by simp [results, Try.results33, go_sem]) rfl ⟨rfl, (Below.refl _ _).alloc (Nat.le_refl _) _⟩
set_option maxRecDepth 100000 in
set_option maxHeartbeats 1000000 in
theorem one17_any (x : It) (B : Option Addr) (m d : Nat) (bs : List Int) (w : World) (hbs : Ints w B m bs) (h1 : itemB x = true) (h2 : boundsB bs = true) :
    Calls Try.prog 32 #[.agg #[.int .i64 x.s, .int .i64 x.t, .int .i64 x.q, .int .i64 x.v], .slice B m d] w (OutA (oneAc x bs) w) := by
  have HJ : Hid (∀ w', Below w.heap.size w w' → Calls Try.prog 10 #[.agg #[.int .i64 x.s, .int .i64 x.t, .int .i64 x.q, .int .i64 x.v], .slice B m d] w' (GoodAcc (oneAc x bs) w')) := fun w' hb => rone_ok x B m d bs w' (hbs.below hb) h1 h2
  have HAL : Hid (∀ o o', Below w.heap.size w ((w.alloc o).alloc o')) := fun o o' => below_alloc ((Below.refl _ _).alloc (Nat.le_refl _) _) (Nat.le_refl _) _
  clear hbs h1 h2
  generalize oneAc x bs = V at HJ ⊢
  go_enter Try.func32, Try.ntmps32
  go_wp2_with fail
  refine (HJ.out _ (HAL.out _ _)).mono ?_
  rintro e w2 ⟨H, hH, rfl, hh, hb⟩
  have H4 := Lib.hid (show Has w2 (w.heap.size + 1) 29 (accC zeroAc none 0 0) from Has.below (heap_alloc2_new w _ _) hb (by simp))
  have HH := Lib.hid (show Has w2 H 3 (ints V.h) from hh)
  have HLT := Lib.hid (show w.heap.size + 2 ≤ H by simpa using hH)
  have HB := Lib.hid ((HAL.out _ _).trans (hb.mono (by simp; omega)))
  clear hb hh hH HAL HJ
  go_wp2_with (first | (refine store_made rfl _ _ rfl (ac := V) (A := some ⟨H, 0, none⟩) (k := V.h.length) (c := V.h.length) rfl rfl rfl ?_) | (refine load_has rfl _ rfl w2.heap.size rfl (Has.made _ _ _) ?_) | (refine store_has rfl _ _ rfl (w.heap.size + 1) rfl rfl (H4.out.alloc _) rfl ?_))
  refine bodyPost_ret (ret_row1 rfl _ _ _ 29 (accC V (some ⟨H, 0, none⟩) V.h.length V.h.length) _ rfl ((H4.out.alloc _).row _) Try.underlying29 rfl (by exact Try.sizeAcc)) rfl ?_
  have hlt := HLT.out
  exact ⟨H, by omega, rfl, (HH.out.alloc _).rowFar (by omega) _, below_row (below_alloc HB.out (Nat.le_refl _) _) (by omega) _⟩

/-- The program's queue as a law sees it: made since w0; nothing older was turned. -/
structure LQ (w0 : World) (O : Nat → Prop) (g : Nat) (bs : List Int) (xs : List Ac) (w : World) : Prop where
  q : PQ O g bs xs w
  lo : ∀ k, O k → w0.heap.size ≤ k
  hi : ∀ k, O k → k < w.heap.size
  keep : Below w0.heap.size w0 w
/-- A variable that is not the queue's. -/
structure Box (O : Nat → Prop) (y : Nat) (cs : Array Value) (w : World) : Prop where
  has : Has w y 29 cs
  off : ¬ O y
def PopdO (O : Nat → Prop) (h : Nat) (w w' : World) : Nat → Prop := fun k => GrowO O w w' k ∧ k ≠ h
section
variable {w0 w w' : World} {O : Nat → Prop} {g y : Nat} {bs : List Int} {xs ys : List Ac} {a : Ac} {cs : Array Value}
theorem LQ.size (h : LQ w0 O g bs xs w) : w0.heap.size ≤ w.heap.size := h.keep.size
theorem LQ.below (h : LQ w0 O g bs xs w) (hb : Below w.heap.size w w') : LQ w0 O g bs xs w' := ⟨h.q.below hb, h.lo, fun k hk => Nat.lt_of_lt_of_le (h.hi k hk) hb.size, h.keep.trans (hb.mono h.keep.size)⟩
theorem LQ.fresh (h : LQ w0 O g bs xs w) (cs : Array Value) : Box O w.heap.size cs (w.alloc (.cells cs 29)) := ⟨Has.made _ _ _, fun e => by have := h.hi _ e; omega⟩
theorem Box.below (h : Box O y cs w) (hb : Below w.heap.size w w') : Box O y cs w' := ⟨h.has.below hb h.has.lt, h.off⟩
theorem Box.push (h : Box O y cs w) (hb : ButO O w w') : Box (GrowO O w w') y cs w' := ⟨h.has.butO hb h.off, fun e => by
  rcases e with e | e
  · exact h.off e
  · have := h.has.lt; omega⟩
theorem Box.pop (h : Box O y cs w) (hb : ButO O w w') (k : Nat) : Box (PopdO O k w w') y cs w' := ⟨h.has.butO hb h.off, fun e => (h.push hb).off e.1⟩
theorem LQ.grown (h : LQ w0 O g bs xs w) (hb : ButO O w w') (hq : PQ (GrowO O w w') g bs ys w') : LQ w0 (GrowO O w w') g bs ys w' := by
  have hs := hb.size
  have hs0 := h.size
  refine ⟨hq, fun k hk => ?_, fun k hk => ?_, hb.below h.keep hs0 h.lo⟩
  · rcases hk with hk | hk
    · exact h.lo k hk
    · omega
  · rcases hk with hk | hk
    · have := h.hi k hk; omega
    · exact hk.2
theorem LQ.push {A : Option Addr} {k c : Nat} (h : LQ w0 O g bs xs w) (hn : xs.length ≤ 65535) (ha : Ints w A k a.h) (hk : k ≤ c) (hc : c ≤ maxLen) (hJ2 : RowJ bs (xs ++ [a])) :
    Calls Try.prog 27 #[.pointer (some ⟨g, 0, none⟩), .agg (accC a A k c)] w fun e w' => e = .returned (.int .i64 0) ∧ LQ w0 (GrowO O w w') g bs (xs ++ [a]) w' ∧ ButO O w w' :=
  (h.q.push hn ha hk hc hJ2).mono fun _ _ h2 => ⟨h2.1, h.grown h2.2.1 h2.2.2, h2.2.1⟩
theorem LQ.popd (h : LQ w0 O g bs xs w) {k : Nat} (hb : ButO O w w') (hg : GrowO O w w' k) (hq : PQ (fun j => GrowO O w w' j ∧ j ≠ k) g bs ys w') : LQ w0 (PopdO O k w w') g bs ys w' ∧ w0.heap.size ≤ k ∧ k < w'.heap.size := by
  have hs := hb.size
  have hs0 := h.size
  have key : ∀ j, GrowO O w w' j → w0.heap.size ≤ j ∧ j < w'.heap.size := fun j hj => by
    rcases hj with hj | hj
    · have := h.lo j hj; have := h.hi j hj; omega
    · omega
  exact ⟨⟨hq, fun j hj => (key j hj.1).1, fun j hj => (key j hj.1).2, hb.below h.keep hs0 h.lo⟩, key k hg⟩
/-- What a pop leaves, to a law. -/
def LPop (w0 : World) (O : Nat → Prop) (g : Nat) (bs : List Int) (a : Ac) (ys : List Ac) (w : World) (e : Ending) (w' : World) : Prop :=
  ∃ h c, e = .returned (.tuple #[accV a (some ⟨h, 0, none⟩) a.h.length c, .int .i64 0]) ∧ OwnI w' 0 (.slice (some ⟨h, 0, none⟩) a.h.length c) a.h ∧ ButO O w w' ∧ LQ w0 (PopdO O h w w') g bs ys w' ∧ w0.heap.size ≤ h ∧ h < w'.heap.size ∧ GrowO O w w' h
theorem LQ.pop (h : LQ w0 O g bs (a :: ys) w) (hJ : RowJ bs (a :: ys)) (hn : (a :: ys).length ≤ 65535) :
    Calls Try.prog 24 #[.pointer (some ⟨g, 0, none⟩)] w (LPop w0 O g bs a ys w) :=
  (h.q.pop hJ hn).mono fun _ _ h2 => by
    obtain ⟨j, c, k1, k2, k3, k4, k5⟩ := h2
    have k6 := h.popd k4 k3 k5
    exact ⟨j, c, k1, k2, k4, k6.1, k6.2.1, k6.2.2, k3⟩
theorem lq_new (hk : Below w0.heap.size w0 w) (hq : PQ (fun k => w.heap.size ≤ k ∧ k < w'.heap.size) g bs [] w') (hb : Below w.heap.size w w') : LQ w0 (fun k => w.heap.size ≤ k ∧ k < w'.heap.size) g bs [] w' := by
  have := hk.size
  exact ⟨hq, fun k hk2 => by omega, fun k hk2 => hk2.2, hk.trans (hb.mono hk.size)⟩
end

end Go.Proofs.Ytjmaeiilkbfnaaa

namespace Go.Proofs.Ytjmaeiilkbfnaaa
open Go.RowKit

theorem aw_1 : RowJ [] [oneAc ⟨0, 1, 1, 5⟩ []] := by decide
theorem aw_2 : RowJ [] [oneAc ⟨0, 1, 1, 5⟩ [], oneAc ⟨0, 2, 2, 7⟩ []] := by decide
theorem aw_3 : ¬ RowJ [] [oneAc ⟨0, 2, 2, 7⟩ [], oneAc ⟨1, 2, 2, 7⟩ []] := by decide
theorem aw_4 : (joinAc [] [oneAc ⟨0, 1, 1, 5⟩ [], oneAc ⟨0, 2, 2, 7⟩ []]).n = 2 ∧ (joinAc [] [oneAc ⟨0, 1, 1, 5⟩ [], oneAc ⟨0, 2, 2, 7⟩ []]).s = 12 := by decide
theorem aw_5 : RowJ [] [oneAc ⟨0, 2, 2, 7⟩ []] := by decide

set_option maxRecDepth 100000 in
set_option maxHeartbeats 4000000 in
theorem aw17_any (w : World) : Calls Try.prog 23 #[] w fun e w' => e = .returned (.bool true) ∧ Below w.heap.size w w' := by
  have H1 := Lib.hid aw_1
  have H2 := Lib.hid aw_2
  have H3 := Lib.hid aw_3
  have H4 := Lib.hid aw_4
  have H5 := Lib.hid aw_5
  have HO1 := Lib.hid (fun w' => one17_any ⟨0, 1, 1, 5⟩ none 0 0 [] w' Ints.nil rfl rfl)
  have HO2 := Lib.hid (fun w' => one17_any ⟨0, 2, 2, 7⟩ none 0 0 [] w' Ints.nil rfl rfl)
  have HO3 := Lib.hid (fun w' => one17_any ⟨1, 2, 2, 7⟩ none 0 0 [] w' Ints.nil rfl rfl)
  have HS := Lib.hid (show (oneAc ⟨0, 1, 1, 5⟩ []).s = 5 ∧ (oneAc ⟨0, 2, 2, 7⟩ []).s = 7 ∧ (oneAc ⟨0, 1, 1, 5⟩ []).h.length = 1 ∧ (oneAc ⟨0, 2, 2, 7⟩ []).h.length = 1 ∧ (oneAc ⟨1, 2, 2, 7⟩ []).h.length = 1 from by decide)
  generalize oneAc ⟨0, 1, 1, 5⟩ [] = a1 at H1 H2 H4 HO1 HS
  generalize oneAc ⟨0, 2, 2, 7⟩ [] = a2 at H2 H3 H4 H5 HO2 HS
  generalize oneAc ⟨1, 2, 2, 7⟩ [] = a3 at H3 HO3 HS
  go_enter Try.func23, Try.ntmps23
  go_wp2_with fail
  refine (qnew_ok none 0 0 [] w Ints.nil (fun _ => rfl) rfl).mono ?_
  intro e w1 hnew
  obtain ⟨g, rfl, hq, hb⟩ := pq_new hnew
  have L1 := Lib.hid (lq_new (Below.refl _ w) hq hb)
  clear hnew hq hb
  generalize (fun k => w.heap.size ≤ k ∧ k < w1.heap.size) = O1 at L1
  go_wp2_with fail
  refine (qnew_no _ 2 2 [2, 1] _ (ints_of_has (Has.made _ _ _) rfl) (by unfold maxLen; omega) rfl).mono ?_
  rintro e w2 ⟨rfl, hb⟩
  have L2 := Lib.hid ((L1.out.below ((Below.refl _ _).alloc (Nat.le_refl _) _)).below hb)
  clear hb L1
  go_wp2_with (go_at_call 14; refine (num_any _ _).mono ?_; rintro e w' ⟨rfl, rfl⟩)
  refine (item17_any _ _ _ _ _).mono ?_
  rintro e w3 ⟨rfl, hb⟩
  have L3 := Lib.hid (L2.out.below hb)
  clear hb L2
  go_wp2_with fail
  refine (HO1.out _).mono ?_
  rintro e w4 ⟨Ha, _, rfl, hh, hb⟩
  have L4 := Lib.hid (L3.out.below hb)
  have HH := Lib.hid (ints_of_has hh rfl)
  clear hh hb L3
  go_wp2_with fail
  refine (L4.out.push (a := a1) (by simp) HH.out (Nat.le_refl _) (by have := HS.out; unfold maxLen; omega) H1.out).mono ?_
  rintro e w5 ⟨rfl, l, _⟩
  have L5 := Lib.hid l
  clear l L4 HH
  generalize GrowO _ _ _ = O5 at L5
  go_wp2_with fail
  refine (item17_any _ _ _ _ _).mono ?_
  rintro e w6 ⟨rfl, hb⟩
  have L6 := Lib.hid (L5.out.below hb)
  clear hb L5
  go_wp2_with fail
  refine (HO2.out _).mono ?_
  rintro e w7 ⟨Hb, _, rfl, hh, hb⟩
  have L7 := Lib.hid (L6.out.below hb)
  have HH := Lib.hid (ints_of_has hh rfl)
  clear hh hb L6
  go_wp2_with fail
  refine (L7.out.push (a := a2) (by simp) HH.out (Nat.le_refl _) (by have := HS.out; unfold maxLen; omega) H2.out).mono ?_
  rintro e w8 ⟨rfl, l, _⟩
  have L8 := Lib.hid l
  clear l L7 HH
  generalize GrowO _ _ _ = O8 at L8
  go_wp2_with fail
  refine (L8.out.q.total H2.out (by simp)).mono ?_
  rintro e w9 ⟨Ht, _, rfl, _, hb⟩
  have L9 := Lib.hid (L8.out.below hb)
  clear hb L8
  have LA := Lib.hid (L9.out.below ((Below.refl _ _).alloc (Nat.le_refl _) (.cells (accC (joinAc [] [a1, a2]) (some ⟨Ht, 0, none⟩) (joinAc [] [a1, a2]).h.length (joinAc [] [a1, a2]).h.length) 29)))
  have B1 := Lib.hid (L9.out.fresh (accC (joinAc [] [a1, a2]) (some ⟨Ht, 0, none⟩) (joinAc [] [a1, a2]).h.length (joinAc [] [a1, a2]).h.length))
  clear L9
  simp only [List.nil_append, List.singleton_append] at LA B1 ⊢
  go_wp2_with (refine store_made rfl _ _ rfl rfl rfl rfl ?_)
  refine (LA.out.pop (a := a1) (ys := [a2]) H2.out (by simp)).mono ?_
  rintro e w10 ⟨hc, cc, rfl, _, hb, l, _, _⟩
  have LB := Lib.hid l
  have B1b := Lib.hid (B1.out.pop hb hc)
  clear l hb LA B1
  generalize PopdO _ _ _ _ = O10 at LB B1b
  have LC := Lib.hid (LB.out.below ((Below.refl _ _).alloc (Nat.le_refl _) (.cells (accC a1 (some ⟨hc, 0, none⟩) a1.h.length cc) 29)))
  have B1c := Lib.hid (B1b.out.below ((Below.refl _ _).alloc (Nat.le_refl _) (.cells (accC a1 (some ⟨hc, 0, none⟩) a1.h.length cc) 29)))
  have B2 := Lib.hid (LB.out.fresh (accC a1 (some ⟨hc, 0, none⟩) a1.h.length cc))
  clear LB B1b
  go_wp2_with (refine store_made rfl _ _ rfl rfl rfl rfl ?_)
  refine (item17_any _ _ _ _ _).mono ?_
  rintro e w11 ⟨rfl, hb⟩
  have LD := Lib.hid (LC.out.below hb)
  have B1d := Lib.hid (B1c.out.below hb)
  have B2d := Lib.hid (B2.out.below hb)
  clear hb LC B1c B2
  go_wp2_with fail
  refine (HO3.out _).mono ?_
  rintro e w12 ⟨Hd, _, rfl, hh, hb⟩
  have LE := Lib.hid (LD.out.below hb)
  have B1e := Lib.hid (B1d.out.below hb)
  have B2e := Lib.hid (B2d.out.below hb)
  have HH := Lib.hid (ints_of_has hh rfl)
  clear hh hb LD B1d B2d
  go_wp2_with fail
  refine (LE.out.q.push_no (a := a3) H5.out (by simp) HH.out (Nat.le_refl _) (by have := HS.out; unfold maxLen; omega) H3.out).mono ?_
  rintro e w13 ⟨rfl, hb⟩
  have LF := Lib.hid (LE.out.below hb)
  have B1f := Lib.hid (B1e.out.below hb)
  have B2f := Lib.hid (B2e.out.below hb)
  clear hb LE B1e B2e HH
  go_wp2_with fail
  refine (LF.out.pop (a := a2) (ys := []) H5.out (by simp)).mono ?_
  rintro e w14 ⟨hd, cd, rfl, _, hb, l, _, _⟩
  have LG := Lib.hid l
  have B1g := Lib.hid (B1f.out.pop hb hd)
  have B2g := Lib.hid (B2f.out.pop hb hd)
  clear l hb LF B1f B2f
  generalize PopdO _ _ _ _ = O14 at LG B1g B2g
  have hx := (Below.refl w14.heap.size w14).alloc (Nat.le_refl _) (.cells (accC a2 (some ⟨hd, 0, none⟩) a2.h.length cd) 29)
  have LH := Lib.hid (LG.out.below hx)
  have B1h := Lib.hid (B1g.out.below hx)
  have B2h := Lib.hid (B2g.out.below hx)
  have B3 := Lib.hid (LG.out.fresh (accC a2 (some ⟨hd, 0, none⟩) a2.h.length cd))
  clear hx LG B1g B2g
  go_wp2_with (refine store_made rfl _ _ rfl rfl rfl rfl ?_)
  refine LH.out.q.popNone.mono ?_
  rintro e w15 ⟨rfl, hb⟩
  have hx := hb.trans (((Below.refl w15.heap.size w15).alloc (Nat.le_refl _) (.cells (accC zeroAc none 0 0) 29)).mono hb.size)
  have LI := Lib.hid (LH.out.below hx)
  have q1 := B1h.out.below hx
  have q2 := B2h.out.below hx
  have q3 := B3.out.below hx
  have c1 : (w15.alloc (.cells (accC zeroAc none 0 0) 29)).cell? ⟨w9.heap.size, 0, none⟩ = some (.int .i64 2) := by rw [q1.has.cell, accC_0, H4.out.1]
  have c2 : (w15.alloc (.cells (accC zeroAc none 0 0) 29)).cell? ⟨w9.heap.size, 1, none⟩ = some (.int .i64 12) := by rw [q1.has.cell, accC_1, H4.out.2]
  have c3 : (w15.alloc (.cells (accC zeroAc none 0 0) 29)).cell? ⟨w10.heap.size, 1, none⟩ = some (.int .i64 5) := by rw [q2.has.cell, accC_1, HS.out.1]
  have c4 : (w15.alloc (.cells (accC zeroAc none 0 0) 29)).cell? ⟨w14.heap.size, 1, none⟩ = some (.int .i64 7) := by rw [q3.has.cell, accC_1, HS.out.2.1]
  clear hx hb q1 q2 q3 LH B1h B2h B3
  go_upto_region 11 with (refine store_made rfl _ _ rfl (ac := zeroAc) (A := none) (k := 0) (c := 0) rfl rfl rfl ?_)
  generalize w15.alloc _ = w16 at LI c1 c2 c3 c4 ⊢
  go_wp2_with (go_at_call 14; refine (num_any _ _).mono ?_; rintro e w' ⟨rfl, rfl⟩)
  refine (LI.out.q.len (by simp)).mono ?_
  rintro e w17 ⟨rfl, k, rfl⟩
  have HF := Lib.hid (below_drewN LI.out.keep k)
  clear LI c1 c2 c3 c4
  go_wp2_with fail
  go_ret
  exact ⟨rfl, HF.out⟩

end Go.Proofs.Ytjmaeiilkbfnaaa
