/-
  Walk: the reference's two: two aggregates together.
-/
import Derived.Test.YtjgjbhbpndjnnaaG10
import Derived.Test.YtjgjbhbpndjnnaaG11
import Derived.Test.YtjgjbhbpndjnnaaTwoHead
import Derived.Deep.DeepCutAuto
import Derived.Deep.LoopGhost
namespace Go.Proofs.Ytjgjbhbpndjnnaa
open Go.RowKit

/-- What stands throughout: a and b in blocks g and g + 1, the result's cell in g + 2, what is put together in g + 3. -/
structure TwoS (w : World) (g : Nat) (a b o : Ac) (A B D : Option Addr) (k c d n m : Nat) (wx : World) : Prop where
  hasA : Has wx g 29 (accC a A k c)
  hasB : Has wx (g + 1) 29 (accC b B k d)
  res : Has wx (g + 2) 29 (accC zeroAc none 0 0)
  out : Has wx (g + 3) 29 (accC o D n m)
  keep : Below w.heap.size w wx
section
variable {w : World} {g : Nat} {a b o : Ac} {A B D : Option Addr} {k c d n m : Nat} {wx : World}
theorem TwoS.below (h : TwoS w g a b o A B D k c d n m wx) {wy : World} (hb : Below wx.heap.size wx wy) : TwoS w g a b o A B D k c d n m wy :=
  ⟨has_below h.hasA hb, has_below h.hasB hb, has_below h.res hb, has_below h.out hb, h.keep.trans (hb.mono h.keep.size)⟩
theorem TwoS.drew (h : TwoS w g a b o A B D k c d n m wx) : TwoS w g a b o A B D k c d n m wx.drew := ⟨h.hasA.drew, h.hasB.drew, h.res.drew, h.out.drew, h.keep.drew⟩
theorem TwoS.at_ (h : TwoS w g a b o A B D k c d n m wx) {wy : World} (hb : Below (g + 4) wx wy) (hg : w.heap.size ≤ g) : TwoS w g a b o A B D k c d n m wy :=
  ⟨h.hasA.below hb (by omega), h.hasB.below hb (by omega), h.res.below hb (by omega), h.out.below hb (by omega), h.keep.trans (hb.mono (by omega))⟩
theorem TwoS.put (h : TwoS w g a b o A B D k c d n m wx) (hg : w.heap.size ≤ g) (i : Nat) (v : Value) {o' : Ac} {D' : Option Addr} {n' m' : Nat} (e : (accC o D n m).setIfInBounds i v = accC o' D' n' m') : TwoS w g a b o' A B D' k c d n' m' (wx.setCell ⟨g + 3, i, none⟩ v) :=
  ⟨h.hasA.putFar (show g ≠ g + 3 by omega) _, h.hasB.putFar (show g + 1 ≠ g + 3 by omega) _, h.res.putFar (show g + 2 ≠ g + 3 by omega) _, e ▸ h.out.put i v, h.keep.setCell (show w.heap.size ≤ g + 3 by omega) v⟩
theorem TwoS.putF (h : TwoS w g a b o A B D k c d n m wx) (hg : w.heap.size ≤ g) (x : It) : TwoS w g a b { o with f := x } A B D k c d n m ((((wx.setCell ⟨g + 3, 4, none⟩ (.int .i64 x.s)).setCell ⟨g + 3, 5, none⟩ (.int .i64 x.t)).setCell ⟨g + 3, 6, none⟩ (.int .i64 x.q)).setCell ⟨g + 3, 7, none⟩ (.int .i64 x.v)) :=
  (((h.put hg 4 (.int .i64 x.s) (o' := { o with f := { o.f with s := x.s } }) rfl).put hg 5 (.int .i64 x.t) (o' := { o with f := { o.f with s := x.s, t := x.t } }) rfl).put hg 6 (.int .i64 x.q) (o' := { o with f := { o.f with s := x.s, t := x.t, q := x.q } }) rfl).put hg 7 (.int .i64 x.v) (o' := { o with f := x }) rfl
theorem TwoS.putL (h : TwoS w g a b o A B D k c d n m wx) (hg : w.heap.size ≤ g) (x : It) : TwoS w g a b { o with l := x } A B D k c d n m ((((wx.setCell ⟨g + 3, 8, none⟩ (.int .i64 x.s)).setCell ⟨g + 3, 9, none⟩ (.int .i64 x.t)).setCell ⟨g + 3, 10, none⟩ (.int .i64 x.q)).setCell ⟨g + 3, 11, none⟩ (.int .i64 x.v)) :=
  (((h.put hg 8 (.int .i64 x.s) (o' := { o with l := { o.l with s := x.s } }) rfl).put hg 9 (.int .i64 x.t) (o' := { o with l := { o.l with s := x.s, t := x.t } }) rfl).put hg 10 (.int .i64 x.q) (o' := { o with l := { o.l with s := x.s, t := x.t, q := x.q } }) rfl).put hg 11 (.int .i64 x.v) (o' := { o with l := x }) rfl
theorem TwoS.is (h : TwoS w g a b o A B D k c d n m wx) {o' : Ac} (e : o = o') : TwoS w g a b o' A B D k c d n m wx := e ▸ h
theorem TwoS.own (h : TwoS w g a b o A B D k c d n m wx) (hg : w.heap.size ≤ g) {v : Value} {xs : List Int} (hO : OwnI wx (g + 4) v xs) {D' : Option Addr} {n' m' : Nat} : TwoS w g a b o A B D' k c d n' m' (wx.setCell ⟨g + 3, 12, none⟩ (.slice D' n' m')) ∧ OwnI (wx.setCell ⟨g + 3, 12, none⟩ (.slice D' n' m')) (g + 4) v xs :=
  ⟨h.put hg 12 _ rfl, World.ownsRow.kept hO (row := some (g + 3)) ⟨rfl, rfl, rfl, by simp, fun k hk hne => heap_setCell_other wx _ k _ (fun e => hne (by rw [e]))⟩ (by
    cases e : v.ownBlock with
    | none => exact .inl rfl
    | some k => exact .inr (fun e2 => by have := World.ownsRow.lt hO k e; have h2 := hO.form; obtain ⟨A, c, rfl, _, _, h3⟩ := h2; cases A with
      | none => simp [Value.ownBlock] at e
      | some ad => simp [Value.ownBlock] at e; have := h3 ad rfl; injection e2 with e2; omega))⟩
end

/-- The first j buckets' sums. -/
def sumH (x y : List Int) (j : Nat) : List Int := (List.range j).map fun i => nth x i + nth y i
theorem sumH_len (x y : List Int) (j : Nat) : (sumH x y j).length = j := by simp [sumH]
theorem sumH_succ (x y : List Int) (j : Nat) : sumH x y j ++ [nth x j + nth y j] = sumH x y (j + 1) := by simp [sumH, List.range_succ]

set_option maxRecDepth 100000 in
set_option maxHeartbeats 4000000 in
theorem two_any (a b : Ac) (A B : Option Addr) (k c d : Nat) (w : World) (ha : Ints w A k a.h) (hb : Ints w B k b.h) (hk : k ≤ 9) (hn : ¬ a.n = 0)
    (q1 : 0 ≤ a.n ∧ a.n ≤ 8192) (q2 : 0 ≤ b.n ∧ b.n ≤ 8192) (q3 : -1125899906842624000 ≤ a.s ∧ a.s ≤ 1125899906842624000) (q4 : -1125899906842624000 ≤ b.s ∧ b.s ≤ 1125899906842624000)
    (q5 : ∀ i, i < k → 0 ≤ nth a.h i ∧ nth a.h i ≤ 8192 ∧ 0 ≤ nth b.h i ∧ nth b.h i ≤ 8192) :
    Calls Try.prog 50 #[.agg #[.int .i64 a.n, .int .i64 a.s, .int .i64 a.mn, .int .i64 a.mx, .int .i64 a.f.s, .int .i64 a.f.t, .int .i64 a.f.q, .int .i64 a.f.v, .int .i64 a.l.s, .int .i64 a.l.t, .int .i64 a.l.q, .int .i64 a.l.v, .slice A k c], .agg #[.int .i64 b.n, .int .i64 b.s, .int .i64 b.mn, .int .i64 b.mx, .int .i64 b.f.s, .int .i64 b.f.t, .int .i64 b.f.q, .int .i64 b.f.v, .int .i64 b.l.s, .int .i64 b.l.t, .int .i64 b.l.q, .int .i64 b.l.v, .slice B k d]] w (FoldAcc (addAc a b) w) := by
  have HQ := Lib.hid q5; clear q5
  have HA := Lib.hid ha; clear ha
  have HB := Lib.hid hb; clear hb
  have HN := Lib.hid hn; clear hn
  go_enter Try.func50, Try.ntmps50
  go_upto_region 1 with fail
  go_cut [5] (fun v wx => v = .pointer (some ⟨w.heap.size + 3, 0, none⟩) ∧ Hid (TwoS w w.heap.size a b ⟨a.n + b.n, a.s + b.s, min a.mn b.mn, max a.mx b.mx, a.f, b.l, []⟩ A B none k c d 0 0 wx))
  case first =>
    have T : ∀ o : Ac, Hid (TwoS w w.heap.size a b o A B none k c d 0 0 ((((w.alloc (.cells (accC a A k c) 29)).alloc (.cells (accC b B k d) 29)).alloc (.cells (accC zeroAc none 0 0) 29)).alloc (.cells (accC o none 0 0) 29))) := fun o => by
      have e1 : ∀ x, (w.alloc x).heap.size = w.heap.size + 1 := fun x => by simp
      have e2 : ∀ x y, ((w.alloc x).alloc y).heap.size = w.heap.size + 2 := fun x y => by simp
      have e3 : ∀ x y z, (((w.alloc x).alloc y).alloc z).heap.size = w.heap.size + 3 := fun x y z => by simp
      refine ⟨(((Has.made w _ _).alloc _).alloc _).alloc _, ?_, ?_, ?_, ?_⟩
      · rw [← e1 (.cells (accC a A k c) 29)]; exact ((Has.made _ _ _).alloc _).alloc _
      · rw [← e2 (.cells (accC a A k c) 29) (.cells (accC b B k d) 29)]; exact (Has.made _ _ _).alloc _
      · rw [← e3 (.cells (accC a A k c) 29) (.cells (accC b B k d) 29) (.cells (accC zeroAc none 0 0) 29)]; exact Has.made _ _ _
      · exact below_alloc (below_alloc (below_alloc (below_alloc (Below.refl _ _) (Nat.le_refl _) _) (Nat.le_refl _) _) (Nat.le_refl _) _) (Nat.le_refl _) _
    go_wp2_with fail
    all_goals go_meet
    all_goals refine ⟨rfl, ?_⟩
    all_goals first
      | (rw [show min a.mn b.mn = a.mn by omega, show max a.mx b.mx = a.mx by omega]; exact T _)
      | (rw [show min a.mn b.mn = a.mn by omega, show max a.mx b.mx = b.mx by omega]; exact T _)
      | (rw [show min a.mn b.mn = b.mn by omega, show max a.mx b.mx = a.mx by omega]; exact T _)
      | (rw [show min a.mn b.mn = b.mn by omega, show max a.mx b.mx = b.mx by omega]; exact T _)
  case rest =>
    obtain ⟨rfl, T⟩ := hcut
    have cA : ∀ i, wc.cell? ⟨w.heap.size, i, none⟩ = #[Value.int .i64 a.n, .int .i64 a.s, .int .i64 a.mn, .int .i64 a.mx, .int .i64 a.f.s, .int .i64 a.f.t, .int .i64 a.f.q, .int .i64 a.f.v, .int .i64 a.l.s, .int .i64 a.l.t, .int .i64 a.l.q, .int .i64 a.l.v, .slice A k c][i]? := fun i => T.out.hasA.cell i
    have cB : ∀ i, wc.cell? ⟨w.heap.size + 1, i, none⟩ = #[Value.int .i64 b.n, .int .i64 b.s, .int .i64 b.mn, .int .i64 b.mx, .int .i64 b.f.s, .int .i64 b.f.t, .int .i64 b.f.q, .int .i64 b.f.v, .int .i64 b.l.s, .int .i64 b.l.t, .int .i64 b.l.q, .int .i64 b.l.v, .slice B k d][i]? := fun i => T.out.hasB.cell i
    go_wp2_with fail
    refine (rbefore_any b.f a.f _).mono ?_
    rintro e w3 ⟨rfl, hb3⟩
    replace T := Lib.hid (T.out.below hb3)
    clear cA cB hb3
    have cA : ∀ i, w3.cell? ⟨w.heap.size, i, none⟩ = #[Value.int .i64 a.n, .int .i64 a.s, .int .i64 a.mn, .int .i64 a.mx, .int .i64 a.f.s, .int .i64 a.f.t, .int .i64 a.f.q, .int .i64 a.f.v, .int .i64 a.l.s, .int .i64 a.l.t, .int .i64 a.l.q, .int .i64 a.l.v, .slice A k c][i]? := fun i => T.out.hasA.cell i
    have cB : ∀ i, w3.cell? ⟨w.heap.size + 1, i, none⟩ = #[Value.int .i64 b.n, .int .i64 b.s, .int .i64 b.mn, .int .i64 b.mx, .int .i64 b.f.s, .int .i64 b.f.t, .int .i64 b.f.q, .int .i64 b.f.v, .int .i64 b.l.s, .int .i64 b.l.t, .int .i64 b.l.q, .int .i64 b.l.v, .slice B k d][i]? := fun i => T.out.hasB.cell i
    have cO : ∀ i, w3.cell? ⟨w.heap.size + 3, i, none⟩ = #[Value.int .i64 (a.n + b.n), .int .i64 (a.s + b.s), .int .i64 (min a.mn b.mn), .int .i64 (max a.mx b.mx), .int .i64 a.f.s, .int .i64 a.f.t, .int .i64 a.f.q, .int .i64 a.f.v, .int .i64 b.l.s, .int .i64 b.l.t, .int .i64 b.l.q, .int .i64 b.l.v, .slice none 0 0][i]? := fun i => T.out.out.cell i
    have mO : ∀ i, w3.frozen? ⟨w.heap.size + 3, i, none⟩ = false := fun i => T.out.out.mark i
    go_upto_if 36 with fail
    go_cut [] (fun wx => Hid (TwoS w w.heap.size a b ⟨a.n + b.n, a.s + b.s, min a.mn b.mn, max a.mx b.mx, pick (beforeB b.f a.f) b.f a.f, b.l, []⟩ A B none k c d 0 0 wx))
    case first =>
      cases hb : beforeB b.f a.f
      · have HB2 := Lib.hid hb; clear hb
        go_wp2
        go_meet
        case rel => exact T.out.is (by rw [HB2.out]; rfl)
      · have HB2 := Lib.hid hb; clear hb
        go_wp2
        go_meet
        case rel => exact (T.out.putF (Nat.le_refl _) b.f).is (by rw [HB2.out]; rfl)
    case rest =>
      clear cA cB cO mO T
      have cA : ∀ i, wc.cell? ⟨w.heap.size, i, none⟩ = #[Value.int .i64 a.n, .int .i64 a.s, .int .i64 a.mn, .int .i64 a.mx, .int .i64 a.f.s, .int .i64 a.f.t, .int .i64 a.f.q, .int .i64 a.f.v, .int .i64 a.l.s, .int .i64 a.l.t, .int .i64 a.l.q, .int .i64 a.l.v, .slice A k c][i]? := fun i => hcut.out.hasA.cell i
      have cB : ∀ i, wc.cell? ⟨w.heap.size + 1, i, none⟩ = #[Value.int .i64 b.n, .int .i64 b.s, .int .i64 b.mn, .int .i64 b.mx, .int .i64 b.f.s, .int .i64 b.f.t, .int .i64 b.f.q, .int .i64 b.f.v, .int .i64 b.l.s, .int .i64 b.l.t, .int .i64 b.l.q, .int .i64 b.l.v, .slice B k d][i]? := fun i => hcut.out.hasB.cell i
      go_wp2_with fail
      refine (rbefore_any b.l a.l _).mono ?_
      rintro e w4 ⟨rfl, hb4⟩
      have T := Lib.hid (hcut.out.below hb4)
      clear cA cB hb4 hcut
      have cA : ∀ i, w4.cell? ⟨w.heap.size, i, none⟩ = #[Value.int .i64 a.n, .int .i64 a.s, .int .i64 a.mn, .int .i64 a.mx, .int .i64 a.f.s, .int .i64 a.f.t, .int .i64 a.f.q, .int .i64 a.f.v, .int .i64 a.l.s, .int .i64 a.l.t, .int .i64 a.l.q, .int .i64 a.l.v, .slice A k c][i]? := fun i => T.out.hasA.cell i
      have cO : ∀ i, w4.cell? ⟨w.heap.size + 3, i, none⟩ = (accC ⟨a.n + b.n, a.s + b.s, min a.mn b.mn, max a.mx b.mx, pick (beforeB b.f a.f) b.f a.f, b.l, []⟩ none 0 0)[i]? := fun i => T.out.out.cell i
      have mO : ∀ i, w4.frozen? ⟨w.heap.size + 3, i, none⟩ = false := fun i => T.out.out.mark i
      go_upto_if 44 with fail
      go_cut [] (fun wx => Hid (TwoS w w.heap.size a b (addAc a b) A B none k c d 0 0 wx))
      case first =>
        have HA0 : Hid (∀ x, accC { (addAc a b) with l := x } none 0 0 = accC ⟨a.n + b.n, a.s + b.s, min a.mn b.mn, max a.mx b.mx, pick (beforeB b.f a.f) b.f a.f, x, []⟩ none 0 0) := fun x => by simp [accC, addAc, HN.out]
        have HA1 : Hid ((addAc a b).l = pick (beforeB b.l a.l) a.l b.l) := by simp [Hid, addAc, HN.out]
        cases hb : beforeB b.l a.l
        · have HB2 := Lib.hid hb; clear hb
          go_wp2
          go_meet
          case rel => exact ⟨T.out.hasA, T.out.hasB, T.out.res, (by have h := T.out.out; rw [← HA0.out] at h; have e : ({ (addAc a b) with l := b.l } : Ac) = addAc a b := by { have h1 := HA1.out; rw [HB2.out] at h1; cases hh : addAc a b; rw [hh] at h1; simp only [pick] at h1; simp [h1] }; rw [e] at h; exact h), T.out.keep⟩
        · have HB2 := Lib.hid hb; clear hb
          go_wp2
          go_meet
          case rel =>
            have T2 := T.out.putL (Nat.le_refl _) a.l
            exact ⟨T2.hasA, T2.hasB, T2.res, (by have h := T2.out; rw [← HA0.out] at h; have e : ({ (addAc a b) with l := a.l } : Ac) = addAc a b := by { have h1 := HA1.out; rw [HB2.out] at h1; cases hh : addAc a b; rw [hh] at h1; simp only [pick] at h1; simp [h1] }; rw [e] at h; exact h), T2.keep⟩
      case rest =>
        clear cA cO mO T
        have HI : Hid (TwoS w w.heap.size a b (addAc a b) A B none k c d 0 0 wc ∧ OwnI wc (w.heap.size + 4) (.slice none 0 0) (sumH a.h b.h 0)) := ⟨hcut.out, OwnI.nil _ _⟩
        clear hcut
        go_wp2_with fail
        go_loopw [6] (fun i wr => ∃ (j : Nat) (D : Option Addr) (e : Nat), j ≤ k ∧ i = .int .i64 j ∧ Hid (TwoS w w.heap.size a b (addAc a b) A B D k c d j e wr ∧ OwnI wr (w.heap.size + 4) (.slice D j e) (sumH a.h b.h j))) (fun i _ => k - (intOf i).toNat)
        case atStart => exact ⟨0, none, 0, Nat.zero_le _, rfl, HI⟩
        case round =>
          clear HI
          obtain ⟨j, D, e, hj, rfl, HT⟩ := hrel
          have c12 : wr.cell? ⟨w.heap.size, 12, none⟩ = some (.slice A k c) := HT.out.1.hasA.cell 12
          by_cases hlt : j < k
          · have c13 : wr.cell? ⟨w.heap.size + 1, 12, none⟩ = some (.slice B k d) := HT.out.1.hasB.cell 12
            have c14 : wr.cell? ⟨w.heap.size + 3, 12, none⟩ = some (.slice D j e) := HT.out.1.out.cell 12
            obtain ⟨b1, o1, rfl, hc1⟩ := HA.out.at_ (k := 0) (by omega)
            obtain ⟨b2, o2, rfl, hc2⟩ := HB.out.at_ (k := 0) (by omega)
            have l1 := block_lt_of_cell (hc1 j hlt)
            have l2 := block_lt_of_cell (hc2 j hlt)
            have ca : wr.cell? ⟨b1, o1 + j, none⟩ = some (.int .i64 (nth a.h j)) := (HT.out.1.keep.cell (p := ⟨b1, o1 + j, none⟩) l1).trans (hc1 j hlt)
            have cb : wr.cell? ⟨b2, o2 + j, none⟩ = some (.int .i64 (nth b.h j)) := (HT.out.1.keep.cell (p := ⟨b2, o2 + j, none⟩) l2).trans (hc2 j hlt)
            obtain ⟨r1, r2, r3, r4⟩ := HQ.out j hlt
            have hlt2 : (j : Int) < (k : Int) := by omega
            have hwS : IntKind.i64.wrap (nth a.h j + nth b.h j) = nth a.h j + nth b.h j := IntWalk.i64_in _ (by omega)
            clear hc1 hc2
            go_upto_region 9 with fail
            refine two9_any (N := w.heap.size) (b1 := b1) (o1 := o1) (b2 := b2) (o2 := o2) (k := k) (c := c) (d := d) (j := j) (e := e) (D := D) (x := nth a.h j) (y := nth b.h j) ⟨rfl, rfl, rfl, rfl, rfl, c14, c12, c13, ca, cb, hlt, by omega⟩ (by kernel_rfl) ?_
            intro g w2 hB9 hG
            have hO2 : Hid (TwoS w w.heap.size a b (addAc a b) (some ⟨b1, o1, none⟩) (some ⟨b2, o2, none⟩) D k c d j e w2 ∧ OwnI w2 (w.heap.size + 4) (.slice D j e) (sumH a.h b.h j)) := ⟨HT.out.1.below hB9, HT.out.2.below hB9⟩
            clear c12 c13 c14 ca cb HT hB9
            have cg : w2.cell? ⟨g, 0, none⟩ = some (.int .i64 (nth a.h j + nth b.h j)) := hG.cell 0
            simp only [putAll, Act.put, List.setIfInBounds_toArray, List.set_cons_succ, List.set_cons_zero, List.drop_succ_cons, List.drop_zero]
            have hs2 : w.heap.size + 3 < w2.heap.size := hO2.out.1.out.lt
            go_wp2_with (refine app_int rfl _ _ rfl rfl hO2.out.2 rfl cg (by rw [sumH_len]; omega) (by omega) ?_; intro A2 c2 wn hwn hbn; have T4 := hO2.out.1.at_ hbn (Nat.le_refl _); have c15 : wn.cell? ⟨w.heap.size + 3, 12, none⟩ = some (.slice D j e) := T4.out.cell 12; have m15 : wn.frozen? ⟨w.heap.size + 3, 12, none⟩ = false := T4.out.mark 12)
            go_roundw
            case rel =>
              rw [sumH_succ, sumH_len] at hwn
              exact ⟨j + 1, A2, c2, by omega, by go_num, by rw [sumH_len]; exact T4.own (Nat.le_refl _) hwn⟩
            case measure => simp [intOf]; omega
          · have hjk : j = k := by omega
            subst hjk
            have T := HT.out.1
            have hI := HT.out.2
            have HLEN : Hid (a.h.length = j) := HA.out.1
            have HSH : Hid (sumH a.h b.h j = (addAc a b).h) := by simp [Hid, addAc, sumH, HLEN.out]
            have HTR := Lib.hid T; clear T
            go_wp2_with (first | (refine load_has rfl _ rfl (w.heap.size + 3) rfl HTR.out.out ?_) | (refine store_has rfl _ _ rfl (w.heap.size + 2) rfl rfl HTR.out.res rfl ?_))
            refine bodyPost_ret (ret_row1 rfl _ _ _ 29 (accC (addAc a b) D j e) _ rfl (HTR.out.res.row _) Try.underlying29 rfl (by exact Try.sizeAcc)) rfl ?_
            rw [HSH.out] at hI
            have hl : (addAc a b).h.length = j := by rw [← HSH.out, sumH_len]
            obtain ⟨A3, c3, e3, h3, h4, h5⟩ := hI.form
            injection e3 with e4 e5 e6
            subst e4 e6
            exact ⟨D, j, e, rfl, ⟨(hI.rowL (show w.heap.size + 2 < w.heap.size + 4 by omega) _).ints, by omega, h4, (fun ad h => by have := h5 ad h; omega), (hI.rowL (show w.heap.size + 2 < w.heap.size + 4 by omega) _).typ⟩, below_row HTR.out.keep (by omega) _⟩

end Go.Proofs.Ytjgjbhbpndjnnaa
