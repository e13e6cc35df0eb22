/-
  Walk: the reference's One, of an item and bounds that may be.
-/
import Derived.Test.YtjgjbhbpndjnnaaG11
import Derived.Test.YtjgjbhbpndjnnaaG9
import Derived.Deep.DeepCutAuto
namespace Go.Proofs.Ytjgjbhbpndjnnaa
open Go.RowKit

set_option maxRecDepth 100000 in
set_option maxHeartbeats 2000000 in
theorem rone_ok (x : It) (B : Option Addr) (m d : Nat) (bs : List Int) (w : World) (hbs : Ints w B m bs) (hx : itemB x = true) (hb : boundsB bs = true) :
    Calls Try.prog 12 #[.agg #[.int .i64 x.s, .int .i64 x.t, .int .i64 x.q, .int .i64 x.v], .slice B m d] w (GoodAcc (oneAc x bs) w) := by
  have hlen := hbs.1
  have h8 := boundsB_true hb
  obtain ⟨h81, h82, h83⟩ := h8
  have hm8 : m ≤ 8 := by omega
  clear h82 h83
  have HL := Lib.hid hlen; clear hlen h81
  have hkb : bkt bs x.v ≤ m := by have := bkt_le bs x.v; rw [HL.out] at this; exact this
  obtain ⟨i0, hi0, hz0, hs0, hy0⟩ := info_parts Try.infoInt
  have hmk := fun W => make_ints (P := Try.prog) 25 3 i0 Try.underlying25 hi0 hz0 hs0 hy0 m (by omega) W
  clear hi0 hz0 hs0 hy0
  go_enter Try.func12, Try.ntmps12
  go_wp2_with fail
  refine (ritem_any x _).mono ?_
  rintro e w1 ⟨rfl, hb1⟩
  have hB1 : Below w.heap.size w w1 := (((Below.refl _ _).alloc (Nat.le_refl _) _).alloc (by simp) _).trans (hb1.mono (by simp; omega))
  have HX : Has w1 w.heap.size 23 _ := Has.below (heap_alloc2_old w _ _) hb1 (by simp; omega)
  have H4 : Has w1 (w.heap.size + 1) 29 _ := Has.below (heap_alloc2_new w _ _) hb1 (by simp)
  rw [hx]
  clear hb1
  go_wp2_with fail
  refine (rbounds_any B m d bs _ (hbs.below hB1) (by unfold maxLen; omega)).mono ?_
  rintro e w2 ⟨rfl, k, hk⟩
  have hb2 : Below w1.heap.size w1 w2 := hk ▸ below_drewN (Below.refl _ _) k
  clear hk
  rw [hb]
  replace H4 := has_below H4 hb2
  replace HX := has_below HX hb2
  have hB2 := hB1.trans (hb2.mono hB1.size)
  have HBS := hbs.below hB2
  have hx4 : w.heap.size + 1 < w2.heap.size := H4.lt
  clear hb2 hB1
  have hw1 : IntKind.i64.wrap ((m : Int) + 1) = (m : Int) + 1 := IntWalk.i64_in _ (by omega)
  have hmkd := hmk w2.drew
  have hmk1 := fun o => hmk (w2.alloc o)
  have cx0 : ∀ i, w2.cell? ⟨w.heap.size, i, none⟩ = #[Value.int .i64 x.s, .int .i64 x.t, .int .i64 x.q, .int .i64 x.v][i]? := fun i => HX.cell i
  have cx1 : ∀ o i, (w2.alloc o).cell? ⟨w.heap.size, i, none⟩ = #[Value.int .i64 x.s, .int .i64 x.t, .int .i64 x.q, .int .i64 x.v][i]? := fun o i => (HX.alloc o).cell i
  have cx2 : ∀ o o' i, ((w2.alloc o).alloc o').cell? ⟨w.heap.size, i, none⟩ = #[Value.int .i64 x.s, .int .i64 x.t, .int .i64 x.q, .int .i64 x.v][i]? := fun o o' i => ((HX.alloc o).alloc o').cell i
  go_upto_region 3 with fail
  go_cut [6] (fun v wx => ∃ g y, v = .pointer (some ⟨g, 0, none⟩) ∧ Hid (w2.heap.size ≤ y ∧ w2.heap.size ≤ g ∧ Has wx g 29 (accC (oneAc x bs) (some ⟨y, 0, none⟩) (m + 1) (m + 1)) ∧ Has wx y 3 (zeros (m + 1)) ∧ Below w2.heap.size w2 wx))
  case first =>
    go_region
    all_goals go_wp2_with fail
    all_goals go_meet
    · exact ⟨w2.heap.size + 1, w2.heap.size, rfl, Nat.le_refl _, Nat.le_succ _, Has.drew (heap_alloc2_new w2 _ _), Has.drew (heap_alloc2_old w2 _ _), Below.drew (below_alloc (below_alloc (Below.refl _ _) (Nat.le_refl _) _) (Nat.le_refl _) _)⟩
    · exact ⟨w2.heap.size, w2.heap.size + 1, rfl, Nat.le_succ _, Nat.le_refl _, Has.drew (heap_alloc2_old w2 _ _), Has.drew (heap_alloc2_new w2 _ _), Below.drew (below_alloc (below_alloc (Below.refl _ _) (Nat.le_refl _) _) (Nat.le_refl _) _)⟩
  case rest =>
    clear cx0 cx1 cx2 hmk hmkd hmk1
    obtain ⟨g, y, rfl, hc⟩ := hcut
    obtain ⟨hy, hg, HG, HY, hB3⟩ := hc.out
    clear hc
    have hgy : g ≠ y := fun e => has_types (e ▸ HG) HY (by decide)
    have cx3 : wc.cell? ⟨w.heap.size, 3, none⟩ = some (.int .i64 x.v) := (has_below HX hB3).cell 3
    have cg : wc.cell? ⟨g, 12, none⟩ = some (.slice (some ⟨y, 0, none⟩) (m + 1) (m + 1)) := HG.cell 12
    have cy : wc.cell? ⟨y, bkt bs x.v, none⟩ = some (.int .i64 0) := by rw [HY.cell]; simp [zeros, hkb, Nat.lt_succ_iff]
    have my : wc.frozen? ⟨y, bkt bs x.v, none⟩ = false := HY.mark _
    have hki : ((bkt bs x.v : Nat) : Int) < (m : Int) + 1 := by omega
    replace H4 := has_below H4 hB3
    replace HBS := HBS.below hB3
    have hB4 := hB2.trans (hB3.mono hB2.size)
    have HU := Lib.hid (boundsB_true hb).2.2
    go_wp2_with fail
    go_region_held3 (fun w' => w'.cell? ⟨g, 12, none⟩ = some (.slice (some ⟨y, 0, none⟩) (m + 1) (m + 1)) ∧ w'.cell? ⟨w.heap.size, 3, none⟩ = some (.int .i64 x.v)) (simp [go_sem, cg, cx3])
      (first
        | (go_at_call 45; refine (rbucket_any B m d bs x.v _ (HBS.below (by repeat (first | exact Below.refl _ _ | refine Below.drew ?_))) (by unfold maxLen; omega)).mono ?_; rintro e w' ⟨rfl, rfl⟩))
    have HLEN : Hid ((oneAc x bs).h.length = m + 1) := by simp [Hid, oneAc, HL.out]
    have HCS : Hid ((zeros (m + 1)).setIfInBounds (bkt bs x.v) (.int .i64 1) = ints (oneAc x bs).h) := by rw [Hid, zeros_ints, ints_set]; simp [oneAc, HL.out]
    clear cg cx3 cy my
    have h4y : w.heap.size + 1 ≠ y := by omega
    have HG5 : Has (wc.setCell ⟨y, bkt bs x.v, none⟩ (.int .i64 1)).drew g 29 _ := (HG.putFar hgy _).drew
    have H45 : Has (wc.setCell ⟨y, bkt bs x.v, none⟩ (.int .i64 1)).drew (w.heap.size + 1) 29 _ := (H4.putFar h4y _).drew
    have HY5 : Has (wc.setCell ⟨y, bkt bs x.v, none⟩ (.int .i64 1)).drew y 3 _ := (HY.put _ _).drew
    have hB5 : Below w.heap.size w (wc.setCell ⟨y, bkt bs x.v, none⟩ (.int .i64 1)).drew := (hB4.setCell (show w.heap.size ≤ y by omega) _).drew
    generalize (wc.setCell ⟨y, bkt bs x.v, none⟩ (.int .i64 1)).drew = w5 at HG5 H45 HY5 hB5 ⊢
    go_wp2_with (first | (refine load_has rfl _ rfl g rfl HG5 ?_) | (refine store_has rfl _ _ rfl (w.heap.size + 1) rfl rfl H45 rfl ?_))
    refine bodyPost_ret (ret_row rfl _ _ _ 29 (accC (oneAc x bs) (some ⟨y, 0, none⟩) (m + 1) (m + 1)) _ rfl (H45.row _) Try.underlying29 rfl (by exact Try.sizeAcc)) rfl ?_
    exact ⟨y, by omega, by rw [HLEN.out]; rfl, HCS.out ▸ HY5.rowFar (Ne.symm h4y) _, below_row hB5 (by omega) _⟩

end Go.Proofs.Ytjgjbhbpndjnnaa
