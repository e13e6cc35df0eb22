/-
  Walks: acc.fits, acc.May.
  Walks: acc.One.
-/
import Derived.Test.YtjgjbhbpndjnnaaG3
import Derived.Deep.DeepCutAuto
import Derived.Deep.WholeRow
namespace Go.Proofs.Ytjgjbhbpndjnnaa
open Go.RowKit

set_option maxRecDepth 100000 in
set_option maxHeartbeats 1000000 in
theorem fits_any (a : Ac) (A : Option Addr) (n c : Nat) (m : Int) (w : World) (hr : Ints w A n a.h) (hm : 0 ≤ m ∧ m ≤ 9) (hn : n ≤ maxLen) :
    Calls Try.prog 52 #[.agg #[.int .i64 a.n, .int .i64 a.s, .int .i64 a.mn, .int .i64 a.mx, .int .i64 a.f.s, .int .i64 a.f.t, .int .i64 a.f.q, .int .i64 a.f.v, .int .i64 a.l.s, .int .i64 a.l.t, .int .i64 a.l.q, .int .i64 a.l.v, .slice A n c], .int .i64 m] w
      fun e w' => e = .returned (.bool (fitB a m)) ∧ Below w.heap.size w w' := by
  have hbox : ∀ o, Below w.heap.size w (w.alloc o) := fun o => (Below.refl _ _).alloc (Nat.le_refl _) o
  have HBOX := Lib.hid hbox; clear hbox
  cases h1 : wi a.n 0 8192
  · go_enter Try.func52, Try.ntmps52
    go_wp2_with (go_at_call 70; refine (within_any _ _ _ _).mono ?_; rintro e w' ⟨rfl, rfl⟩)
    go_ret
    exact ⟨ret_bool (by simp [fitB, h1]), HBOX.out _⟩
  · obtain ⟨g1, g2⟩ := wi_true h1
    go_enter Try.func52, Try.ntmps52
    go_wp2_with fail
    refine (within_any _ _ _ _).mono ?_
    rintro e w1 ⟨rfl, rfl⟩
    go_wp2_with fail
    refine (histFits_any a A n c m _ (hr.below (HBOX.out _)) hm hn).mono ?_
    rintro e w2 ⟨rfl, hb2⟩
    have hB2 : Below w.heap.size w w2 := (HBOX.out _).trans (hb2.mono (by simp))
    have hc2 : ∀ b o, b < w.heap.size + 1 → w2.cell? ⟨b, o, none⟩ = _ := fun b o h => oldCells hb2 (Nat.le_refl _) b o (by simpa using h)
    cases h2 : histB a m
    · go_wp2
      go_ret
      exact ⟨ret_bool (by simp [fitB, h2]), hB2⟩
    · by_cases h3 : a.n = 0
      · have h3' : (a.n == 0) = true := by simp [h3]
        have H3 := Lib.hid h3; clear h3
        go_wp2_with fail
        refine (zero_any a A n c _).mono ?_
        rintro e w3 ⟨rfl, hb3⟩
        have hB3 : Below w.heap.size w w3 := hB2.trans (hb3.mono hB2.size)
        go_wp2
        go_ret
        exact ⟨ret_bool (by unfold fitB; rw [h1, h2, if_pos H3.out]; simp), hB3⟩
      · have h3' : (a.n == 0) = false := by simp [h3]
        have H3 := Lib.hid h3; clear h3
        go_wp2_with fail
        refine (endsFit_any a A n c _).mono ?_
        rintro e w3 ⟨rfl, hb3⟩
        have hB3 : Below w.heap.size w w3 := hB2.trans (hb3.mono hB2.size)
        have hc3 : ∀ b o, b < w.heap.size + 1 → w3.cell? ⟨b, o, none⟩ = w2.cell? ⟨b, o, none⟩ := fun b o h => oldCells hb3 (Nat.le_refl _) b o (by have := hb2.size; simp at this; omega)
        cases h4 : endsB a
        · go_wp2
          go_ret
          exact ⟨ret_bool (by simp [fitB, h1, h2, h4, H3.out]), hB3⟩
        · go_wp2_with fail
          refine (vals_any a A n c _ ⟨g1, g2⟩).mono ?_
          rintro e w4 ⟨rfl, hb4⟩
          have hB4 : Below w.heap.size w w4 := hB3.trans (hb4.mono hB3.size)
          go_wp2
          go_ret
          exact ⟨ret_bool (by simp [fitB, h1, h2, h4, H3.out]), hB4⟩

set_option maxRecDepth 100000 in
set_option maxHeartbeats 1000000 in
theorem may_any (a : Ac) (A : Option Addr) (n c : Nat) (B : Option Addr) (m d : Nat) (bs : List Int) (w : World) (hr : Ints w A n a.h) (hbs : Ints w B m bs) (hn : n ≤ maxLen) (hm : m ≤ maxLen) :
    Calls Try.prog 17 #[.agg #[.int .i64 a.n, .int .i64 a.s, .int .i64 a.mn, .int .i64 a.mx, .int .i64 a.f.s, .int .i64 a.f.t, .int .i64 a.f.q, .int .i64 a.f.v, .int .i64 a.l.s, .int .i64 a.l.t, .int .i64 a.l.q, .int .i64 a.l.v, .slice A n c], .slice B m d] w
      fun e w' => e = .returned (.bool (accB a bs)) ∧ Below w.heap.size w w' := by
  have hbox : ∀ o, Below w.heap.size w (w.alloc o) := fun o => (Below.refl _ _).alloc (Nat.le_refl _) o
  have HBOX := Lib.hid hbox; clear hbox
  go_enter Try.func17, Try.ntmps17
  go_wp2_with fail
  refine (bounds_any B m d bs _ (hbs.below (HBOX.out _)) hm).mono ?_
  rintro e w1 ⟨rfl, k, rfl⟩
  cases h1 : boundsB bs
  · go_wp2
    go_ret
    exact ⟨ret_bool (by simp [accB, h1]), below_drewN (HBOX.out _) _⟩
  · have h8 := (boundsB_true h1).1
    have hlen := hbs.1
    have hm8 : m ≤ 8 := by omega
    have HM := Lib.hid hlen; clear hlen h8
    go_wp2_with fail
    refine (fits_any a A n c _ _ ((hr.below (HBOX.out _)).drewN _) (by omega) hn).mono ?_
    rintro e w2 ⟨rfl, hb2⟩
    go_wp2
    go_ret
    exact ⟨ret_bool (by simp [accB, h1, HM.out]), (below_drewN (HBOX.out _) _).trans (hb2.mono (by simp))⟩

end Go.Proofs.Ytjgjbhbpndjnnaa

namespace Go.Proofs.Ytjgjbhbpndjnnaa
open Go.RowKit

/-- An aggregate's value. -/
def accC (a : Ac) (A : Option Addr) (n c : Nat) : Array Value := #[.int .i64 a.n, .int .i64 a.s, .int .i64 a.mn, .int .i64 a.mx, .int .i64 a.f.s, .int .i64 a.f.t, .int .i64 a.f.q, .int .i64 a.f.v, .int .i64 a.l.s, .int .i64 a.l.t, .int .i64 a.l.q, .int .i64 a.l.v, .slice A n c]
theorem accC_one (a : Ac) (A : Option Addr) (n c : Nat) : (accC a A n c).all (·.oneCell') = true := by simp [accC, Value.oneCell']
@[go_sem] abbrev accV (a : Ac) (A : Option Addr) (n c : Nat) : Value := .agg (accC a A n c)
def zeroAc : Ac := ⟨0, 0, 0, 0, zeroIt, zeroIt, []⟩
/-- The call hands out the aggregate a, its buckets in new memory. -/
def GoodAcc (a : Ac) (w : World) (e : Ending) (w' : World) : Prop :=
  ∃ g, w.heap.size ≤ g ∧ e = .returned (.tuple #[accV a (some ⟨g, 0, none⟩) a.h.length a.h.length, .int .i64 0]) ∧ w'.heap[g]? = some (.cells (ints a.h) 3 (0, 0)) ∧ Below w.heap.size w w'
/-- The call hands out an error and nothing. -/
def BadAcc (code : Int) (w : World) (e : Ending) (w' : World) : Prop :=
  e = .returned (.tuple #[accV zeroAc none 0 0, .int .i64 code]) ∧ Below w.heap.size w w'
def oneAc (x : It) (bs : List Int) : Ac := ⟨1, x.v, x.v, x.v, x, x, (List.replicate (bs.length + 1) 0).set (bkt bs x.v) 1⟩

theorem Try.infoInt : (Try.prog.info? 3).map (fun i => (i.zero, i.size, i.bytes)) = some (some (.int .i64 0), 1, 8) := by kernel_rfl

theorem Try.sizeAcc : (Try.prog.info? 29).map (·.size) = some 13 := by kernel_rfl

set_option maxRecDepth 100000 in
set_option maxHeartbeats 1000000 in
theorem one_bad (x : It) (B : Option Addr) (m d : Nat) (bs : List Int) (w : World) (hbs : Ints w B m bs) (hm : m ≤ maxLen) (hno : (itemB x && boundsB bs) = false) :
    Calls Try.prog 11 #[.agg #[.int .i64 x.s, .int .i64 x.t, .int .i64 x.q, .int .i64 x.v], .slice B m d] w (BadAcc 100 w) := by
  have HN := Lib.hid hno; clear hno
  go_enter Try.func11, Try.ntmps11
  go_wp2_with fail
  refine (item_any x _).mono ?_
  rintro e w1 ⟨rfl, hb1⟩
  have hB1 : Below w.heap.size w w1 := (((Below.refl _ _).alloc (Nat.le_refl _) _).alloc (by simp) _).trans (hb1.mono (by simp; omega))
  have H4 : Has w1 (w.heap.size + 1) 29 _ := Has.below (heap_alloc2_new w _ _) hb1 (by simp)
  have hc1 : ∀ b o, b < w.heap.size + 2 → w1.cell? ⟨b, o, none⟩ = _ := oldCells hb1 (by simp)
  cases h1 : itemB x
  · go_wp2_with (refine wpList_store_row rfl 29 _ _ rfl (w.heap.size + 1) (accC zeroAc none 0 0) rfl rfl 29 _ H4 Try.sizeAcc rfl (accC_one _ _ _ _) ?_)
    refine bodyPost_ret (ret_row rfl _ _ _ 29 (accC zeroAc none 0 0) _ rfl (H4.row _) Try.underlying29 rfl (by exact Try.sizeAcc)) rfl ?_
    exact ⟨rfl, below_row hB1 (by omega) _⟩
  · go_wp2_with fail
    refine (bounds_any B m d bs _ (hbs.below hB1) hm).mono ?_
    rintro e w2 ⟨rfl, k, rfl⟩
    have h2 : boundsB bs = false := by have := HN.out; rw [h1] at this; simpa using this
    rw [h2]
    have H4' := H4.drewN k
    go_wp2_with (refine wpList_store_row rfl 29 _ _ rfl (w.heap.size + 1) (accC zeroAc none 0 0) rfl rfl 29 _ H4' Try.sizeAcc rfl (accC_one _ _ _ _) ?_)
    refine bodyPost_ret (ret_row rfl _ _ _ 29 (accC zeroAc none 0 0) _ rfl (H4'.row _) Try.underlying29 rfl (by exact Try.sizeAcc)) rfl ?_
    exact ⟨rfl, below_row (below_drewN hB1 _) (by omega) _⟩

set_option maxRecDepth 100000 in
set_option maxHeartbeats 1000000 in
theorem one_ok (x : It) (B : Option Addr) (m d : Nat) (bs : List Int) (w : World) (hbs : Ints w B m bs) (hx : itemB x = true) (hb : boundsB bs = true) :
    Calls Try.prog 11 #[.agg #[.int .i64 x.s, .int .i64 x.t, .int .i64 x.q, .int .i64 x.v], .slice B m d] w (GoodAcc (oneAc x bs) w) := by
  have hlen := hbs.1
  have h8 := boundsB_true hb
  obtain ⟨h81, h82, h83⟩ := h8
  have hm8 : m ≤ 8 := by omega
  have HU := Lib.hid h83; clear h83 h82
  have HL := Lib.hid hlen; clear hlen h81
  have hkb : bkt bs x.v ≤ m := by have := bkt_le bs x.v; rw [HL.out] at this; exact this
  obtain ⟨i0, hi0, hz0, hs0, hy0⟩ := info_parts Try.infoInt
  have hmk := fun W => make_ints (P := Try.prog) 25 3 i0 Try.underlying25 hi0 hz0 hs0 hy0 m (by omega) W
  clear hi0 hz0 hs0 hy0
  go_enter Try.func11, Try.ntmps11
  go_wp2_with fail
  refine (item_any x _).mono ?_
  rintro e w1 ⟨rfl, hb1⟩
  have hB1 : Below w.heap.size w w1 := (((Below.refl _ _).alloc (Nat.le_refl _) _).alloc (by simp) _).trans (hb1.mono (by simp; omega))
  have H4 : Has w1 (w.heap.size + 1) 29 _ := Has.below (heap_alloc2_new w _ _) hb1 (by simp)
  have hc1 : ∀ b o, b < w.heap.size + 2 → w1.cell? ⟨b, o, none⟩ = _ := oldCells hb1 (by simp)
  rw [hx]
  go_wp2_with fail
  refine (bounds_any B m d bs _ (hbs.below hB1) (by unfold maxLen; omega)).mono ?_
  rintro e w2 ⟨rfl, k, hk⟩
  have hb2 : Below w1.heap.size w1 w2 := hk ▸ below_drewN (Below.refl _ _) k
  clear hk
  rw [hb]
  have hw1 : w.heap.size + 2 ≤ w1.heap.size := by have := hb1.size; simpa using this
  have H4' : Has w2 (w.heap.size + 1) 29 _ := Has.below H4 hb2 (by omega)
  have hc2 : ∀ b o, b < w.heap.size + 2 → w2.cell? ⟨b, o, none⟩ = _ := oldCells hb2 hw1
  have hB2 := hB1.trans (hb2.mono hB1.size)
  have hw2 : w.heap.size + 2 ≤ w2.heap.size := by have := hb2.size; omega
  have HBS := hbs.below hB2
  go_wp2_with (refine wpList_store_row rfl 29 _ _ rfl _ (accC ⟨1, x.v, x.v, x.v, x, x, []⟩ none 0 0) rfl rfl 29 _ (Has.made _ _ _) Try.sizeAcc rfl (accC_one _ _ _ _) ?_; rw [World.setRow_alloc_new]; unfold accC)
  have hx3 : w2.cell? ⟨w.heap.size, 3, none⟩ = some (.int .i64 x.v) := by
    rw [hc2 _ _ (by omega), hc1 _ _ (by omega)]; simp [go_sem]
  have hk3 : ∀ o1 o2, ((w2.alloc o1).alloc o2).cell? ⟨w.heap.size, 3, none⟩ = some (.int .i64 x.v) := fun o1 o2 => by
    rw [Below.cell (((Below.refl w2.heap.size w2).alloc (Nat.le_refl _) o1).alloc (by simp) o2) (show w.heap.size < w2.heap.size by omega)]; exact hx3
  have hkz : (zeros (m + 1))[bkt bs x.v]? = some (.int .i64 0) := by simp [zeros, hkb, Nat.lt_succ_iff]
  have hki : ((bkt bs x.v : Nat) : Int) < (m : Int) + 1 := by omega
  go_region_held3 (fun w' => w'.cell? ⟨w2.heap.size, 12, none⟩ = some (.slice (some ⟨w2.heap.size + 1, 0, none⟩) (m + 1) (m + 1)) ∧ w'.cell? ⟨w.heap.size, 3, none⟩ = some (.int .i64 x.v)) (simp [go_sem, World.cell?_alloc_past, hk3])
    (first
      | (go_at_call 42; refine (bucket_any B m d bs x.v _ (HBS.below (by repeat (first | exact Below.refl _ _ | refine Below.drew ?_ | refine Below.alloc ?_ (by simp <;> omega) _))) (by omega) HU.out).mono ?_; rintro e w' ⟨rfl, rfl⟩))
  have HN4 : ∀ A C, Has (((w2.alloc A).alloc C).drew) (w.heap.size + 1) 29 _ := fun A C => ((H4'.alloc A).alloc C).drew
  have HLEN : Hid ((oneAc x bs).h.length = m + 1) := by simp [Hid, oneAc, HL.out]
  have HCS : Hid ((zeros (m + 1)).setIfInBounds (bkt bs x.v) (.int .i64 1) = ints (oneAc x bs).h) := by rw [Hid, zeros_ints, ints_set]; simp [oneAc, HL.out]
  go_wp2_with (refine wpList_store_row rfl 29 _ _ rfl (w.heap.size + 1) (accC (oneAc x bs) (some ⟨w2.heap.size + 1, 0, none⟩) (m + 1) (m + 1)) rfl rfl 29 _ (HN4 _ _) Try.sizeAcc rfl (accC_one _ _ _ _) ?_)
  refine bodyPost_ret (ret_row rfl _ _ _ 29 (accC (oneAc x bs) (some ⟨w2.heap.size + 1, 0, none⟩) (m + 1) (m + 1)) _ rfl ((HN4 _ _).row _) Try.underlying29 rfl (by exact Try.sizeAcc)) rfl ?_
  refine ⟨w2.heap.size + 1, by omega, ?_, ?_, ?_⟩
  · rw [HLEN.out]; rfl
  · exact HCS.out ▸ Has.rowFar (Has.drew (heap_alloc2_new w2 _ _)) (by omega) _
  · refine below_row ?_ (by omega) _
    exact Below.drew (below_alloc (below_alloc hB2 (Nat.le_refl _) _) (Nat.le_refl _) _)

end Go.Proofs.Ytjgjbhbpndjnnaa
