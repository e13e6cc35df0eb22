/-
  Walk: RegistryRow: ids stand in the row in which they first came.
-/
import Derived.Test.YtamgllaoeociaaaRgAwake
import Derived.Test.YtamgllaoeociaaaRgDuo
import Derived.Test.YtamgllaoeociaaaRgRwR
import Derived.Test.YtamgllaoeociaaaFMask
namespace Go.Proofs.Ytamgllaoeociaaa
open Go.RowKit

theorem place12 (a : Int) : ∃ k : Nat, k < 12 ∧ wrap64 ((IntKind.u64.wrap a).tmod 12) = k := by
  have h1 : 0 ≤ IntKind.u64.wrap a := by rw [IntKind.wrap_u64]; omega
  have h2 := Int.tmod_nonneg 12 h1
  have h3 := Int.tmod_lt_of_pos (IntKind.u64.wrap a) (show (0 : Int) < 12 by omega)
  obtain ⟨k, hk⟩ := Int.eq_ofNat_of_zero_le h2
  rw [hk] at h3 ⊢
  exact ⟨k, by omega, by unfold wrap64; omega⟩

/-- The registry, and the law's own row of the same ids. -/
structure RowS (w0 : World) (g : Nat) (m : Int) (gs : List Nat) (ids : List Int) (A : Option Addr) (l c : Nat) (w : World) : Prop where
  rg : Reg w gs g m ids
  keep : KeepS w0 gs w
  own : OwnI w w0.heap.size (.slice A l c) ids
  len : ids.length = l
  far : ∀ k, (Value.slice A l c).ownBlock = some k → k ∉ gs
  room : l ≤ 12
section
variable {w0 w w' : World} {g : Nat} {m : Int} {gs : List Nat} {ids ids' : List Int} {A : Option Addr} {l c : Nat}
theorem RowS.below (h : RowS w0 g m gs ids A l c w) (hb : Below w.heap.size w w') : RowS w0 g m gs ids A l c w' := ⟨h.rg.below hb, h.keep.below hb, h.own.below hb, h.len, h.far, h.room⟩
/-- Behind the registry's Add: its row may be one longer than the law's own. -/
structure RowT (w0 : World) (g : Nat) (m : Int) (gs : List Nat) (ids ids' : List Int) (A : Option Addr) (l c : Nat) (w : World) : Prop where
  rg : Reg w gs g m ids'
  keep : KeepS w0 gs w
  own : OwnI w w0.heap.size (.slice A l c) ids
  len : ids.length = l
  far : ∀ k, (Value.slice A l c).ownBlock = some k → k ∉ gs
  room : l ≤ 12
theorem RowT.same (h : RowT w0 g m gs ids ids A l c w) : RowS w0 g m gs ids A l c w := ⟨h.rg, h.keep, h.own, h.len, h.far, h.room⟩
theorem RowS.add (h : RowS w0 g m gs ids A l c w) {e : Ending} {r : Int} (ha : AddO (fun w gs ids => Reg w gs g m ids) gs r ids' e w w') : e = .returned (.int .i64 r) ∧ ∃ gs', RowT w0 g m gs' ids ids' A l c w' := by
  obtain ⟨rfl, gs', h1, h2, h3⟩ := ha
  refine ⟨rfl, gs', h1, h.keep.but h2 h3, h.own.butS h2 h.far, h.len, fun k hk hg => ?_, h.room⟩
  rcases h3 k hg with h4 | h4
  · exact h.far k hk h4
  · have := World.ownsRow.lt h.own k hk
    omega
/-- The law's own row grows. -/
theorem RowT.app {x : Int} (h : RowT w0 g m gs ids (ids ++ [x]) A l c w) (o : Obj) {A2 : Option Addr} {n2 c2 : Nat} (hn : n2 = l + 1) (hr : n2 ≤ 12) (ho : OwnI w' w0.heap.size (.slice A2 n2 c2) (ids ++ [x])) (hg : (w.alloc o).grownBy w' (Value.slice A l c).ownBlock)
    (hl : ∀ ad, A2 = some ad → (Value.slice A l c).ownBlock = some ad.block ∨ (w.alloc o).heap.size ≤ ad.block) : RowS w0 g m gs (ids ++ [x]) A2 n2 c2 w' := by
  have hb : Below w.heap.size w (w.alloc o) := (Below.refl _ _).alloc (Nat.le_refl _) _
  have hr1 := h.rg.below hb
  have ho1 := h.own.below hb
  have hsz : w.heap.size ≤ (w.alloc o).heap.size := hb.size
  refine ⟨hr1.same (fun k hk => hg.block k (hr1.lt k hk) (fun e => h.far k e.symm hk)) hg.size, ⟨?_, h.keep.far⟩, ho, by rw [hn, ← h.len]; simp, fun k hk hk2 => ?_, hr⟩
  · have h1 := (h.keep.below hb).keep
    refine h1.trans ⟨hg.os, hg.tape, hg.output, hg.size, fun k hk => hg.block k (Nat.lt_of_lt_of_le hk h1.size) (fun e => ?_)⟩
    rcases ho1.2 with ⟨e1, _⟩ | ⟨g', cap, cur, e1, hg', _⟩
    · rw [e1] at e; simp [Value.ownBlock] at e
    · rw [e1] at e
      have : k = g' := by simpa [Value.ownBlock] using e
      omega
  · cases A2 with
    | none => simp [Value.ownBlock] at hk
    | some ad =>
      have e : ad.block = k := by simpa [Value.ownBlock] using hk
      rcases hl ad rfl with h4 | h4
      · rw [e] at h4; exact h.far k h4 hk2
      · have := hr1.lt k hk2
        omega
end
theorem take_next {ids : List Int} {x : Int} {j : Nat} (h : j < ids.length) : decide (x ∈ ids.take (j + 1)) = (decide (x ∈ ids.take j) || (nth ids j == x)) := by
  have e : ids.take (j + 1) = ids.take j ++ [nth ids j] := by
    rw [List.take_add_one]
    simp [nth, h]
  rw [e]
  by_cases h1 : x ∈ ids.take j
  · simp [h1]
  · by_cases h2 : nth ids j = x
    · simp [h2]
    · have h3 : ¬ x = nth ids j := fun e => h2 e.symm
      simp [h1, h2, h3]

set_option maxRecDepth 100000 in
set_option maxHeartbeats 1000000 in
theorem registryrow_any (mo : Int) (A : Option Addr) (n c : Nat) (xs : List Int) (w : World) (_ : (Lit.int .i64 mo).wf = true) (hx : Ints w A n xs) (hn : n ≤ maxLen) (_ : ∀ x ∈ xs, (Lit.int .i64 x).wf = true) :
    Calls Try.prog 4 #[.int .i64 mo, .slice A n c] w fun e w' => e = .returned (.bool true) ∧ Below w.heap.size w w' := by
  obtain ⟨q, hq, hqa⟩ := place12 mo
  have hmw : wrap64 (1 + (q : Int)) = 1 + (q : Int) := IntWalk.wrap64_in _ (by omega)
  have HX := Lib.hid hx
  have hn63 : n ≤ 9223372036854775807 := by unfold maxLen at hn; omega
  have HA := Lib.hid (gawake_any w)
  clear hx hn
  go_enter Try.func4, Try.ntmps4
  go_wp2_with fail
  refine (HA.out).mono ?_; rintro e w1 ⟨rfl, b1⟩
  have H1 := Lib.hid b1
  clear b1 HA
  go_wp2_with fail
  generalize hm : 1 + (q : Int) = m
  have hm1 : 1 ≤ m ∧ m ≤ 12 := by omega
  clear hm hmw hqa
  refine (gnew_ok m _ (by omega)).mono ?_; rintro e w2 ⟨g, gs, rfl, h1, h2, h3⟩
  have HS : Hid (∃ gs ids, RowS w g m gs ids none 0 0 w2) := Lib.hid ⟨gs, [], h1, ⟨H1.out.trans (h3.mono H1.out.size), fun k hk => Nat.le_trans H1.out.size (h2 k hk)⟩, OwnI.nil _ _, rfl, fun k hk => by simp [Value.ownBlock] at hk, by omega⟩
  clear h1 h2 h3 H1
  go_wp2_with (go_at_call 8; refine (gnum_any _ _).mono ?_; rintro e w' ⟨rfl, rfl⟩)
  go_loopw [8, 9] (fun v i wr => ∃ (j : Nat) (A8 : Option Addr) (l c8 : Nat), j ≤ n ∧ v = .slice A8 l c8 ∧ i = .int .i64 j ∧ Hid (∃ gs ids, RowS w g m gs ids A8 l c8 wr)) (fun _ i _ => n - (intOf i).toNat)
  case atStart => exact ⟨0, none, 0, 0, Nat.zero_le _, rfl, rfl, HS⟩
  case round =>
    clear HS
    obtain ⟨j, A8, l, c8, hj, rfl, rfl, HS⟩ := hrel
    obtain ⟨gs, ids, hS⟩ := HS.out
    have HS1 := Lib.hid hS
    clear HS hS
    by_cases hlt : j < n
    · have hlt2 : (j : Int) < (n : Int) := by omega
      by_cases h60 : j < 60
      · have hlt3 : (j : Int) < 60 := by omega
        obtain ⟨b, f, rfl, hc⟩ := HX.out.at_ (k := 0) (by omega)
        have hcz := hc j hlt
        obtain ⟨z, hzz⟩ : ∃ z, nth xs j = z := ⟨_, rfl⟩
        rw [hzz] at hcz
        clear hc hzz
        obtain ⟨x, hxm, hx0, hx1⟩ : ∃ x : Int, bits .and .i64 z 31 = x ∧ 0 ≤ x ∧ x ≤ 31 := ⟨_, mask_of z 5 31 (by decide) (by decide), by omega, by omega⟩
        have hcz2 : wr.cell? ⟨b, f + j, none⟩ = some (.int .i64 z) := (HS1.out.keep.keep.cell (block_lt_of_cell hcz)).trans hcz
        have hl12 := HS1.out.room
        clear hcz
        go_wp2_with fail
        clear hxm hcz2
        go_loopw [11, 12] (fun t i w3 => ∃ (p : Nat) (bt : Bool), p ≤ l ∧ t = .bool bt ∧ i = .int .i64 p ∧ w3 = wr ∧ Hid (decide (x ∈ ids.take p) = bt)) (fun _ i _ => l - (intOf i).toNat)
        case atStart => exact ⟨0, false, Nat.zero_le _, rfl, rfl, rfl, Lib.hid (by simp)⟩
        case round =>
          obtain ⟨p, bt, hp, rfl, rfl, rfl, HT⟩ := hrel
          by_cases hpl : p < l
          · have hpl2 : (p : Int) < (l : Int) := by omega
            have HT2 := Lib.hid (take_next (x := x) (by rw [HS1.out.len]; exact hpl : p < ids.length))
            cases bt with
            | true =>
              have HE : Hid (decide (x ∈ ids.take (p + 1)) = true) := Lib.hid (by rw [HT2.out, HT.out]; rfl)
              clear HT HT2
              go_wp2_with fail
              go_roundw
              case rel => exact ⟨p + 1, true, by omega, rfl, by go_num, trivial, HE⟩
              case measure => simp [intOf]; omega
            | false =>
              obtain ⟨b2, f2, rfl, hc⟩ := HS1.out.own.ints.at_ (k := 0) (by omega)
              have hcp := hc p hpl
              obtain ⟨v, hv⟩ : ∃ v, nth ids p = v := ⟨_, rfl⟩
              rw [hv] at hcp
              clear hc
              by_cases he : v = x
              · have HE : Hid (decide (x ∈ ids.take (p + 1)) = true) := Lib.hid (by rw [HT2.out, HT.out, hv, he]; simp)
                subst he
                clear HT HT2 hv
                go_wp2_with fail
                go_roundw
                case rel => exact ⟨p + 1, true, by omega, by simp, by go_num, trivial, HE⟩
                case measure => simp [intOf]; omega
              · have hvx : (v == x) = false := beq_eq_false_iff_ne.2 he
                have HE : Hid (decide (x ∈ ids.take (p + 1)) = false) := Lib.hid (by rw [HT2.out, HT.out, hv, hvx]; rfl)
                clear HT HT2 hv he
                go_wp2_with fail
                go_roundw
                case rel => exact ⟨p + 1, false, by omega, by simp, by go_num, trivial, HE⟩
                case measure => simp [intOf]; omega
          · have hpl2 : ¬ (p : Int) < (l : Int) := by omega
            have HB : Hid (decide (x ∈ ids) = bt) := Lib.hid (by have := HT.out; rwa [List.take_of_length_le (by rw [HS1.out.len]; omega)] at this)
            clear HT
            have hxw : (Lit.int .i64 x).wf = true := WalkArith.wf_i64 (by omega)
            go_wp2_with fail
            refine (gadd_any gs g m ids x wr HS1.out.rg (by omega)).mono ?_; intro e w3 ha
            cases bt with
            | true =>
              have hmem : x ∈ ids := of_decide_eq_true HB.out
              have hreg := reg_there (m := m) ⟨hx0, (by omega : x ≤ 1048575)⟩ hmem
              rw [hreg.1, hreg.2] at ha
              obtain ⟨rfl, gs3, h3⟩ := HS1.out.add ha
              have H3 := Lib.hid h3.same
              clear ha h3 hreg hmem
              go_upto_region 27 with (go_at_call 8; refine (gnum_any _ _).mono ?_; rintro e w' ⟨rfl, rfl⟩)
              refine ra27_any (gs := gs3) (g := g) (ln := l) (m := m) (x := x) (ids := ids) (A := A8) (c := c8) ⟨rfl, rfl, rfl, rfl, rfl, H3.out.rg, H3.out.len, by rw [H3.out.len]; omega, by unfold maxLen; omega, hxw, HB.out, H3.out.own.ints⟩ (by kernel_rfl) ?_
              intro A88 c88 w4 b4 _
              have H4 := Lib.hid (H3.out.below b4)
              clear b4 H3
              simp only [putAll, Act.put, List.setIfInBounds_toArray, List.set_cons_succ, List.set_cons_zero]
              go_wp2_with fail
              go_roundw
              case rel => exact ⟨j + 1, A8, l, c8, by omega, rfl, by go_num, Lib.hid ⟨_, _, H4.out⟩⟩
              case measure => simp [intOf]; omega
            | false =>
              have hmem : x ∉ ids := of_decide_eq_false HB.out
              by_cases hfull : m ≤ (l : Int)
              · have hreg := reg_full (m := m) ⟨hx0, (by omega : x ≤ 1048575)⟩ hmem (by rw [HS1.out.len]; exact hfull)
                rw [hreg.1, hreg.2] at ha
                obtain ⟨rfl, gs3, h3⟩ := HS1.out.add ha
                have H3 := Lib.hid h3.same
                clear ha h3 hreg
                obtain ⟨b2, f2, rfl, hc2⟩ := H3.out.own.ints.at_ (k := 0) (by omega)
                obtain ⟨l', hl'⟩ : ∃ l', l' + 1 = l := ⟨l - 1, by omega⟩
                have hcv := hc2 l' (by omega)
                obtain ⟨v, hv⟩ : ∃ v, nth ids l' = v := ⟨_, rfl⟩
                rw [hv] at hcv
                have hvx : (v == x) = false := beq_eq_false_iff_ne.2 (fun e => hmem (by
                  rw [← e, ← hv]
                  have h1 : l' < ids.length := by rw [H3.out.len]; omega
                  simp [nth, h1]))
                have HQ : Hid (l' + 1 = l ∧ wrap64 ((l : Int) - 1) = (l' : Int) ∧ w3.cell? ⟨b2, f2 + l', none⟩ = some (.int .i64 v) ∧ (v == x) = false) := Lib.hid ⟨hl', (by rw [IntWalk.wrap64_in _ (by omega)]; omega), hcv, hvx⟩
                clear hc2 hl' hv hcv hvx hmem
                go_upto_region 27 with (go_at_call 8; refine (gnum_any _ _).mono ?_; rintro e w' ⟨rfl, rfl⟩)
                refine rb27_any (gs := gs3) (g := g) (ln := l) (m := m) (x := x) (ids := ids) (b := b2) (f := f2) (c := c8) (q := l') (v := v) (hb := false) ⟨rfl, rfl, rfl, rfl, rfl, H3.out.rg, H3.out.len, by rw [H3.out.len]; omega, by unfold maxLen; omega, hxw, HB.out, H3.out.own.ints, HQ.out.1, HQ.out.2.1, HQ.out.2.2.1, HQ.out.2.2.2⟩ (by kernel_rfl) ?_
                intro A88 c88 w4 b4 _
                have H4 := Lib.hid (H3.out.below b4)
                clear b4 H3 HQ
                simp only [putAll, Act.put, List.setIfInBounds_toArray, List.set_cons_succ, List.set_cons_zero]
                go_wp2_with fail
                go_roundw
                case rel => exact ⟨j + 1, _, l, c8, by omega, rfl, by go_num, Lib.hid ⟨_, _, H4.out⟩⟩
                case measure => simp [intOf]; omega
              · have hlm : (l : Int) < m := by omega
                have hreg := reg_new (m := m) ⟨hx0, (by omega : x ≤ 1048575)⟩ hmem (by rw [HS1.out.len]; exact hlm)
                rw [hreg.1, hreg.2] at ha
                obtain ⟨rfl, gs3, h3⟩ := HS1.out.add ha
                have H3 := Lib.hid h3
                have hb3 : Below w3.heap.size w3 (w3.alloc (.cells #[.int .i64 x] 3)) := (Below.refl _ _).alloc (Nat.le_refl _) _
                have hone : (w3.alloc (.cells #[.int .i64 x] 3)).cell? ⟨w3.heap.size, 0, none⟩ = some (.int .i64 x) := (Has.made w3 3 #[.int .i64 x]).cell 0
                have HO := Lib.hid (And.intro (h3.own.below hb3) (And.intro hone (Nat.le_trans h3.keep.size hb3.size)))
                have hl9 : l ≤ 1000000000 := by omega
                clear ha h3 hreg hfull hb3 hone
                go_upto_region 23 with (first | (go_at_call 8; refine (gnum_any _ _).mono ?_; rintro e w' ⟨rfl, rfl⟩) | (refine gapp_int (y := x) (n := l) rfl _ _ rfl rfl HO.out.1 rfl HO.out.2.1 H3.out.len hl9 HO.out.2.2 ?_; intro A2 m2 c2 w5 hm2 ho5 hg5 hl5))
                subst hm2
                have h5 := H3.out.app (A := A8) (l := l) (c := c8) (.cells #[.int .i64 x] 3) rfl (by omega) ho5 hg5 hl5
                have H5 := Lib.hid h5
                obtain ⟨b2, f2, rfl, hc2⟩ := h5.own.ints.at_ (k := 0) (by omega)
                have hcv := hc2 l (by omega)
                have hnl : nth (ids ++ [x]) l = x := by rw [← H3.out.len]; simp [nth]
                rw [hnl] at hcv
                have HQ : Hid (decide (x ∈ ids ++ [x]) = true ∧ wrap64 (((l + 1 : Nat) : Int) - 1) = (l : Int) ∧ w5.cell? ⟨b2, f2 + l, none⟩ = some (.int .i64 x)) := Lib.hid ⟨decide_eq_true (by simp), (by rw [IntWalk.wrap64_in _ (by omega)]; omega), hcv⟩
                clear hc2 hcv hnl h5 ho5 hg5 hl5 hmem HO H3
                go_upto_region 27 with (go_at_call 8; refine (gnum_any _ _).mono ?_; rintro e w' ⟨rfl, rfl⟩)
                refine rb27_any (gs := gs3) (g := g) (ln := l + 1) (m := m) (x := x) (ids := ids ++ [x]) (b := b2) (f := f2) (c := c2) (q := l) (v := x) (hb := true) ⟨rfl, rfl, rfl, rfl, rfl, H5.out.rg, H5.out.len, by rw [H5.out.len]; omega, by unfold maxLen; omega, hxw, HQ.out.1, H5.out.own.ints, rfl, HQ.out.2.1, HQ.out.2.2, by simp⟩ (by kernel_rfl) ?_
                intro A88 c88 w6 b6 _
                have H6 := Lib.hid (H5.out.below b6)
                clear b6 H5 HQ
                simp only [putAll, Act.put, List.setIfInBounds_toArray, List.set_cons_succ, List.set_cons_zero]
                go_wp2_with fail
                go_roundw
                case rel => exact ⟨j + 1, _, l + 1, c2, by omega, rfl, by go_num, Lib.hid ⟨_, _, H6.out⟩⟩
                case measure => simp [intOf]; omega
      · have hlt3 : ¬ (j : Int) < 60 := by omega
        have HK := Lib.hid HS1.out.keep.keep
        clear HS1
        go_wp2_with fail
        go_ret
        exact ⟨rfl, HK.out⟩
    · have hlt2 : ¬ (j : Int) < (n : Int) := by omega
      have HK := Lib.hid HS1.out.keep.keep
      clear HS1
      go_wp2_with fail
      go_ret
      exact ⟨rfl, HK.out⟩

end Go.Proofs.Ytamgllaoeociaaa
