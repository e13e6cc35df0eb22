/-
  Walks: acc.add.
-/
import Derived.Test.YtbpaepkcchpmbaaGreatG3
import Derived.BigRegion
import Derived.Deep.LoopGhost
import Derived.StillTailTactics
namespace Go.Proofs.YtbpaepkcchpmbaaGreat
open Go.RowKit

def pick (c : Bool) (x y : It) : It := if c then x else y
/-- o and a together, a behind o; a is not empty. -/
def addAc (o a : Ac) : Ac :=
  { n := o.n + a.n, s := o.s + a.s
    mn := if o.n = 0 then a.mn else min o.mn a.mn, mx := if o.n = 0 then a.mx else max o.mx a.mx
    f := if o.n = 0 then a.f else pick (beforeB a.f o.f) a.f o.f, l := if o.n = 0 then a.l else pick (beforeB a.l o.l) o.l a.l
    h := (List.range o.h.length).map fun i => nth o.h i + nth a.h i }

/-- The buckets when the first j have been added. -/
def mixH (oh ah : List Int) (j : Nat) : List Int := (List.range oh.length).map fun i => if i < j then nth oh i + nth ah i else nth oh i
theorem nth_range_map (n : Nat) (f : Nat → Int) {i : Nat} (h : i < n) : nth ((List.range n).map f) i = f i := by
  simp [nth, List.getElem?_range h]
theorem nth_ext {xs ys : List Int} (hl : xs.length = ys.length) (h : ∀ i, i < xs.length → nth xs i = nth ys i) : xs = ys := by
  apply List.ext_getElem hl
  intro i h1 h2
  have := h i h1
  simpa [nth, h1, h2] using this
theorem mixH_zero (oh ah : List Int) : mixH oh ah 0 = oh := by
  refine nth_ext (by simp [mixH]) fun i hi => ?_
  rw [mixH, nth_range_map _ _ (by simpa [mixH] using hi)]
  simp
theorem mixH_set (oh ah : List Int) {j : Nat} (_hj : j < oh.length) : (mixH oh ah j).set j (nth oh j + nth ah j) = mixH oh ah (j + 1) := by
  refine nth_ext (by simp [mixH]) fun i hi => ?_
  have hi' : i < oh.length := by simpa [mixH] using hi
  rw [show nth (mixH oh ah (j + 1)) i = _ from nth_range_map _ _ hi']
  by_cases e : j = i
  · subst e
    simp [nth, mixH, hi']
  · have e1 : nth ((mixH oh ah j).set j (nth oh j + nth ah j)) i = nth (mixH oh ah j) i := by simp [nth, e]
    rw [e1, mixH, nth_range_map _ _ hi']
    have e2 : (i < j + 1) ↔ (i < j) := by omega
    simp [e2]
theorem mixH_all (oh ah : List Int) {j : Nat} (hj : oh.length ≤ j) : mixH oh ah j = (List.range oh.length).map fun i => nth oh i + nth ah i := by
  unfold mixH
  refine List.map_congr_left fun i hi => ?_
  rw [if_pos (by have := List.mem_range.1 hi; omega)]
theorem mixH_at (oh ah : List Int) {j : Nat} (hj : j < oh.length) : nth (mixH oh ah j) j = nth oh j := by
  rw [mixH, nth_range_map _ _ hj]; simp
theorem mixH_len (oh ah : List Int) (j : Nat) : (mixH oh ah j).length = oh.length := by simp [mixH]

/-- What stands while the cells of block g are turned: these, the buckets in block h, the copy of a in block x; what lies below B is as it was. -/
structure Turns (B : Nat) (w : World) (g h x : Nat) (cs : Array Value) (a : Ac) (hs : List Int) (A : Option Addr) (k c : Nat) (wx : World) : Prop where
  hasO : Has wx g 144 cs
  hasH : Has wx h 3 (ints hs)
  hasA : Has wx x 144 (accC a A k c)
  keep : Below B w wx

section
variable {B : Nat} {w : World} {g h x : Nat} {cs : Array Value} {a : Ac} {hs : List Int} {A : Option Addr} {k c : Nat} {wx : World}
theorem Turns.cells {o : Ac} {m n : Nat} (t : Turns B w g h x (accC o (some ⟨h, 0, none⟩) m n) a hs A k c wx) :
    (∀ i, wx.cell? ⟨g, i, none⟩ = #[Value.int .i64 o.n, .int .i64 o.s, .int .i64 o.mn, .int .i64 o.mx, .int .i64 o.f.s, .int .i64 o.f.t, .int .i64 o.f.q, .int .i64 o.f.v, .int .i64 o.l.s, .int .i64 o.l.t, .int .i64 o.l.q, .int .i64 o.l.v, .slice (some ⟨h, 0, none⟩) m n][i]?) ∧
    (∀ i, wx.cell? ⟨x, i, none⟩ = #[Value.int .i64 a.n, .int .i64 a.s, .int .i64 a.mn, .int .i64 a.mx, .int .i64 a.f.s, .int .i64 a.f.t, .int .i64 a.f.q, .int .i64 a.f.v, .int .i64 a.l.s, .int .i64 a.l.t, .int .i64 a.l.q, .int .i64 a.l.v, .slice A k c][i]?) ∧
    (∀ i, wx.frozen? ⟨g, i, none⟩ = false) := ⟨fun i => t.hasO.cell i, fun i => t.hasA.cell i, fun i => t.hasO.mark i⟩
theorem Turns.put (t : Turns B w g h x cs a hs A k c wx) (hgh : g ≠ h) (hgx : g ≠ x) (hB : B ≤ g) (i : Nat) (v : Value) : Turns B w g h x (cs.setIfInBounds i v) a hs A k c (wx.setCell ⟨g, i, none⟩ v) :=
  ⟨t.hasO.put i v, t.hasH.putFar (Ne.symm hgh) v, t.hasA.putFar (Ne.symm hgx) v, t.keep.setCell hB v⟩
theorem Turns.putH (t : Turns B w g h x cs a hs A k c wx) (hgh : g ≠ h) (hhx : h ≠ x) (hB : B ≤ h) (i : Nat) (v : Int) : Turns B w g h x cs a (hs.set i v) A k c (wx.setCell ⟨h, i, none⟩ (.int .i64 v)) :=
  ⟨t.hasO.putFar hgh _, ints_set hs i v ▸ t.hasH.put i _, t.hasA.putFar (Ne.symm hhx) _, t.keep.setCell hB _⟩
theorem Turns.drew (t : Turns B w g h x cs a hs A k c wx) : Turns B w g h x cs a hs A k c wx.drew :=
  ⟨t.hasO.drew, t.hasH.drew, t.hasA.drew, t.keep.drew⟩
theorem Turns.is (t : Turns B w g h x cs a hs A k c wx) {cs' : Array Value} (e : cs = cs') : Turns B w g h x cs' a hs A k c wx := e ▸ t
theorem Turns.below (t : Turns B w g h x cs a hs A k c wx) {wy : World} (hb : Below wx.heap.size wx wy) (hB : B ≤ wx.heap.size) : Turns B w g h x cs a hs A k c wy :=
  ⟨t.hasO.below hb t.hasO.lt, t.hasH.below hb t.hasH.lt, t.hasA.below hb t.hasA.lt, t.keep.trans (hb.mono hB)⟩
end

/-- o, with the ends of a if it is empty. -/
def startAc (o a : Ac) : Ac := { o with mn := if o.n = 0 then a.mn else o.mn, mx := if o.n = 0 then a.mx else o.mx, f := if o.n = 0 then a.f else o.f, l := if o.n = 0 then a.l else o.l }
theorem start_yes {o a : Ac} (h : o.n = 0) : startAc o a = { o with mn := a.mn, mx := a.mx, f := a.f, l := a.l } := by simp [startAc, h]
theorem start_no {o a : Ac} (h : ¬ o.n = 0) : startAc o a = o := by simp [startAc, h]

set_option maxRecDepth 100000 in
set_option maxHeartbeats 4000000 in
theorem add_any (o a : Ac) (B g y : Nat) (A : Option Addr) (k c : Nat) (w : World) (hne : g ≠ y) (H1 : Has w g 144 (accC o (some ⟨y, 0, none⟩) k k)) (H2 : Has w y 3 (ints o.h)) (hr : Ints w A k a.h) (hk : o.h.length = k)
    (hBg : B ≤ g) (hBh : B ≤ y) (hA : ∀ ad, A = some ad → ad.block < B)
    (hn : (a.n == 0) = false) (q1 : 0 ≤ o.n) (q2 : o.n ≤ 8192) (q3 : 0 ≤ a.n) (q4 : a.n ≤ 8192) (q5 : -1125899906842624000 ≤ o.s) (q6 : o.s ≤ 1125899906842624000) (q7 : -1125899906842624000 ≤ a.s) (q8 : a.s ≤ 1125899906842624000)
    (q9 : ∀ i, i < k → 0 ≤ nth o.h i ∧ nth o.h i ≤ 8192 ∧ 0 ≤ nth a.h i ∧ nth a.h i ≤ 8192) (hk8 : k ≤ 9) :
    Calls Tryz.prog 236 #[.pointer (some ⟨g, 0, none⟩), accV a A k c] w fun e w' => e = .returned (.tuple #[]) ∧ Turns B w g y w.heap.size (accC (addAc o a) (some ⟨y, 0, none⟩) k k) a (addAc o a).h A k c w' := by
  have hg := H1.lt
  have hh := H2.lt
  have hgx : g ≠ w.heap.size := by omega
  have hhx : y ≠ w.heap.size := by omega
  have T0 : Turns B w g y w.heap.size (accC o (some ⟨y, 0, none⟩) k k) a o.h A k c (w.alloc (.cells (accC a A k c) 144)) := ⟨H1.alloc _, H2.alloc _, Has.made _ _ _, (Below.refl _ _).alloc (by omega) _⟩
  obtain ⟨cg, cx, mg⟩ := T0.cells
  clear H1 H2
  have HK := Lib.hid hk; clear hk
  have HA := Lib.hid hA; clear hA
  have HR := Lib.hid hr; clear hr
  have HQ := Lib.hid q9; clear q9
  unfold accV
  go_enter Tryz.func236, Tryz.ntmps236
  go_upto_if 13 with fail
  go_cut [] (fun wx => Turns B w g y w.heap.size (accC (startAc o a) (some ⟨y, 0, none⟩) k k) a o.h A k c wx)
  case first =>
    by_cases h0 : o.n = 0
    · have h0' : (o.n == 0) = true := by simp [h0]
      have H0 := Lib.hid h0; clear h0
      have HT := Lib.hid T0; clear T0
      obtain ⟨W, hW⟩ : ∃ W, W = w.alloc (.cells (accC a A k c) 144) := ⟨_, rfl⟩
      rw [← hW] at cg cx mg HT ⊢
      clear hW
      go_wp2
      go_region
      go_wp2_with fail
      go_meet
      case rel =>
        rw [start_yes H0.out]
        exact Turns.is ((((((((((HT.out.put hne hgx hBg 2 _).put hne hgx hBg 3 _).put hne hgx hBg 4 _).put hne hgx hBg 5 _).put hne hgx hBg 6 _).put hne hgx hBg 7 _).put hne hgx hBg 8 _).put hne hgx hBg 9 _).put hne hgx hBg 10 _).put hne hgx hBg 11 _).drew (by simp [accC])
    · have h0' : (o.n == 0) = false := by simp [h0]
      have H0 := Lib.hid h0; clear h0
      go_wp2
      go_meet
      case rel =>
        rw [start_no H0.out]
        exact T0
  case rest =>
    generalize hS : startAc o a = S at hcut
    have HS0 : Hid (S.n = o.n ∧ S.s = o.s) := by subst hS; exact ⟨rfl, rfl⟩
    have HS := Lib.hid hS; clear hS
    obtain ⟨e1, e2⟩ := HS0.out
    rw [← e1] at q1 q2
    rw [← e2] at q5 q6
    clear e1 e2 T0 cg cx mg
    obtain ⟨cg, cx, mg⟩ := Turns.cells hcut
    have HT := Lib.hid hcut; clear hcut
    go_upto_region 4 with fail
    go_cut [] (fun wx => Turns B w g y w.heap.size (accC { S with n := S.n + a.n } (some ⟨y, 0, none⟩) k k) a o.h A k c wx)
    case first =>
      go_region
      go_wp2_with fail
      all_goals go_meet
      all_goals exact Turns.is (HT.out.put hne hgx hBg 0 _).drew rfl
    case rest =>
      clear cg cx mg HT
      obtain ⟨cg, cx, mg⟩ := Turns.cells hcut
      have HT := Lib.hid hcut; clear hcut
      go_upto_region 5 with fail
      go_cut [] (fun wx => Turns B w g y w.heap.size (accC { S with n := S.n + a.n, s := S.s + a.s } (some ⟨y, 0, none⟩) k k) a o.h A k c wx)
      case first =>
        go_region
        go_wp2_with fail
        all_goals go_meet
        all_goals exact Turns.is (HT.out.put hne hgx hBg 1 _).drew rfl
      case rest =>
        clear cg cx mg HT
        obtain ⟨cg, cx, mg⟩ := Turns.cells hcut
        have HT := Lib.hid hcut; clear hcut
        go_upto_region 6 with fail
        go_cut [] (fun wx => Turns B w g y w.heap.size (accC { S with n := S.n + a.n, s := S.s + a.s, mn := min S.mn a.mn } (some ⟨y, 0, none⟩) k k) a o.h A k c wx)
        case first =>
          go_region
          go_wp2_with fail
          all_goals go_meet
          all_goals exact Turns.is (HT.out.put hne hgx hBg 2 _).drew (by first | (rw [show min S.mn a.mn = S.mn by omega]; rfl) | (rw [show min S.mn a.mn = a.mn by omega]; rfl))
        case rest =>
          clear cg cx mg HT
          obtain ⟨cg, cx, mg⟩ := Turns.cells hcut
          have HT := Lib.hid hcut; clear hcut
          go_upto_region 7 with fail
          go_cut [] (fun wx => Turns B w g y w.heap.size (accC { S with n := S.n + a.n, s := S.s + a.s, mn := min S.mn a.mn, mx := max S.mx a.mx } (some ⟨y, 0, none⟩) k k) a o.h A k c wx)
          case first =>
            go_region
            go_wp2_with fail
            all_goals go_meet
            all_goals exact Turns.is (HT.out.put hne hgx hBg 3 _).drew (by first | (rw [show max S.mx a.mx = S.mx by omega]; rfl) | (rw [show max S.mx a.mx = a.mx by omega]; rfl))
          case rest =>
            clear cg cx mg HT
            generalize hM : ({ S with n := S.n + a.n, s := S.s + a.s, mn := min S.mn a.mn, mx := max S.mx a.mx } : Ac) = M at hcut
            have HM := Lib.hid hM; clear hM
            obtain ⟨cg, cx, mg⟩ := Turns.cells hcut
            have HT := Lib.hid hcut; clear hcut
            go_upto_region 8 with fail
            go_cut [79] (fun v wx => v = .bool (beforeB a.f M.f) ∧ Turns B w g y w.heap.size (accC M (some ⟨y, 0, none⟩) k k) a o.h A k c wx)
            case first =>
              go_still_tail 6, (by kernel_rfl)
              change wpList _ _ _ _ _ wc.drew
              have HT2 : Hid (Turns B w g y w.heap.size (accC M (some ⟨y, 0, none⟩) k k) a o.h A k c wc.drew) := HT.out.drew
              generalize wc.drew = w2 at HT2 ⊢
              go_wp2_with fail
              refine (compare_any a.f M.f _).mono ?_
              rintro e w3 ⟨rfl, hb3⟩
              have HT3 : Hid (Turns B w g y w.heap.size (accC M (some ⟨y, 0, none⟩) k k) a o.h A k c w3) := HT2.out.below hb3 (by have := HT2.out.hasO.lt; omega)
              clear hb3
              go_wp2_with fail
              go_meet
              exact ⟨by rw [cmpT_before], HT3.out⟩
            case rest =>
              obtain ⟨rfl, hcut⟩ := hcut
              clear cg cx mg HT
              obtain ⟨cg, cx, mg⟩ := Turns.cells hcut
              have HT := Lib.hid hcut; clear hcut
              go_upto_if 79 with fail
              go_cut [] (fun wx => Turns B w g y w.heap.size (accC { M with f := pick (beforeB a.f M.f) a.f M.f } (some ⟨y, 0, none⟩) k k) a o.h A k c wx)
              case first =>
                cases hb : beforeB a.f M.f
                · have HB := Lib.hid hb; clear hb
                  go_wp2
                  go_meet
                  have hb := HB.out
                  exact Turns.is HT.out (by rw [hb]; rfl)
                · have HB := Lib.hid hb; clear hb
                  go_wp2
                  go_meet
                  have hb := HB.out
                  exact Turns.is ((((HT.out.put hne hgx hBg 4 _).put hne hgx hBg 5 _).put hne hgx hBg 6 _).put hne hgx hBg 7 _) (by rw [hb]; rfl)
              case rest =>
                clear cg cx mg HT
                generalize hM1 : ({ M with f := pick (beforeB a.f M.f) a.f M.f } : Ac) = M1 at hcut
                have HM1 := Lib.hid hM1; clear hM1
                obtain ⟨cg, cx, mg⟩ := Turns.cells hcut
                have HT := Lib.hid hcut; clear hcut
                go_upto_region 10 with fail
                go_cut [92] (fun v wx => v = .bool (!beforeB a.l M1.l) ∧ Turns B w g y w.heap.size (accC M1 (some ⟨y, 0, none⟩) k k) a o.h A k c wx)
                case first =>
                  go_still_tail 6, (by kernel_rfl)
                  change wpList _ _ _ _ _ wc.drew
                  have HT2 : Hid (Turns B w g y w.heap.size (accC M1 (some ⟨y, 0, none⟩) k k) a o.h A k c wc.drew) := HT.out.drew
                  generalize wc.drew = w2 at HT2 ⊢
                  go_wp2_with fail
                  refine (compare_any a.l M1.l _).mono ?_
                  rintro e w3 ⟨rfl, hb3⟩
                  have HT3 : Hid (Turns B w g y w.heap.size (accC M1 (some ⟨y, 0, none⟩) k k) a o.h A k c w3) := HT2.out.below hb3 (by have := HT2.out.hasO.lt; omega)
                  clear hb3
                  go_wp2_with fail
                  go_meet
                  exact ⟨by rw [cmpT_geq], HT3.out⟩
                case rest =>
                  obtain ⟨rfl, hcut⟩ := hcut
                  clear cg cx mg HT
                  obtain ⟨cg, cx, mg⟩ := Turns.cells hcut
                  have HT := Lib.hid hcut; clear hcut
                  go_upto_if 92 with fail
                  go_cut [] (fun wx => Turns B w g y w.heap.size (accC { M1 with l := pick (beforeB a.l M1.l) M1.l a.l } (some ⟨y, 0, none⟩) k k) a o.h A k c wx)
                  case first =>
                    cases hb : beforeB a.l M1.l
                    · have HB := Lib.hid hb; clear hb
                      go_wp2
                      go_meet
                      have hb := HB.out
                      exact Turns.is ((((HT.out.put hne hgx hBg 8 _).put hne hgx hBg 9 _).put hne hgx hBg 10 _).put hne hgx hBg 11 _) (by rw [hb]; rfl)
                    · have HB := Lib.hid hb; clear hb
                      go_wp2
                      go_meet
                      have hb := HB.out
                      exact Turns.is HT.out (by rw [hb]; rfl)
                  case rest =>
                    clear cg cx mg HT
                    have HFIN : Hid (accC { M1 with l := pick (beforeB a.l M1.l) M1.l a.l } (some ⟨y, 0, none⟩) k k = accC (addAc o a) (some ⟨y, 0, none⟩) k k) := by
                      rw [Hid, ← HM1.out, ← HM.out, ← HS.out]
                      by_cases h0 : o.n = 0
                      · simp [accC, addAc, startAc, pick, h0]
                      · simp [accC, addAc, startAc, pick, h0]
                    rw [HFIN.out] at hcut
                    clear HM1 HM HS HS0 HFIN
                    have HNH : Hid (mixH o.h a.h k = (addAc o a).h) := mixH_all _ _ (by rw [HK.out]; omega)
                    generalize hN : addAc o a = N at hcut HNH
                    have HN := Lib.hid hN; clear hN
                    obtain ⟨cg, cx, mg⟩ := Turns.cells hcut
                    rw [← mixH_zero o.h a.h] at hcut
                    have HT := Lib.hid hcut; clear hcut
                    go_wp2
                    clear cg cx mg
                    go_loopw [101] (fun i wr => ∃ j : Nat, j ≤ k ∧ i = .int .i64 j ∧ Hid (Turns B w g y w.heap.size (accC N (some ⟨y, 0, none⟩) k k) a (mixH o.h a.h j) A k c wr)) (fun i _ => k - (intOf i).toNat)
                    case atStart => exact ⟨0, Nat.zero_le _, rfl, HT⟩
                    case round =>
                      obtain ⟨j, hj, rfl, HT2⟩ := hrel
                      by_cases hlt : j < k
                      · obtain ⟨b, off, rfl, hc⟩ := HR.out.at_ (k := 0) (by omega)
                        have ca : wr.cell? ⟨b, off + j, none⟩ = some (.int .i64 (nth a.h j)) := (HT2.out.keep.cell (p := ⟨b, off + j, none⟩) (show b < B from HA.out ⟨b, off, none⟩ rfl)).trans (hc j hlt)
                        have cy : wr.cell? ⟨y, j, none⟩ = some (.int .i64 (nth o.h j)) := by
                          rw [HT2.out.hasH.cell, ints_get _ (by rw [mixH_len, HK.out]; exact hlt), mixH_at _ _ (by rw [HK.out]; exact hlt)]
                        have my : wr.frozen? ⟨y, j, none⟩ = false := HT2.out.hasH.mark j
                        have cg : wr.cell? ⟨g, 12, none⟩ = some (.slice (some ⟨y, 0, none⟩) k k) := HT2.out.hasO.cell 12
                        obtain ⟨r1, r2, r3, r4⟩ := HQ.out j hlt
                        clear hc
                        go_wp2
                        go_roundw
                        case rel => exact ⟨j + 1, by omega, by go_num, mixH_set o.h a.h (by rw [HK.out]; exact hlt) ▸ HT2.out.putH hne hhx hBh j _⟩
                        case measure => simp [intOf]; omega
                      · have hjk : j = k := by omega
                        subst hjk
                        go_wp2
                        go_end0
                        exact ⟨rfl, by rw [HN.out]; exact HNH.out ▸ HT2.out⟩

end Go.Proofs.YtbpaepkcchpmbaaGreat
