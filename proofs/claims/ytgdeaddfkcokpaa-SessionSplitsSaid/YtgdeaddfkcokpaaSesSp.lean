/-
  Walk: SessionSplits: sessions of items that lie apart are those of each part.
-/
import Derived.Test.YtgdeaddfkcokpaaG6j
import Derived.Test.YtgdeaddfkcokpaaG6i
namespace Go.Proofs.Ytgdeaddfkcokpaa
open Go.RowKit

/-- Two rows in blocks of their own. -/
def Dis (u v : Value) : Prop := ∀ k, u.ownBlock = some k → v.ownBlock ≠ some k
theorem Dis.symm {u v : Value} (h : Dis u v) : Dis v u := fun k hk e => h k e hk
theorem Dis.none (v : Value) : Dis (.slice none 0 0) v := fun k hk => by simp [Value.ownBlock] at hk
theorem Dis.grew {w w' : World} {base b2 : Nat} {u v v' : Value} {xs : List It} (h : Dis u v) (hu : OwnIt w b2 u xs) (hg : Grew w w' base v v') : Dis u v' := fun k hk e => by
  rcases hg.own with e1 | e1
  · exact h k hk (e1 ▸ e)
  · rw [e1] at e
    injection e with e
    rcases hu.2 with ⟨e0, _⟩ | ⟨g, cap, cur, e0, _, hh, _⟩
    · simp [e0, Value.ownBlock] at hk
    · have e2 : g = k := by simpa [e0, Value.ownBlock] using hk
      have := Has.lt (t := 23) hh
      omega
structure SptS (w : World) (j : Nat) (vx vy vz : Value) (xs ys zs : List It) (wr : World) : Prop where
  ox : OwnIt wr w.heap.size vx xs
  oy : OwnIt wr w.heap.size vy ys
  oz : OwnIt wr w.heap.size vz zs
  xy : Dis vx vy
  xz : Dis vx vz
  yz : Dis vy vz
  perm : zs.Perm (xs ++ ys)
  xin : ∀ x, x ∈ xs → x.t ≤ 63
  yin : ∀ x, x ∈ ys → 1000 ≤ x.t
  zin : ∀ x, x ∈ zs → itemB x = true ∧ x.s = 0 ∧ x.q ≤ j
  alone : ∀ x, x ∈ zs → ∀ y, y ∈ zs → x = y ∨ Apart x y
  zl : zs.length = j
  keep : Below w.heap.size w wr
theorem SptS.below {w : World} {j : Nat} {vx vy vz : Value} {xs ys zs : List It} {wr wy : World} (h : SptS w j vx vy vz xs ys zs wr) (hb : Below wr.heap.size wr wy) : SptS w j vx vy vz xs ys zs wy :=
  ⟨h.ox.below hb, h.oy.below hb, h.oz.below hb, h.xy, h.xz, h.yz, h.perm, h.xin, h.yin, h.zin, h.alone, h.zl, h.keep.trans (hb.mono h.keep.size)⟩
theorem alone_more {j : Nat} {zs : List It} {x : It} (hz : ∀ z, z ∈ zs → itemB z = true ∧ z.s = 0 ∧ z.q ≤ j) (ha : ∀ x, x ∈ zs → ∀ y, y ∈ zs → x = y ∨ Apart x y) (hx : x.q = j + 1) : ∀ a, a ∈ zs ++ [x] → ∀ b, b ∈ zs ++ [x] → a = b ∨ Apart a b := fun a h1 b h2 => by
  simp only [List.mem_append, List.mem_cons, List.not_mem_nil, or_false] at h1 h2
  rcases h1 with h1 | rfl <;> rcases h2 with h2 | rfl
  · exact ha a h1 b h2
  · exact .inr (.inr (by have := (hz a h1).2.2; omega))
  · exact .inr (.inr (by have := (hz b h2).2.2; omega))
  · exact .inl rfl
theorem in_more {j : Nat} {zs : List It} {x : It} (hz : ∀ z, z ∈ zs → itemB z = true ∧ z.s = 0 ∧ z.q ≤ j) (h1 : itemB x = true) (h2 : x.s = 0) (hx : x.q = j + 1) : ∀ z, z ∈ zs ++ [x] → itemB z = true ∧ z.s = 0 ∧ z.q ≤ ((j + 1 : Nat) : Int) := fun a ha => by
  simp only [List.mem_append, List.mem_cons, List.not_mem_nil, or_false] at ha
  rcases ha with ha | rfl
  · obtain ⟨a1, a2, a3⟩ := hz a ha
    exact ⟨a1, a2, by omega⟩
  · exact ⟨h1, h2, by omega⟩
/-- One item more, in the first row or in the second, and in the row of all. -/
theorem SptS.first {w : World} {j : Nat} {vx vy vz vx' vz' : Value} {xs ys zs : List It} {wr w1 w2 : World} (h : SptS w j vx vy vz xs ys zs wr) {x : It} (h1 : itemB x = true) (h2 : x.s = 0) (h3 : x.q = j + 1) (h4 : x.t ≤ 63) (o1 : OwnIt w1 w.heap.size vx' (xs ++ [x])) (g1 : Grew wr w1 w.heap.size vx vx') {w1' : World} (b1 : Below w1.heap.size w1 w1')
    (o2 : OwnIt w2 w.heap.size vz' (zs ++ [x])) (g2 : Grew w1' w2 w.heap.size vz vz') : SptS w (j + 1) vx' vy vz' (xs ++ [x]) ys (zs ++ [x]) w2 := by
  have y1 : OwnIt w1 w.heap.size vy ys := h.oy.grew g1 h.xy.symm
  have z1 : OwnIt w1 w.heap.size vz zs := h.oz.grew g1 h.xz.symm
  have dxy : Dis vx' vy := (h.xy.symm.grew h.oy g1).symm
  have dxz : Dis vx' vz := (h.xz.symm.grew h.oz g1).symm
  exact ⟨(o1.below b1).grew g2 dxz, (y1.below b1).grew g2 h.yz, o2, dxy, dxz.grew (o1.below b1) g2, h.yz.grew (y1.below b1) g2, by
    have := (h.perm.append_right [x])
    refine this.trans ?_
    rw [List.append_assoc, List.append_assoc]
    exact List.Perm.append_left _ List.perm_append_comm, fun a ha => by
      simp only [List.mem_append, List.mem_cons, List.not_mem_nil, or_false] at ha
      rcases ha with ha | rfl
      · exact h.xin a ha
      · exact h4, h.yin, in_more h.zin h1 h2 h3, alone_more h.zin h.alone h3, by rw [List.length_append, h.zl]; rfl, ((h.keep.trans g1.below).trans (b1.mono (Nat.le_trans h.keep.size g1.below.size))).trans g2.below⟩
theorem SptS.second {w : World} {j : Nat} {vx vy vz vy' vz' : Value} {xs ys zs : List It} {wr w1 w2 : World} (h : SptS w j vx vy vz xs ys zs wr) {x : It} (h1 : itemB x = true) (h2 : x.s = 0) (h3 : x.q = j + 1) (h4 : 1000 ≤ x.t) (o1 : OwnIt w1 w.heap.size vy' (ys ++ [x])) (g1 : Grew wr w1 w.heap.size vy vy') {w1' : World} (b1 : Below w1.heap.size w1 w1')
    (o2 : OwnIt w2 w.heap.size vz' (zs ++ [x])) (g2 : Grew w1' w2 w.heap.size vz vz') : SptS w (j + 1) vx vy' vz' xs (ys ++ [x]) (zs ++ [x]) w2 := by
  have x1 : OwnIt w1 w.heap.size vx xs := h.ox.grew g1 h.xy
  have z1 : OwnIt w1 w.heap.size vz zs := h.oz.grew g1 h.yz.symm
  have dxy : Dis vx vy' := h.xy.grew h.ox g1
  have dyz : Dis vy' vz := (h.yz.symm.grew h.oz g1).symm
  exact ⟨(x1.below b1).grew g2 h.xz, (o1.below b1).grew g2 dyz, o2, dxy, h.xz.grew (x1.below b1) g2, dyz.grew (o1.below b1) g2, by
    have := (h.perm.append_right [x])
    rwa [List.append_assoc] at this, h.xin, fun a ha => by
      simp only [List.mem_append, List.mem_cons, List.not_mem_nil, or_false] at ha
      rcases ha with ha | rfl
      · exact h.yin a ha
      · exact h4, in_more h.zin h1 h2 h3, alone_more h.zin h.alone h3, by rw [List.length_append, h.zl]; rfl, ((h.keep.trans g1.below).trans (b1.mono (Nat.le_trans h.keep.size g1.below.size))).trans g2.below⟩

set_option maxRecDepth 100000 in
set_option maxHeartbeats 4000000 in
theorem splits_any (A : Option Addr) (m c : Nat) (vs : List Int) (a1 : Int) (w : World) (hr : Ints w A m vs) (_ : m ≤ maxLen) (_ : (Lit.int .i64 a1).wf = true) :
    Calls Try.prog 8 #[.slice A m c, .int .i64 a1] w fun e w' => e = .returned (.bool true) ∧ Below w.heap.size w w' := by
  obtain ⟨d1, m1, l1, u1⟩ : ∃ d : Int, bits .and .i64 a1 15 = d ∧ 0 ≤ d ∧ d ≤ 15 := ⟨a1 % 16, mask15 a1, by omega, by omega⟩
  have HI : Hid (∀ (s t q v : Int) (W : World), Calls Try.prog 34 #[.int .i64 s, .int .i64 t, .int .i64 q, .int .i64 v] W fun e w' => e = .returned (.agg #[.int .i64 s, .int .i64 t, .int .i64 q, .int .i64 v]) ∧ Below W.heap.size W w') := sitem_any
  have HAL : Hid (∀ (W : World) o, Below W.heap.size W (W.alloc o)) := fun W o => (Below.refl _ _).alloc (Nat.le_refl _) o
  have HR := Lib.hid hr; clear hr
  go_enter Try.func8, Try.ntmps8
  go_wp2_with fail
  refine (sawake_any _).mono ?_
  rintro e v0 ⟨rfl, hb⟩
  have HW0 := Lib.hid hb
  clear hb
  go_upto_region 4 with fail
  have bg : 1 ≤ 1 + d1 ∧ 1 + d1 ≤ 16 := by omega
  clear m1
  generalize 1 + d1 = g at bg ⊢
  clear l1 u1
  have HP0 : Hid (SptS w 0 (.slice none 0 0) (.slice none 0 0) (.slice none 0 0) [] [] [] v0) :=
    ⟨OwnIt.nil _ _, OwnIt.nil _ _, OwnIt.nil _ _, Dis.none _, Dis.none _, Dis.none _, List.Perm.refl _, (fun x hx => by cases hx), (fun x hx => by cases hx), (fun x hx => by cases hx), (fun x hx => by cases hx), rfl, HW0.out⟩
  go_wp2_with fail
  go_loopw [6, 7, 8, 9] (fun xv yv zv iv wr => ∃ (j nx ny : Nat) (X : Option Addr) (cx : Nat) (Y : Option Addr) (cy : Nat) (Z : Option Addr) (cz : Nat) (xs ys zs : List It), j ≤ m ∧ j ≤ 24 ∧ nx + ny = j ∧ xv = .slice X nx cx ∧ yv = .slice Y ny cy ∧ zv = .slice Z j cz ∧ iv = .int .i64 j ∧ Hid (SptS w j (.slice X nx cx) (.slice Y ny cy) (.slice Z j cz) xs ys zs wr)) (fun _ _ _ iv _ => m - (intOf iv).toNat)
  case atStart => exact ⟨0, 0, 0, none, 0, none, 0, none, 0, [], [], [], Nat.zero_le _, by omega, rfl, rfl, rfl, rfl, rfl, HP0⟩
  case round =>
    clear HP0 HW0
    obtain ⟨j, nx, ny, X, cx, Y, cy, Z, cz, xs, ys, zs, hj, hj24, hn, rfl, rfl, rfl, rfl, HP⟩ := hrel
    by_cases hlt : j < m ∧ j < 24
    · obtain ⟨hlt, hlt24⟩ := hlt
      obtain ⟨b, o, rfl, hc⟩ := (HR.out.below HP.out.keep).at_ (k := j) hlt
      have hcell := hc j hlt
      obtain ⟨d, hmk, hd0, hd1⟩ : ∃ d : Int, bits .and .i64 (nth vs j) 63 = d ∧ 0 ≤ d ∧ d ≤ 63 := ⟨nth vs j % 64, mask63 _, by omega, by omega⟩
      clear hc
      generalize nth vs j = z at hcell hmk
      go_wp2_with fail
      refine (HI.out _ _ _ _ _).mono ?_
      rintro e w1 ⟨rfl, hb⟩
      have HP1 := Lib.hid (HP.out.below hb)
      have hcell1 := (hb.cell (block_lt_of_cell hcell)).trans hcell
      clear hb hcell HP
      go_upto_region 10 with (refine store_newI rfl _ _ rfl rfl rfl (z := ⟨0, d, j + 1, 1⟩) rfl ?_; intro w2 hb2 hs2; have HB2 := Lib.hid hb2; have HX2 := Lib.hid hs2; have hcell2 := (hb2.cell (block_lt_of_cell hcell1)).trans hcell1; clear hb2 hs2)
      clear hcell1 hmk
      obtain ⟨gb, hgb⟩ : ∃ gb, w1.heap.size = gb := ⟨_, rfl⟩
      rw [hgb] at HX2 ⊢
      have HGB := Lib.hid hgb; clear hgb
      go_upto_if 51 with fail
      clear hcell2
      obtain ⟨tb, htb⟩ : ∃ tb, (bits .and .i64 (z / 64) 1 == 1) = tb := ⟨_, rfl⟩
      rw [htb]
      clear htb
      cases tb
      · skip
        go_upto_region 13 with fail
        have hB3 : Below w1.heap.size w1 w2 := HB2.out
        have hX3 : Has w2 gb 23 #[.int .i64 0, .int .i64 d, .int .i64 (j + 1), .int .i64 1] := HX2.out
        clear HB2 HX2
        generalize w2 = w3 at hB3 hX3 ⊢
        have HP3 := Lib.hid (HP1.out.below hB3)
        have HX3 := Lib.hid hX3
        have HNB : Hid ((Value.slice X nx cx).ownBlock ≠ some gb) := fun e => by
          have := (World.ownsRow.lt HP1.out.ox gb e).2
          have := HGB.out
          omega
        have HIT : Hid (w3.rangeAt gb 0 (itemL ⟨0, d, j + 1, 1⟩)) := range_item (x := ⟨0, d, j + 1, 1⟩) hX3
        have HKS : Hid (w.heap.size ≤ w3.heap.size) := HP3.out.keep.size
        clear hB3 hX3 HP1
        go_upto_region 14 with (first
          | (refine load_item rfl _ rfl gb 0 rfl HIT.out ?_)
          | (refine app_itemG rfl _ _ rfl ⟨0, d, j + 1, 1⟩ rfl (HP3.out.ox.below (HAL.out _ _)) rfl (Has.made _ _ _) (by omega) (by have := HKS.out; simp; omega) ?_; intro X2 cx2 w4 hown hgr; have HO4 := Lib.hid hown; have HGR4 := Lib.hid hgr; clear hown hgr))
        have HX4 : Hid (Has w4 gb 23 #[.int .i64 0, .int .i64 (d), .int .i64 (j + 1), .int .i64 1]) := (HGR4.out.far gb (by have := HX3.out.lt; simp; omega) HNB.out).trans (HX3.out.alloc _)
        have HIT4 : Hid (w4.rangeAt gb 0 (itemL ⟨0, d, j + 1, 1⟩)) := range_item (x := ⟨0, d, j + 1, 1⟩) HX4.out
        have HZ4 : Hid (OwnIt w4 w.heap.size (.slice Z j cz) zs) := (HP3.out.oz.below (HAL.out _ _)).grew HGR4.out HP3.out.xz.symm
        have HK4 : Hid (w.heap.size ≤ w4.heap.size) := Nat.le_trans (Nat.le_trans HKS.out (by simp)) HGR4.out.below.size
        clear HIT
        go_wp2_with (first
          | (refine load_item rfl _ rfl gb 0 rfl HIT4.out ?_)
          | (refine app_itemG rfl _ _ rfl ⟨0, d, j + 1, 1⟩ rfl (HZ4.out.below (HAL.out _ _)) rfl (Has.made _ _ _) (by omega) (by have := HK4.out; simp; omega) ?_; intro Z2 cz2 w5 hown hgr; have HZ5 := Lib.hid hown; have HGR5 := Lib.hid hgr; clear hown hgr))
        have HPN := Lib.hid ((HP3.out.below (HAL.out _ _)).first (x := ⟨0, d, j + 1, 1⟩) (itemB_iff.2 (by simp only; omega)) rfl rfl (by simp only; omega) HO4.out HGR4.out (HAL.out _ _) HZ5.out HGR5.out)
        clear HP3 HX3 HX4 HIT4 HZ4 HK4 HO4 HGR4 HZ5 HGR5 HNB HKS
        go_roundw
        case rel => exact ⟨j + 1, nx + 1, ny, X2, cx2, Y, cy, Z2, cz2, _, _, _, by omega, by omega, by omega, rfl, rfl, rfl, by go_num, HPN⟩
        case measure => simp [intOf]; omega
      · skip
        have hc1 : w2.cell? ⟨gb, 1, none⟩ = some (.int .i64 d) := HX2.out.cell 1
        have hm1 : w2.frozen? ⟨gb, 1, none⟩ = false := HX2.out.mark 1
        go_upto_region 12 with fail
        have hB3 : Below w1.heap.size w1 (w2.setCell ⟨gb, 1, none⟩ (.int .i64 (d + 1000))) := HB2.out.setCell (Nat.le_of_eq HGB.out) _
        have hX3 : Has (w2.setCell ⟨gb, 1, none⟩ (.int .i64 (d + 1000))) gb 23 #[.int .i64 0, .int .i64 (d + 1000), .int .i64 (j + 1), .int .i64 1] := HX2.out.put 1 _
        clear hc1 hm1
        generalize w2.setCell ⟨gb, 1, none⟩ (.int .i64 (d + 1000)) = w3 at hB3 hX3 ⊢
        have HP3 := Lib.hid (HP1.out.below hB3)
        have HX3 := Lib.hid hX3
        have HNB : Hid ((Value.slice Y ny cy).ownBlock ≠ some gb) := fun e => by
          have := (World.ownsRow.lt HP1.out.oy gb e).2
          have := HGB.out
          omega
        have HIT : Hid (w3.rangeAt gb 0 (itemL ⟨0, d + 1000, j + 1, 1⟩)) := range_item (x := ⟨0, d + 1000, j + 1, 1⟩) hX3
        have HKS : Hid (w.heap.size ≤ w3.heap.size) := HP3.out.keep.size
        clear hB3 hX3 HP1
        go_upto_region 14 with (first
          | (refine load_item rfl _ rfl gb 0 rfl HIT.out ?_)
          | (refine app_itemG rfl _ _ rfl ⟨0, d + 1000, j + 1, 1⟩ rfl (HP3.out.oy.below (HAL.out _ _)) rfl (Has.made _ _ _) (by omega) (by have := HKS.out; simp; omega) ?_; intro Y2 cy2 w4 hown hgr; have HO4 := Lib.hid hown; have HGR4 := Lib.hid hgr; clear hown hgr))
        have HX4 : Hid (Has w4 gb 23 #[.int .i64 0, .int .i64 (d + 1000), .int .i64 (j + 1), .int .i64 1]) := (HGR4.out.far gb (by have := HX3.out.lt; simp; omega) HNB.out).trans (HX3.out.alloc _)
        have HIT4 : Hid (w4.rangeAt gb 0 (itemL ⟨0, d + 1000, j + 1, 1⟩)) := range_item (x := ⟨0, d + 1000, j + 1, 1⟩) HX4.out
        have HZ4 : Hid (OwnIt w4 w.heap.size (.slice Z j cz) zs) := (HP3.out.oz.below (HAL.out _ _)).grew HGR4.out HP3.out.yz.symm
        have HK4 : Hid (w.heap.size ≤ w4.heap.size) := Nat.le_trans (Nat.le_trans HKS.out (by simp)) HGR4.out.below.size
        clear HIT
        go_wp2_with (first
          | (refine load_item rfl _ rfl gb 0 rfl HIT4.out ?_)
          | (refine app_itemG rfl _ _ rfl ⟨0, d + 1000, j + 1, 1⟩ rfl (HZ4.out.below (HAL.out _ _)) rfl (Has.made _ _ _) (by omega) (by have := HK4.out; simp; omega) ?_; intro Z2 cz2 w5 hown hgr; have HZ5 := Lib.hid hown; have HGR5 := Lib.hid hgr; clear hown hgr))
        have HPN := Lib.hid ((HP3.out.below (HAL.out _ _)).second (x := ⟨0, d + 1000, j + 1, 1⟩) (itemB_iff.2 (by simp only; omega)) rfl rfl (by simp only; omega) HO4.out HGR4.out (HAL.out _ _) HZ5.out HGR5.out)
        clear HP3 HX3 HX4 HIT4 HZ4 HK4 HO4 HGR4 HZ5 HGR5 HNB HKS
        go_roundw
        case rel => exact ⟨j + 1, nx, ny + 1, X, cx, Y2, cy2, Z2, cz2, _, _, _, by omega, by omega, by omega, rfl, rfl, rfl, by go_num, HPN⟩
        case measure => simp [intOf]; omega
    · obtain ⟨Ta, hTa⟩ : ∃ T, SS g xs = T := ⟨_, rfl⟩
      obtain ⟨Tb, hTb⟩ : ∃ T, SS g ys = T := ⟨_, rfl⟩
      have hap := all_apart (show 0 < g by omega) (bs := []) HP.out.perm (fun x hx y hy => by have a := HP.out.xin x hx; have b := HP.out.yin y hy; omega) (fun x hx y hy => HP.out.alone x (HP.out.perm.mem_iff.2 hx) y (HP.out.perm.mem_iff.2 hy))
      have hTc : SS g zs = Ta ++ Tb := by rw [← hTa, ← hTb]; exact hap.1
      have hTd : SS g (xs ++ ys) = Ta ++ Tb := by rw [← ss_append, ← hTa, ← hTb]; exact hap.2
      clear hap
      have okz : ItsOk 0 zs := fun x hx => ⟨(HP.out.zin x hx).1, (HP.out.zin x hx).2.1⟩
      have okx : ItsOk 0 xs := fun x hx => okz x (HP.out.perm.mem_iff.2 (List.mem_append_left _ hx))
      have oky : ItsOk 0 ys := fun x hx => okz x (HP.out.perm.mem_iff.2 (List.mem_append_right _ hx))
      have lx : xs.length = nx := HP.out.ox.caps.1
      have ly : ys.length = ny := HP.out.oy.caps.1
      have lz : zs.length = j := HP.out.zl
      obtain ⟨n1, hn1⟩ : ∃ n, Ta.length = n := ⟨_, rfl⟩
      obtain ⟨n2, hn2⟩ : ∃ n, Tb.length = n := ⟨_, rfl⟩
      have hs1 : n1 ≤ 24 := by have := ss_len (g := g) (by omega) xs; rw [hTa] at this; omega
      have hs2 : n2 ≤ 24 := by have := ss_len (g := g) (by omega) ys; rw [hTb] at this; omega
      have HA9 : Hid (∀ s, s ∈ Ta → s.a.h.length ≤ 9) := fun s hs => by
        obtain ⟨Bs, e1, _, _⟩ := all_nil (show 0 < g by omega) (bs := []) xs
        rw [← hTa, SS, e1] at hs
        obtain ⟨B, _, rfl⟩ := List.mem_map.1 hs
        show (blkA [] B).h.length ≤ 9
        rw [blk_len]; decide
      have CA : Hid (∀ W, SptS w j (.slice X nx cx) (.slice Y ny cy) (.slice Z j cz) xs ys zs W → Calls Try.prog 26 #[.slice none 0 0, .int .i64 g, .slice none 0 0, .slice X nx cx] W fun e w' => ∃ A c rs, e = .returned (.tuple #[.slice A n1 c, .int .i64 0]) ∧ OwnE w' W.heap.size (.slice A n1 c) rs ∧ rs.map (·.s) = Ta ∧ n1 ≤ c ∧ Below W.heap.size W w') := fun W h =>
        (add_items g 0 ⟨bg.1, by omega⟩ [] xs (fun x hx => by cases hx) okx (by rw [List.nil_append]; omega) none 0 0 X nx cx W (Sess.nil _ _) (Nat.le_refl _) (by decide) h.ox.items h.ox.some_ h.ox.caps.2).mono fun e w' hh => by
          rw [List.nil_append, hTa] at hh
          exact good_lit hn1 hh
      have CB : Hid (∀ W, SptS w j (.slice X nx cx) (.slice Y ny cy) (.slice Z j cz) xs ys zs W → Calls Try.prog 26 #[.slice none 0 0, .int .i64 g, .slice none 0 0, .slice Y ny cy] W fun e w' => ∃ A c rs, e = .returned (.tuple #[.slice A n2 c, .int .i64 0]) ∧ OwnE w' W.heap.size (.slice A n2 c) rs ∧ rs.map (·.s) = Tb ∧ n2 ≤ c ∧ Below W.heap.size W w') := fun W h =>
        (add_items g 0 ⟨bg.1, by omega⟩ [] ys (fun x hx => by cases hx) oky (by rw [List.nil_append]; omega) none 0 0 Y ny cy W (Sess.nil _ _) (Nat.le_refl _) (by decide) h.oy.items h.oy.some_ h.oy.caps.2).mono fun e w' hh => by
          rw [List.nil_append, hTb] at hh
          exact good_lit hn2 hh
      have CC : Hid (∀ W, SptS w j (.slice X nx cx) (.slice Y ny cy) (.slice Z j cz) xs ys zs W → Calls Try.prog 26 #[.slice none 0 0, .int .i64 g, .slice none 0 0, .slice Z j cz] W fun e w' => ∃ A c rs, e = .returned (.tuple #[.slice A (n1 + n2) c, .int .i64 0]) ∧ OwnE w' W.heap.size (.slice A (n1 + n2) c) rs ∧ rs.map (·.s) = Ta ++ Tb ∧ n1 + n2 ≤ c ∧ Below W.heap.size W w') := fun W h =>
        (add_items g 0 ⟨bg.1, by omega⟩ [] zs (fun x hx => by cases hx) okz (by rw [List.nil_append]; omega) none 0 0 Z j cz W (Sess.nil _ _) (Nat.le_refl _) (by decide) h.oz.items h.oz.some_ h.oz.caps.2).mono fun e w' hh => by
          rw [List.nil_append, hTc] at hh
          exact good_lit (by rw [List.length_append, hn1, hn2]) hh
      have CD : Hid (∀ W A c, SptS w j (.slice X nx cx) (.slice Y ny cy) (.slice Z j cz) xs ys zs W → Sess W A n1 Ta → n1 ≤ c → Calls Try.prog 26 #[.slice A n1 c, .int .i64 g, .slice none 0 0, .slice Y ny cy] W fun e w' => ∃ A c rs, e = .returned (.tuple #[.slice A (n1 + n2) c, .int .i64 0]) ∧ OwnE w' W.heap.size (.slice A (n1 + n2) c) rs ∧ rs.map (·.s) = Ta ++ Tb ∧ n1 + n2 ≤ c ∧ Below W.heap.size W w') := fun W A c h hs hc =>
        (add_items g 0 ⟨bg.1, by omega⟩ xs ys okx oky (by rw [List.length_append]; omega) A n1 c Y ny cy W (by rw [hTa]; exact hs) hc (by omega) h.oy.items h.oy.some_ h.oy.caps.2).mono fun e w' hh => by
          rw [hTd] at hh
          exact good_lit (by rw [List.length_append, hn1, hn2]) hh
      clear hTa hTb hTc hTd okx oky okz lx ly lz hn1 hn2
      by_cases hjm : j < m
      · have hj4 : ¬ (j < 24) := by omega
        clear hlt
        go_wp2_with fail
        refine (CA.out _ HP.out).mono ?_
        rintro e w1 ⟨A1, c1, r1, rfl, o1, e1, k1, b1⟩
        have HP1 := Lib.hid (HP.out.below b1)
        have OA := Lib.hid o1
        have EA := Lib.hid e1
        clear o1 e1 b1 HP
        go_wp2_with fail
        refine (CB.out _ HP1.out).mono ?_
        rintro e w2 ⟨A2, c2, r2, rfl, o2, e2, k2, b2⟩
        have HP2 := Lib.hid (HP1.out.below b2)
        have OB := Lib.hid o2
        have EB := Lib.hid e2
        replace OA := Lib.hid (OA.out.below b2)
        clear o2 e2 b2 HP1
        go_wp2_with fail
        refine (CC.out _ HP2.out).mono ?_
        rintro e w3 ⟨A3, c3, r3, rfl, o3, e3, k3, b3⟩
        have HP3 := Lib.hid (HP2.out.below b3)
        have SC := Lib.hid (o3.sess e3)
        replace OA := Lib.hid (OA.out.below b3)
        replace OB := Lib.hid (OB.out.below b3)
        clear o3 e3 b3 HP2
        go_wp2_with fail
        refine (CD.out _ A1 c1 HP3.out (OA.out.sess EA.out) k1).mono ?_
        rintro e w4 ⟨A4, c4, r4, rfl, o4, e4, k4, b4⟩
        have HP4 := Lib.hid (HP3.out.below b4)
        have SD := Lib.hid (o4.sess e4)
        replace SC := Lib.hid (SC.out.below b4)
        replace OA := Lib.hid (OA.out.below b4)
        replace OB := Lib.hid (OB.out.below b4)
        clear o4 e4 b4 HP3
        go_wp2_with fail
        refine (copysess_any A1 n1 c1 Ta _ (OA.out.sessR EA.out HA9.out) (by omega)).mono ?_
        rintro e w5 ⟨A5, c5, r5, rfl, o5, e5, b5⟩
        have OE := Lib.hid o5
        have EE := Lib.hid e5
        have B5 := Lib.hid b5
        replace OB := Lib.hid (OB.out.below b5)
        clear o5 e5 b5
        go_upto_region 21 with (refine app_rowsE rfl _ _ rfl rfl OE.out rfl OB.out (by omega) B5.out.size ?_; intro A6 c6 w6 hs6 hg6; have SE := Lib.hid hs6; have B6 := Lib.hid (B5.out.trans hg6.below); clear hs6 hg6)
        have SE2 : Hid (Sess w6 A6 (n1 + n2) (Ta ++ Tb)) := by have h := SE.out; rwa [EE.out, EB.out] at h
        replace SC := Lib.hid (SC.out.below B6.out)
        replace SD := Lib.hid (SD.out.below B6.out)
        have HW6 := Lib.hid (HP4.out.keep.trans (B6.out.mono HP4.out.keep.size))
        clear SE OA OB OE EA EB EE HP4 B5 B6
        go_wp2_with (go_at_call 17; refine (num_any _ _).mono ?_; rintro e w' ⟨rfl, rfl⟩)
        refine (samesess_any _ _ _ _ _ _ _ SC.out SE2.out (by omega)).mono ?_
        rintro e w7 ⟨rfl, b7⟩
        replace SD := Lib.hid (SD.out.below b7)
        replace SE2 := Lib.hid (SE2.out.below b7)
        replace HW6 := Lib.hid (HW6.out.trans (b7.mono HW6.out.size))
        clear b7 SC
        go_wp2_with fail
        refine (samesess_any _ _ _ _ _ _ _ SD.out SE2.out (by omega)).mono ?_
        rintro e w8 ⟨rfl, b8⟩
        replace HW6 := Lib.hid (HW6.out.trans (b8.mono HW6.out.size))
        clear b8 SD SE2
        go_wp2_with fail
        go_ret
        exact ⟨rfl, HW6.out⟩
      · clear hlt
        go_wp2_with fail
        refine (CA.out _ HP.out).mono ?_
        rintro e w1 ⟨A1, c1, r1, rfl, o1, e1, k1, b1⟩
        have HP1 := Lib.hid (HP.out.below b1)
        have OA := Lib.hid o1
        have EA := Lib.hid e1
        clear o1 e1 b1 HP
        go_wp2_with fail
        refine (CB.out _ HP1.out).mono ?_
        rintro e w2 ⟨A2, c2, r2, rfl, o2, e2, k2, b2⟩
        have HP2 := Lib.hid (HP1.out.below b2)
        have OB := Lib.hid o2
        have EB := Lib.hid e2
        replace OA := Lib.hid (OA.out.below b2)
        clear o2 e2 b2 HP1
        go_wp2_with fail
        refine (CC.out _ HP2.out).mono ?_
        rintro e w3 ⟨A3, c3, r3, rfl, o3, e3, k3, b3⟩
        have HP3 := Lib.hid (HP2.out.below b3)
        have SC := Lib.hid (o3.sess e3)
        replace OA := Lib.hid (OA.out.below b3)
        replace OB := Lib.hid (OB.out.below b3)
        clear o3 e3 b3 HP2
        go_wp2_with fail
        refine (CD.out _ A1 c1 HP3.out (OA.out.sess EA.out) k1).mono ?_
        rintro e w4 ⟨A4, c4, r4, rfl, o4, e4, k4, b4⟩
        have HP4 := Lib.hid (HP3.out.below b4)
        have SD := Lib.hid (o4.sess e4)
        replace SC := Lib.hid (SC.out.below b4)
        replace OA := Lib.hid (OA.out.below b4)
        replace OB := Lib.hid (OB.out.below b4)
        clear o4 e4 b4 HP3
        go_wp2_with fail
        refine (copysess_any A1 n1 c1 Ta _ (OA.out.sessR EA.out HA9.out) (by omega)).mono ?_
        rintro e w5 ⟨A5, c5, r5, rfl, o5, e5, b5⟩
        have OE := Lib.hid o5
        have EE := Lib.hid e5
        have B5 := Lib.hid b5
        replace OB := Lib.hid (OB.out.below b5)
        clear o5 e5 b5
        go_upto_region 21 with (refine app_rowsE rfl _ _ rfl rfl OE.out rfl OB.out (by omega) B5.out.size ?_; intro A6 c6 w6 hs6 hg6; have SE := Lib.hid hs6; have B6 := Lib.hid (B5.out.trans hg6.below); clear hs6 hg6)
        have SE2 : Hid (Sess w6 A6 (n1 + n2) (Ta ++ Tb)) := by have h := SE.out; rwa [EE.out, EB.out] at h
        replace SC := Lib.hid (SC.out.below B6.out)
        replace SD := Lib.hid (SD.out.below B6.out)
        have HW6 := Lib.hid (HP4.out.keep.trans (B6.out.mono HP4.out.keep.size))
        clear SE OA OB OE EA EB EE HP4 B5 B6
        go_wp2_with (go_at_call 17; refine (num_any _ _).mono ?_; rintro e w' ⟨rfl, rfl⟩)
        refine (samesess_any _ _ _ _ _ _ _ SC.out SE2.out (by omega)).mono ?_
        rintro e w7 ⟨rfl, b7⟩
        replace SD := Lib.hid (SD.out.below b7)
        replace SE2 := Lib.hid (SE2.out.below b7)
        replace HW6 := Lib.hid (HW6.out.trans (b7.mono HW6.out.size))
        clear b7 SC
        go_wp2_with fail
        refine (samesess_any _ _ _ _ _ _ _ SD.out SE2.out (by omega)).mono ?_
        rintro e w8 ⟨rfl, b8⟩
        replace HW6 := Lib.hid (HW6.out.trans (b8.mono HW6.out.size))
        clear b8 SD SE2
        go_wp2_with fail
        go_ret
        exact ⟨rfl, HW6.out⟩

end Go.Proofs.Ytgdeaddfkcokpaa
