import Derived.Test.YtbpaepkcchpmbaaGreatG30
import Derived.Test.YtbpaepkcchpmbaaGreatG26
import Derived.Test.YtbpaepkcchpmbaaGreatIoLaR
namespace Go.Proofs.YtbpaepkcchpmbaaGreat
open Go.RowKit
theorem accC_put (a : Ac) (A A' : Option Addr) (k c k' c' : Nat) : (accC a A k c).setIfInBounds 12 (.slice A' k' c') = accC a A' k' c' := rfl
section
variable {g m d fn fc bn bc k c : Nat} {bA FA BA A : Option Addr} {w : World} {T u U W : Ac} {code : Int}
structure PuS1 (w : World) (A : Option Addr) (k c : Nat) (u : Ac) (wr : World) : Prop where
  box : Has wr w.heap.size 144 (accC u A k c)
  keep : Below w.heap.size w wr
def PushO (g : Nat) (cs : Array Value) (B : Value) (ps : List Pt) (u T : Ac) (w w' : World) : Prop :=
  ∃ hk c' H w1, Below w.heap.size w w1 ∧ OwnI w1 w.heap.size (.slice (some ⟨hk, 0, none⟩) u.h.length c') u.h ∧ Has w1 H 3 (ints T.h) ∧ hk < H ∧ PushedO g 2 cs B (ps ++ [⟨u, hk, c', T, H⟩]) w1 w'
set_option maxRecDepth 100000 in
set_option maxHeartbeats 4000000 in
theorem qpush_ok {ps : List Pt} (hst : Has w g QT #[.slice bA m d, .slice FA fn fc, .slice BA bn bc]) (hu : Ints w A k u.h) (hk : k ≤ c) (hc : c ≤ maxLen) (hk0 : 0 < k) (hk8 : k * 8 ≤ 140737488351232) (lT : T.h.length ≤ maxLen) (lW : W.h.length ≤ maxLen)
    (ct : ∀ w', Below w.heap.size w w' → Calls Tryz.prog 142 #[.pointer (some ⟨g, 0, none⟩)] w' (OutA T w'))
    (cj : ∀ (w' : World) (e : Nat), Below w.heap.size w w' → Accs w' (some ⟨e, 0, none⟩) 2 [T, u] → Calls Tryz.prog 219 #[.slice bA m d, .slice (some ⟨e, 0, none⟩) 2 2] w' (OutX U 0 w'))
    (c2 : ∀ w', Below w.heap.size w w' → Calls Tryz.prog 190 #[.pointer (some ⟨g, 0, none⟩), .slice BA bn bc] w' (OutT W w')) {X : Ac}
    (cq : ∀ (w' : World) (e : Nat), Below w.heap.size w w' → Accs w' (some ⟨e, 0, none⟩) 2 [W, u] → Calls Tryz.prog 189 #[.pointer (some ⟨g, 0, none⟩), .slice (some ⟨e, 0, none⟩) 2 2] w' (OutA X w'))
    (ho : OwnP w (.slice BA bn bc) ps) (hn : ps.length ≤ 65536) :
    Calls Tryz.prog 188 #[.pointer (some ⟨g, 0, none⟩), .agg (accC u A k c)] w fun e w' => e = .returned (.int .i64 0) ∧ PushO g #[.slice bA m d, .slice FA fn fc, .slice BA bn bc] (.slice BA bn bc) ps u X w w' := by
  obtain rfl : u.h.length = k := hu.1
  have HCT := Lib.hid ct
  have HCJ := Lib.hid cj
  have HC2 := Lib.hid c2
  have HCQ := Lib.hid cq
  have HST := Lib.hid hst
  have HU := Lib.hid hu
  have HO := Lib.hid ho
  have HB0 := Lib.hid (show Below w.heap.size w (w.alloc (.cells (accC u A u.h.length c) 144)) from (Below.refl _ _).alloc (Nat.le_refl _) _)
  have HNIL := Lib.hid (show A = none → c = 0 from fun e => by
    obtain ⟨b, o, e2, _⟩ := hu.at_ hk0
    rw [e2] at e; cases e)
  have HPU : Hid (∀ (w' : World) (q : Pt), Below w.heap.size w w' → Calls Tryz.prog 220 #[.pointer (some ⟨g, 2, none⟩), .agg (partC q)] w' fun e w2 => e = .returned (.tuple #[]) ∧ PushedO g 2 #[.slice bA m d, .slice FA fn fc, .slice BA bn bc] (.slice BA bn bc) (ps ++ [q]) w' w2) := fun w' q hb => spush_any g 2 _ _ ps q w' (hst.below hb hst.lt) rfl (ho.below hb) hn
  clear ct cj c2 cq hst hu ho
  go_enter Tryz.func188, Tryz.ntmps188
  go_upto_region 3 with fail
  refine stp3_any (g := g) (m := m) (d := d) (fn := fn) (fc := fc) (bn := bn) (bc := bc) (bA := bA) (FA := FA) (BA := BA) (k := u.h.length) (c := c) (x := w.heap.size) (z := w.heap.size + 1) (A := A) (T := T) (u := u) (U := U) (code := 0) ⟨rfl, rfl, rfl, HST.out.alloc _, by simp, Has.made _ _ _, HU.out.below HB0.out, hk, hc, lT, fun w' hb => HCT.out w' (HB0.out.trans (hb.mono (by simp))), fun w' e hb ha => HCJ.out w' e (HB0.out.trans (hb.mono (by simp))) ha⟩ (by kernel_rfl) ?_ ?_
  all_goals
    intro H15 e17 A18 n18 c18 A9 n9 c9 A19 n19 c19 y5 w9 hB9 _ _ _ _ _ hY
    have HP1 := Lib.hid (show PuS1 w A u.h.length c u (w9.setRow y5 (accC U A19 n19 c19)) from ⟨((Has.made w _ _).below hB9 (by simp)).rowFar (by have := hY.2; omega) _, below_row (HB0.out.trans (hB9.mono (by simp))) (by have := hY.2; omega) _⟩)
    have HY := Lib.hid hY
    clear hB9 hY HCT HCJ HB0
    simp only [putAll, Act.put, List.setIfInBounds_toArray, List.set_cons_succ, List.set_cons_zero, List.drop_succ_cons, List.drop_zero, pickL, List.filterMap_cons, List.getElem?_cons_succ, List.getElem?_cons_zero, List.filterMap_nil]
    refine store_has rfl _ _ rfl y5 (ac := U) (A := A19) (k := n19) (c := c19) rfl rfl HY.out.1 rfl ?_
    generalize w9.setRow _ _ = w10 at HP1 ⊢
    have hc10 : w10.cell? ⟨w.heap.size, 12, none⟩ = some (.slice A u.h.length c) := HP1.out.box.cell 12
    clear HY
    go_wp2_with fail
    refine (sclone_any A u.h.length c u.h w10 (HU.out.below HP1.out.keep) HNIL.out hk8).mono ?_
    rintro e w11 ⟨A2, c2, rfl, ho2, hb2⟩
    have h11 := HP1.out.box.below hb2 HP1.out.box.lt
    have hc11 : w11.cell? ⟨w.heap.size, 12, none⟩ = some (.slice A u.h.length c) := h11.cell 12
    have hf11 : w11.frozen? ⟨w.heap.size, 12, none⟩ = false := h11.mark 12
    have hkx : ∃ hk, A2 = some ⟨hk, 0, none⟩ ∧ w.heap.size ≤ hk ∧ hk < w11.heap.size ∧ u.h.length ≤ c2 ∧ c2 ≤ maxLen := by
      rcases ho2.2 with ⟨e, h0⟩ | ⟨gz, cap, cur, e, hgz, hhz, hz1, hz2, _⟩
      · omega
      · injection e with e1 e2 e3
        have := HP1.out.keep.size
        exact ⟨gz, e1, by omega, Has.lt hhz, by omega, by omega⟩
    obtain ⟨hk2, rfl, hk3, hk4, hk5, hk6⟩ := hkx
    have HP2 := Lib.hid (show PuS1 w (some ⟨hk2, 0, none⟩) u.h.length c2 u (w11.setCell ⟨w.heap.size, 12, none⟩ (.slice (some ⟨hk2, 0, none⟩) u.h.length c2)) ∧ OwnI (w11.setCell ⟨w.heap.size, 12, none⟩ (.slice (some ⟨hk2, 0, none⟩) u.h.length c2)) w.heap.size (.slice (some ⟨hk2, 0, none⟩) u.h.length c2) u.h ∧ hk2 < (w11.setCell ⟨w.heap.size, 12, none⟩ (.slice (some ⟨hk2, 0, none⟩) u.h.length c2)).heap.size from
      ⟨⟨h11.put 12 _, (HP1.out.keep.trans (hb2.mono HP1.out.keep.size)).setCell (Nat.le_refl _) _⟩, (ho2.mono HP1.out.keep.size).same fun k hk => heap_setCell_other _ _ _ _ (fun e => ho2.apart h11 (by decide) (by simp only at e; rw [hk, e])), by simpa [World.setCell] using hk4⟩)
    clear h11 ho2 hb2 hc10 HP1
    go_upto_region 7 with fail
    generalize w11.setCell _ _ = w12 at HP2 ⊢
    clear hc11 hf11
    have HB12 := Lib.hid HP2.out.1.keep
    refine stp7_any (g := g) (m := m) (d := d) (fn := fn) (fc := fc) (bn := bn) (bc := bc) (bA := bA) (FA := FA) (BA := BA) (hk := hk2) (c := c2) (x := w.heap.size) (z := w12.heap.size) (u := u) (W := W) (T := X) ⟨rfl, rfl, rfl, HST.out.below HB12.out HST.out.lt, Nat.le_refl _, HP2.out.1.box, HP2.out.2.1.ints, hk5, hk6, lW, fun w' hb => HC2.out w' (HB12.out.trans (hb.mono HB12.out.size)), fun w' e hb ha => HCQ.out w' e (HB12.out.trans (hb.mono HB12.out.size)) ha⟩ (by kernel_rfl) ?_
    intro H37 e39 H40 H41 w13 hB13 _ _ _ hH
    have HB13 := Lib.hid (HB12.out.trans (hB13.mono HB12.out.size))
    have HH := Lib.hid hH
    have HK := Lib.hid (HP2.out.2.1.below hB13)
    have HLT := Lib.hid HP2.out.2.2
    clear hB13 hH HC2 HCQ HB12 HP2
    simp only [putAll, Act.put, List.setIfInBounds_toArray, List.set_cons_succ, List.set_cons_zero, List.drop_succ_cons, List.drop_zero]
    go_wp2_with fail
    refine (HPU.out w13 _ HB13.out).mono ?_
    rintro e w14 ⟨rfl, hp⟩
    have HF := Lib.hid (show PushO g #[.slice bA m d, .slice FA fn fc, .slice BA bn bc] (.slice BA bn bc) ps u X w w14 from
      ⟨hk2, c2, H41, w13, HB13.out, HK.out, HH.out.1, by have := HH.out.2; have := HLT.out; omega, hp⟩)
    clear hp HB13 HH HK HLT HPU
    go_wp2_with fail
    go_ret
    exact ⟨rfl, HF.out⟩
end
end Go.Proofs.YtbpaepkcchpmbaaGreat
namespace Go.Proofs.YtbpaepkcchpmbaaGreat
open Go.RowKit
def NewQ (T : TypeId) (cs : Value → Array Value) (bs : List Int) (w : World) (e : Ending) (w' : World) : Prop :=
  ∃ g A c, e = .returned (.tuple #[.pointer (some ⟨g, 0, none⟩), .int .i64 0]) ∧ w.heap.size ≤ g ∧ Has w' g T (cs (.slice A bs.length c)) ∧ OwnI w' w.heap.size (.slice A bs.length c) bs ∧ Below w.heap.size w w'
set_option maxRecDepth 100000 in
set_option maxHeartbeats 1000000 in
theorem qnew_ok (B : Option Addr) (m d : Nat) (bs : List Int) (w : World) (hbs : Ints w B m bs) (hnil : B = none → d = 0) (h : boundsB bs = true) :
    Calls Tryz.prog 186 #[.slice B m d] w (NewQ QT (fun bv => #[bv, .slice none 0 0, .slice none 0 0]) bs w) := by
  obtain rfl : bs.length = m := hbs.1
  have h8 : bs.length ≤ 8 := (boundsB_true h).1
  have HBS := Lib.hid hbs
  have H1 := Lib.hid h
  have HNIL := Lib.hid hnil
  clear hbs h hnil
  go_enter Tryz.func186, Tryz.ntmps186
  go_wp2_with fail
  refine (bounds_any B bs.length d bs _ HBS.out (by unfold maxLen; omega)).mono ?_
  rintro e w1 ⟨rfl, k, hk⟩
  have HB1 := Lib.hid (show Below w.heap.size w w1 from hk ▸ below_drewN (Below.refl _ _) _)
  clear hk
  rw [H1.out]
  go_wp2_with fail
  refine (sclone_any B bs.length d bs w1 (HBS.out.below HB1.out) HNIL.out (by omega)).mono ?_
  rintro e w2 ⟨A2, c2, rfl, ho, hb⟩
  have HO := Lib.hid (ho.mono HB1.out.size)
  have HB2 := Lib.hid (HB1.out.trans (hb.mono HB1.out.size))
  clear ho hb
  go_wp2_with fail
  go_ret2
  exact ⟨_, A2, c2, rfl, HB2.out.size, Has.made _ _ _, HO.out.below ((Below.refl _ _).alloc (Nat.le_refl _) _), below_alloc HB2.out (Nat.le_refl _) _⟩
end Go.Proofs.YtbpaepkcchpmbaaGreat
namespace Go.Proofs.YtbpaepkcchpmbaaGreat
open Go.RowKit
def PQ (O : Nat → Prop) (g : Nat) (bs : List Int) (xs : List Ac) (w : World) : Prop := ∃ bv F B fs bk, QuM O w g bs bv F B fs bk ∧ ordQ fs bk = xs
section
variable {O O' : Nat → Prop} {g : Nat} {bs : List Int} {xs ys : List Ac} {a : Ac} {w w' : World}
theorem PQ.same (h : PQ O g bs xs w) (hk : ∀ k, O k → w'.heap[k]? = w.heap[k]?) : PQ O g bs xs w' := by
  obtain ⟨bv, F, B, fs, bk, h1, h2⟩ := h
  exact ⟨bv, F, B, fs, bk, h1.same hk, h2⟩
theorem PQ.mono (h : PQ O g bs xs w) (ho : ∀ k, k < w.heap.size → O k → O' k) : PQ O' g bs xs w := by
  obtain ⟨bv, F, B, fs, bk, h1, h2⟩ := h
  exact ⟨bv, F, B, fs, bk, h1.mono ho, h2⟩
theorem PQ.below (h : PQ O g bs xs w) (hb : Below w.heap.size w w') : PQ O g bs xs w' := by
  obtain ⟨bv, F, B, fs, bk, h1, h2⟩ := h
  exact ⟨bv, F, B, fs, bk, h1.below hb, h2⟩
theorem ordQ_len {fs bk : List Pt} (h : ordQ fs bk = xs) : fs.length + bk.length = xs.length := by rw [← h]; simp [ordQ]
theorem PQ.len (h : PQ O g bs xs w) (hn : xs.length ≤ 65535) :
    Calls Tryz.prog 112 #[.pointer (some ⟨g, 0, none⟩)] w fun e w' => e = .returned (.int .i64 (xs.length : Nat)) ∧ ∃ k, w' = w.drewN k := by
  obtain ⟨bv, F, B, fs, bk, h1, rfl⟩ := h
  have := ordQ_len (xs := ordQ fs bk) rfl
  exact h1.len (by omega) (by omega)
theorem PQ.total (h : PQ O g bs xs w) (hJ : RowJ bs xs) (hn : xs.length ≤ 65535) :
    Calls Tryz.prog 142 #[.pointer (some ⟨g, 0, none⟩)] w (OutA (joinAc bs xs) w) := by
  obtain ⟨bv, F, B, fs, bk, h1, rfl⟩ := h
  have := ordQ_len (xs := ordQ fs bk) rfl
  exact h1.total hJ (by omega) (by omega)
def PoppedO (O : Nat → Prop) (g : Nat) (bs : List Int) (a : Ac) (ys : List Ac) (w : World) (e : Ending) (w' : World) : Prop :=
  ∃ h c, e = .returned (.tuple #[accV a (some ⟨h, 0, none⟩) a.h.length c, .int .i64 0]) ∧ OwnI w' 0 (.slice (some ⟨h, 0, none⟩) a.h.length c) a.h ∧ GrowO O w w' h ∧ ButO O w w' ∧ PQ (fun k => GrowO O w w' k ∧ k ≠ h) g bs ys w'
theorem PQ.pop (h : PQ O g bs (a :: ys) w) (hJ : RowJ bs (a :: ys)) (hn : (a :: ys).length ≤ 65535) :
    Calls Tryz.prog 145 #[.pointer (some ⟨g, 0, none⟩)] w (PoppedO O g bs a ys w) := by
  obtain ⟨bv, F, B, fs, bk, h1, h2⟩ := h
  have h3 := ordQ_len h2
  have key : ∀ e w', PopO O g bs bv a ys w e w' → PoppedO O g bs a ys w e w' := by
    rintro e w' ⟨h, c, k1, k2, k3, k4, F2, B2, fs2, bk2, k5, k6⟩
    exact ⟨h, c, k1, k2, k3, k4, bv, F2, B2, fs2, bk2, k5, k6⟩
  cases fs with
  | nil =>
    have h4 : (bk.map (·.a)).reverse = a :: ys := by simpa [ordQ] using h2
    exact (qpop_back h1 (h4 ▸ hJ) h4 (by simp at h3 hn; omega)).mono key
  | cons p fs =>
    have h4 : p.a = a ∧ ordQ fs bk = ys := by simpa [ordQ] using h2
    obtain ⟨rfl, rfl⟩ := h4
    exact (qpop_front h1 (by simp at h3 hn; omega) (by simp at h3 hn; omega)).mono key
def PushPQ (O : Nat → Prop) (g : Nat) (bs : List Int) (xs : List Ac) (w w' : World) : Prop := ButO O w w' ∧ PQ (GrowO O w w') g bs xs w'
theorem PQ.push {A : Option Addr} {k c : Nat} (h : PQ O g bs xs w) (hn : xs.length ≤ 65535) (ha : Ints w A k a.h) (hk : k ≤ c) (hc : c ≤ maxLen) (hJ2 : RowJ bs (xs ++ [a])) :
    Calls Tryz.prog 188 #[.pointer (some ⟨g, 0, none⟩), .agg (accC a A k c)] w fun e w' => e = .returned (.int .i64 0) ∧ PushPQ O g bs (xs ++ [a]) w w' := by
  have hJ := RowJ.left hJ2
  have ht := fun w' hb => (h.below (w' := w') hb).total hJ hn
  obtain ⟨bv, F, B, fs, bk, h1, rfl⟩ := h
  have hlen := ordQ_len (xs := ordQ fs bk) rfl
  obtain ⟨bA, d, FA, fc, BA, bc, e1, e2, e3⟩ := h1.forms
  have hal : a.h.length = bs.length + 1 := hJ2.acLen (by simp)
  have h8 := (boundsB_true hJ.bd).1
  have hT := joinAc_hl hJ
  have hJr : RowJ bs ((bk.map (·.a)).reverse ++ [a]) := by
    have : RowJ bs (fs.map (·.a) ++ ((bk.map (·.a)).reverse ++ [a])) := by rw [← List.append_assoc]; exact hJ2
    exact RowJ.right this
  have hJb := RowJ.left hJr
  have hW := joinAc_hl hJb
  have hpair := (RowJ.snoc_iff hJ).2 hJ2
  have hpair2 := (RowJ.snoc_iff hJb).2 hJr
  have hka : k = a.h.length := ha.1.symm
  have hst := h1.st
  have hba := h1.ba
  have hbd := h1.bd
  have hq := fun w' (e : Nat) hb hx => h1.joinQ hpair2 (w' := w') hb (A := some ⟨e, 0, none⟩) (n := 2) (c := 2) hx (by omega)
  rw [RowJ.snoc hJr] at hq
  have h2 := fun w' hb => h1.tog2 hJ.bd (by omega) (w' := w') hb
  rw [topV_dn h1.dn, e3] at h2
  rw [e1, e2, e3] at hst
  rw [e3] at hba
  rw [e1] at hbd
  refine (qpush_ok (U := joinAc bs [joinAc bs (ordQ fs bk), a]) hst ha hk hc (by omega) (by omega) hT.2 hW.2 ht (fun w' e hb hx => ?_) h2 hq hba (by simp; omega)).mono ?_
  · refine (join_ok bA bs.length d bs (some ⟨e, 0, none⟩) 2 2 _ w' (bd_ints hbd hb) hx (by omega) hpair.bd hpair.tog hpair.tot).mono ?_
    rintro e2 w2 ⟨H, _, rfl, _, hb2⟩
    exact ⟨_, _, _, rfl, hb2⟩
  · rintro e w2 ⟨rfl, hk2, c', H, w1, k1, k2, k3, k4, k5⟩
    refine ⟨rfl, ?_⟩
    have hlo : w.heap.size ≤ hk2 := by
      have := k2.new _ rfl
      exact this
    rw [← e1, ← e2, ← e3] at k5
    have hNP : NewP w bs bv fs bk ⟨a, hk2, c', joinAc bs ((bk.map (·.a)).reverse ++ [a]), H⟩ w1 := ⟨k1, k2.mono (Nat.zero_le _), k3, fun p hp => by
      obtain ⟨cur, hh⟩ := h1.oneHas hp
      have x1 := hh.lt
      have x2 := (h1.all p hp).lt
      exact ⟨by show hk2 ≠ _; omega, by show hk2 ≠ _; omega⟩, fun e => by
      obtain ⟨cur, hh⟩ := h1.bd.has e
      have x1 : hk2 < _ := hh.lt
      omega, k4, by show w.heap.size ≤ H; omega⟩
    obtain ⟨⟨B', q1⟩, q2⟩ := h1.putB hNP rfl k5
    refine ⟨q2, bv, F, B', fs, _, q1.mono fun j hj ho => ?_, by simp [ordQ]⟩
    rcases ho with ho | rfl | ho
    · exact .inl ho
    · exact .inr ⟨hlo, hj⟩
    · exact .inr ho
theorem pq_new {e : Ending} (h : NewQ QT (fun bv => #[bv, .slice none 0 0, .slice none 0 0]) bs w e w') : ∃ g, e = .returned (.tuple #[.pointer (some ⟨g, 0, none⟩), .int .i64 0]) ∧ PQ (fun k => w.heap.size ≤ k ∧ k < w'.heap.size) g bs [] w' ∧ Below w.heap.size w w' := by
  obtain ⟨g, A, c, rfl, h1, h2, h3, h4⟩ := h
  refine ⟨g, rfl, ⟨.slice A bs.length c, .slice none 0 0, .slice none 0 0, [], [], ⟨h2, h3.mono (Nat.zero_le _), OwnP.nil _, OwnP.nil _, (fun p hp => by cases hp), (fun p hp => by cases hp), ⟨h1, h2.lt⟩, fun k e => ?_, (fun k e => by simp [Value.ownBlock] at e), (fun k e => by simp [Value.ownBlock] at e), (fun p hp => by cases hp), (fun k e => by simp [Value.ownBlock] at e), by simp, (fun p hp => by cases hp), (fun p hp => by cases hp), trivial, trivial⟩, rfl⟩, h4⟩
  obtain ⟨cur, hh⟩ := h3.has e
  refine ⟨?_, hh.lt⟩
  cases A with
  | none => simp [Value.ownBlock] at e
  | some ad =>
    have := h3.new ad rfl
    simp [Value.ownBlock] at e
    omega
end
end Go.Proofs.YtbpaepkcchpmbaaGreat
namespace Go.Proofs.YtbpaepkcchpmbaaGreat
open Go.RowKit
theorem lane_self {cur : Array Value} {lo : Nat} {r : Lr} (hc : LnC cur lo r) : laneA cur lo r.a r.b = cur := by
  refine Array.ext (laneA_size _ _ _ _) fun i h1 h2 => ?_
  rw [← Option.some_inj, ← Array.getElem?_eq_getElem, ← Array.getElem?_eq_getElem]
  by_cases h9 : i = lo + 9
  · subst h9; exact ((hc.put r.a r.b).c9).trans hc.c9.symm
  · by_cases h10 : i = lo + 10
    · subst h10; exact ((hc.put r.a r.b).c10).trans hc.c10.symm
    · exact laneA_other h9 h10
theorem lane_twice (cur : Array Value) (lo : Nat) (a b c d : Int) : laneA (laneA cur lo a b) lo c d = laneA cur lo c d := by
  unfold laneA
  rw [Array.setIfInBounds_comm _ _ (show lo + 10 ≠ lo + 9 by omega), Array.setIfInBounds_setIfInBounds, Array.setIfInBounds_setIfInBounds]
theorem store_lns {ops : Array Oper} {rest : List Oper} {op : Oper} {a : Act} {w : World} {Q : Exit → Act → World → Prop} (hgd : op.guard = none) (x y : Operand) (ho : op.op = .store 67 x y)
    (L lo : Nat) (u v : Int) {cur : Array Value} {r : Lr} (hx : a.eval x = .pointer (some ⟨L, lo + 9, none⟩)) (hy : a.eval y = .agg #[.int .i64 u, .int .i64 v]) (hw : Has w L LT cur) (hc : LnC cur lo r)
    (h : ∀ w', Has w' L LT (laneA cur lo u v) → ButS [L] w w' → wpList Tryz.prog ops Q rest (a.put op.dst undef) w') : wpList Tryz.prog ops Q (op :: rest) a w := by
  have hs : lo + 10 < cur.size := (Array.getElem?_eq_some_iff.1 hc.c10).1
  refine wpList_store_mid hgd 67 x y ho L (lo + 9) _ hx hy (fun j hj => ⟨?_, hw.mark _⟩) Tryz.sizeSpan (by simp [Value.oneCell']) (h _ ?_ ?_)
  · rw [hw.cell, Array.getElem?_eq_getElem (by have : j < 2 := hj; omega)]; rfl
  · exact (hw.put (lo + 9) _).put (lo + 10) _
  · exact (setCell_butS1 w L (lo + 9) _).trans (setCell_butS1 _ L (lo + 10) _)
theorem Ints.butL {gs : List Nat} {w w' : World} {A : Option Addr} {n : Nat} {xs : List Int} (h : Ints w A n xs) (hb : ButS gs w w') (hne : ∀ ad, A = some ad → ad.block ∉ gs) : Ints w' A n xs :=
  ⟨h.1, fun hn => by
    obtain ⟨b, o, rfl, hi⟩ := h.2 hn
    refine ⟨b, o, rfl, fun k hk => ?_⟩
    have hc := hi k hk
    rw [← hc]
    exact World.cell?_of_block (w := w) (w' := w') (a := ⟨b, o + k, none⟩) (hb.other b (block_lt_of_cell hc) (hne _ rfl))⟩
structure LnPuS (w : World) (L lo : Nat) (cur : Array Value) (y : It) (a b : Int) (wx : World) : Prop where
  lw : Has wx L LT (laneA cur lo a b)
  bx : Has wx w.heap.size 61 (itA y)
  kp : ButS [L] w wx
theorem LnPuS.below {w wx wy : World} {L lo : Nat} {cur : Array Value} {y : It} {a b : Int} (h : LnPuS w L lo cur y a b wx) (hb : Below wx.heap.size wx wy) : LnPuS w L lo cur y a b wy := ⟨h.lw.below hb h.lw.lt, h.bx.below hb h.bx.lt, h.kp.trans (below_butS hb _)⟩
theorem PQ.but {O : Nat → Prop} {g : Nat} {bs : List Int} {xs : List Ac} {w w' : World} {L : Nat} (h : PQ O g bs xs w) (hb : ButS [L] w w') (hO : ¬ O L) : PQ (fun k => O k ∧ k < w.heap.size) g bs xs w' :=
  (h.mono fun k hk ho => ⟨ho, hk⟩).same fun k hk => hb.other k hk.2 (fun e => hO (by simp at e; exact e ▸ hk.1))
theorem lane_end (cur : Array Value) (lo : Nat) (a b c : Int) : (laneA cur lo a b).setIfInBounds (lo + 10) (.int .i64 c) = laneA cur lo a c := by
  unfold laneA
  rw [Array.setIfInBounds_setIfInBounds]
theorem push_end {O : Nat → Prop} {L H : Nat} {g : Nat} {bs : List Int} {xs : List Ac} {u : Ac} {w w7 w8 : World} {cu : Array Value} (hp : PQ O g bs xs w) (hO : ¬ O L) (hn : xs.length ≤ 65535) (hJ : RowJ bs (xs ++ [u])) (hm : bs.length ≤ 8)
    (hk : ButS [L] w w7) (hl : Has w7 L LT cu) (hi : Has w7 H 3 (ints u.h)) (hb : Below w7.heap.size w7 w8) :
    Calls Tryz.prog 188 #[.pointer (some ⟨g, 0, none⟩), .agg (accC u (some ⟨H, 0, none⟩) u.h.length u.h.length)] w8 fun e w' => e = .returned (.int .i64 0) ∧
      Has w' L LT cu ∧ PQ (GrowO O w w') g bs (xs ++ [u]) w' ∧ ButO (fun k => O k ∨ k = L) w w' := by
  have hk8 := hk.trans (below_butS hb [L])
  have hs := hk8.size
  have hl8 := hl.below hb hl.lt
  have hu := (hJ.parts u (by simp)).len
  have hO8 : ¬ (O L ∧ L < w.heap.size) := fun e => hO e.1
  refine ((hp.but hk8 hO).push hn (ints_of_has (hi.below hb hi.lt) rfl) (Nat.le_refl _) (by unfold maxLen; omega) hJ).mono fun e w' h => ⟨h.1, hl8.butO h.2.1 hO8, h.2.2.mono fun k _ ho => ?_, ?_⟩
  · rcases ho with ho | ho
    · exact .inl ho.1
    · exact .inr ⟨by omega, ho.2⟩
  · exact (butS_butO hk8 (O := fun k => O k ∨ k = L) (fun k hk => .inr (by simpa using hk))).andThen h.2.1 fun k ho _ => .inl ho.1
def first1 (n : Nat) (q : Qu) (t a b : Int) : Int × Int := if n = 0 then firstQ q.kind q.size q.slide t else (a, b)
def first2 (n : Nat) (q : Qu) (t a b : Int) : Int × Int := if q.kind = 2 then ((first1 n q t a b).1, t + q.size) else first1 n q t a b
theorem first2_push (q : Qu) (l : Ln) (x : It) : ((l.push q.kind q.size q.slide x).a, (l.push q.kind q.size q.slide x).b) = first2 l.its.length q x.t l.a l.b := by
  unfold Ln.push first2 first1
  by_cases h : q.kind = 2
  · rw [if_pos h, if_pos h]
    by_cases h0 : l.its.length = 0
    · simp only [if_pos h0]
    · simp only [if_neg h0]
  · rw [if_neg h, if_neg h]
    by_cases h0 : l.its.length = 0
    · simp only [if_pos h0]
    · simp only [if_neg h0]
set_option maxRecDepth 100000 in
set_option maxHeartbeats 4000000 in
theorem lpush_any (O : Nat → Prop) (L lo : Nat) (cur : Array Value) (r : Lr) (xs : List Ac) (y : It) (w : World) (hw : Has w L LT cur) (hc : LnC cur lo r) (hp : PQ O r.g r.q.bs xs w) (hO : ¬ O L) (hn : xs.length ≤ 65535)
    (hb : Ints w r.B r.q.bs.length r.q.bs) (hfar : ∀ ad, r.B = some ad → ad.block ≠ L ∧ ¬ O ad.block) (hq : mayQ r.q.kind r.q.agg r.q.size r.q.slide r.q.bs r.q.rank = true) (hy : itemB y = true) (hJ : RowJ r.q.bs (xs ++ [oneAc y r.q.bs])) :
    Calls Tryz.prog 141 #[.pointer (some ⟨L, lo, none⟩), .agg #[.int .i64 y.s, .int .i64 y.t, .int .i64 y.q, .int .i64 y.v]] w fun e w' => e = .returned (.tuple #[]) ∧
      Has w' L LT (laneA cur lo (first2 xs.length r.q y.t r.a r.b).1 (first2 xs.length r.q y.t r.a r.b).2) ∧ PQ (GrowO O w w') r.g r.q.bs (xs ++ [oneAc y r.q.bs]) w' ∧ ButO (fun k => O k ∨ k = L) w w' := by
  have HAL : Hid (∀ ob, Below w.heap.size w (w.alloc ob)) := fun ob => (Below.refl _ _).alloc (Nat.le_refl _) ob
  have HW := Lib.hid hw
  have HC := Lib.hid hc
  have HP := Lib.hid hp
  have HO := Lib.hid hO
  have HN := Lib.hid hn
  have HIB := Lib.hid hb
  have HFAR := Lib.hid hfar
  have HQ := Lib.hid hq
  have HY := Lib.hid hy
  have HJ := Lib.hid hJ
  have HL : Hid (∀ ob, Calls Tryz.prog 112 #[.pointer (some ⟨r.g, 0, none⟩)] (w.alloc ob) fun e w' => e = .returned (.int .i64 (xs.length : Nat)) ∧ ∃ k, w' = (w.alloc ob).drewN k) := fun ob => (hp.below (HAL.out ob)).len hn
  have c8 : ∀ ob, (w.alloc ob).cell? ⟨L, lo + 8, none⟩ = some (.pointer (some ⟨r.g, 0, none⟩)) := fun ob => ((hw.alloc ob).cell _).trans hc.c8
  clear hw hc hp hO hn hb hfar hq hy hJ
  generalize hN : xs.length = N at HL HN ⊢
  go_enter Tryz.func141, Tryz.ntmps141
  go_wp2_with fail
  refine (HL.out _).mono ?_
  rintro e w2 ⟨rfl, k2, hk2⟩
  have S0 : Hid (LnPuS w L lo cur y r.a r.b w2) := by
    rw [hk2]
    exact ⟨by rw [lane_self HC.out]; exact (HW.out.alloc _).drewN _, (Has.made w _ _).drewN _, (below_butS (HAL.out _) [L]).trans (below_butS (below_drewN (Below.refl _ _) k2) _)⟩
  clear hk2 HL c8
  go_upto_if 11 with fail
  have HL1 : Hid (ButS [L] w w2 → Ints w2 r.B r.q.bs.length r.q.bs) := fun h => HIB.out.butL h fun ad e => by simp; exact (HFAR.out ad e).1
  have HT : Hid (wi y.t (-1099511627776) 1099511627776 = true) := by
    have := HY.out
    unfold itemB at this
    simp only [Bool.and_eq_true] at this
    exact this.2.1
  have HM : Hid (r.q.bs.length ≤ 8) := (boundsB_true HJ.out.bd).1
  go_cut [] (fun wx => Hid (LnPuS w L lo cur y (first1 N r.q y.t r.a r.b).1 (first1 N r.q y.t r.a r.b).2 wx))
  case first =>
    by_cases h0 : N = 0
    · have hN0 : ((N : Int) == 0) = true := by simp [h0]
      have HF1 : Hid (first1 N r.q y.t r.a r.b = firstQ r.q.kind r.q.size r.q.slide y.t) := Lib.hid (by unfold first1; rw [if_pos h0])
      have HLF : Hid (∀ w', Below w2.heap.size w2 w' → _) := Lib.hid fun w' hb => afirst_any LT L lo _ (r.nx r.a r.b) y.t w' (S0.out.lw.below hb S0.out.lw.lt) (HC.out.put r.a r.b) ((HL1.out S0.out.kp).below hb) HQ.out HT.out (by have := HM.out; show r.q.bs.length ≤ maxLen; unfold maxLen; omega)
      go_upto_region 2 with fail
      refine lpu2_any (T0 := LT) (L := L) (lo := lo) (cur := laneA cur lo r.a r.b) (r := r.nx r.a r.b) (x := w.heap.size) (y := y) (sa := (firstQ r.q.kind r.q.size r.q.slide y.t).1) (sb := (firstQ r.q.kind r.q.size r.q.slide y.t).2) ⟨rfl, rfl, rfl, S0.out.lw, HC.out.put r.a r.b, S0.out.bx, HLF.out⟩ (by kernel_rfl) ?_
      intro w3 b3
      simp only [putAll, Act.put, List.setIfInBounds_toArray, List.set_cons_succ, List.set_cons_zero, List.drop_succ_cons, List.drop_zero]
      have S3 := Lib.hid (S0.out.below b3)
      clear b3 HLF
      go_wp2_with (refine store_lns rfl _ _ rfl L lo _ _ rfl rfl S3.out.lw (HC.out.put r.a r.b) ?_; intro w4 h4 b4)
      go_meet
      case rel =>
        rw [HF1.out]
        rw [lane_twice] at h4
        exact ⟨h4, S3.out.bx.butS b4 (fun e => has_types S3.out.lw (by simp at e; exact e ▸ S3.out.bx) (by decide)), S3.out.kp.trans b4⟩
    · have hN0 : ((N : Int) == 0) = false := by simp; omega
      have HF1 : Hid (first1 N r.q y.t r.a r.b = (r.a, r.b)) := Lib.hid (by unfold first1; rw [if_neg h0])
      go_wp2_with fail
      go_meet
      case rel => rw [HF1.out]; exact S0
  case rest =>
    clear S0 HL1
    have HF2 : Hid (first2 N r.q y.t r.a r.b = if r.q.kind = 2 then ((first1 N r.q y.t r.a r.b).1, y.t + r.q.size) else first1 N r.q y.t r.a r.b) := rfl
    have HZ : Hid (1 ≤ r.q.size ∧ r.q.size ≤ 1073741824) := by
      obtain ⟨_, _, h3, h4, _⟩ := stepQ_bd HQ.out
      exact Lib.hid ⟨h3, h4⟩
    generalize first1 N r.q y.t r.a r.b = p at hcut HF2
    have c1 : wc.cell? ⟨L, lo, none⟩ = some (.int .i64 r.q.kind) := (hcut.out.lw.cell _).trans (HC.out.put p.1 p.2).c0
    have HS1 := hcut
    clear hcut
    go_upto_if 27 with fail
    go_cut [] (fun wx => Hid (LnPuS w L lo cur y (first2 N r.q y.t r.a r.b).1 (first2 N r.q y.t r.a r.b).2 wx))
    case first =>
      by_cases hk : r.q.kind = 2
      · have hk2 : (r.q.kind == 2) = true := by simp [hk]
        rw [if_pos hk] at HF2
        have ht := wi_true HT.out
        have hz := HZ.out
        go_upto_region 4 with fail
        refine lpu4_any (T0 := LT) (L := L) (lo := lo) (cur := laneA cur lo p.1 p.2) (r := r.nx p.1 p.2) (x := w.heap.size) (y := y) ⟨rfl, rfl, rfl, HS1.out.lw, HC.out.put p.1 p.2, HS1.out.bx, by show _ ≤ y.t + r.q.size ∧ y.t + r.q.size ≤ _; omega⟩ (by kernel_rfl) ?_
        intro w4 hB4
        simp only [putAll, Act.put, List.setIfInBounds_toArray, List.set_cons_succ, List.set_cons_zero, List.drop_succ_cons, List.drop_zero]
        have S4 := Lib.hid (HS1.out.below hB4)
        clear hB4
        go_wp2_with (refine store_ln rfl _ _ rfl L (lo + 10) _ rfl rfl S4.out.lw (by rw [laneA_size]; exact (Array.getElem?_eq_some_iff.1 HC.out.c10).1) ?_; intro w5 h5 b5)
        go_meet
        case rel =>
          rw [HF2.out]
          rw [lane_end] at h5
          exact ⟨h5, S4.out.bx.butS b5 (fun e => has_types S4.out.lw (by simp at e; exact e ▸ S4.out.bx) (by decide)), S4.out.kp.trans b5⟩
      · have hk2 : (r.q.kind == 2) = false := by simp [hk]
        rw [if_neg hk] at HF2
        go_wp2_with fail
        go_meet
        case rel => rw [HF2.out]; exact HS1
    case rest =>
    clear HF2 HS1 c1
    generalize hpe : first2 N r.q y.t r.a r.b = p at hcut
    go_upto_region 5 with fail
    refine lpu5_any (T0 := LT) (L := L) (lo := lo) (cur := laneA cur lo p.1 p.2) (r := r.nx p.1 p.2) (x := w.heap.size) (z := w.heap.size) (y := y) ⟨rfl, rfl, rfl, hcut.out.lw, HC.out.put p.1 p.2, hcut.out.kp.size, hcut.out.bx, HIB.out.butL hcut.out.kp fun ad e => (by simp; exact (HFAR.out ad e).1), HY.out, HJ.out.bd⟩ (by kernel_rfl) ?_ ?_
    · intro H44 H37 H45 y4 w6 hB6 p44 p37 p45 p4
      simp only [putAll, Act.put, List.setIfInBounds_toArray, List.set_cons_succ, List.set_cons_zero, List.drop_succ_cons, List.drop_zero]
      have S6 := Lib.hid (hcut.out.below hB6)
      have HI6 := Lib.hid p45
      have HY6 := Lib.hid p4
      clear p44 p37 p45 p4 hB6
      refine store_has rfl _ _ rfl y4 (ac := oneAc y r.q.bs) (A := some ⟨H45, 0, none⟩) (k := (oneAc y r.q.bs).h.length) (c := (oneAc y r.q.bs).h.length) rfl rfl HY6.out.1 rfl ?_
      have HY7 := Lib.hid (HY6.out.1.row (accC (oneAc y r.q.bs) (some ⟨H45, 0, none⟩) (oneAc y r.q.bs).h.length (oneAc y r.q.bs).h.length))
      have HI7 := Lib.hid (HI6.out.rowFar (fun e => has_types (e ▸ HI6.out) HY6.out.1 (by decide)) (accC (oneAc y r.q.bs) (some ⟨H45, 0, none⟩) (oneAc y r.q.bs).h.length (oneAc y r.q.bs).h.length))
      have HL7 := Lib.hid (S6.out.lw.rowFar (fun e => has_types (e ▸ S6.out.lw) HY6.out.1 (by decide)) (accC (oneAc y r.q.bs) (some ⟨H45, 0, none⟩) (oneAc y r.q.bs).h.length (oneAc y r.q.bs).h.length))
      have HK7 := Lib.hid (butS_row S6.out.kp (g := y4) HY6.out.2 (accC (oneAc y r.q.bs) (some ⟨H45, 0, none⟩) (oneAc y r.q.bs).h.length (oneAc y r.q.bs).h.length))
      generalize w6.setRow y4 (accC (oneAc y r.q.bs) (some ⟨H45, 0, none⟩) (oneAc y r.q.bs).h.length (oneAc y r.q.bs).h.length) = w7 at HY7 HI7 HL7 HK7 ⊢
      clear S6 HI6 HY6
      go_upto_region 6 with fail
      refine lpu6_any (T0 := LT) (L := L) (lo := lo) (cur := laneA cur lo p.1 p.2) (r := r.nx p.1 p.2) (y := y4) (H := H45) (u := oneAc y r.q.bs) ⟨rfl, rfl, rfl, HL7.out, HC.out.put p.1 p.2, HY7.out⟩ (by kernel_rfl) ?_
      intro w8 hB8
      simp only [putAll, Act.put, List.setIfInBounds_toArray, List.set_cons_succ, List.set_cons_zero, List.drop_succ_cons, List.drop_zero]
      have HE := Lib.hid (push_end HP.out HO.out (by rw [hN]; exact HN.out) HJ.out HM.out HK7.out HL7.out HI7.out hB8)
      clear hB8
      go_wp2_with fail
      refine HE.out.mono ?_
      rintro e w9 ⟨rfl, k1, k2, k3⟩
      go_wp2_with fail
      refine Great.bodyPost_end0 rfl rfl ?_
      rw [hpe]
      exact ⟨rfl, k1, k2, k3⟩
    · intro H44 H37 H45 y4 w6 hB6 p44 p37 p45 p4
      simp only [putAll, Act.put, List.setIfInBounds_toArray, List.set_cons_succ, List.set_cons_zero, pickL, List.filterMap_cons, List.getElem?_cons_succ, List.getElem?_cons_zero, List.filterMap_nil]
      have S6 := Lib.hid (hcut.out.below hB6)
      have HI6 := Lib.hid p45
      have HY6 := Lib.hid p4
      clear p44 p37 p45 p4 hB6
      refine store_has rfl _ _ rfl y4 (ac := oneAc y r.q.bs) (A := some ⟨H45, 0, none⟩) (k := (oneAc y r.q.bs).h.length) (c := (oneAc y r.q.bs).h.length) rfl rfl HY6.out.1 rfl ?_
      have HY7 := Lib.hid (HY6.out.1.row (accC (oneAc y r.q.bs) (some ⟨H45, 0, none⟩) (oneAc y r.q.bs).h.length (oneAc y r.q.bs).h.length))
      have HI7 := Lib.hid (HI6.out.rowFar (fun e => has_types (e ▸ HI6.out) HY6.out.1 (by decide)) (accC (oneAc y r.q.bs) (some ⟨H45, 0, none⟩) (oneAc y r.q.bs).h.length (oneAc y r.q.bs).h.length))
      have HL7 := Lib.hid (S6.out.lw.rowFar (fun e => has_types (e ▸ S6.out.lw) HY6.out.1 (by decide)) (accC (oneAc y r.q.bs) (some ⟨H45, 0, none⟩) (oneAc y r.q.bs).h.length (oneAc y r.q.bs).h.length))
      have HK7 := Lib.hid (butS_row S6.out.kp (g := y4) HY6.out.2 (accC (oneAc y r.q.bs) (some ⟨H45, 0, none⟩) (oneAc y r.q.bs).h.length (oneAc y r.q.bs).h.length))
      generalize w6.setRow y4 (accC (oneAc y r.q.bs) (some ⟨H45, 0, none⟩) (oneAc y r.q.bs).h.length (oneAc y r.q.bs).h.length) = w7 at HY7 HI7 HL7 HK7 ⊢
      clear S6 HI6 HY6
      go_upto_region 6 with fail
      refine lpu6_any (T0 := LT) (L := L) (lo := lo) (cur := laneA cur lo p.1 p.2) (r := r.nx p.1 p.2) (y := y4) (H := H45) (u := oneAc y r.q.bs) ⟨rfl, rfl, rfl, HL7.out, HC.out.put p.1 p.2, HY7.out⟩ (by kernel_rfl) ?_
      intro w8 hB8
      simp only [putAll, Act.put, List.setIfInBounds_toArray, List.set_cons_succ, List.set_cons_zero, List.drop_succ_cons, List.drop_zero]
      have HE := Lib.hid (push_end HP.out HO.out (by rw [hN]; exact HN.out) HJ.out HM.out HK7.out HL7.out HI7.out hB8)
      clear hB8
      go_wp2_with fail
      refine HE.out.mono ?_
      rintro e w9 ⟨rfl, k1, k2, k3⟩
      go_wp2_with fail
      refine Great.bodyPost_end0 rfl rfl ?_
      rw [hpe]
      exact ⟨rfl, k1, k2, k3⟩
end Go.Proofs.YtbpaepkcchpmbaaGreat
