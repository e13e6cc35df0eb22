/-
  Walk: haveTwice.
  The program's tree: Insert.
-/
import Derived.Test.YtjgjbhbpndjnnaaG42
import Derived.Test.YtjgjbhbpndjnnaaG35
namespace Go.Proofs.Ytjgjbhbpndjnnaa
open Go.RowKit

/-- None stands alike with one that is there, nor two with one another. -/
def NewS (R xs : List It) : Prop := (∀ x, x ∈ xs → twinB R x = false) ∧ xs.Pairwise fun a b => ¬ (a.t = b.t ∧ a.q = b.q)
theorem NewS.perm {R xs ys : List It} (h : NewS R xs) (hp : ys.Perm xs) : NewS R ys :=
  ⟨fun x hx => h.1 x (hp.mem_iff.1 hx), (hp.pairwise_iff (fun hab e => hab ⟨e.1.symm, e.2.symm⟩)).2 h.2⟩
theorem NewS.of {R ys : List It} (h1 : StrS ys) (h2 : ∀ x, x ∈ ys → twinB R x = false) : NewS R ys :=
  ⟨h2, List.Pairwise.imp (fun hab e => by rw [lt2_iff] at hab; omega) h1⟩
open Classical in
noncomputable def twiceT (R xs : List It) : Bool := decide (¬ NewS R xs)
open Classical in
theorem twiceT_no {R xs : List It} (h : NewS R xs) : twiceT R xs = false := by
  unfold twiceT
  exact decide_eq_false (fun e => e h)
open Classical in
theorem twiceT_yes {R xs : List It} (h : ¬ NewS R xs) : twiceT R xs = true := by
  unfold twiceT
  exact decide_eq_true h
/-- What the loop knows ahead of round j. -/
def TwiD (R ys : List It) (j : Nat) : Prop := StrS (ys.take j) ∧ ∀ x, x ∈ ys.take j → twinB R x = false
theorem take_snoc {ys : List It} {j : Nat} (h : j < ys.length) : ys.take (j + 1) = ys.take j ++ [nthI ys j] := by
  rw [List.take_add_one, List.getElem?_eq_getElem h, nthI_elem h]
  rfl
theorem TwiD.zero (R ys : List It) : TwiD R ys 0 := ⟨List.Pairwise.nil, fun x hx => by cases hx⟩
theorem TwiD.first {R ys : List It} (h : 0 < ys.length) (h2 : twinB R (nthI ys 0) = false) : TwiD R ys 1 := by
  unfold TwiD
  rw [show ys.take 1 = [nthI ys 0] by rw [take_snoc h]; rfl]
  exact ⟨List.pairwise_singleton _ _, fun x hx => by simp at hx; exact hx ▸ h2⟩
theorem TwiD.next {R ys : List It} {k : Nat} (h : TwiD R ys (k + 1)) (hs : SrdB lt2 ys) (hl : k + 1 < ys.length) (h2 : twinB R (nthI ys (k + 1)) = false) (hz : ¬ cmpT (nthI ys k) (nthI ys (k + 1)) = 0) : TwiD R ys (k + 1 + 1) := by
  obtain ⟨a1, a2⟩ := h
  have hlt : lt2 (nthI ys k) (nthI ys (k + 1)) = true := by
    have h3 := (List.pairwise_iff_getElem.1 hs) k (k + 1) (by omega) hl (by omega)
    rw [← nthI_elem, ← nthI_elem, lt2_no] at h3
    rw [cmpT_zero] at hz
    rw [lt2_iff]
    omega
  have hlast : ∀ y, y ∈ ys.take (k + 1) → lt2 y (nthI ys (k + 1)) = true := fun y hy => by
    rw [take_snoc (by omega)] at hy a1
    rcases List.mem_append.1 hy with hy | hy
    · exact lt2_trans ((List.pairwise_append.1 a1).2.2 y hy _ (by simp)) hlt
    · simp at hy; exact hy ▸ hlt
  unfold TwiD
  rw [take_snoc hl]
  refine ⟨List.pairwise_append.2 ⟨a1, List.pairwise_singleton _ _, fun y hy z hz => by simp at hz; exact hz ▸ hlast y hy⟩, fun x hx => ?_⟩
  rcases List.mem_append.1 hx with hx | hx
  · exact a2 x hx
  · simp at hx; exact hx ▸ h2
theorem NewS.two {R ys : List It} (h : NewS R ys) {k : Nat} (hl : k + 1 < ys.length) : ¬ cmpT (nthI ys k) (nthI ys (k + 1)) = 0 := fun e => by
  have h3 := (List.pairwise_iff_getElem.1 h.2) k (k + 1) (by omega) hl (by omega)
  rw [← nthI_elem, ← nthI_elem] at h3
  exact h3 (cmpT_zero.1 e)

section
variable {P : Nat → Prop} {g m d : Nat} {A root : Option Addr} {bs : List Int} {w : World}
set_option maxRecDepth 100000 in
set_option maxHeartbeats 4000000 in
theorem ttwice_any (T : Tr) (hT : TBd P w g bs A m d T.ptr) (hA : T.At bs P w) (hS : StrS T.row) (C : Option Addr) (n c : Nat) (xs : List It) (hI : Items w C n xs) (hn : n ≤ 8192) :
    Calls Try.prog 60 #[.pointer (some ⟨g, 0, none⟩), .slice C n c] w fun e w' => e = .returned (.bool (twiceT T.row xs)) ∧ Below w.heap.size w w' := by
  have HH := Lib.hid (fun w' (hb : Below w.heap.size w w') x => thas_any bs P T x w' (hA.below hb) hS)
  have HST := Lib.hid (fun w' (hb : Below w.heap.size w w') => (hT.below hb).st)
  have HLX := Lib.hid hI.1
  have HB1 := Lib.hid ((Below.refl _ w).alloc (Nat.le_refl _) (.cells #[.slice C n c] 52))
  have HSO := Lib.hid (tsorted_any w.heap.size C n c xs hn (w.alloc (.cells #[.slice C n c] 52)) ((Has.made w 52 #[.slice C n c]).cell 0) (hI.below HB1.out))
  clear hT hA hS hI
  generalize T.row = R at HH ⊢
  generalize T.ptr = tp at HH HST
  generalize hβx : twiceT R xs = β
  have HBX := Lib.hid hβx
  clear hβx
  go_enter Try.func60, Try.ntmps60
  go_upto_region 2 with (first | (refine (tvals_any C n c w).mono ?_; rintro e w1 ⟨rfl, rfl⟩) | (refine HSO.out.mono ?_; clear HSO; rintro e w2 ⟨A2, n2, c2, ys, rfl, hp, hs, ho, hb⟩))
  have hB2 := HB1.out.trans (hb.mono (by simp))
  have hyl : ys.length = n2 := ho.len
  have hnn : n2 = n := by rw [← hyl, hp.length_eq, HLX.out]
  subst hnn
  have HP := Lib.hid hp
  have HS := Lib.hid hs
  have HO := Lib.hid ho
  have HB2 := Lib.hid hB2
  have HYL := Lib.hid hyl
  clear hp hs ho hb hB2 hyl HB1
  have HTW : Hid (β = twiceT R ys) := by
    show β = twiceT R ys
    rw [← HBX.out]
    by_cases h : NewS R ys
    · rw [twiceT_no h, twiceT_no (h.perm HP.out.symm)]
    · rw [twiceT_yes h, twiceT_yes (fun e => h (e.perm HP.out))]
  clear HBX HP HLX
  go_wp2_with fail
  go_loopw [13] (fun i wr => ∃ j : Nat, j ≤ n2 ∧ i = .int .i64 j ∧ Hid (TwiD R ys j) ∧ Hid (Below w2.heap.size w2 wr)) (fun i _ => n2 - (intOf i).toNat)
  case atStart => exact ⟨0, Nat.zero_le _, rfl, TwiD.zero _ _, Below.refl _ _⟩
  case round =>
    obtain ⟨j, hj, rfl, HD, HW⟩ := hrel
    by_cases hlt : j < n2
    · have hown := HO.out.belowT HW.out
      obtain ⟨b, rfl⟩ : ∃ b, A2 = some ⟨b, 0, none⟩ := by
        rcases HO.out.shape with ⟨_, h, _⟩ | h
        · omega
        · exact h
      have hx := hown.item hlt
      have HRW := Lib.hid (fun k (hk : k < n2) => hown.item hk)
      have hx0 : wr.cell? ⟨b, j * 4, none⟩ = some (.int .i64 (nthI ys j).s) := hx 0 _ rfl
      have hx1 : wr.cell? ⟨b, j * 4 + 1, none⟩ = some (.int .i64 (nthI ys j).t) := hx 1 _ rfl
      have hx2 : wr.cell? ⟨b, j * 4 + 2, none⟩ = some (.int .i64 (nthI ys j).q) := hx 2 _ rfl
      have hx3 : wr.cell? ⟨b, j * 4 + 3, none⟩ = some (.int .i64 (nthI ys j).v) := hx 3 _ rfl
      have HAW : Hid (∀ q : Array Value, Below wr.heap.size wr (wr.alloc (.cells q 23))) := fun q => (Below.refl _ _).alloc (Nat.le_refl _) _
      have HAL : Hid (∀ q : Array Value, Below w2.heap.size w2 (wr.alloc (.cells q 23))) := fun q => HW.out.trans ((HAW.out q).mono HW.out.size)
      have HMEM := Lib.hid (show nthI ys j ∈ ys from nthI_in (by rw [HYL.out]; exact hlt))
      clear hown hx
      generalize hX : nthI ys j = X at hx0 hx1 hx2 hx3 HMEM
      have HX := Lib.hid hX
      clear hX
      go_upto_region 5 with fail
      cases htw : twinB R X with
      | true =>
        have hβ : twiceT R ys = true := twiceT_yes fun e => by have := e.1 X HMEM.out; rw [htw] at this; cases this
        refine thh_any (g := g) (y := wr.heap.size) (m := m) (d := d) (b := b) (n := n2) (c := c2) (A := A) (root := tp) (iq := j) (x := X) ⟨rfl, rfl, rfl, HST.out _ (HB2.out.trans ((HAL.out _).mono HB2.out.size)), Has.made _ _ _, fun w' hb => htw ▸ HH.out w' ((HB2.out.trans ((HAL.out _).mono HB2.out.size)).trans (hb.mono (by have := HB2.out.size; have := HW.out.size; simp; omega))) X⟩ (by kernel_rfl) ?_
        intro w4 hB4
        have HW4 := Lib.hid ((HAL.out _).trans (hB4.mono (by have := HW.out.size; simp; omega)))
        clear hB4 HD HW HAL HMEM hx0 hx1 hx2 hx3 HH HST HRW HX HAW
        have hβ2 : β = true := HTW.out.trans hβ
        clear hβ htw HTW
        subst hβ2
        simp only [putAll, Act.put, List.setIfInBounds_toArray, List.set_cons_succ, List.set_cons_zero]
        go_wp2_with fail
        go_ret
        exact ⟨rfl, HB2.out.trans (HW4.out.mono HB2.out.size)⟩
      | false =>
        cases j with
        | zero =>
          have hz : decide ((0 : Int) < ((0 : Nat) : Int)) = false := by decide
          refine thz_any (g := g) (y := wr.heap.size) (m := m) (d := d) (b := b) (n := n2) (c := c2) (A := A) (root := tp) (iq := ((0 : Nat) : Int)) (x := X) ⟨rfl, rfl, rfl, rfl, HST.out _ (HB2.out.trans ((HAL.out _).mono HB2.out.size)), Has.made _ _ _, fun w' hb => htw ▸ HH.out w' ((HB2.out.trans ((HAL.out _).mono HB2.out.size)).trans (hb.mono (by have := HB2.out.size; have := HW.out.size; simp; omega))) X, hz⟩ (by kernel_rfl) ?_
          intro w4 hB4
          have HW4 := Lib.hid ((HAL.out _).trans (hB4.mono (by have := HW.out.size; simp; omega)))
          have HD2 : Hid (TwiD R ys 1) := TwiD.first (by rw [HYL.out]; exact hlt) (by rw [HX.out]; exact htw)
          clear hB4 HD HW HAL HMEM hx0 hx1 hx2 hx3 HRW HX HAW htw hz
          simp only [putAll, Act.put, List.setIfInBounds_toArray, List.set_cons_succ, List.set_cons_zero]
          go_wp2_with fail
          go_roundw
          case rel => exact ⟨1, by omega, by go_num, HD2, HW4⟩
          case measure => simp [intOf]; omega
        | succ k =>
          have hz : decide ((0 : Int) < ((k + 1 : Nat) : Int)) = true := decide_eq_true (by omega)
          have HRK := Lib.hid (rangeAt_keep (HRW.out k (by omega)) (by simp [itemL]) fun _ hp => (HAW.out #[.int .i64 X.s, .int .i64 X.t, .int .i64 X.q, .int .i64 X.v]).cell hp)
          generalize hV : nthI ys k = V at HRK
          have HV := Lib.hid hV
          clear hV
          by_cases hc0 : cmpT V X = 0
          · have hβ : twiceT R ys = true := twiceT_yes fun e => by
              have := e.two (k := k) (by rw [HYL.out]; exact hlt)
              rw [HV.out, HX.out] at this
              exact this hc0
            refine thp_any (g := g) (y := wr.heap.size) (m := m) (d := d) (b := b) (n := n2) (c := c2) (A := A) (root := tp) (iq := ((k + 1 : Nat) : Int)) (x := X) (k := k) (v := V) (β := true) ⟨rfl, rfl, rfl, rfl, rfl, HST.out _ (HB2.out.trans ((HAL.out _).mono HB2.out.size)), Has.made _ _ _, fun w' hb => htw ▸ HH.out w' ((HB2.out.trans ((HAL.out _).mono HB2.out.size)).trans (hb.mono (by have := HB2.out.size; have := HW.out.size; simp; omega))) X, hz, by omega, by omega, hn, HRK.out, decide_eq_true hc0⟩ (by kernel_rfl) ?_
            intro w4 hB4
            have HW4 := Lib.hid ((HAL.out _).trans (hB4.mono (by have := HW.out.size; simp; omega)))
            clear hB4 HD HW HAL HMEM hx0 hx1 hx2 hx3 HH HST HRW HX HAW HRK HV hz
            have hβ2 : β = true := HTW.out.trans hβ
            clear hβ htw hc0 HTW
            subst hβ2
            simp only [putAll, Act.put, List.setIfInBounds_toArray, List.set_cons_succ, List.set_cons_zero]
            go_wp2_with fail
            go_ret
            exact ⟨rfl, HB2.out.trans (HW4.out.mono HB2.out.size)⟩
          · refine thp_any (g := g) (y := wr.heap.size) (m := m) (d := d) (b := b) (n := n2) (c := c2) (A := A) (root := tp) (iq := ((k + 1 : Nat) : Int)) (x := X) (k := k) (v := V) (β := false) ⟨rfl, rfl, rfl, rfl, rfl, HST.out _ (HB2.out.trans ((HAL.out _).mono HB2.out.size)), Has.made _ _ _, fun w' hb => htw ▸ HH.out w' ((HB2.out.trans ((HAL.out _).mono HB2.out.size)).trans (hb.mono (by have := HB2.out.size; have := HW.out.size; simp; omega))) X, hz, by omega, by omega, hn, HRK.out, decide_eq_false hc0⟩ (by kernel_rfl) ?_
            intro w4 hB4
            have HW4 := Lib.hid ((HAL.out _).trans (hB4.mono (by have := HW.out.size; simp; omega)))
            have HD2 : Hid (TwiD R ys (k + 1 + 1)) := HD.out.next HS.out (by rw [HYL.out]; exact hlt) (by rw [HX.out]; exact htw) (by rw [HV.out, HX.out]; exact hc0)
            clear hB4 HD HW HAL HMEM hx0 hx1 hx2 hx3 HRW HX HAW HRK HV hz htw hc0
            simp only [putAll, Act.put, List.setIfInBounds_toArray, List.set_cons_succ, List.set_cons_zero]
            go_wp2_with fail
            go_roundw
            case rel => exact ⟨k + 1 + 1, by omega, by go_num, HD2, HW4⟩
            case measure => simp [intOf]; omega
    · have hjn : j = n2 := by omega
      subst hjn
      have hβ : twiceT R ys = false := twiceT_no (by
        have h := HD.out
        unfold TwiD at h
        rw [List.take_of_length_le (by rw [HYL.out]; exact Nat.le_refl _)] at h
        exact NewS.of h.1 h.2)
      have hβ2 : β = false := HTW.out.trans hβ
      clear hβ HD HH HST HTW
      subst hβ2
      go_wp2_with fail
      go_ret
      exact ⟨rfl, HB2.out.trans (HW.out.mono HB2.out.size)⟩
end

end Go.Proofs.Ytjgjbhbpndjnnaa

namespace Go.Proofs.Ytjgjbhbpndjnnaa
open Go.RowKit

/-- All of a row laid in, one by one. -/
def insAll (R xs : List It) : List It := xs.foldl (fun r x => insB lt2 x r) R
theorem insAll_snoc (R xs : List It) (x : It) : insAll R (xs ++ [x]) = insB lt2 x (insAll R xs) := by simp [insAll]
theorem insAll_perm (R xs : List It) : (insAll R xs).Perm (R ++ xs) := by
  have : ∀ (xs R : List It), (insAll R xs).Perm (R ++ xs) := by
    intro xs
    induction xs with
    | nil => intro R; simp [insAll]
    | cons x r ih =>
      intro R
      have h := ih (insB lt2 x R)
      have h2 : (insB lt2 x R ++ r).Perm (R ++ x :: r) := ((insB_perm lt2 x R).append_right r).trans List.perm_middle.symm
      exact h.trans h2
  exact this xs R
theorem NewS.left {R xs ys : List It} (h : NewS R (xs ++ ys)) : NewS R xs := ⟨fun x hx => h.1 x (List.mem_append_left _ hx), (List.pairwise_append.1 h.2).1⟩
/-- The next one stands alike with none. -/
theorem NewS.next {R xs : List It} {x : It} (h : NewS R (xs ++ [x])) : twinB (insAll R xs) x = false := twinB_no.2 fun y hy => by
  rcases List.mem_append.1 ((insAll_perm R xs).mem_iff.1 hy) with hy | hy
  · exact twinB_no.1 (h.1 x (by simp)) y hy
  · exact (List.pairwise_append.1 h.2).2.2 y hy x (by simp)
theorem insAll_str {R : List It} (hR : StrS R) : ∀ {xs : List It}, NewS R xs → StrS (insAll R xs) := by
  intro xs
  obtain ⟨k, hk⟩ : ∃ k, xs.length = k := ⟨_, rfl⟩
  induction k generalizing xs with
  | zero => intro _; rw [List.length_eq_zero_iff.1 hk]; exact hR
  | succ k ih =>
    intro h
    obtain ⟨ys, y, rfl⟩ : ∃ ys y, xs = ys ++ [y] := ⟨xs.dropLast, xs.getLast (by intro e; rw [e] at hk; simp at hk), (List.dropLast_concat_getLast _).symm⟩
    rw [insAll_snoc]
    exact insB_str (ih (by simpa using hk) h.left) h.next
theorem insAll_its {bs : List Int} {R xs : List It} (h : ItsT bs (R ++ xs)) : ItsT bs (insAll R xs) := h.perm (insAll_perm R xs)

/-- Items that lie apart from g stay when g alone turns. -/
theorem items_keepG {w w' : World} {g n : Nat} {C : Option Addr} {xs : List It} (h : Items w C n xs) (hC : ∀ ad, C = some ad → ad.block ≠ g) (hb : ButS [g] w w') : Items w' C n xs :=
  ⟨h.1, fun hn => by
    obtain ⟨b, o, rfl, hi⟩ := h.2 hn
    refine ⟨b, o, rfl, fun i hlt j v hv => ?_⟩
    have h1 := hi i hlt j v hv
    have hlb := block_lt_of_cell h1
    have : w'.heap[b]? = w.heap[b]? := hb.other b hlb (by simpa using hC _ rfl)
    rw [← h1]
    simp only [World.cell?, this]⟩
/-- What an insertion leaves. -/
def InO (O : Nat → Prop) (g : Nat) (bs : List Int) (R : List It) (w w' : World) : Prop := ButS [g] w w' ∧ PTr (GrowT O w w') g bs R w'
section
variable {O : Nat → Prop} {g n c : Nat} {C : Option Addr} {bs : List Int} {R xs : List It} {w : World}
set_option maxRecDepth 100000 in
set_option maxHeartbeats 1000000 in
theorem PTr.insert_form (h : PTr O g bs R w) (hI : Items w C n xs) (hn : n ≤ 17592186044416) (hf : ¬ ItsT bs (R ++ xs)) :
    Calls Try.prog 27 #[.pointer (some ⟨g, 0, none⟩), .slice C n c] w fun e w' => e = .returned (.int .i64 1900) ∧ Below w.heap.size w w' := by
  obtain ⟨T, A, m, d, h1, h2, rfl, h4, h5⟩ := h
  have hf2 : fitT T.row xs = false := Bool.eq_false_iff.2 fun e => hf ((fitT_iff h5).1 e)
  have HF := Lib.hid (tfit_any T h1 h2 h5 C n c xs hI hn)
  rw [hf2] at HF
  clear h1 h2 h4 h5 hf hf2 hI
  go_enter Try.func27, Try.ntmps27
  go_wp2_with (refine HF.out.mono ?_; clear HF; rintro e w1 ⟨rfl, hb⟩)
  go_ret
  exact ⟨rfl, hb⟩
set_option maxRecDepth 100000 in
set_option maxHeartbeats 1000000 in
theorem PTr.insert_twice (h : PTr O g bs R w) (hI : Items w C n xs) (hf : ItsT bs (R ++ xs)) (ht : ¬ NewS R xs) :
    Calls Try.prog 27 #[.pointer (some ⟨g, 0, none⟩), .slice C n c] w fun e w' => e = .returned (.int .i64 1901) ∧ Below w.heap.size w w' := by
  obtain ⟨T, A, m, d, h1, h2, rfl, h4, h5⟩ := h
  have hn : n ≤ 8192 := by have := hf.le; rw [List.length_append, hI.1] at this; omega
  have HF := Lib.hid (tfit_any T h1 h2 h5 C n c xs hI (by omega))
  rw [(fitT_iff h5).2 hf] at HF
  have HW := Lib.hid (fun w' (hb : Below w.heap.size w w') => ttwice_any (P := O) (bs := bs) T (h1.below hb) (h2.below hb) h4 C n c xs (hI.below hb) hn)
  rw [twiceT_yes ht] at HW
  clear h1 h2 h4 h5 hf ht hI
  go_enter Try.func27, Try.ntmps27
  go_wp2_with (first | (refine HF.out.mono ?_; clear HF; rintro e w1 ⟨rfl, hb⟩) | (refine (HW.out _ hb).mono ?_; clear HW; rintro e w2 ⟨rfl, hb2⟩))
  go_ret
  exact ⟨rfl, hb.trans (hb2.mono hb.size)⟩

/-- In the midst of the inserting. -/
def InS (O : Nat → Prop) (w : World) (g : Nat) (bs : List Int) (A : Option Addr) (m d : Nat) (R xs : List It) (j : Nat) (wr : World) : Prop :=
  ∃ T : Tr, TBd (fun k => O k ∨ w.heap.size ≤ k) wr g bs A m d T.ptr ∧ T.At bs (fun k => O k ∨ w.heap.size ≤ k) wr ∧ T.row = insAll R (xs.take j) ∧ ButS [g] w wr
set_option maxRecDepth 100000 in
set_option maxHeartbeats 2000000 in
theorem PTr.insert (h : PTr O g bs R w) (hI : Items w C n xs) (hC : ∀ ad, C = some ad → ad.block ≠ g) (hf : ItsT bs (R ++ xs)) (ht : NewS R xs) :
    Calls Try.prog 27 #[.pointer (some ⟨g, 0, none⟩), .slice C n c] w fun e w' => e = .returned (.int .i64 0) ∧ InO O g bs (insAll R xs) w w' := by
  obtain ⟨T, A, m, d, h1, h2, rfl, h4, h5⟩ := h
  have hn : n ≤ 8192 := by have := hf.le; rw [List.length_append, hI.1] at this; omega
  have HF := Lib.hid (tfit_any T h1 h2 h5 C n c xs hI (by omega))
  rw [(fitT_iff h5).2 hf] at HF
  have HW := Lib.hid (fun w' (hb : Below w.heap.size w w') => ttwice_any (P := O) (bs := bs) T (h1.below hb) (h2.below hb) h4 C n c xs (hI.below hb) hn)
  rw [twiceT_no ht] at HW
  have HS0 : Hid (∀ w', Below w.heap.size w w' → InS O w g bs A m d T.row xs 0 w') := fun w' hb =>
    ⟨T, (h1.mono fun _ _ h => .inl h).below hb, (h2.mono fun _ _ h => .inl h).below hb, rfl, below_butS hb [g]⟩
  have HI := Lib.hid (fun w' (hb : ButS [g] w w') => items_keepG hI hC hb)
  have HSTR := Lib.hid (show ∀ j, StrS (insAll T.row (xs.take j)) from fun j => insAll_str h4 (NewS.left (ys := xs.drop j) (by rw [List.take_append_drop]; exact ht)))
  have HFIT := Lib.hid (show ∀ j, j < n → ItsT bs (nthI xs j :: insAll T.row (xs.take j)) from fun j hj => by
    have hsn := take_snoc (ys := xs) (j := j) (by rw [hI.1]; exact hj)
    have h7 : ItsT bs (T.row ++ xs.take (j + 1)) := hf.sublist ((List.take_sublist _ _).append_left _)
    rw [hsn, ← List.append_assoc] at h7
    exact h7.perm ((List.Perm.cons _ (insAll_perm T.row (xs.take j))).trans (List.perm_append_singleton _ _).symm))
  have HEND := Lib.hid (show StrS (insAll T.row xs) ∧ ItsT bs (insAll T.row xs) from ⟨insAll_str h4 ht, insAll_its hf⟩)
  have HLX := Lib.hid hI.1
  clear h1 h2 h4 h5 hf ht hI hC
  generalize T.row = R at HF HW HS0 HSTR HFIT HEND ⊢
  clear T
  go_enter Try.func27, Try.ntmps27
  go_wp2_with (first | (refine HF.out.mono ?_; clear HF; rintro e w1 ⟨rfl, hb⟩) | (refine (HW.out _ hb).mono ?_; clear HW; rintro e w2 ⟨rfl, hb2⟩; have HS2 := Lib.hid (HS0.out w2 (hb.trans (hb2.mono hb.size))); clear HS0 hb hb2))
  go_loopw [18] (fun i wr => ∃ j : Nat, j ≤ n ∧ i = .int .i64 j ∧ Hid (InS O w g bs A m d R xs j wr)) (fun i _ => n - (intOf i).toNat)
  case atStart => exact ⟨0, Nat.zero_le _, rfl, HS2⟩
  case round =>
    clear HS2
    obtain ⟨j, hj, rfl, HR⟩ := hrel
    by_cases hlt : j < n
    · obtain ⟨T, t1, t2, t3, t4⟩ := HR.out
      obtain ⟨b, o, rfl, hi⟩ := (HI.out wr t4).2 (by omega)
      have hx := hi j hlt
      have hx0 : wr.cell? ⟨b, o + j * 4, none⟩ = some (.int .i64 (nthI xs j).s) := hx 0 _ rfl
      have hx1 : wr.cell? ⟨b, o + j * 4 + 1, none⟩ = some (.int .i64 (nthI xs j).t) := hx 1 _ rfl
      have hx2 : wr.cell? ⟨b, o + j * 4 + 2, none⟩ = some (.int .i64 (nthI xs j).q) := hx 2 _ rfl
      have hx3 : wr.cell? ⟨b, o + j * 4 + 3, none⟩ = some (.int .i64 (nthI xs j).v) := hx 3 _ rfl
      have hfit := HFIT.out j hlt
      have hstr := HSTR.out j
      have hal : ∀ q : Array Value, Below wr.heap.size wr (wr.alloc (.cells q 23)) := fun q => (Below.refl _ _).alloc (Nat.le_refl _) _
      have HINS : Hid (∀ (q : Array Value) w', Below wr.heap.size (wr.alloc (.cells q 23)) w' → Calls Try.prog 61 #[.pointer (some ⟨g, 0, none⟩), .pointer T.ptr, .agg #[.int .i64 (nthI xs j).s, .int .i64 (nthI xs j).t, .int .i64 (nthI xs j).q, .int .i64 (nthI xs j).v]] w' (TrO bs (fun k => O k ∨ w.heap.size ≤ k) (insAll R (xs.take (j + 1))) w')) := fun q w' hb => by
        have hbb := (hal q).trans hb
        have hb2 : w.heap.size ≤ w'.heap.size := by have := t4.size; have := hbb.size; omega
        rw [take_snoc (by rw [HLX.out]; exact hlt), insAll_snoc, ← t3]
        exact tins_any (nthI xs j) T w' (t1.below hbb) (t2.below hbb) (fun k hk => .inr (by omega)) (t3 ▸ hstr) (t3 ▸ hfit)
      have HT := Lib.hid (show TBd (fun k => O k ∨ w.heap.size ≤ k) wr g bs A m d T.ptr ∧ ButS [g] w wr ∧ ∀ q : Array Value, Below wr.heap.size wr (wr.alloc (.cells q 23)) from ⟨t1, t4, hal⟩)
      clear HR hi hx t1 t2 t3 t4 hfit hstr hal
      generalize T.ptr = tp at HINS HT
      clear T
      generalize nthI xs j = X at hx0 hx1 hx2 hx3 HINS
      go_upto_region 10 with fail
      refine tir_any (g := g) (y := wr.heap.size) (m := m) (d := d) (A := A) (root := tp) (x := X) (bs := bs) (P := fun k => O k ∨ w.heap.size ≤ k) (R1 := insAll R (xs.take (j + 1))) ⟨rfl, rfl, rfl, HT.out.1.st.alloc _, Has.made _ _ _, fun w' hb => HINS.out _ w' (hb.mono (by simp))⟩ (by kernel_rfl) ?_
      intro T29 w4 hB4 hT29
      have hk4 := (HT.out.2.2 #[.int .i64 X.s, .int .i64 X.t, .int .i64 X.q, .int .i64 X.v]).trans (hB4.mono (by simp))
      have K := Lib.hid (show TBd (fun k => O k ∨ w.heap.size ≤ k) w4 g bs A m d tp ∧ T29.At bs (fun k => O k ∨ w.heap.size ≤ k) w4 ∧ T29.row = insAll R (xs.take (j + 1)) ∧ ButS [g] w w4 from ⟨HT.out.1.below hk4, hT29.1, hT29.2, HT.out.2.1.trans (below_butS hk4 [g])⟩)
      have K2 := Lib.hid (show InS O w g bs A m d R xs (j + 1) (w4.setCell ⟨g, 1, none⟩ (.pointer T29.ptr)) from ⟨T29, K.out.1.putG _, Tr.At.putG K.out.1.st _ _ K.out.2.1, K.out.2.2.1, K.out.2.2.2.trans (setCell_butS1 _ _ _ _)⟩)
      have hc4 : w4.cell? ⟨g, 1, none⟩ = some (.pointer tp) := K.out.1.st.cell 1
      have hf4 : w4.frozen? ⟨g, 1, none⟩ = false := K.out.1.st.mark 1
      clear hB4 hT29 hk4 HINS HT K hx0 hx1 hx2 hx3
      simp only [putAll, Act.put, List.setIfInBounds_toArray, List.set_cons_succ, List.set_cons_zero, List.drop_succ_cons, List.drop_zero]
      go_wp2_with fail
      go_roundw
      case rel => exact ⟨j + 1, by omega, by go_num, K2⟩
      case measure => simp [intOf]; omega
    · have hjn : j = n := by omega
      subst hjn
      go_wp2_with fail
      go_ret
      obtain ⟨T, t1, t2, t3, t4⟩ := HR.out
      rw [List.take_of_length_le (by rw [HLX.out]; exact Nat.le_refl _)] at t3
      refine ⟨rfl, t4, T, A, m, d, t1.mono ?_, t2.mono ?_, t3, HEND.out.1, HEND.out.2⟩
      all_goals
        intro k hk hp
        rcases hp with hp | hp
        · exact .inl hp
        · exact .inr ⟨hp, hk⟩
end

end Go.Proofs.Ytjgjbhbpndjnnaa
