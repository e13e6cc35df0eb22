/-
  Walk: the reference's AccMay.
-/
import Derived.Test.YtjgjbhbpndjnnaaG49
import Derived.Test.YtjgjbhbpndjnnaaG4
import Derived.Deep.CutBlock
import Derived.Deep.DeepCutAuto
import Derived.StillTailTactics
namespace Go.Proofs.Ytjgjbhbpndjnnaa
open Go.RowKit

theorem nth_le_isumR {h : List Int} (hp : ∀ i, i < h.length → 0 ≤ nth h i) {i : Nat} (hi : i < h.length) : nth h i ≤ isum h := by
  have h1 := isum_take_leR hp (i + 1)
  rw [isum_take_succ hi] at h1
  have h2 : 0 ≤ isum (h.take i) := isum_pos (fun k hk => by
    have hk2 : k < i := by simp at hk; omega
    have e : nth (h.take i) k = nth h k := by simp [nth, hk2]
    rw [e]; exact hp k (by omega))
  omega
theorem histB_of {a : Ac} {M : Int} (hl : (a.h.length : Int) = M) (hn : a.n ≤ 8192) : histB a M = histR a.h a.n := by
  unfold histB histR
  rw [decide_eq_decide]
  constructor
  · exact fun h => ⟨fun i hi => (h.2.1 i hi).1, h.2.2⟩
  · exact fun h => ⟨hl, fun i hi => ⟨h.1 i hi, by have := nth_le_isumR h.1 hi; rw [h.2] at this; omega⟩, h.2⟩
theorem histB_len {a : Ac} {M : Int} (hl : ¬ (a.h.length : Int) = M) : histB a M = false := decide_eq_false (fun h => hl h.1)
theorem accB_hist {a : Ac} {bs : List Int} (h : histB a (bs.length + 1) = false) : accB a bs = false := by unfold accB fitB; rw [h]; simp
theorem accB_n {a : Ac} {bs : List Int} (h : wi a.n 0 8192 = false) : accB a bs = false := by unfold accB fitB; rw [h]; simp
theorem accB_b {a : Ac} {bs : List Int} (h : boundsB bs = false) : accB a bs = false := by unfold accB; rw [h]; simp
theorem accB_zero {a : Ac} {bs : List Int} (h1 : boundsB bs = true) (h2 : wi a.n 0 8192 = true) (h3 : histB a (bs.length + 1) = true) (h4 : a.n = 0) : accB a bs = zeroB a := by
  unfold accB fitB; rw [h1, h2, h3, if_pos h4]; simp
theorem accB_some {a : Ac} {bs : List Int} (h1 : boundsB bs = true) (h2 : wi a.n 0 8192 = true) (h3 : histB a (bs.length + 1) = true) (h4 : ¬ a.n = 0) : accB a bs = (endsB a && valsB a) := by
  unfold accB fitB; rw [h1, h2, h3, if_neg h4]; simp

/-- The two ends, each in a variable of its own. -/
structure MayS (w : World) (a : Ac) (A : Option Addr) (n c g5 g6 : Nat) (wx : World) : Prop where
  box : Has wx w.heap.size 29 (accC a A n c)
  first : Has wx g5 23 #[.int .i64 a.f.s, .int .i64 a.f.t, .int .i64 a.f.q, .int .i64 a.f.v]
  last : Has wx g6 23 #[.int .i64 a.l.s, .int .i64 a.l.t, .int .i64 a.l.q, .int .i64 a.l.v]
  keep : Below w.heap.size w wx

theorem MayS.below {w : World} {a : Ac} {A : Option Addr} {n c g5 g6 : Nat} {wx wy : World} (h : MayS w a A n c g5 g6 wx) (hb : Below wx.heap.size wx wy) : MayS w a A n c g5 g6 wy :=
  ⟨h.box.below hb h.box.lt, h.first.below hb h.first.lt, h.last.below hb h.last.lt, h.keep.trans (hb.mono h.keep.size)⟩
theorem mayS_one (w : World) (a : Ac) (A : Option Addr) (n c k : Nat) : MayS w a A n c (w.heap.size + 1) (w.heap.size + 1 + 1) ((((w.alloc (.cells (accC a A n c) 29)).drewN k).alloc (.cells #[.int .i64 a.f.s, .int .i64 a.f.t, .int .i64 a.f.q, .int .i64 a.f.v] 23)).alloc (.cells #[.int .i64 a.l.s, .int .i64 a.l.t, .int .i64 a.l.q, .int .i64 a.l.v] 23)) := by
  have e1 : ((w.alloc (.cells (accC a A n c) 29)).drewN k).heap.size = w.heap.size + 1 := by simp
  refine ⟨((((Has.made w _ _).drewN k).alloc _).alloc _), ?_, ?_, below_alloc (below_alloc (below_drewN ((Below.refl _ _).alloc (Nat.le_refl _) _) _) (by simp) _) (by simp) _⟩
  · rw [← e1]; exact heap_alloc2_old _ _ _
  · rw [← e1]; exact heap_alloc2_new _ _ _
theorem mayS_two (w : World) (a : Ac) (A : Option Addr) (n c k : Nat) : MayS w a A n c (w.heap.size + 1 + 1) (w.heap.size + 1) ((((w.alloc (.cells (accC a A n c) 29)).drewN k).alloc (.cells #[.int .i64 a.l.s, .int .i64 a.l.t, .int .i64 a.l.q, .int .i64 a.l.v] 23)).alloc (.cells #[.int .i64 a.f.s, .int .i64 a.f.t, .int .i64 a.f.q, .int .i64 a.f.v] 23)) := by
  have e1 : ((w.alloc (.cells (accC a A n c) 29)).drewN k).heap.size = w.heap.size + 1 := by simp
  refine ⟨((((Has.made w _ _).drewN k).alloc _).alloc _), ?_, ?_, below_alloc (below_alloc (below_drewN ((Below.refl _ _).alloc (Nat.le_refl _) _) _) (by simp) _) (by simp) _⟩
  · rw [← e1]; exact heap_alloc2_new _ _ _
  · rw [← e1]; exact heap_alloc2_old _ _ _
theorem valsB_out {a : Ac} (h : wi a.mn (-1099511627776) 1099511627776 = false ∨ wi a.mx (-1099511627776) 1099511627776 = false) : valsB a = false := by
  refine decide_eq_false fun k => ?_
  unfold wi at h
  simp only [decide_eq_false_iff_not] at h
  omega
theorem valsB_in {a : Ac} (h1 : -1099511627776 ≤ a.mn) (h2 : a.mx ≤ 1099511627776) (h3 : a.n * a.mn ≤ a.s) (h4 : a.s ≤ a.n * a.mx) : valsB a = (decide (a.mn ≤ a.f.v) && (decide (a.f.v ≤ a.mx) && (decide (a.mn ≤ a.l.v) && decide (a.l.v ≤ a.mx)))) := by
  unfold valsB
  rw [Bool.eq_iff_iff]
  simp only [Bool.and_eq_true, decide_eq_true_eq]
  omega
theorem Try.sizeItemG : (Try.prog.info? 23).map (·.size) = some 4 := by kernel_rfl
/-- The load of a whole item out of a variable, behind a guard that lets it by. -/
theorem load_itG {ops : Array Oper} {rest : List Oper} {op : Oper} {p : Act} {w : World} {Q : Exit → Act → World → Prop} (hw : Region.wanted op (yielded ops p.tmps) = true) (x : Operand) (ho : op.op = .load 23 x)
    (g : Nat) (hx : p.eval x = .pointer (some ⟨g, 0, none⟩)) {y : It} (hc : Has w g 23 #[.int .i64 y.s, .int .i64 y.t, .int .i64 y.q, .int .i64 y.v])
    (h : wpList Try.prog ops Q rest (p.put op.dst (.agg #[.int .i64 y.s, .int .i64 y.t, .int .i64 y.q, .int .i64 y.v])) w) : wpList Try.prog ops Q (op :: rest) p w :=
  wpList_step fun _ hK => by
    rw [if_pos hw]
    exact wp_load_row 23 x ho g hx 23 _ (0, 0) _ hc Try.underlying23 rfl Try.sizeItemG (hK _ _ h)

set_option maxRecDepth 100000 in
set_option maxHeartbeats 4000000 in
theorem raccmay_any (a : Ac) (A : Option Addr) (n c : Nat) (B : Option Addr) (m d : Nat) (bs : List Int) (w : World) (hr : Ints w A n a.h) (hbs : Ints w B m bs) (hn : n ≤ maxLen) (hm : m ≤ maxLen) :
    Calls Try.prog 18 #[.agg #[.int .i64 a.n, .int .i64 a.s, .int .i64 a.mn, .int .i64 a.mx, .int .i64 a.f.s, .int .i64 a.f.t, .int .i64 a.f.q, .int .i64 a.f.v, .int .i64 a.l.s, .int .i64 a.l.t, .int .i64 a.l.q, .int .i64 a.l.v, .slice A n c], .slice B m d] w
      fun e w' => e = .returned (.bool (accB a bs)) ∧ Below w.heap.size w w' := by
  have hbox : ∀ o, Below w.heap.size w (w.alloc o) := fun o => (Below.refl _ _).alloc (Nat.le_refl _) o
  have HBOX := Lib.hid hbox; clear hbox
  have HLA := Lib.hid hr.1
  have HLB := Lib.hid hbs.1
  go_enter Try.func18, Try.ntmps18
  go_wp2_with fail
  refine (rbounds_any B m d bs _ (hbs.below (HBOX.out _)) hm).mono ?_
  rintro e w1 ⟨rfl, k, rfl⟩
  cases hbb : boundsB bs
  · go_wp2
    go_ret
    exact ⟨ret_bool (accB_b hbb).symm, below_drewN (HBOX.out _) _⟩
  · have h8 := (boundsB_true hbb).1
    have hm8 : m ≤ 8 := by rw [← HLB.out]; exact h8
    clear h8
    have HBB := Lib.hid hbb; clear hbb
    by_cases hnm : (n : Int) = (m : Int) + 1
    · have hn9 : n ≤ 9 := by omega
      have hne : ((n : Int) != (m : Int) + 1) = false := by simp [hnm]
      have HNM := Lib.hid hnm; clear hnm
      have HLEN : Hid ((a.h.length : Int) = (bs.length : Int) + 1) := by rw [Hid, HLA.out, HLB.out]; exact HNM.out
      by_cases h1 : a.n < 0
      · go_wp2
        go_ret
        exact ⟨ret_bool (accB_n (wi_false (by omega))).symm, below_drewN (HBOX.out _) _⟩
      · by_cases h2 : 8192 < a.n
        · go_wp2
          go_ret
          exact ⟨ret_bool (accB_n (wi_false (by omega))).symm, below_drewN (HBOX.out _) _⟩
        · have HW := Lib.hid (wi_mk (n := a.n) (lo := 0) (hi := 8192) ⟨by omega, by omega⟩)
          have hrh := fun W hI => rhist_any A n c a.h a.n W hI ⟨by omega, by omega⟩ hn
          have HRH := Lib.hid hrh; clear hrh
          have HHB := Lib.hid (histB_of HLEN.out (show a.n ≤ 8192 by omega))
          go_wp2_with fail
          refine (HRH.out _ ((hr.below (HBOX.out _)).drewN _)).mono ?_
          rintro e w2 ⟨rfl, rfl⟩
          cases hh : histR a.h a.n
          · go_wp2
            go_ret
            exact ⟨ret_bool (accB_hist (HHB.out.trans hh)).symm, below_drewN (HBOX.out _) _⟩
          · have HH := Lib.hid (HHB.out.trans hh); clear hh
            by_cases h3 : a.n = 0
            · have h3' : (a.n == 0) = true := by simp [h3]
              have HE := Lib.hid (accB_zero HBB.out HW.out HH.out h3)
              clear h3
              go_wp2
              all_goals
                go_ret
                exact ⟨ret_bool (by rw [HE.out]; simp [zeroB, *]), below_drewN (HBOX.out _) _⟩
            · have h3' : (a.n == 0) = false := by simp [h3]
              have HE := Lib.hid (accB_some HBB.out HW.out HH.out h3)
              clear h3
              go_upto_region 5 with fail
              go_cut [5, 6] (fun x y wx => ∃ g5 g6 : Nat, x = .pointer (some ⟨g5, 0, none⟩) ∧ y = .pointer (some ⟨g6, 0, none⟩) ∧ Hid (MayS w a A n c g5 g6 wx))
              case first =>
                go_region
                all_goals (try go_wp2_with fail)
                all_goals go_meet
                case rel => exact ⟨w.heap.size + 1, w.heap.size + 1 + 1, rfl, rfl, mayS_one w a A n c _⟩
                case rel => exact ⟨w.heap.size + 1 + 1, w.heap.size + 1, rfl, rfl, mayS_two w a A n c _⟩
              case rest =>
                obtain ⟨g5, g6, rfl, rfl, HS⟩ := hcut
                clear HRH HHB HLEN HNM hne
                go_wp2_with (first | (refine load_itG rfl _ rfl _ rfl HS.out.first ?_) | (refine load_itG rfl _ rfl _ rfl HS.out.last ?_))
                refine (ritem_any a.f _).mono ?_
                rintro e w3 ⟨rfl, hb⟩
                replace HS := Lib.hid (HS.out.below hb)
                clear hb
                cases hf : itemB a.f
                · go_wp2
                  go_ret
                  exact ⟨ret_bool (by rw [HE.out]; simp [endsB, hf]), HS.out.keep⟩
                · have HF := Lib.hid hf; clear hf
                  go_wp2_with (first | (refine load_itG rfl _ rfl _ rfl HS.out.first ?_) | (refine load_itG rfl _ rfl _ rfl HS.out.last ?_))
                  refine (ritem_any a.l _).mono ?_
                  rintro e w4 ⟨rfl, hb⟩
                  replace HS := Lib.hid (HS.out.below hb)
                  clear hb
                  cases hl : itemB a.l
                  · go_wp2
                    go_ret
                    exact ⟨ret_bool (by rw [HE.out]; simp [endsB, hl]), HS.out.keep⟩
                  · have HL := Lib.hid hl; clear hl
                    have cF : ∀ i, w4.cell? ⟨g5, i, none⟩ = #[Value.int .i64 a.f.s, .int .i64 a.f.t, .int .i64 a.f.q, .int .i64 a.f.v][i]? := fun i => HS.out.first.cell i
                    have cL : ∀ i, w4.cell? ⟨g6, i, none⟩ = #[Value.int .i64 a.l.s, .int .i64 a.l.t, .int .i64 a.l.q, .int .i64 a.l.v][i]? := fun i => HS.out.last.cell i
                    by_cases hs : a.f.s = a.l.s
                    · have hs' : (a.f.s != a.l.s) = false := by simp [hs]
                      have HSS := Lib.hid hs; clear hs
                      go_wp2_with (first | (refine load_itG rfl _ rfl _ rfl HS.out.first ?_) | (refine load_itG rfl _ rfl _ rfl HS.out.last ?_))
                      clear cF cL
                      refine (rbefore_any a.l a.f _).mono ?_
                      rintro e w5 ⟨rfl, hb⟩
                      replace HS := Lib.hid (HS.out.below hb)
                      clear hb
                      have cA : ∀ i, w5.cell? ⟨w.heap.size, i, none⟩ = #[Value.int .i64 a.n, .int .i64 a.s, .int .i64 a.mn, .int .i64 a.mx, .int .i64 a.f.s, .int .i64 a.f.t, .int .i64 a.f.q, .int .i64 a.f.v, .int .i64 a.l.s, .int .i64 a.l.t, .int .i64 a.l.q, .int .i64 a.l.v, .slice A n c][i]? := fun i => HS.out.box.cell i
                      have cF : ∀ i, w5.cell? ⟨g5, i, none⟩ = #[Value.int .i64 a.f.s, .int .i64 a.f.t, .int .i64 a.f.q, .int .i64 a.f.v][i]? := fun i => HS.out.first.cell i
                      have cL : ∀ i, w5.cell? ⟨g6, i, none⟩ = #[Value.int .i64 a.l.s, .int .i64 a.l.t, .int .i64 a.l.q, .int .i64 a.l.v][i]? := fun i => HS.out.last.cell i
                      cases hbf : beforeB a.l a.f
                      · have HEN : Hid (endsB a = true) := decide_eq_true ⟨HF.out, HL.out, HSS.out, hbf⟩
                        replace HE := Lib.hid (show accB a bs = valsB a by rw [HE.out, HEN.out]; rfl)
                        clear hbf HEN HF HL HSS hs'
                        cases hmn : wi a.mn (-1099511627776) 1099511627776
                        · go_wp2_with (go_at_call 55; refine (rwithin_any _ _ _ (by decide) (by decide)).mono ?_; rintro e w' ⟨rfl, rfl⟩; rw [hmn])
                          go_ret
                          exact ⟨ret_bool (by rw [HE.out]; exact (valsB_out (Or.inl hmn)).symm), HS.out.keep⟩
                        · cases hmx : wi a.mx (-1099511627776) 1099511627776
                          · go_wp2_with (go_at_call 55; refine (rwithin_any _ _ _ (by decide) (by decide)).mono ?_; rintro e w' ⟨rfl, rfl⟩; first | rw [hmn] | rw [hmx])
                            go_ret
                            exact ⟨ret_bool (by rw [HE.out]; exact (valsB_out (Or.inr hmx)).symm), HS.out.keep⟩
                          · obtain ⟨m1, m2⟩ := wi_true hmn
                            obtain ⟨m3, m4⟩ := wi_true hmx
                            obtain ⟨p1, p2⟩ := mul_bd h1 h2 m1 m2
                            obtain ⟨p3, p4⟩ := mul_bd h1 h2 m3 m4
                            have HMN := Lib.hid hmn; clear hmn
                            have HMX := Lib.hid hmx; clear hmx
                            by_cases hlo : a.s < a.n * a.mn
                            · go_wp2_with (go_at_call 55; refine (rwithin_any _ _ _ (by decide) (by decide)).mono ?_; rintro e w' ⟨rfl, rfl⟩; first | rw [HMN.out] | rw [HMX.out])
                              go_ret
                              exact ⟨ret_bool (by rw [HE.out]; exact (decide_eq_false (fun k => by omega)).symm), HS.out.keep⟩
                            · by_cases hhi : a.n * a.mx < a.s
                              · go_wp2_with (go_at_call 55; refine (rwithin_any _ _ _ (by decide) (by decide)).mono ?_; rintro e w' ⟨rfl, rfl⟩; first | rw [HMN.out] | rw [HMX.out])
                                go_ret
                                exact ⟨ret_bool (by rw [HE.out]; exact (decide_eq_false (fun k => by omega)).symm), HS.out.keep⟩
                              · have HV := Lib.hid (valsB_in m1 m4 (Int.not_lt.1 hlo) (Int.not_lt.1 hhi))
                                go_upto_region 8 with (go_at_call 55; refine (rwithin_any _ _ _ (by decide) (by decide)).mono ?_; rintro e w' ⟨rfl, rfl⟩; first | rw [HMN.out] | rw [HMX.out])
                                clear p1 p2 p3 p4 hlo hhi HMN HMX m1 m2 m3 m4
                                by_cases e1 : a.mn ≤ a.f.v
                                · by_cases e2 : a.f.v ≤ a.mx
                                  · by_cases e3 : a.mn ≤ a.l.v
                                    · go_wp2
                                      go_ret
                                      exact ⟨ret_bool (by rw [HE.out, HV.out]; simp [e1, e2, e3]), HS.out.keep⟩
                                    · go_wp2
                                      go_ret
                                      exact ⟨ret_bool (by rw [HE.out, HV.out]; simp; omega), HS.out.keep⟩
                                  · go_wp2
                                    go_ret
                                    exact ⟨ret_bool (by rw [HE.out, HV.out]; simp; omega), HS.out.keep⟩
                                · go_wp2
                                  go_ret
                                  exact ⟨ret_bool (by rw [HE.out, HV.out]; simp; omega), HS.out.keep⟩
                      · have HBF := Lib.hid hbf; clear hbf
                        go_wp2
                        go_ret
                        exact ⟨ret_bool (by rw [HE.out]; simp [endsB, HBF.out]), HS.out.keep⟩
                    · have hs' : (a.f.s != a.l.s) = true := by simp [hs]
                      have HSS := Lib.hid hs; clear hs
                      go_wp2
                      go_ret
                      exact ⟨ret_bool (by rw [HE.out]; simp [endsB, HSS.out]), HS.out.keep⟩
    · have hne : ((n : Int) != (m : Int) + 1) = true := by simp [hnm]
      have HNM := Lib.hid hnm; clear hnm
      go_wp2
      go_ret
      exact ⟨ret_bool (accB_hist (histB_len (by rw [HLA.out, HLB.out]; exact HNM.out))).symm, below_drewN (HBOX.out _) _⟩

end Go.Proofs.Ytjgjbhbpndjnnaa
