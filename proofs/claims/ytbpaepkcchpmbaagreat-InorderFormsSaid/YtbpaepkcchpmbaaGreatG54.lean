import Derived.Test.YtbpaepkcchpmbaaGreatG53
import Derived.Test.YtbpaepkcchpmbaaGreatG22
import Derived.Laws.BitsLemmas
import Derived.WalkKit
import Derived.IntWalk
import Derived.Deep.DeepCutAuto
import Derived.Deep.CutBlock
import Derived.OpenShut
namespace Go.Proofs.YtbpaepkcchpmbaaGreat
open Go.RowKit
theorem aw_may : cfB [quA 0 10] 2 100 2 1 = true := by decide
theorem aw_none : cfB [] 0 0 0 0 = false := by decide
theorem row_at {w : World} {g : Nat} {t : TypeId} {cs : Array Value} (h : Has w g t cs) : ∀ i, w.cell? ⟨g, i, none⟩ = cs[i]? := fun i => h.cell i
set_option maxRecDepth 100000 in
set_option maxHeartbeats 4000000 in
theorem aw18_any (w : World) : Calls Tryz.prog 19 #[] w fun e w' => e = .returned (.bool true) ∧ Below w.heap.size w w' := by
  go_enter Tryz.func19, Tryz.ntmps19
  go_wp2_with fail
  refine (count18_any 2 100 w).mono ?_
  rintro e w1 ⟨g, rfl, _, hq, hb⟩
  have B1 := Lib.hid hb
  have Q1 := Lib.hid hq
  clear hq hb
  go_wp2_with fail
  refine (eng_new_ok (qusR_one rfl Q1.out) aw_may).mono ?_
  rintro e w2 ⟨ge, O0, rfl, he, hlo, hb⟩
  have L1 := Lib.hid (LE.new B1.out he hlo hb)
  clear he hlo hb B1 Q1
  generalize (fun k => O0 k ∧ k < w2.heap.size) = O1 at L1
  go_wp2_with fail
  refine (eng_new_no (Qus.nil _ none) (Nat.zero_le _) aw_none).mono ?_
  rintro e w3 ⟨rfl, hb⟩
  have L2 := Lib.hid (L1.out.below hb)
  clear hb L1
  go_wp2_with (go_at_call 18; refine (num0_any _ _).mono ?_; rintro e w' ⟨rfl, rfl⟩)
  refine (item18_any _ _ _ _ _).mono ?_
  rintro e w4 ⟨rfl, hb⟩
  have L3 := Lib.hid (L2.out.below hb)
  clear hb L2
  go_wp2_with fail
  refine (item18_any _ _ _ _ _).mono ?_
  rintro e w5 ⟨rfl, hb⟩
  have L4 := Lib.hid (L3.out.below hb)
  clear hb L3
  go_wp2_with fail
  have L5 := Lib.hid (L4.out.below ((Below.refl _ _).alloc (Nat.le_refl _) (.cells #[.int .i64 0, .int .i64 15, .int .i64 1, .int .i64 1, .int .i64 0, .int .i64 3, .int .i64 2, .int .i64 1] 61)))
  have hh := Has.made w5 61 #[.int .i64 0, .int .i64 15, .int .i64 1, .int .i64 1, .int .i64 0, .int .i64 3, .int .i64 2, .int .i64 1]
  refine (L5.out.feed (n := 2) (c := 2) (xs := aw1) (items_has (xs := aw1) hh rfl) (fun ad _ e => by injection e with e; rw [← e]; exact L4.out.far)).mono ?_
  rintro e w6 ⟨rfl, l, _⟩
  have L6 := Lib.hid (show LE w _ ge [quA 0 10] 2 awM1 0 w6 from aw_f1m ▸ l)
  clear l L5 hh L4
  generalize GrowO _ _ _ = O6 at L6
  rw [show feedC 1800 1801 2 ⟨[], -4398046511104, 0⟩ aw1 = 0 from aw_f1]
  go_wp2_with fail
  refine (item18_any _ _ _ _ _).mono ?_
  rintro e w7 ⟨rfl, hb⟩
  have L7 := Lib.hid (L6.out.below hb)
  clear hb L6
  go_wp2_with fail
  have L8 := Lib.hid (L7.out.below ((Below.refl _ _).alloc (Nat.le_refl _) (.cells #[.int .i64 0, .int .i64 4, .int .i64 2, .int .i64 1] 61)))
  have hh := Has.made w7 61 #[.int .i64 0, .int .i64 4, .int .i64 2, .int .i64 1]
  refine (L8.out.feed (n := 1) (c := 1) (xs := aw2) (items_has (xs := aw2) hh rfl) (fun ad _ e => by injection e with e; rw [← e]; exact L7.out.far)).mono ?_
  rintro e w9 ⟨rfl, l, _⟩
  rw [feedM_no (by rw [aw_f2]; decide)] at l
  have L9 := Lib.hid l
  clear l L8 hh L7
  generalize GrowO _ _ _ = O9 at L9
  rw [aw_f2]
  go_wp2_with fail
  refine (L9.out.mark (by omega) 12 aw_ok).mono ?_
  rintro e w10 ⟨V, zs, O10, rfl, ho, hv, l, _, _, _⟩
  rw [aw_m] at l
  rw [aw_t] at hv
  have L10 := Lib.hid l
  obtain ⟨A10, c10, rfl, _⟩ := ho.rowz
  have hzl : zs.length = 1 := by have := congrArg List.length hv; simpa using this
  rw [hzl] at ho ⊢
  have R10 := Lib.hid ho
  have HV := Lib.hid hv
  clear l ho hv L9 hzl
  go_wp2_with fail
  refine (item18_any _ _ _ _ _).mono ?_
  rintro e w11 ⟨rfl, hb⟩
  have L11 := Lib.hid (L10.out.below hb)
  have R11 := Lib.hid (R10.out.below hb)
  clear hb L10 R10
  go_wp2_with fail
  have ha := (Below.refl w11.heap.size w11).alloc (Nat.le_refl _) (.cells #[.int .i64 0, .int .i64 9, .int .i64 3, .int .i64 1] 61)
  have L12 := Lib.hid (L11.out.below ha)
  have R12 := Lib.hid (R11.out.below ha)
  have hh := Has.made w11 61 #[.int .i64 0, .int .i64 9, .int .i64 3, .int .i64 1]
  refine (L12.out.feed (n := 1) (c := 1) (xs := aw3) (items_has (xs := aw3) hh rfl) (fun ad _ e => by injection e with e; rw [← e]; exact L11.out.far)).mono ?_
  rintro e w13 ⟨rfl, l, hb⟩
  rw [feedM_no (by rw [aw_f3]; decide)] at l
  have L13 := Lib.hid l
  have R13 := Lib.hid (R12.out.grow hb)
  clear l L12 hh L11 hb R12 R11 ha
  generalize GrowO _ _ _ = O13 at L13 R13
  rw [aw_f3]
  go_wp2_with fail
  refine (L13.out.mark_no 11 aw_no).mono ?_
  rintro e w14 ⟨rfl, rfl⟩
  go_wp2_with fail
  refine L13.out.held.mono ?_
  rintro e w15 ⟨A15, c15, O15, rfl, ho, l, hb, hO⟩
  have L15 := Lib.hid l
  have R15 := Lib.hid (R13.out.turn hb hO)
  have I15 := Lib.hid (show Items w15 A15 1 aw4 from ho.items)
  clear l ho hb hO L13 R13
  rw [show awM2.ys.length = 1 from rfl]
  go_wp2_with (go_at_call 18; refine (num0_any _ _).mono ?_; rintro e w' ⟨rfl, rfl⟩)
  have ha := (Below.refl w15.heap.size w15).alloc (Nat.le_refl _) (.cells #[.int .i64 0, .int .i64 0, .int .i64 0, .int .i64 10, .int .i64 1, .bool false, .slice none 0 0] 71)
  have hh := Has.made w15 71 #[.int .i64 0, .int .i64 0, .int .i64 0, .int .i64 10, .int .i64 1, .bool false, .slice none 0 0]
  refine (sameres_yes (ts := [⟨0, 0, 0, 10, 1, false, [], none, 0⟩]) (R15.out.below ha).rowz' (rowz_one hh Ints.nil) HV.out.symm (by omega) (fun z hz => ?_)).mono ?_
  · have hm : z.val ∈ zs.map Rz.val := List.mem_map.2 ⟨z, hz, rfl⟩
    rw [HV.out, List.mem_singleton] at hm
    have := congrArg Rv.hs hm
    show z.val.hs.length ≤ maxLen
    rw [this]
    exact Nat.zero_le _
  rintro e w16 ⟨rfl, hb⟩
  have L16 := Lib.hid (L15.out.below (ha.trans (hb.mono ha.size)))
  have I16 := Lib.hid (I15.out.below (ha.trans (hb.mono ha.size)))
  clear ha hh hb L15 R15 I15 HV
  go_wp2_with (go_at_call 18; refine (num0_any _ _).mono ?_; rintro e w' ⟨rfl, rfl⟩)
  refine (item18_any _ _ _ _ _).mono ?_
  rintro e w17 ⟨rfl, hb⟩
  have L17 := Lib.hid (L16.out.below hb)
  have I17 := Lib.hid (I16.out.below hb)
  clear hb L16 I16
  go_wp2_with fail
  have ha := (Below.refl w17.heap.size w17).alloc (Nat.le_refl _) (.cells #[.int .i64 0, .int .i64 15, .int .i64 1, .int .i64 1] 61)
  have hh := Has.made w17 61 #[.int .i64 0, .int .i64 15, .int .i64 1, .int .i64 1]
  refine (sameitems_any _ _ 1 _ _ aw4 _ (I17.out.below ha) (items_has (xs := aw4) hh rfl) (by omega)).mono ?_
  rintro e w18 ⟨rfl, hb⟩
  have L18 := Lib.hid (L17.out.below (ha.trans (hb.mono ha.size)))
  clear ha hh hb L17 I17
  go_wp2_with fail
  go_ret
  exact ⟨rfl, L18.out.keep⟩
end Go.Proofs.YtbpaepkcchpmbaaGreat
namespace Go.Proofs.YtbpaepkcchpmbaaGreat
open Go.RowKit
set_option maxRecDepth 100000 in
set_option maxHeartbeats 1000000 in
theorem tumble_any (sz la : Int) (w : World) : Calls Tryz.prog 34 #[.int .i64 sz, .int .i64 la] w fun e w' => ∃ g, e = .returned (.agg #[.slice (some ⟨g, 0, none⟩) 1 1, .int .i64 la, .int .i64 100, .int .i64 2, .int .i64 1]) ∧ w.heap.size ≤ g ∧ Has w' g 59 (quC (quA 1 sz) none 0 0) ∧ Below w.heap.size w w' := by
  go_enter Tryz.func34, Tryz.ntmps34
  have H0 : Hid (∀ cs, Has (w.alloc (.cells cs 24)) w.heap.size 24 cs ∧ Below w.heap.size w (w.alloc (.cells cs 24)) ∧ (w.alloc (.cells cs 24)).heap.size = w.heap.size + 1) := fun cs => ⟨Has.made w _ cs, (Below.refl _ _).alloc (Nat.le_refl _) _, by simp⟩
  go_wp2_with fail
  refine (count18_any la 100 _).mono ?_
  rintro e w1 ⟨g, rfl, g1, hq, hb⟩
  have hz := (H0.out #[.slice none 0 0, .int .i64 0, .int .i64 0, .int .i64 0, .int .i64 0]).2.2
  rw [hz] at g1
  have HR := Lib.hid ((H0.out #[.slice none 0 0, .int .i64 0, .int .i64 0, .int .i64 0, .int .i64 0]).1.below hb (by omega))
  have HB := Lib.hid ((H0.out #[.slice none 0 0, .int .i64 0, .int .i64 0, .int .i64 0, .int .i64 0]).2.1.trans (hb.mono (by omega)))
  have HQ := Lib.hid hq
  clear hb hq hz H0
  go_upto_region 2 with fail
  have h2 : Hid (Has (w1.alloc (.cells #[.slice (some ⟨g, 0, none⟩) 1 1, .int .i64 la, .int .i64 100, .int .i64 2, .int .i64 1] 24)) w1.heap.size 24 #[.slice (some ⟨g, 0, none⟩) 1 1, .int .i64 la, .int .i64 100, .int .i64 2, .int .i64 1] ∧ g < w1.heap.size ∧ w.heap.size < w1.heap.size) := Lib.hid ⟨Has.made _ _ _, HQ.out.lt, HR.out.lt⟩
  have HR2 := Lib.hid (HR.out.alloc (.cells #[.slice (some ⟨g, 0, none⟩) 1 1, .int .i64 la, .int .i64 100, .int .i64 2, .int .i64 1] 24))
  have HQ2 := Lib.hid (HQ.out.alloc (.cells #[.slice (some ⟨g, 0, none⟩) 1 1, .int .i64 la, .int .i64 100, .int .i64 2, .int .i64 1] 24))
  have HB2 := Lib.hid (HB.out.alloc HB.out.size (.cells #[.slice (some ⟨g, 0, none⟩) 1 1, .int .i64 la, .int .i64 100, .int .i64 2, .int .i64 1] 24))
  generalize w1.alloc _ = w2 at h2 HR2 HQ2 HB2 ⊢
  generalize w1.heap.size = b at h2 ⊢
  clear HR HQ HB
  have hc0 : w2.cell? ⟨b, 0, none⟩ = some (.slice (some ⟨g, 0, none⟩) 1 1) := h2.out.1.cell 0
  have hqc := row_at HQ2.out
  have hqm : ∀ i, w2.frozen? ⟨g, i, none⟩ = false := fun i => HQ2.out.mark i
  go_upto_region 3 with fail
  have HC3 := Lib.hid (h2.out.1.putFar (p := ⟨g, 2, none⟩) (fun e => by have := h2.out.2.1; simp only at e; omega) (.int .i64 sz))
  have HQ3 := Lib.hid (HQ2.out.put 2 (.int .i64 sz))
  have HR3 := Lib.hid (HR2.out.putFar (p := ⟨g, 2, none⟩) (fun e => by simp only at e; omega) (.int .i64 sz))
  have HB3 := Lib.hid (HB2.out.setCell (p := ⟨g, 2, none⟩) (show w.heap.size ≤ g by omega) (.int .i64 sz))
  generalize w2.setCell ⟨g, 2, none⟩ (.int .i64 sz) = w3 at HC3 HQ3 HR3 HB3 ⊢
  clear hc0 hqc hqm HQ2 HR2 HB2
  have hc0 : w3.cell? ⟨b, 0, none⟩ = some (.slice (some ⟨g, 0, none⟩) 1 1) := HC3.out.cell 0
  have hqc := row_at HQ3.out
  have hqm : ∀ i, w3.frozen? ⟨g, i, none⟩ = false := fun i => HQ3.out.mark i
  go_upto_region 4 with fail
  have HC4 := Lib.hid (HC3.out.putFar (p := ⟨g, 1, none⟩) (fun e => by have := h2.out.2.1; simp only at e; omega) (.int .i64 1))
  have HQ4 := Lib.hid (show Has (w3.setCell ⟨g, 1, none⟩ (.int .i64 1)) g 59 (quC (quA 1 sz) none 0 0) from HQ3.out.put 1 (.int .i64 1))
  have HR4 := Lib.hid (HR3.out.putFar (p := ⟨g, 1, none⟩) (fun e => by simp only at e; omega) (.int .i64 1))
  have HB4 := Lib.hid (HB3.out.setCell (p := ⟨g, 1, none⟩) (show w.heap.size ≤ g by omega) (.int .i64 1))
  generalize w3.setCell ⟨g, 1, none⟩ (.int .i64 1) = w4 at HC4 HQ4 HR4 HB4 ⊢
  clear hc0 hqc hqm HQ3 HR3 HB3 HC3
  have hcc := row_at HC4.out
  have hrm : ∀ i, w4.frozen? ⟨w.heap.size, i, none⟩ = false := fun i => HR4.out.mark i
  have hrc := row_at HR4.out
  go_wp2_with fail
  have hlt : w.heap.size ≤ g := by omega
  have hne : g ≠ w.heap.size := by omega
  have HR5 : Has (((((w4.setCell ⟨w.heap.size, 0, none⟩ (.slice (some ⟨g, 0, none⟩) 1 1)).setCell ⟨w.heap.size, 1, none⟩ (.int .i64 la)).setCell ⟨w.heap.size, 2, none⟩ (.int .i64 100)).setCell ⟨w.heap.size, 3, none⟩ (.int .i64 2)).setCell ⟨w.heap.size, 4, none⟩ (.int .i64 1)) w.heap.size 24 #[.slice (some ⟨g, 0, none⟩) 1 1, .int .i64 la, .int .i64 100, .int .i64 2, .int .i64 1] := (((((HR4.out.put 0 (.slice (some ⟨g, 0, none⟩) 1 1)).put 1 (.int .i64 la)).put 2 (.int .i64 100)).put 3 (.int .i64 2)).put 4 (.int .i64 1))
  refine bodyPost_ret (ret_rowA rfl _ _ w.heap.size 24 _ _ rfl HR5 Tryz.underlying24 rfl (by exact Tryz.csize)) rfl ?_
  refine ⟨g, rfl, hlt, ?_, ?_⟩
  · exact (((((HQ4.out.putFar (p := ⟨w.heap.size, 0, none⟩) hne (.slice (some ⟨g, 0, none⟩) 1 1)).putFar (p := ⟨w.heap.size, 1, none⟩) hne (.int .i64 la)).putFar (p := ⟨w.heap.size, 2, none⟩) hne (.int .i64 100)).putFar (p := ⟨w.heap.size, 3, none⟩) hne (.int .i64 2)).putFar (p := ⟨w.heap.size, 4, none⟩) hne (.int .i64 1))
  · exact (((((HB4.out.setCell (p := ⟨w.heap.size, 0, none⟩) (Nat.le_refl _) (.slice (some ⟨g, 0, none⟩) 1 1)).setCell (p := ⟨w.heap.size, 1, none⟩) (Nat.le_refl _) (.int .i64 la)).setCell (p := ⟨w.heap.size, 2, none⟩) (Nat.le_refl _) (.int .i64 100)).setCell (p := ⟨w.heap.size, 3, none⟩) (Nat.le_refl _) (.int .i64 2)).setCell (p := ⟨w.heap.size, 4, none⟩) (Nat.le_refl _) (.int .i64 1))
end Go.Proofs.YtbpaepkcchpmbaaGreat
namespace Go.Proofs.YtbpaepkcchpmbaaGreat
theorem mask_of (n : Int) (p : Nat) (q : Int) (hp : p ≤ 62) (h : (BitVec.ofInt 64 q).toNat = 2 ^ p - 1) : bits .and .i64 n q = n % ((2 ^ p : Nat) : Int) := by
  have e : (BitVec.ofInt 64 n &&& BitVec.ofInt 64 q).toNat = (n % ((2 ^ 64 : Nat) : Int)).toNat % 2 ^ p := by
    rw [BitVec.toNat_and, BitVec.toNat_ofInt, h, Nat.and_two_pow_sub_one_eq_mod]
  show IntKind.i64.wrap ((BitVec.ofInt 64 n &&& BitVec.ofInt 64 q).toNat : Nat) = _
  rw [e, IntKind.wrap_i64]
  have hd : (2 ^ p : Nat) ∣ 2 ^ 64 := Nat.pow_dvd_pow 2 (by omega)
  have hlt : (n % ((2 ^ 64 : Nat) : Int)).toNat % 2 ^ p < 2 ^ 62 + 1 := by
    have h1 := Nat.mod_lt (n % ((2 ^ 64 : Nat) : Int)).toNat (Nat.pow_pos (n := p) (show 0 < 2 by decide))
    have h2 : 2 ^ p ≤ 2 ^ 62 := Nat.pow_le_pow_right (by decide) hp
    omega
  have hn : 0 ≤ n % ((2 ^ 64 : Nat) : Int) := Int.emod_nonneg _ (by decide)
  have h3 : (((n % ((2 ^ 64 : Nat) : Int)).toNat % 2 ^ p : Nat) : Int) = n % ((2 ^ p : Nat) : Int) := by
    rw [Int.natCast_emod, Int.toNat_of_nonneg hn]
    exact Int.emod_emod_of_dvd n (Int.natCast_dvd_natCast.2 hd)
  rw [← h3]
  omega
end Go.Proofs.YtbpaepkcchpmbaaGreat
namespace Go.Proofs.YtbpaepkcchpmbaaGreat
open Go.RowKit
def ifx : List It := [⟨0, 40, 5, 1⟩]
def ifQ : List Qu := [quA 1 10]
def ifM1 : Mc := ⟨ifx, -4398046511104, 5⟩
def ifM : Mc := ⟨ifx, 30, 5⟩
theorem if_may : cfB ifQ 2 100 2 1 = true := by decide
theorem if_bad {d : Int} (h : 1 ≤ d) : cfB ifQ 2 (1 - d) 2 1 = false := by
  unfold cfB
  rw [limB_no (by omega), Bool.false_and]
theorem if_f : feedC 1800 1801 2 awM0 ifx = 0 := by decide
theorem if_fm : feedM 1800 1801 2 awM0 ifx = ifM1 := by
  unfold feedM
  rw [if_pos if_f]
  rfl
theorem if_ok : markOk ifM1 30 = true := by decide
theorem if_m : markM (ifQ.map qw) 2 ifM1 30 = ifM := by
  unfold markM
  rw [if_pos if_ok]
  rfl
theorem if_n : feedC 1800 1801 2 ifM [] = 0 := by decide
theorem if_nm : feedM 1800 1801 2 ifM [] = ifM := by
  unfold feedM
  rw [if_pos if_n]
  rfl
theorem if_lo {d : Int} (h : 1 ≤ d) : markOk ifM (30 - d) = false := wi_false (by show ¬ (30 ≤ 30 - d ∧ 30 - d ≤ 4398046511104); omega)
theorem if_hi {d : Int} (h : 1 ≤ d) : markOk ifM (4398046511104 + d) = false := wi_false (by omega)
theorem if_ris {xs : List It} (h : risB 5 xs = false) : feedC 1800 1801 2 ifM xs = 1800 := by
  unfold feedC
  rw [show risB ifM.seq xs = false from h, Bool.false_and, if_pos rfl]
theorem itemB_no {x : It} (h : ¬ (itemB x = true)) : itemB x = false := by simpa using h
theorem ris_2 {a b : It} (h : itemB b = false) : risB 5 [a, b] = false := by unfold risB risB; rw [h, Bool.false_and, Bool.and_false, Bool.and_false]
theorem ris_1 {a b : It} (h : itemB a = false) : risB 5 [a, b] = false := by unfold risB; rw [h, Bool.false_and]
theorem ff_0 : feedC 1800 1801 2 ifM [⟨0, 41, 6, 1⟩, ⟨0, 42, 6, 1⟩] = 1800 := by decide
theorem ff_1 : feedC 1800 1801 2 ifM [⟨0, 41, 5, 1⟩, ⟨0, 42, 7, 1⟩] = 1800 := by decide
theorem ff_2 {d : Int} (h : 1 ≤ d) : feedC 1800 1801 2 ifM [⟨0, 41, 6, 1⟩, ⟨0, 1099511627776 + d, 7, 1⟩] = 1800 := if_ris (ris_2 (itemB_no fun e => by have := itemB_iff.1 e; simp only at this; omega))
theorem ff_3 {d : Int} (h : 1 ≤ d) : feedC 1800 1801 2 ifM [⟨0, 41, 6, -1099511627776 - d⟩, ⟨0, 42, 7, 1⟩] = 1800 := if_ris (ris_1 (itemB_no fun e => by have := itemB_iff.1 e; simp only at this; omega))
theorem ff_4 {d : Int} (h : 1 ≤ d) : feedC 1800 1801 2 ifM [⟨0, 41, 6, 1⟩, ⟨-d, 42, 7, 1⟩] = 1800 := if_ris (ris_2 (itemB_no fun e => by have := itemB_iff.1 e; simp only at this; omega))
theorem ff_5 {d : Int} (h : 1 ≤ d) (h2 : d ≤ 1024) : feedC 1800 1801 2 ifM [⟨0, 41, 6, 1⟩, ⟨0, 28 - d, 7, 1⟩] = 1801 := by
  have hb : itemB ⟨0, 28 - d, 7, 1⟩ = true := itemB_iff.2 (by simp only; omega)
  have hr : risB 5 [⟨0, 41, 6, 1⟩, ⟨0, 28 - d, 7, 1⟩] = true := by
    unfold risB risB risB
    rw [hb, show itemB ⟨0, 41, 6, 1⟩ = true by decide]
    simp
  unfold feedC
  rw [show risB ifM.seq [⟨0, 41, 6, 1⟩, ⟨0, 28 - d, 7, 1⟩] = true from hr, if_neg (by simp [ifM, ifx]), if_pos ?_]
  unfold lateX
  rw [show lineM ifM.least 2 = 28 from rfl]
  simp
  omega
theorem ff_6 : feedC 1800 1801 2 ifM [⟨0, 41, 8, 1⟩, ⟨0, 42, 7, 1⟩] = 1800 := by decide
def IfS (w : World) (O : Nat → Prop) (ge y : Nat) (want : Value) (wx : World) : Prop :=
  ∃ (a b : It) (z : Int), want = .int .i64 z ∧ Has wx y 61 #[.int .i64 a.s, .int .i64 a.t, .int .i64 a.q, .int .i64 a.v, .int .i64 b.s, .int .i64 b.t, .int .i64 b.q, .int .i64 b.v] ∧ LE w O ge ifQ 2 ifM 8192 wx ∧ ¬ O y ∧ (z ≠ 0 ∧ feedC 1800 1801 2 ifM [a, b] = z)
def IfH (w : World) (O : Nat → Prop) (ge y : Nat) (cs : Array Value) (wx : World) : Prop := Has wx y 61 cs ∧ LE w O ge ifQ 2 ifM 8192 wx ∧ ¬ O y ∧ w.heap.size ≤ y
theorem setCell_butO1 (w : World) (b k : Nat) (v : Value) : ButO (fun j => j = b) w (w.setCell ⟨b, k, none⟩ v) := ⟨rfl, rfl, rfl, by simp [World.setCell], fun j _ hn => heap_setCell_other _ _ _ _ (fun e => hn (by simp only at e; exact e))⟩
theorem IfH.set {w wx : World} {O : Nat → Prop} {ge y : Nat} {cs : Array Value} (h : IfH w O ge y cs wx) (i : Nat) (v : Value) : IfH w O ge y (cs.setIfInBounds i v) (wx.setCell ⟨y, i, none⟩ v) :=
  ⟨h.1.put i v, h.2.1.apart (setCell_butO1 _ _ _ _) (fun _ hk e => h.2.2.1 (e ▸ hk)) (fun _ e => e ▸ h.2.2.2), h.2.2.1, h.2.2.2⟩
theorem IfH.fin {w wx : World} {O : Nat → Prop} {ge y : Nat} (a b : It) (z : Int) (h : IfH w O ge y #[.int .i64 a.s, .int .i64 a.t, .int .i64 a.q, .int .i64 a.v, .int .i64 b.s, .int .i64 b.t, .int .i64 b.q, .int .i64 b.v] wx) (hz : z ≠ 0 ∧ feedC 1800 1801 2 ifM [a, b] = z) : IfS w O ge y (.int .i64 z) wx := ⟨a, b, z, rfl, h.1, h.2.1, h.2.2.1, hz⟩
set_option maxRecDepth 100000 in
set_option maxHeartbeats 8000000 in
theorem ioforms_any (a0 x : Int) (w : World) (_ : (Lit.int .i64 a0).wf = true) (_ : (Lit.int .i64 x).wf = true) :
    Calls Tryz.prog 7 #[.int .i64 a0, .int .i64 x] w fun e w' => e = .returned (.bool true) ∧ Below w.heap.size w w' := by
  obtain ⟨k, hk, hk0, hk1⟩ : ∃ k : Int, bits .and .i64 x 1023 = k ∧ 0 ≤ k ∧ k ≤ 1023 := ⟨_, mask_of x 10 1023 (by decide) (by decide), by omega, by omega⟩
  obtain ⟨d, hd⟩ : ∃ d : Int, 1 + k = d := ⟨_, rfl⟩
  have hd1 : 1 ≤ d := by omega
  have hd2 : d ≤ 1024 := by omega
  have hw0 : wrap64 (1 + k) = d := by rw [IntWalk.wrap64_in _ (by omega)]; exact hd
  have hw2 : wrap64 (1 - d) = 1 - d := IntWalk.wrap64_in _ (by omega)
  go_enter Tryz.func7, Tryz.ntmps7
  go_wp2_with fail
  refine (aw18_any w).mono ?_
  rintro e w2 ⟨rfl, b1⟩
  have B2 := Lib.hid b1
  clear b1
  go_wp2_with fail
  refine (tumble_any 10 2 w2).mono ?_
  rintro e w3 ⟨g, rfl, g1, hq, hb⟩
  have B3 := Lib.hid (B2.out.trans (hb.mono B2.out.size))
  have Q3 := Lib.hid hq
  clear hb hq B2
  go_upto_region 5 with fail
  have HC := Lib.hid (Has.made w3 24 #[.slice (some ⟨g, 0, none⟩) 1 1, .int .i64 2, .int .i64 100, .int .i64 2, .int .i64 1])
  have B4 := Lib.hid (B3.out.alloc B3.out.size (.cells #[.slice (some ⟨g, 0, none⟩) 1 1, .int .i64 2, .int .i64 100, .int .i64 2, .int .i64 1] 24))
  have Q4 := Lib.hid (Q3.out.alloc (.cells #[.slice (some ⟨g, 0, none⟩) 1 1, .int .i64 2, .int .i64 100, .int .i64 2, .int .i64 1] 24))
  have hbx := Lib.hid (show g ≠ w3.heap.size ∧ w.heap.size ≤ w3.heap.size from ⟨Nat.ne_of_lt Q3.out.lt, B3.out.size⟩)
  generalize w3.alloc _ = w4 at HC B4 Q4 ⊢
  generalize w3.heap.size = b at HC hbx ⊢
  clear B3 Q3
  have hcm : ∀ i, w4.frozen? ⟨b, i, none⟩ = false := fun i => HC.out.mark i
  have hcc0 := row_at HC.out
  go_upto_region 6 with fail
  have HC5 := Lib.hid (show Has (w4.setCell ⟨b, 2, none⟩ (.int .i64 (1 - d))) b 24 #[.slice (some ⟨g, 0, none⟩) 1 1, .int .i64 2, .int .i64 (1 - d), .int .i64 2, .int .i64 1] from HC.out.put 2 (.int .i64 (1 - d)))
  have B5 := Lib.hid (B4.out.setCell (p := ⟨b, 2, none⟩) hbx.out.2 (.int .i64 (1 - d)))
  have Q5 := Lib.hid (Q4.out.putFar (p := ⟨b, 2, none⟩) hbx.out.1 (.int .i64 (1 - d)))
  generalize w4.setCell ⟨b, 2, none⟩ (.int .i64 (1 - d)) = w5 at HC5 B5 Q5 ⊢
  clear hcm hcc0 HC B4 Q4 hbx
  have hcc := row_at HC5.out
  go_wp2_with fail
  refine (eng_new_no (qusR_one rfl Q5.out).qus (by unfold maxLen; omega) (if_bad hd1)).mono ?_
  rintro e w6 ⟨rfl, hb⟩
  have B6 := Lib.hid (B5.out.trans (hb.mono B5.out.size))
  clear hb B5 Q5 HC5 hcc
  go_wp2_with fail
  refine (tumble_any 10 2 w6).mono ?_
  rintro e w7 ⟨g7, rfl, g1, hq, hb⟩
  have B7 := Lib.hid (B6.out.trans (hb.mono B6.out.size))
  have Q7 := Lib.hid hq
  clear hb hq B6 g1
  go_wp2_with fail
  refine (eng_new_ok (qusR_one rfl Q7.out) if_may).mono ?_
  rintro e w8 ⟨ge, O0, rfl, he, hlo, hb⟩
  have L1 := Lib.hid (LE.new B7.out he hlo hb)
  clear he hlo hb B7 Q7
  generalize (fun k => O0 k ∧ k < w8.heap.size) = O1 at L1
  go_wp2_with (go_at_call 18; refine (num0_any _ _).mono ?_; rintro e w' ⟨rfl, rfl⟩)
  refine (item18_any _ _ _ _ _).mono ?_
  rintro e w9 ⟨rfl, hb⟩
  have L2 := Lib.hid (L1.out.below hb)
  clear hb L1
  go_wp2_with fail
  have L3 := Lib.hid (L2.out.below ((Below.refl _ _).alloc (Nat.le_refl _) (.cells #[.int .i64 0, .int .i64 40, .int .i64 5, .int .i64 1] 61)))
  have hh := Has.made w9 61 #[.int .i64 0, .int .i64 40, .int .i64 5, .int .i64 1]
  refine (L3.out.feed (n := 1) (c := 1) (xs := ifx) (items_has (xs := ifx) hh rfl) (fun ad _ e => by injection e with e; rw [← e]; exact L2.out.far)).mono ?_
  rintro e w10 ⟨rfl, l, _⟩
  have L4 := Lib.hid (show LE w _ ge ifQ 2 ifM1 0 w10 from if_fm ▸ l)
  clear l L3 hh L2
  generalize GrowO _ _ _ = O4 at L4
  rw [show feedC 1800 1801 2 ⟨[], -4398046511104, 0⟩ ifx = 0 from if_f]
  go_wp2_with fail
  refine (L4.out.mark (by omega) 30 if_ok).mono ?_
  rintro e w11 ⟨V, zs, O5, rfl, _, _, l, _, _, _⟩
  have L5 := Lib.hid (show LE w O5 ge ifQ 2 ifM 8192 w11 from if_m ▸ l)
  clear l L4
  go_wp2_with fail
  refine (item18_any _ _ _ _ _).mono ?_
  rintro e w12 ⟨rfl, hb⟩
  have L6 := Lib.hid (L5.out.below hb)
  clear hb L5
  go_wp2_with fail
  refine (item18_any _ _ _ _ _).mono ?_
  rintro e w13 ⟨rfl, hb⟩
  have L7 := Lib.hid (L6.out.below hb)
  have HX := Lib.hid (show IfH w O5 ge w13.heap.size #[.int .i64 0, .int .i64 41, .int .i64 6, .int .i64 1, .int .i64 0, .int .i64 42, .int .i64 7, .int .i64 1] (w13.alloc (.cells #[.int .i64 0, .int .i64 41, .int .i64 6, .int .i64 1, .int .i64 0, .int .i64 42, .int .i64 7, .int .i64 1] 61)) from
    ⟨Has.made _ _ _, L7.out.below ((Below.refl _ _).alloc (Nat.le_refl _) _), L7.out.far, L7.out.keep.size⟩)
  clear hb L6 L7
  go_upto_block 0 with fail
  generalize w13.alloc _ = wa at HX ⊢
  generalize w13.heap.size = y at HX ⊢
  obtain ⟨q, hq, eq⟩ : ∃ q : Nat, q < 7 ∧ (IntKind.u64.wrap a0).tmod 7 = q := by
    have h : 0 ≤ IntKind.u64.wrap a0 := by simp [IntKind.wrap, IntKind.bits, IntKind.signed]; omega
    have e : (IntKind.u64.wrap a0).tmod 7 = IntKind.u64.wrap a0 % 7 := Int.tmod_eq_emod_of_nonneg h
    exact ⟨(IntKind.u64.wrap a0 % 7).toNat, by omega, by omega⟩
  rw [eq]
  clear eq
  have hv0 : wrap64 (1099511627776 + d) = 1099511627776 + d := IntWalk.wrap64_in _ (by omega)
  have hv1 : wrap64 (-1099511627776 - d) = -1099511627776 - d := IntWalk.wrap64_in _ (by omega)
  have hv2 : wrap64 (-d) = -d := IntWalk.wrap64_in _ (by omega)
  have hv3 : wrap64 (28 - d) = 28 - d := IntWalk.wrap64_in _ (by omega)
  have hv4 : wrap64 (30 - d) = 30 - d := IntWalk.wrap64_in _ (by omega)
  have hv5 : wrap64 (4398046511104 + d) = 4398046511104 + d := IntWalk.wrap64_in _ (by omega)
  go_cut [15] (fun v15 wx => Hid (IfS w O5 ge y v15 wx))
  case first =>
    have hyc : ∀ i, wa.cell? ⟨y, i, none⟩ = (#[.int .i64 0, .int .i64 41, .int .i64 6, .int .i64 1, .int .i64 0, .int .i64 42, .int .i64 7, .int .i64 1] : Array Value)[i]? := fun i => HX.out.1.cell i
    have hym : ∀ i, wa.frozen? ⟨y, i, none⟩ = false := fun i => HX.out.1.mark i
    have hq6 : q = 0 ∨ q = 1 ∨ q = 2 ∨ q = 3 ∨ q = 4 ∨ q = 5 ∨ q = 6 := by omega
    clear hq
    rcases hq6 with rfl | rfl | rfl | rfl | rfl | rfl | rfl
    · have h0 := Lib.hid (IfH.fin ⟨0, 41, 6, 1⟩ ⟨0, 42, 6, 1⟩ 1800 ((HX.out).set 6 (.int .i64 6)) ⟨by decide, ff_0⟩)
      clear HX
      go_wp2_with fail
      go_meet
      case rel => exact h0
    · have h0 := Lib.hid (IfH.fin ⟨0, 41, 5, 1⟩ ⟨0, 42, 7, 1⟩ 1800 ((HX.out).set 2 (.int .i64 5)) ⟨by decide, ff_1⟩)
      clear HX
      go_wp2_with fail
      go_meet
      case rel => exact h0
    · have h0 := Lib.hid (IfH.fin ⟨0, 41, 6, 1⟩ ⟨0, 1099511627776 + d, 7, 1⟩ 1800 ((HX.out).set 5 (.int .i64 (1099511627776 + d))) ⟨by decide, ff_2 hd1⟩)
      clear HX
      go_wp2_with fail
      go_meet
      case rel => exact h0
    · have h0 := Lib.hid (IfH.fin ⟨0, 41, 6, -1099511627776 - d⟩ ⟨0, 42, 7, 1⟩ 1800 ((HX.out).set 3 (.int .i64 (-1099511627776 - d))) ⟨by decide, ff_3 hd1⟩)
      clear HX
      go_wp2_with fail
      go_meet
      case rel => exact h0
    · have h0 := Lib.hid (IfH.fin ⟨0, 41, 6, 1⟩ ⟨-d, 42, 7, 1⟩ 1800 ((HX.out).set 4 (.int .i64 (-d))) ⟨by decide, ff_4 hd1⟩)
      clear HX
      go_wp2_with fail
      go_meet
      case rel => exact h0
    · have h0 := Lib.hid (IfH.fin ⟨0, 41, 6, 1⟩ ⟨0, 28 - d, 7, 1⟩ 1801 ((HX.out).set 5 (.int .i64 (28 - d))) ⟨by decide, ff_5 hd1 hd2⟩)
      clear HX
      go_wp2_with fail
      go_meet
      case rel => exact h0
    · have h0 := Lib.hid (IfH.fin ⟨0, 41, 8, 1⟩ ⟨0, 42, 7, 1⟩ 1800 ((HX.out).set 2 (.int .i64 8)) ⟨by decide, ff_6⟩)
      clear HX
      go_wp2_with fail
      go_meet
      case rel => exact h0
  case rest =>
    clear HX
    obtain ⟨a, b', z, rfl, h1, h2, h3, h4, h5⟩ := hcut.out
    have HY := Lib.hid h1
    have LL := Lib.hid h2
    have HZ := Lib.hid (show _ ∧ _ from ⟨h3, h5⟩)
    have hz0 : z ≠ 0 := h4
    clear h1 h2 h3 h4 h5 hcut
    go_wp2_with fail
    refine (LL.out.feed (n := 2) (c := 2) (xs := [a, b']) (items_has (xs := [a, b']) HY.out rfl) (fun ad _ e => by injection e with e; rw [← e]; exact HZ.out.1)).mono ?_
    rintro e wb ⟨rfl, l, _⟩
    rw [HZ.out.2]
    rw [feedM_no (by rw [HZ.out.2]; exact hz0)] at l
    have L7 := Lib.hid l
    clear l LL HY HZ
    generalize GrowO _ _ _ = O7 at L7
    go_wp2_with fail
    refine (L7.out.mark_no (30 - d) (if_lo hd1)).mono ?_
    rintro e wd ⟨rfl, rfl⟩
    go_wp2_with fail
    refine (L7.out.mark_no (4398046511104 + d) (if_hi hd1)).mono ?_
    rintro e we ⟨rfl, rfl⟩
    go_wp2_with fail
    refine (L7.out.feed (n := 0) (c := 0) (X := none) (xs := []) ⟨rfl, fun h => absurd h (by omega)⟩ (fun ad _ e => by cases e)).mono ?_
    rintro e wf ⟨rfl, l, _⟩
    rw [if_n]
    have L8 := Lib.hid (show LE w _ ge ifQ 2 ifM 8192 wf from if_nm ▸ l)
    clear l L7
    generalize GrowO _ _ _ = O8 at L8
    go_wp2_with (go_at_call 18; refine (num0_any _ _).mono ?_; rintro e w' ⟨rfl, rfl⟩)
    refine L8.out.held.mono ?_
    rintro e wg ⟨A9, c9, O9, rfl, ho, l, _, _⟩
    have L9 := Lib.hid l
    have HI := Lib.hid (show Items wg A9 1 ifx from ho.items)
    clear ho l L8
    rw [show ifM.ys.length = 1 from rfl]
    go_wp2_with fail
    refine (item18_any _ _ _ _ _).mono ?_
    rintro e wh ⟨rfl, hb⟩
    have L10 := Lib.hid (L9.out.below hb)
    have HI2 := Lib.hid (HI.out.below hb)
    clear hb L9 HI
    go_wp2_with fail
    have hal := (Below.refl wh.heap.size wh).alloc (Nat.le_refl _) (.cells #[.int .i64 0, .int .i64 40, .int .i64 5, .int .i64 1] 61)
    have hh := Has.made wh 61 #[.int .i64 0, .int .i64 40, .int .i64 5, .int .i64 1]
    refine (sameitems_any _ _ 1 _ _ ifx _ (HI2.out.below hal) (items_has (xs := ifx) hh rfl) (by omega)).mono ?_
    rintro e wi ⟨rfl, hb⟩
    have L11 := Lib.hid (L10.out.below (hal.trans (hb.mono hal.size)))
    clear hal hh hb L10 HI2
    go_wp2_with fail
    go_ret
    exact ⟨rfl, L11.out.keep⟩
end Go.Proofs.YtbpaepkcchpmbaaGreat
