/-
  Walk: the reference's PutRec (written by gen/rcrput.py).
-/
import Derived.Test.YtdbcmcdmipehgaaRcPut
import Derived.Test.YtdbcmcdmipehgaaRcRMay2
import Derived.Test.YtdbcmcdmipehgaaRcRg
namespace Go.Proofs.Ytdbcmcdmipehgaa
open Go.RowKit

theorem cat_bytes (a b : List UInt8) : (⟨a.toArray⟩ : ByteArray) ++ (⟨b.toArray⟩ : ByteArray) = ⟨(a ++ b).toArray⟩ := by
  rw [ByteArray.mk_append_mk]
theorem rput_z {x : Int} (h : InP x) : (encS x).size ≤ 10 := by rw [encS_size]; exact (encX_len h.1 h.2).2
theorem rput_c {x : Int} (h : InP x) (w : World) : Calls Try.prog 19 #[.int .i64 x] w fun e w' => e = .returned (.string (encS x)) ∧ Below w.heap.size w w' := rput_any x h.1 h.2 w

set_option maxRecDepth 100000 in
set_option maxHeartbeats 1000000 in
theorem rput_0 (qu sr st en va : Int) (ov : Bool) (hs : List Int) (A : Option Addr) (n c : Nat) (se ti sq bd : Int) (hm : MayR ⟨0, qu, sr, st, en, va, ov, hs, se, ti, sq, bd⟩) (w : World) (hI : Ints w A n hs) (_hf : 0 < n → ∀ ad, A = some ad → ad.block < w.heap.size) :
    Calls Try.prog 7 #[.agg #[.int .i64 0, .int .i64 qu, .int .i64 sr, .int .i64 st, .int .i64 en, .int .i64 va, .bool ov, .slice A n c, .int .i64 se, .int .i64 ti, .int .i64 sq, .int .i64 bd]] w fun e w' => e = .returned (.tuple #[.string ⟨(encs (0 :: qu :: sr :: st :: en :: va :: bitI ov :: (n : Int) :: hs)).toArray⟩, .int .i64 0]) ∧ Below w.heap.size w w' := by
  have HM := Lib.hid (fun (w : World) h => rmay_any ⟨0, qu, sr, st, en, va, ov, hs, se, ti, sq, bd⟩ A n c true (mayR_yes hm) w h)
  have HV := Lib.hid (show ∀ x ∈ numsR ⟨0, qu, sr, st, en, va, ov, hs, se, ti, sq, bd⟩, InP x from numsR_wf hm)
  have HP := Lib.hid (rput_c (x := 0) (by unfold InP; omega))
  have z0 := rput_z (x := 0) (by unfold InP; omega)
  have hlen : hs.length = n := hI.1
  have hR : ResM qu sr st en va ov hs := by have hq := hm; unfold MayR at hq; simp only at hq; exact (hq.resolve_right (by omega)).2.1
  have hn9 : n ≤ 9 := by have := hR.2.2.2.2.2.2.1; omega
  have hin : ∀ x ∈ hs, InP x := fun x hx => HV.out x (by simp [numsR, hx])
  have hbo : bitI ov = 0 ∨ bitI ov = 1 := by cases ov <;> simp [bitI]
  have H1 := Lib.hid (rput_c (x := qu) (HV.out qu (by simp [numsR])))
  have z1 := rput_z (x := qu) (HV.out qu (by simp [numsR]))
  have H2 := Lib.hid (rput_c (x := sr) (HV.out sr (by simp [numsR])))
  have z2 := rput_z (x := sr) (HV.out sr (by simp [numsR]))
  have H3 := Lib.hid (rput_c (x := st) (HV.out st (by simp [numsR])))
  have z3 := rput_z (x := st) (HV.out st (by simp [numsR]))
  have H4 := Lib.hid (rput_c (x := en) (HV.out en (by simp [numsR])))
  have z4 := rput_z (x := en) (HV.out en (by simp [numsR]))
  have H5 := Lib.hid (rput_c (x := va) (HV.out va (by simp [numsR])))
  have z5 := rput_z (x := va) (HV.out va (by simp [numsR]))
  have H6 := Lib.hid (rput_c (x := (bitI ov)) (by unfold InP; omega))
  have z6 := rput_z (x := (bitI ov)) (by unfold InP; omega)
  have H7 := Lib.hid (rput_c (x := (n : Int)) (by unfold InP; omega))
  have z7 := rput_z (x := (n : Int)) (by unfold InP; omega)
  have HS : Hid (encS 0 ++ encS qu ++ encS sr ++ encS st ++ encS en ++ encS va ++ encS (bitI ov) ++ encS (n : Int) = ⟨(encs [0, qu, sr, st, en, va, bitI ov, (n : Int)]).toArray⟩) := Lib.hid (by simp only [encS, cat_bytes, encs, List.append_assoc, List.append_nil])
  generalize encS 0 = p at HP HS z0
  generalize encS qu = q1 at H1 HS z1
  generalize encS sr = q2 at H2 HS z2
  generalize encS st = q3 at H3 HS z3
  generalize encS en = q4 at H4 HS z4
  generalize encS va = q5 at H5 HS z5
  generalize encS (bitI ov) = q6 at H6 HS z6
  generalize encS (n : Int) = q7 at H7 HS z7
  generalize hob : bitI ov = bo at H6 HS HV hbo ⊢
  have HOB := Lib.hid hob
  have HIN := Lib.hid hin
  have HLEN := Lib.hid hlen
  have Z := Lib.hid (And.intro z0 (And.intro z1 (And.intro z2 (And.intro z3 (And.intro z4 (And.intro z5 (And.intro z6 z7)))))))
  clear z0 z1 z2 z3 z4 z5 z6 z7 hob hbo hin hR hlen HV
  have HI := Lib.hid hI
  clear hI hm
  go_enter Try.func7, Try.ntmps7
  go_wp2_with fail
  refine (HM.out _ (HI.out.below ((Below.refl _ _).alloc (Nat.le_refl _) _))).mono ?_; rintro e w1 ⟨rfl, b1⟩
  have b0 : Below w.heap.size w w1 := ((Below.refl _ _).alloc (Nat.le_refl _) _).trans (b1.mono (by simp))
  have o1 : Has w1 w.heap.size 30 #[.int .i64 0, .int .i64 qu, .int .i64 sr, .int .i64 st, .int .i64 en, .int .i64 va, .bool ov, .slice A n c, .int .i64 se, .int .i64 ti, .int .i64 sq, .int .i64 bd] := (Has.made w _ _).below b1 (by simp)
  clear b1 HM
  have c0 : w1.cell? ⟨w.heap.size, 0, none⟩ = some (.int .i64 0) := o1.cell 0
  go_wp2_with fail
  refine (HP.out _).mono ?_; rintro e w2 ⟨rfl, b2⟩
  have o2 := o1.below b2 o1.lt
  have b3 := b0.trans (b2.mono b0.size)
  clear o1 c0 b0 b2 HP
  have cc2 : ∀ i, w2.cell? ⟨w.heap.size, i, none⟩ = (#[.int .i64 0, .int .i64 qu, .int .i64 sr, .int .i64 st, .int .i64 en, .int .i64 va, .bool ov, .slice A n c, .int .i64 se, .int .i64 ti, .int .i64 sq, .int .i64 bd] : Array Value)[i]? := fun i => o2.cell i
  cases ov with
  | true =>
    obtain rfl : 1 = bo := HOB.out
    go_wp2_with fail
    refine pr9_any (kd := 0) (qu := qu) (sr := sr) (st := st) (en := en) (va := va) (ov := true) (A := A) (n := n) (c := c) (se := se) (ti := ti) (sq := sq) (bd := bd) (bo := 1) (p := p) (q1 := q1) (q2 := q2) (q3 := q3) (q4 := q4) (q5 := q5) (q6 := q6) (q7 := q7) (g := w.heap.size) ⟨rfl, rfl, rfl, rfl, o2, Z.out, H1.out, H2.out, H3.out, H4.out, H5.out, H6.out, H7.out⟩ rfl (fun w3 b4 => ?_)
    have b5 := b3.trans (b4.mono b3.size)
    have o3 : Has w3 w.heap.size 30 #[.int .i64 0, .int .i64 qu, .int .i64 sr, .int .i64 st, .int .i64 en, .int .i64 va, .bool true, .slice A n c, .int .i64 se, .int .i64 ti, .int .i64 sq, .int .i64 bd] := o2.below b4 o2.lt
    have HI3 := Lib.hid (HI.out.below b5)
    have hT : (p ++ q1 ++ q2 ++ q3 ++ q4 ++ q5 ++ q6 ++ q7).size ≤ 80 := by have := Z.out; simp only [ByteArray.size_append]; omega
    generalize p ++ q1 ++ q2 ++ q3 ++ q4 ++ q5 ++ q6 ++ q7 = T at HS hT ⊢
    have HB := Lib.hid b5
    have HO := Lib.hid o3
    have HT := Lib.hid hT
    clear b3 b4 b5 o2 o3 cc2 Z H1 H2 H3 H4 H5 H6 H7 hT HI HOB
    simp only [putAll, Act.put, List.setIfInBounds_toArray, List.set_cons_succ, List.set_cons_zero, List.drop_succ_cons, List.drop_zero]
    go_wp2_with fail
    go_loopw [4, 6] (fun s i wr => ∃ (j : Nat) (U : ByteArray), j ≤ n ∧ i = .int .i64 j ∧ s = .string U ∧ U.size ≤ 80 + 10 * j ∧ Hid (U = ⟨(encs ([0, qu, sr, st, en, va, 1, (n : Int)] ++ hs.take j)).toArray⟩) ∧ Hid (Below w.heap.size w wr) ∧ Hid (Has wr w.heap.size 30 #[.int .i64 0, .int .i64 qu, .int .i64 sr, .int .i64 st, .int .i64 en, .int .i64 va, .bool true, .slice A n c, .int .i64 se, .int .i64 ti, .int .i64 sq, .int .i64 bd]) ∧ Hid (Ints wr A n hs)) (fun _ i _ => n - (intOf i).toNat)
    case atStart => exact ⟨0, T, Nat.zero_le _, rfl, rfl, by have := HT.out; omega, Lib.hid (by rw [List.take_zero, List.append_nil]; exact HS.out), HB, HO, HI3⟩
    case round =>
      clear HS HB HO HI3 HT
      obtain ⟨j, U, hj, rfl, rfl, hU, HU, HB, HO, HI⟩ := hrel
      have c7 : wr.cell? ⟨w.heap.size, 7, none⟩ = some (.slice A n c) := HO.out.cell 7
      by_cases hlt : j < n
      · obtain ⟨bb, oo, rfl, hc0⟩ := HI.out.at_ (k := 0) (by omega)
        have cn : wr.cell? ⟨bb, oo + j, none⟩ = some (.int .i64 (nth hs j)) := hc0 j hlt
        have hjn : (j : Int) < (n : Int) := by omega
        have hjx : j < hs.length := by rw [HLEN.out]; exact hlt
        have hxp := HIN.out (nth hs j) (by simp [nth, List.getElem?_eq_getElem hjx])
        have zj := rput_z hxp
        have HJ := Lib.hid (rput_c hxp)
        have htk := take_succ hs hjx
        have HN : Hid (U ++ encS (nth hs j) = ⟨(encs ([0, qu, sr, st, en, va, 1, (n : Int)] ++ hs.take (j + 1))).toArray⟩) := Lib.hid (by rw [HU.out, htk, ← List.append_assoc, encs_append _ [nth hs j], ← cat_bytes]; congr 1; simp [encS, encs])
        generalize encS (nth hs j) = t at HJ zj HN
        clear hc0 htk hxp
        go_wp2_with (go_at_call 19; refine (HJ.out _).mono ?_; rintro e w4 ⟨rfl, b6⟩; have hB2 := Lib.hid (HB.out.trans (b6.mono HB.out.size)); have hO2 := Lib.hid (HO.out.below b6 HO.out.lt); have hI2 := Lib.hid (HI.out.below b6); clear b6 c7 cn)
        go_roundw
        case rel => exact ⟨j + 1, _, by omega, by go_num, rfl, by simp only [ByteArray.size_append]; omega, HN, hB2, hO2, hI2⟩
        case measure => simp [intOf]; omega
      · obtain rfl : j = n := by omega
        have hfin : U = ⟨(encs (0 :: qu :: sr :: st :: en :: va :: 1 :: (j : Int) :: hs)).toArray⟩ := by rw [HU.out, List.take_of_length_le (by rw [HLEN.out]; exact Nat.le_refl _)]; rfl
        have HF := Lib.hid hfin
        clear hfin
        go_wp2_with fail
        go_ret2
        exact ⟨by rw [HF.out]; rfl, HB.out⟩
  | false =>
    obtain rfl : 0 = bo := HOB.out
    go_wp2_with fail
    refine pr9_any (kd := 0) (qu := qu) (sr := sr) (st := st) (en := en) (va := va) (ov := false) (A := A) (n := n) (c := c) (se := se) (ti := ti) (sq := sq) (bd := bd) (bo := 0) (p := p) (q1 := q1) (q2 := q2) (q3 := q3) (q4 := q4) (q5 := q5) (q6 := q6) (q7 := q7) (g := w.heap.size) ⟨rfl, rfl, rfl, rfl, o2, Z.out, H1.out, H2.out, H3.out, H4.out, H5.out, H6.out, H7.out⟩ rfl (fun w3 b4 => ?_)
    have b5 := b3.trans (b4.mono b3.size)
    have o3 : Has w3 w.heap.size 30 #[.int .i64 0, .int .i64 qu, .int .i64 sr, .int .i64 st, .int .i64 en, .int .i64 va, .bool false, .slice A n c, .int .i64 se, .int .i64 ti, .int .i64 sq, .int .i64 bd] := o2.below b4 o2.lt
    have HI3 := Lib.hid (HI.out.below b5)
    have hT : (p ++ q1 ++ q2 ++ q3 ++ q4 ++ q5 ++ q6 ++ q7).size ≤ 80 := by have := Z.out; simp only [ByteArray.size_append]; omega
    generalize p ++ q1 ++ q2 ++ q3 ++ q4 ++ q5 ++ q6 ++ q7 = T at HS hT ⊢
    have HB := Lib.hid b5
    have HO := Lib.hid o3
    have HT := Lib.hid hT
    clear b3 b4 b5 o2 o3 cc2 Z H1 H2 H3 H4 H5 H6 H7 hT HI HOB
    simp only [putAll, Act.put, List.setIfInBounds_toArray, List.set_cons_succ, List.set_cons_zero, List.drop_succ_cons, List.drop_zero]
    go_wp2_with fail
    go_loopw [4, 6] (fun s i wr => ∃ (j : Nat) (U : ByteArray), j ≤ n ∧ i = .int .i64 j ∧ s = .string U ∧ U.size ≤ 80 + 10 * j ∧ Hid (U = ⟨(encs ([0, qu, sr, st, en, va, 0, (n : Int)] ++ hs.take j)).toArray⟩) ∧ Hid (Below w.heap.size w wr) ∧ Hid (Has wr w.heap.size 30 #[.int .i64 0, .int .i64 qu, .int .i64 sr, .int .i64 st, .int .i64 en, .int .i64 va, .bool false, .slice A n c, .int .i64 se, .int .i64 ti, .int .i64 sq, .int .i64 bd]) ∧ Hid (Ints wr A n hs)) (fun _ i _ => n - (intOf i).toNat)
    case atStart => exact ⟨0, T, Nat.zero_le _, rfl, rfl, by have := HT.out; omega, Lib.hid (by rw [List.take_zero, List.append_nil]; exact HS.out), HB, HO, HI3⟩
    case round =>
      clear HS HB HO HI3 HT
      obtain ⟨j, U, hj, rfl, rfl, hU, HU, HB, HO, HI⟩ := hrel
      have c7 : wr.cell? ⟨w.heap.size, 7, none⟩ = some (.slice A n c) := HO.out.cell 7
      by_cases hlt : j < n
      · obtain ⟨bb, oo, rfl, hc0⟩ := HI.out.at_ (k := 0) (by omega)
        have cn : wr.cell? ⟨bb, oo + j, none⟩ = some (.int .i64 (nth hs j)) := hc0 j hlt
        have hjn : (j : Int) < (n : Int) := by omega
        have hjx : j < hs.length := by rw [HLEN.out]; exact hlt
        have hxp := HIN.out (nth hs j) (by simp [nth, List.getElem?_eq_getElem hjx])
        have zj := rput_z hxp
        have HJ := Lib.hid (rput_c hxp)
        have htk := take_succ hs hjx
        have HN : Hid (U ++ encS (nth hs j) = ⟨(encs ([0, qu, sr, st, en, va, 0, (n : Int)] ++ hs.take (j + 1))).toArray⟩) := Lib.hid (by rw [HU.out, htk, ← List.append_assoc, encs_append _ [nth hs j], ← cat_bytes]; congr 1; simp [encS, encs])
        generalize encS (nth hs j) = t at HJ zj HN
        clear hc0 htk hxp
        go_wp2_with (go_at_call 19; refine (HJ.out _).mono ?_; rintro e w4 ⟨rfl, b6⟩; have hB2 := Lib.hid (HB.out.trans (b6.mono HB.out.size)); have hO2 := Lib.hid (HO.out.below b6 HO.out.lt); have hI2 := Lib.hid (HI.out.below b6); clear b6 c7 cn)
        go_roundw
        case rel => exact ⟨j + 1, _, by omega, by go_num, rfl, by simp only [ByteArray.size_append]; omega, HN, hB2, hO2, hI2⟩
        case measure => simp [intOf]; omega
      · obtain rfl : j = n := by omega
        have hfin : U = ⟨(encs (0 :: qu :: sr :: st :: en :: va :: 0 :: (j : Int) :: hs)).toArray⟩ := by rw [HU.out, List.take_of_length_le (by rw [HLEN.out]; exact Nat.le_refl _)]; rfl
        have HF := Lib.hid hfin
        clear hfin
        go_wp2_with fail
        go_ret2
        exact ⟨by rw [HF.out]; rfl, HB.out⟩

set_option maxRecDepth 100000 in
set_option maxHeartbeats 1000000 in
theorem rput_1 (qu sr st en va : Int) (ov : Bool) (hs : List Int) (A : Option Addr) (n c : Nat) (se ti sq bd : Int) (hm : MayR ⟨1, qu, sr, st, en, va, ov, hs, se, ti, sq, bd⟩) (w : World) (hI : Ints w A n hs) (_hf : 0 < n → ∀ ad, A = some ad → ad.block < w.heap.size) :
    Calls Try.prog 7 #[.agg #[.int .i64 1, .int .i64 qu, .int .i64 sr, .int .i64 st, .int .i64 en, .int .i64 va, .bool ov, .slice A n c, .int .i64 se, .int .i64 ti, .int .i64 sq, .int .i64 bd]] w fun e w' => e = .returned (.tuple #[.string ⟨(encs ([1, se, ti, sq])).toArray⟩, .int .i64 0]) ∧ Below w.heap.size w w' := by
  have HM := Lib.hid (fun (w : World) h => rmay_any ⟨1, qu, sr, st, en, va, ov, hs, se, ti, sq, bd⟩ A n c true (mayR_yes hm) w h)
  have HV := Lib.hid (show ∀ x ∈ numsR ⟨1, qu, sr, st, en, va, ov, hs, se, ti, sq, bd⟩, InP x from numsR_wf hm)
  have HP := Lib.hid (rput_c (x := 1) (by unfold InP; omega))
  have z0 := rput_z (x := 1) (by unfold InP; omega)
  have H1 := Lib.hid (rput_c (x := se) (HV.out se (by simp [numsR])))
  have z1 := rput_z (x := se) (HV.out se (by simp [numsR]))
  have H2 := Lib.hid (rput_c (x := ti) (HV.out ti (by simp [numsR])))
  have z2 := rput_z (x := ti) (HV.out ti (by simp [numsR]))
  have H3 := Lib.hid (rput_c (x := sq) (HV.out sq (by simp [numsR])))
  have z3 := rput_z (x := sq) (HV.out sq (by simp [numsR]))
  have HS : Hid (encS 1 ++ encS se ++ encS ti ++ encS sq = ⟨(encs [1, se, ti, sq]).toArray⟩) := Lib.hid (by simp only [encS, cat_bytes, encs, List.append_assoc, List.append_nil])
  generalize encS 1 = p at HP HS z0
  generalize encS se = q1 at H1 HS z1
  generalize encS ti = q2 at H2 HS z2
  generalize encS sq = q3 at H3 HS z3
  have Z := Lib.hid (And.intro z0 (And.intro z1 (And.intro z2 z3)))
  clear z0 z1 z2 z3 HV
  have HI := Lib.hid hI
  clear hI hm
  go_enter Try.func7, Try.ntmps7
  go_wp2_with fail
  refine (HM.out _ (HI.out.below ((Below.refl _ _).alloc (Nat.le_refl _) _))).mono ?_; rintro e w1 ⟨rfl, b1⟩
  have b0 : Below w.heap.size w w1 := ((Below.refl _ _).alloc (Nat.le_refl _) _).trans (b1.mono (by simp))
  have o1 : Has w1 w.heap.size 30 #[.int .i64 1, .int .i64 qu, .int .i64 sr, .int .i64 st, .int .i64 en, .int .i64 va, .bool ov, .slice A n c, .int .i64 se, .int .i64 ti, .int .i64 sq, .int .i64 bd] := (Has.made w _ _).below b1 (by simp)
  clear b1 HM
  have c0 : w1.cell? ⟨w.heap.size, 0, none⟩ = some (.int .i64 1) := o1.cell 0
  go_wp2_with fail
  refine (HP.out _).mono ?_; rintro e w2 ⟨rfl, b2⟩
  have o2 := o1.below b2 o1.lt
  have b3 := b0.trans (b2.mono b0.size)
  clear o1 c0 b0 b2 HP
  have cc2 : ∀ i, w2.cell? ⟨w.heap.size, i, none⟩ = (#[.int .i64 1, .int .i64 qu, .int .i64 sr, .int .i64 st, .int .i64 en, .int .i64 va, .bool ov, .slice A n c, .int .i64 se, .int .i64 ti, .int .i64 sq, .int .i64 bd] : Array Value)[i]? := fun i => o2.cell i
  go_wp2_with fail
  refine pr17_any (kd := 1) (qu := qu) (sr := sr) (st := st) (en := en) (va := va) (ov := ov) (A := A) (n := n) (c := c) (se := se) (ti := ti) (sq := sq) (bd := bd) (bo := 0) (p := p) (q1 := q1) (q2 := q2) (q3 := q3) (g := w.heap.size) ⟨rfl, rfl, rfl, o2, Z.out, H1.out, H2.out, H3.out⟩ rfl (fun w3 b4 => ?_)
  have b5 := b3.trans (b4.mono b3.size)
  clear b3 b4 o2 cc2 Z H1 H2 H3
  simp only [putAll, Act.put, List.setIfInBounds_toArray, List.set_cons_succ, List.set_cons_zero, List.drop_succ_cons, List.drop_zero]
  go_wp2_with fail
  go_ret2
  exact ⟨by rw [← HS.out]; rfl, b5⟩

set_option maxRecDepth 100000 in
set_option maxHeartbeats 1000000 in
theorem rput_2 (qu sr st en va : Int) (ov : Bool) (hs : List Int) (A : Option Addr) (n c : Nat) (se ti sq bd : Int) (hm : MayR ⟨2, qu, sr, st, en, va, ov, hs, se, ti, sq, bd⟩) (w : World) (hI : Ints w A n hs) (_hf : 0 < n → ∀ ad, A = some ad → ad.block < w.heap.size) :
    Calls Try.prog 7 #[.agg #[.int .i64 2, .int .i64 qu, .int .i64 sr, .int .i64 st, .int .i64 en, .int .i64 va, .bool ov, .slice A n c, .int .i64 se, .int .i64 ti, .int .i64 sq, .int .i64 bd]] w fun e w' => e = .returned (.tuple #[.string ⟨(encs ([2, se, ti, sq])).toArray⟩, .int .i64 0]) ∧ Below w.heap.size w w' := by
  have HM := Lib.hid (fun (w : World) h => rmay_any ⟨2, qu, sr, st, en, va, ov, hs, se, ti, sq, bd⟩ A n c true (mayR_yes hm) w h)
  have HV := Lib.hid (show ∀ x ∈ numsR ⟨2, qu, sr, st, en, va, ov, hs, se, ti, sq, bd⟩, InP x from numsR_wf hm)
  have HP := Lib.hid (rput_c (x := 2) (by unfold InP; omega))
  have z0 := rput_z (x := 2) (by unfold InP; omega)
  have H1 := Lib.hid (rput_c (x := se) (HV.out se (by simp [numsR])))
  have z1 := rput_z (x := se) (HV.out se (by simp [numsR]))
  have H2 := Lib.hid (rput_c (x := ti) (HV.out ti (by simp [numsR])))
  have z2 := rput_z (x := ti) (HV.out ti (by simp [numsR]))
  have H3 := Lib.hid (rput_c (x := sq) (HV.out sq (by simp [numsR])))
  have z3 := rput_z (x := sq) (HV.out sq (by simp [numsR]))
  have HS : Hid (encS 2 ++ encS se ++ encS ti ++ encS sq = ⟨(encs [2, se, ti, sq]).toArray⟩) := Lib.hid (by simp only [encS, cat_bytes, encs, List.append_assoc, List.append_nil])
  generalize encS 2 = p at HP HS z0
  generalize encS se = q1 at H1 HS z1
  generalize encS ti = q2 at H2 HS z2
  generalize encS sq = q3 at H3 HS z3
  have Z := Lib.hid (And.intro z0 (And.intro z1 (And.intro z2 z3)))
  clear z0 z1 z2 z3 HV
  have HI := Lib.hid hI
  clear hI hm
  go_enter Try.func7, Try.ntmps7
  go_wp2_with fail
  refine (HM.out _ (HI.out.below ((Below.refl _ _).alloc (Nat.le_refl _) _))).mono ?_; rintro e w1 ⟨rfl, b1⟩
  have b0 : Below w.heap.size w w1 := ((Below.refl _ _).alloc (Nat.le_refl _) _).trans (b1.mono (by simp))
  have o1 : Has w1 w.heap.size 30 #[.int .i64 2, .int .i64 qu, .int .i64 sr, .int .i64 st, .int .i64 en, .int .i64 va, .bool ov, .slice A n c, .int .i64 se, .int .i64 ti, .int .i64 sq, .int .i64 bd] := (Has.made w _ _).below b1 (by simp)
  clear b1 HM
  have c0 : w1.cell? ⟨w.heap.size, 0, none⟩ = some (.int .i64 2) := o1.cell 0
  go_wp2_with fail
  refine (HP.out _).mono ?_; rintro e w2 ⟨rfl, b2⟩
  have o2 := o1.below b2 o1.lt
  have b3 := b0.trans (b2.mono b0.size)
  clear o1 c0 b0 b2 HP
  have cc2 : ∀ i, w2.cell? ⟨w.heap.size, i, none⟩ = (#[.int .i64 2, .int .i64 qu, .int .i64 sr, .int .i64 st, .int .i64 en, .int .i64 va, .bool ov, .slice A n c, .int .i64 se, .int .i64 ti, .int .i64 sq, .int .i64 bd] : Array Value)[i]? := fun i => o2.cell i
  go_wp2_with fail
  refine pr17_any (kd := 2) (qu := qu) (sr := sr) (st := st) (en := en) (va := va) (ov := ov) (A := A) (n := n) (c := c) (se := se) (ti := ti) (sq := sq) (bd := bd) (bo := 0) (p := p) (q1 := q1) (q2 := q2) (q3 := q3) (g := w.heap.size) ⟨rfl, rfl, rfl, o2, Z.out, H1.out, H2.out, H3.out⟩ rfl (fun w3 b4 => ?_)
  have b5 := b3.trans (b4.mono b3.size)
  clear b3 b4 o2 cc2 Z H1 H2 H3
  simp only [putAll, Act.put, List.setIfInBounds_toArray, List.set_cons_succ, List.set_cons_zero, List.drop_succ_cons, List.drop_zero]
  go_wp2_with fail
  go_ret2
  exact ⟨by rw [← HS.out]; rfl, b5⟩

set_option maxRecDepth 100000 in
set_option maxHeartbeats 1000000 in
theorem rput_3 (qu sr st en va : Int) (ov : Bool) (hs : List Int) (A : Option Addr) (n c : Nat) (se ti sq bd : Int) (hm : MayR ⟨3, qu, sr, st, en, va, ov, hs, se, ti, sq, bd⟩) (w : World) (hI : Ints w A n hs) (_hf : 0 < n → ∀ ad, A = some ad → ad.block < w.heap.size) :
    Calls Try.prog 7 #[.agg #[.int .i64 3, .int .i64 qu, .int .i64 sr, .int .i64 st, .int .i64 en, .int .i64 va, .bool ov, .slice A n c, .int .i64 se, .int .i64 ti, .int .i64 sq, .int .i64 bd]] w fun e w' => e = .returned (.tuple #[.string ⟨(encs ([3, se, ti, sq])).toArray⟩, .int .i64 0]) ∧ Below w.heap.size w w' := by
  have HM := Lib.hid (fun (w : World) h => rmay_any ⟨3, qu, sr, st, en, va, ov, hs, se, ti, sq, bd⟩ A n c true (mayR_yes hm) w h)
  have HV := Lib.hid (show ∀ x ∈ numsR ⟨3, qu, sr, st, en, va, ov, hs, se, ti, sq, bd⟩, InP x from numsR_wf hm)
  have HP := Lib.hid (rput_c (x := 3) (by unfold InP; omega))
  have z0 := rput_z (x := 3) (by unfold InP; omega)
  have H1 := Lib.hid (rput_c (x := se) (HV.out se (by simp [numsR])))
  have z1 := rput_z (x := se) (HV.out se (by simp [numsR]))
  have H2 := Lib.hid (rput_c (x := ti) (HV.out ti (by simp [numsR])))
  have z2 := rput_z (x := ti) (HV.out ti (by simp [numsR]))
  have H3 := Lib.hid (rput_c (x := sq) (HV.out sq (by simp [numsR])))
  have z3 := rput_z (x := sq) (HV.out sq (by simp [numsR]))
  have HS : Hid (encS 3 ++ encS se ++ encS ti ++ encS sq = ⟨(encs [3, se, ti, sq]).toArray⟩) := Lib.hid (by simp only [encS, cat_bytes, encs, List.append_assoc, List.append_nil])
  generalize encS 3 = p at HP HS z0
  generalize encS se = q1 at H1 HS z1
  generalize encS ti = q2 at H2 HS z2
  generalize encS sq = q3 at H3 HS z3
  have Z := Lib.hid (And.intro z0 (And.intro z1 (And.intro z2 z3)))
  clear z0 z1 z2 z3 HV
  have HI := Lib.hid hI
  clear hI hm
  go_enter Try.func7, Try.ntmps7
  go_wp2_with fail
  refine (HM.out _ (HI.out.below ((Below.refl _ _).alloc (Nat.le_refl _) _))).mono ?_; rintro e w1 ⟨rfl, b1⟩
  have b0 : Below w.heap.size w w1 := ((Below.refl _ _).alloc (Nat.le_refl _) _).trans (b1.mono (by simp))
  have o1 : Has w1 w.heap.size 30 #[.int .i64 3, .int .i64 qu, .int .i64 sr, .int .i64 st, .int .i64 en, .int .i64 va, .bool ov, .slice A n c, .int .i64 se, .int .i64 ti, .int .i64 sq, .int .i64 bd] := (Has.made w _ _).below b1 (by simp)
  clear b1 HM
  have c0 : w1.cell? ⟨w.heap.size, 0, none⟩ = some (.int .i64 3) := o1.cell 0
  go_wp2_with fail
  refine (HP.out _).mono ?_; rintro e w2 ⟨rfl, b2⟩
  have o2 := o1.below b2 o1.lt
  have b3 := b0.trans (b2.mono b0.size)
  clear o1 c0 b0 b2 HP
  have cc2 : ∀ i, w2.cell? ⟨w.heap.size, i, none⟩ = (#[.int .i64 3, .int .i64 qu, .int .i64 sr, .int .i64 st, .int .i64 en, .int .i64 va, .bool ov, .slice A n c, .int .i64 se, .int .i64 ti, .int .i64 sq, .int .i64 bd] : Array Value)[i]? := fun i => o2.cell i
  go_wp2_with fail
  refine pr17_any (kd := 3) (qu := qu) (sr := sr) (st := st) (en := en) (va := va) (ov := ov) (A := A) (n := n) (c := c) (se := se) (ti := ti) (sq := sq) (bd := bd) (bo := 0) (p := p) (q1 := q1) (q2 := q2) (q3 := q3) (g := w.heap.size) ⟨rfl, rfl, rfl, o2, Z.out, H1.out, H2.out, H3.out⟩ rfl (fun w3 b4 => ?_)
  have b5 := b3.trans (b4.mono b3.size)
  clear b3 b4 o2 cc2 Z H1 H2 H3
  simp only [putAll, Act.put, List.setIfInBounds_toArray, List.set_cons_succ, List.set_cons_zero, List.drop_succ_cons, List.drop_zero]
  go_wp2_with fail
  go_ret2
  exact ⟨by rw [← HS.out]; rfl, b5⟩

set_option maxRecDepth 100000 in
set_option maxHeartbeats 1000000 in
theorem rput_4 (qu sr st en va : Int) (ov : Bool) (hs : List Int) (A : Option Addr) (n c : Nat) (se ti sq bd : Int) (hm : MayR ⟨4, qu, sr, st, en, va, ov, hs, se, ti, sq, bd⟩) (w : World) (hI : Ints w A n hs) (_hf : 0 < n → ∀ ad, A = some ad → ad.block < w.heap.size) :
    Calls Try.prog 7 #[.agg #[.int .i64 4, .int .i64 qu, .int .i64 sr, .int .i64 st, .int .i64 en, .int .i64 va, .bool ov, .slice A n c, .int .i64 se, .int .i64 ti, .int .i64 sq, .int .i64 bd]] w fun e w' => e = .returned (.tuple #[.string ⟨(encs ([4])).toArray⟩, .int .i64 0]) ∧ Below w.heap.size w w' := by
  have HM := Lib.hid (fun (w : World) h => rmay_any ⟨4, qu, sr, st, en, va, ov, hs, se, ti, sq, bd⟩ A n c true (mayR_yes hm) w h)
  have HV := Lib.hid (show ∀ x ∈ numsR ⟨4, qu, sr, st, en, va, ov, hs, se, ti, sq, bd⟩, InP x from numsR_wf hm)
  have HP := Lib.hid (rput_c (x := 4) (by unfold InP; omega))
  have z0 := rput_z (x := 4) (by unfold InP; omega)
  have HS : Hid (encS 4 = ⟨(encs [4]).toArray⟩) := Lib.hid (by simp only [encS, encs, List.append_nil])
  generalize encS 4 = p at HP HS z0
  clear z0 HV
  have HI := Lib.hid hI
  clear hI hm
  go_enter Try.func7, Try.ntmps7
  go_wp2_with fail
  refine (HM.out _ (HI.out.below ((Below.refl _ _).alloc (Nat.le_refl _) _))).mono ?_; rintro e w1 ⟨rfl, b1⟩
  have b0 : Below w.heap.size w w1 := ((Below.refl _ _).alloc (Nat.le_refl _) _).trans (b1.mono (by simp))
  have o1 : Has w1 w.heap.size 30 #[.int .i64 4, .int .i64 qu, .int .i64 sr, .int .i64 st, .int .i64 en, .int .i64 va, .bool ov, .slice A n c, .int .i64 se, .int .i64 ti, .int .i64 sq, .int .i64 bd] := (Has.made w _ _).below b1 (by simp)
  clear b1 HM
  have c0 : w1.cell? ⟨w.heap.size, 0, none⟩ = some (.int .i64 4) := o1.cell 0
  go_wp2_with fail
  refine (HP.out _).mono ?_; rintro e w2 ⟨rfl, b2⟩
  have o2 := o1.below b2 o1.lt
  have b3 := b0.trans (b2.mono b0.size)
  clear o1 c0 b0 b2 HP
  have cc2 : ∀ i, w2.cell? ⟨w.heap.size, i, none⟩ = (#[.int .i64 4, .int .i64 qu, .int .i64 sr, .int .i64 st, .int .i64 en, .int .i64 va, .bool ov, .slice A n c, .int .i64 se, .int .i64 ti, .int .i64 sq, .int .i64 bd] : Array Value)[i]? := fun i => o2.cell i
  clear o2
  go_wp2_with fail
  go_ret2
  exact ⟨by rw [← HS.out]; rfl, b3⟩

set_option maxRecDepth 100000 in
set_option maxHeartbeats 1000000 in
theorem rput_5 (qu sr st en va : Int) (ov : Bool) (hs : List Int) (A : Option Addr) (n c : Nat) (se ti sq bd : Int) (hm : MayR ⟨5, qu, sr, st, en, va, ov, hs, se, ti, sq, bd⟩) (w : World) (hI : Ints w A n hs) (_hf : 0 < n → ∀ ad, A = some ad → ad.block < w.heap.size) :
    Calls Try.prog 7 #[.agg #[.int .i64 5, .int .i64 qu, .int .i64 sr, .int .i64 st, .int .i64 en, .int .i64 va, .bool ov, .slice A n c, .int .i64 se, .int .i64 ti, .int .i64 sq, .int .i64 bd]] w fun e w' => e = .returned (.tuple #[.string ⟨(encs ([5, bd])).toArray⟩, .int .i64 0]) ∧ Below w.heap.size w w' := by
  have HM := Lib.hid (fun (w : World) h => rmay_any ⟨5, qu, sr, st, en, va, ov, hs, se, ti, sq, bd⟩ A n c true (mayR_yes hm) w h)
  have HV := Lib.hid (show ∀ x ∈ numsR ⟨5, qu, sr, st, en, va, ov, hs, se, ti, sq, bd⟩, InP x from numsR_wf hm)
  have HP := Lib.hid (rput_c (x := 5) (by unfold InP; omega))
  have z0 := rput_z (x := 5) (by unfold InP; omega)
  have H1 := Lib.hid (rput_c (x := bd) (HV.out bd (by simp [numsR])))
  have z1 := rput_z (x := bd) (HV.out bd (by simp [numsR]))
  have HS : Hid (encS 5 ++ encS bd = ⟨(encs [5, bd]).toArray⟩) := Lib.hid (by simp only [encS, cat_bytes, encs, List.append_nil])
  generalize encS 5 = p at HP HS z0
  generalize encS bd = q1 at H1 HS z1
  clear HV
  have HI := Lib.hid hI
  clear hI hm
  go_enter Try.func7, Try.ntmps7
  go_wp2_with fail
  refine (HM.out _ (HI.out.below ((Below.refl _ _).alloc (Nat.le_refl _) _))).mono ?_; rintro e w1 ⟨rfl, b1⟩
  have b0 : Below w.heap.size w w1 := ((Below.refl _ _).alloc (Nat.le_refl _) _).trans (b1.mono (by simp))
  have o1 : Has w1 w.heap.size 30 #[.int .i64 5, .int .i64 qu, .int .i64 sr, .int .i64 st, .int .i64 en, .int .i64 va, .bool ov, .slice A n c, .int .i64 se, .int .i64 ti, .int .i64 sq, .int .i64 bd] := (Has.made w _ _).below b1 (by simp)
  clear b1 HM
  have c0 : w1.cell? ⟨w.heap.size, 0, none⟩ = some (.int .i64 5) := o1.cell 0
  go_wp2_with fail
  refine (HP.out _).mono ?_; rintro e w2 ⟨rfl, b2⟩
  have o2 := o1.below b2 o1.lt
  have b3 := b0.trans (b2.mono b0.size)
  clear o1 c0 b0 b2 HP
  have cc2 : ∀ i, w2.cell? ⟨w.heap.size, i, none⟩ = (#[.int .i64 5, .int .i64 qu, .int .i64 sr, .int .i64 st, .int .i64 en, .int .i64 va, .bool ov, .slice A n c, .int .i64 se, .int .i64 ti, .int .i64 sq, .int .i64 bd] : Array Value)[i]? := fun i => o2.cell i
  go_wp2_with (go_at_call 19; refine (H1.out _).mono ?_; rintro e w3 ⟨rfl, b4⟩; have b5 := b3.trans (b4.mono b3.size); clear b3 b4 o2 cc2)
  go_ret2
  exact ⟨by rw [← HS.out]; rfl, b5⟩

set_option maxRecDepth 100000 in
set_option maxHeartbeats 400000 in
theorem rput_bad (r : Rc) (A : Option Addr) (n c : Nat) (hm : mayR r = false) (w : World) (hI : Ints w A n r.hs) :
    Calls Try.prog 7 #[.agg (recC r A n c)] w fun e w' => e = .returned (.tuple #[.string ⟨#[]⟩, .int .i64 1000]) ∧ Below w.heap.size w w' := by
  have HM := Lib.hid (fun (w : World) h => rmay_any r A n c false hm w h)
  have HI := Lib.hid hI
  clear hm hI
  obtain ⟨kd, qu, sr, st, en, va, ov, hs, se, ti, sq, bd⟩ := r
  unfold recC at HM ⊢
  simp only at HM HI ⊢
  go_enter Try.func7, Try.ntmps7
  go_wp2_with fail
  refine (HM.out _ (HI.out.below ((Below.refl _ _).alloc (Nat.le_refl _) _))).mono ?_; rintro e w1 ⟨rfl, b1⟩
  have b0 : Below w.heap.size w w1 := ((Below.refl _ _).alloc (Nat.le_refl _) _).trans (b1.mono (by simp))
  clear b1 HM
  go_wp2_with fail
  go_ret2
  exact ⟨rfl, b0⟩

/-- What Put gives, by two names. -/
theorem rput_rec (r : Rc) (A : Option Addr) (n c : Nat) (x : ByteArray) (z : Int) (h : putR r = (x, z)) (w : World) (hI : Ints w A n r.hs) :
    Calls Try.prog 7 #[.agg (recC r A n c)] w fun e w' => e = .returned (.tuple #[.string x, .int .i64 z]) ∧ Below w.heap.size w w' := by
  by_cases hm : mayR r = true
  · have hM := mayR_iff.1 hm
    rw [putR, if_pos hm] at h
    injection h with h1 h2
    subst h1 h2
    obtain ⟨kd, qu, sr, st, en, va, ov, hs, se, ti, sq, bd⟩ := r
    have hl : hs.length = n := hI.1
    have hk : kd = 0 ∨ kd = 1 ∨ kd = 2 ∨ kd = 3 ∨ kd = 4 ∨ kd = 5 := by have := hM.kinds; simp only at this; omega
    rcases hk with rfl | rfl | rfl | rfl | rfl | rfl
    · have := rput_0 qu sr st en va ov hs A n c se ti sq bd hM w hI (fun h0 => Ints.far hI h0)
      rw [← hl] at this ⊢
      exact this
    · exact rput_1 qu sr st en va ov hs A n c se ti sq bd hM w hI (fun h0 => Ints.far hI h0)
    · exact rput_2 qu sr st en va ov hs A n c se ti sq bd hM w hI (fun h0 => Ints.far hI h0)
    · exact rput_3 qu sr st en va ov hs A n c se ti sq bd hM w hI (fun h0 => Ints.far hI h0)
    · exact rput_4 qu sr st en va ov hs A n c se ti sq bd hM w hI (fun h0 => Ints.far hI h0)
    · exact rput_5 qu sr st en va ov hs A n c se ti sq bd hM w hI (fun h0 => Ints.far hI h0)
  · have hm : mayR r = false := by simpa using hm
    rw [putR, if_neg (by simp [hm])] at h
    injection h with h1 h2
    subst h1 h2
    exact rput_bad r A n c hm w hI


end Go.Proofs.Ytdbcmcdmipehgaa
