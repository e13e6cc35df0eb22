/-
  Walk: ScanCuts: however bytes are cut the operations are the same.
-/
import Derived.Test.YtoechlmahckchaaScDuo
import Derived.Test.YtoechlmahckchaaFMask
namespace Go.Proofs.Ytoechlmahckchaa
open Go.RowKit

theorem allL_len (l : List UInt8) (b : Nat) (hb : b ≤ 1073741823) : (allL l b).length ≤ 2 * l.length + 1 := by
  have h := (runL_fits true l.length l b (Nat.le_refl _) hb).2.2.2.1
  have h1 : (tellB (runL true l b).2.2).length ≤ 1 := by unfold tellB; split <;> simp
  unfold allL
  rw [List.length_append]
  omega
theorem part_list (F : ByteArray) (j k : Nat) : (F.extract j k).data.toList = (F.data.toList.drop j).take (k - j) := by
  rw [ByteArray.data_extract, Array.toList_extract]
theorem part_rest (l : List UInt8) {j k : Nat} (h : j ≤ k) : l.drop j = (l.drop j).take (k - j) ++ l.drop k := by
  conv => lhs; rw [← List.take_append_drop (k - j) (l.drop j)]
  rw [List.drop_drop, show j + (k - j) = k by omega]

theorem waits_nil (g b : Nat) (w : World) (h : Has w g 58 (scC [] b)) :
    Calls Try.prog 16 #[.pointer (some ⟨g, 0, none⟩)] w fun e w' => e = .returned (.string ⟨#[]⟩) ∧ Below w.heap.size w w' := waits_any g [] b w h (by decide)
/-- The memory of the law: two scanners, the row of all operations, the row that grows. -/
structure CtS (w0 : World) (x y : Nat) (ly : List UInt8) (b : Nat) (VW : Value) (osW : List Po) (VA : Value) (osA : List Po) (w : World) : Prop where
  duo : DuoS w0 x 58 [] 0 y 58 ly b w
  ow : OwnO w w0.heap.size VW osW
  oa : OwnO w w0.heap.size VA osA
  ne : VW.ownBlock = none ∨ VW.ownBlock ≠ VA.ownBlock
section
variable {w0 : World} {x y : Nat} {ly : List UInt8} {b : Nat} {VW : Value} {osW : List Po} {VA : Value} {osA : List Po} {w w' : World}
theorem CtS.below (h : CtS w0 x y ly b VW osW VA osA w) (hb : Below w.heap.size w w') : CtS w0 x y ly b VW osW VA osA w' := ⟨h.duo.below hb, h.ow.below hb, h.oa.below hb, h.ne⟩
theorem CtS.wrote (h : CtS w0 x y ly b VW osW VA osA w) {l' : List UInt8} {b' : Nat} (hs : Has w' y 58 (scC l' b')) (hg : w.grownBy w' (some y)) : CtS w0 x y l' b' VW osW VA osA w' :=
  ⟨h.duo.wroteY hs hg, h.ow.grow hg (.inr (h.ow.apart h.duo.sy (by decide))), h.oa.grow hg (.inr (h.oa.apart h.duo.sy (by decide))), h.ne⟩
theorem CtS.app (h : CtS w0 x y ly b VW osW VA osA w) {VB : Value} {osB : List Po} (ho : OwnO w' w0.heap.size VB osB) (hg : w.grownBy w' VA.ownBlock) (hb : VB.ownBlock = VA.ownBlock ∨ VB.ownBlock = some w.heap.size) : CtS w0 x y ly b VW osW VB osB w' := by
  refine ⟨h.duo.grown (by decide) (by decide) h.oa hg, h.ow.grow hg h.ne, ho, ?_⟩
  rcases hb with e | e
  · rw [e]; exact h.ne
  · rw [e]
    cases hv : VW.ownBlock with
    | none => exact .inl rfl
    | some k => exact .inr (fun e2 => by injection e2 with e2; have := (h.ow.lt hv).1; omega)
end
/-- What of the whole is still to come. -/
def CutQ (L : List UInt8) (j : Nat) (ly : List UInt8) (b : Nat) (osA : List Po) : Prop := osA ++ allL (ly ++ L.drop j) b = allL L 0 ∧ ly.length ≤ 63 ∧ b ≤ 1073741823
theorem CutQ.next {L : List UInt8} {j k : Nat} {ly : List UInt8} {b : Nat} {osA os : List Po} {r : List UInt8} {b' : Nat} (h : CutQ L j ly b osA) (hjk : j ≤ k) (hr : runL false (ly ++ (L.drop j).take (k - j)) b = (os, r, b')) : CutQ L k r b' (osA ++ os) := by
  have f := runL_fits false _ (ly ++ (L.drop j).take (k - j)) b (Nat.le_refl _) h.2.2
  rw [hr] at f
  refine ⟨?_, (look_two f.1).2, f.2.2.1⟩
  have e := h.1
  rw [part_rest L hjk, ← List.append_assoc, allL_more, hr] at e
  rw [List.append_assoc]
  exact e
theorem CutQ.len {L : List UInt8} {j : Nat} {ly : List UInt8} {b : Nat} {osA : List Po} (h : CutQ L j ly b osA) : osA.length ≤ 2 * L.length + 1 := by
  have := allL_len L 0 (by omega)
  rw [← h.1, List.length_append] at this
  omega

set_option maxRecDepth 100000 in
set_option maxHeartbeats 1000000 in
theorem scancuts_any (F : ByteArray) (A0 : Option Addr) (m c0 : Nat) (xs : List Int) (w : World) (hFs : F.size ≤ 1048576) (hI : Ints w A0 m xs) (hm : m ≤ 1048576) :
    Calls Try.prog 4 #[.string F, .slice A0 m c0] w fun e w' => e = .returned (.bool true) ∧ Below w.heap.size w w' := by
  have HA := Lib.hid (fun w : World => sawake_any w)
  have hLs : F.data.toList.length = F.size := by simp
  obtain ⟨os1, r1, n1, h1⟩ : ∃ os r n, runL false F.data.toList 0 = (os, r, n) := ⟨_, _, _, rfl⟩
  have f1 := runL_fits false F.data.toList.length F.data.toList 0 (Nat.le_refl _) (by omega)
  rw [h1] at f1
  have hr1 : r1.length ≤ 63 := (look_two f1.1).2
  have hn1 : n1 ≤ 1073741823 := f1.2.2.1
  have ho1 : os1.length ≤ 2 * F.data.toList.length := f1.2.2.2.1
  have hall : os1 ++ allL r1 n1 = allL F.data.toList 0 := by
    have := allL_close F.data.toList 0
    rw [h1] at this
    exact this.symm
  have ho2 := allL_len r1 n1 hn1
  have HW1 := Lib.hid (fun (g : Nat) (w : World) h => swrite_any g [] 0 F w h (by simp; omega) (by decide) os1 r1 n1 (by rw [List.nil_append]; exact h1))
  have HC1 := Lib.hid (fun (g : Nat) (w : World) h => sclose_any g r1 n1 w h (by omega) hn1 _ rfl)
  generalize allL r1 n1 = os2 at HC1 hall ho2
  have HWY : Hid (∀ (g : Nat) (w : World) (j k : Nat) (ly : List UInt8) (b : Nat) (osA : List Po), j ≤ k → k ≤ F.size → CutQ F.data.toList j ly b osA → Has w g 58 (scC ly b) → ∃ os r b', os.length ≤ 10000000 ∧ CutQ F.data.toList k r b' (osA ++ os) ∧ Calls Try.prog 13 #[.pointer (some ⟨g, 0, none⟩), .string (F.extract j k)] w fun e w' => WroteO g 58 os r b' e w w') := Lib.hid (by
    intro g w j k ly b osA hjk hk hq h
    obtain ⟨os, r, b', hr⟩ : ∃ os r n, runL false (ly ++ (F.data.toList.drop j).take (k - j)) b = (os, r, n) := ⟨_, _, _, rfl⟩
    have f := (runL_fits false _ (ly ++ (F.data.toList.drop j).take (k - j)) b (Nat.le_refl _) hq.2.2).2.2.2.1
    rw [hr] at f
    have hl1 := hq.2.1
    refine ⟨os, r, b', ?_, hq.next hjk hr, swrite_any g ly b _ w h (by rw [ByteArray.size_extract]; omega) hq.2.2 os r b' (by rw [part_list]; exact hr)⟩
    simp only [List.length_append, List.length_take, List.length_drop] at f
    omega)
  have HALL := Lib.hid hall
  have HLs := Lib.hid hLs
  have ho1' : os1.length ≤ 10000000 := by omega
  have ho2' : os2.length ≤ 10000000 := by omega
  have HIn := Lib.hid hI
  clear h1 f1 hr1 hn1 ho1 ho2 hall hLs hI
  go_enter Try.func4, Try.ntmps4
  go_wp2_with fail
  refine (HA.out _).mono ?_; rintro e w1 ⟨rfl, b1⟩
  have s1 := b1.size
  go_wp2_with fail
  refine (new_any _).mono ?_; rintro e w2 ⟨rfl, x2, b2⟩
  have k2 := b1.trans (b2.mono s1)
  have s2 := k2.size
  have l2 := x2.lt
  go_wp2_with fail
  refine (new_any _).mono ?_; rintro e w3 ⟨rfl, y3, b3⟩
  have H3 : Hid (DuoS w w1.heap.size 58 [] 0 w2.heap.size 58 [] 0 w3) := Lib.hid ⟨k2.trans (b3.mono s2), Nat.le_trans s2 b3.size, x2.below b3 l2, y3, by omega, s1, s2⟩
  clear b1 b2 k2 x2 y3 b3 HA
  go_wp2_with fail
  refine (HW1.out _ _ H3.out.sx).mono ?_; rintro e w4 ⟨A1, c1, rfl, p1, x4, g4⟩
  have H4 := Lib.hid (And.intro (H3.out.wroteX x4 g4) (And.intro p1.ops p1.slice.2.2))
  clear p1 x4 g4 H3 HW1
  go_wp2_with fail
  refine (copyops_any A1 os1.length c1 os1 _ H4.out.2.1 (by omega) H4.out.2.2).mono ?_; rintro e w5 ⟨A2, c2, rfl, p2, b5⟩
  have H5 := Lib.hid (And.intro (H4.out.1.below b5) (p2.mono H4.out.1.sz))
  clear p2 b5 H4
  go_wp2_with fail
  refine (HC1.out _ _ H5.out.1.sx).mono ?_; rintro e w6 ⟨A3, c3, rfl, p3, x6, g6⟩
  have H6 := Lib.hid (And.intro (H5.out.1.wroteX x6 g6) (And.intro (H5.out.2.grow g6 (.inr (H5.out.2.apart H5.out.1.sx (by decide)))) (And.intro p3.ops p3.slice.2.2)))
  clear p3 x6 g6 H5 HC1
  have hs6 : w.heap.size ≤ w6.heap.size := H6.out.1.sz
  have HQ : Hid (∀ (w7 : World) (A4 : Option Addr) (c4 : Nat), OwnO w7 w.heap.size (.slice A4 (os1.length + os2.length) c4) (os1 ++ os2) → w6.grownBy w7 (Value.slice A2 os1.length c2).ownBlock → CtS w w1.heap.size w2.heap.size [] 0 (.slice A4 (os1.length + os2.length) c4) (allL F.data.toList 0) (.slice none 0 0) [] w7) := Lib.hid (fun w7 A4 c4 g1 g2 => by
    rw [HALL.out] at g1
    refine ⟨H6.out.1.grown (by decide) (by decide) H6.out.2.1 g2, g1, OwnO.nil _ _, ?_⟩
    cases (Value.slice A4 (os1.length + os2.length) c4).ownBlock with
    | none => exact .inl rfl
    | some k => exact .inr (by simp [Value.ownBlock]))
  generalize hn1 : os1.length = n1 at *
  generalize hn2 : os2.length = n2 at *
  have HN := Lib.hid (And.intro hn1 hn2)
  clear hn1 hn2
  go_wp2_with (refine app_ops rfl _ _ rfl rfl H6.out.2.1 rfl H6.out.2.2.1 H6.out.2.2.2 (by omega) hs6 (fun A4 c4 w7 g1 g2 _ => ?_); have H7 := Lib.hid (HQ.out w7 A4 c4 g1 g2); clear g1 g2 HQ)
  obtain ⟨N, hN⟩ : ∃ N, n1 + n2 = N := ⟨_, rfl⟩
  rw [hN] at H7 ⊢
  have hNl : N = (allL F.data.toList 0).length := by rw [← HALL.out, List.length_append, HN.out.1, HN.out.2, hN]
  have HN2 := Lib.hid hNl
  have hN3 : N ≤ 20000000 := by omega
  clear hN hNl HN H6 HALL
  go_wp2_with fail
  go_loopw [8, 9, 10] (fun v at_ i_ wr => ∃ (j i : Nat) (A : Option Addr) (n c : Nat) (osA : List Po) (ly : List UInt8) (b : Nat), j ≤ F.size ∧ i ≤ m ∧ v = .slice A n c ∧ at_ = .int .i64 j ∧ i_ = .int .i64 i ∧ Hid (CtS w w1.heap.size w2.heap.size ly b (.slice A4 N c4) (allL F.data.toList 0) (.slice A n c) osA wr) ∧ Hid (CutQ F.data.toList j ly b osA)) (fun _ _ i_ _ => m - (intOf i_).toNat)
  case atStart => exact ⟨0, 0, none, 0, 0, [], [], 0, by omega, by omega, rfl, rfl, rfl, H7, Lib.hid ⟨rfl, by simp, by omega⟩⟩
  case round =>
    clear H7
    obtain ⟨j, i, A, n, c, osA, ly, b, hj, hi, rfl, rfl, rfl, H8, HQ⟩ := hrel
    have hnA : n ≤ 3000000 := by
      have h1 := H8.out.oa.slice.1
      have h2 := HQ.out.len
      rw [HLs.out] at h2
      omega
    by_cases hgo : i < m ∧ j < F.size
    · obtain ⟨him, hjF⟩ := hgo
      have q1 : (i : Int) < (m : Int) := by omega
      have q2 : (j : Int) < (F.size : Int) := by omega
      obtain ⟨bx, ox, rfl, hc⟩ := (HIn.out.below H8.out.duo.keep).at_ (k := 0) (by omega)
      have hx := hc i him
      clear hc
      generalize nth xs i = z at hx
      obtain ⟨cc, hcc⟩ : ∃ cc : Nat, z % 16 = cc := ⟨(z % 16).toNat, by omega⟩
      have hcl : cc ≤ 15 := by omega
      have hmask : bits .and .i64 z 15 = (cc : Int) := by rw [mask_of z 4 15 (by decide) (by decide), ← hcc]; rfl
      clear hcc
      obtain ⟨K, hK, hjK, hKs⟩ : ∃ K : Nat, min (F.size : Int) ((j : Int) + (cc : Int)) = (K : Int) ∧ j ≤ K ∧ K ≤ F.size := ⟨min F.size (j + cc), by omega, by omega, by omega⟩
      have HK := Lib.hid hK; clear hK
      obtain ⟨os, r, b', ho, hq, hcall⟩ := HWY.out w2.heap.size wr j K ly b osA hjK hKs HQ.out H8.out.duo.sy
      have HCa := Lib.hid hcall
      have HQ2 := Lib.hid hq
      clear hq hcall
      go_wp2_with fail
      simp only [HK.out, Int.toNat_natCast]
      refine (HCa.out).mono ?_; rintro e w8 ⟨A5, c5, rfl, p5, y8, g8⟩
      have H9 := Lib.hid (And.intro (H8.out.wrote y8 g8) (And.intro p5.ops p5.slice.2.2))
      clear p5 y8 g8 H8 HCa HQ
      have hs9 : w.heap.size ≤ w8.heap.size := H9.out.1.duo.sz
      have HX : Hid (∀ (w9 : World) (A6 : Option Addr) (c6 : Nat), OwnO w9 w.heap.size (.slice A6 (n + os.length) c6) (osA ++ os) → w8.grownBy w9 (Value.slice A n c).ownBlock → ((Value.slice A6 (n + os.length) c6).ownBlock = (Value.slice A n c).ownBlock ∨ (Value.slice A6 (n + os.length) c6).ownBlock = some w8.heap.size) → CtS w w1.heap.size w2.heap.size r b' (.slice A4 N c4) (allL F.data.toList 0) (.slice A6 (n + os.length) c6) (osA ++ os) w9) := Lib.hid (fun w9 A6 c6 q1 q2 q3 => H9.out.1.app q1 q2 q3)
      generalize os.length = n5 at H9 HX ho ⊢
      go_wp2_with (refine app_ops rfl _ _ rfl rfl H9.out.1.oa rfl H9.out.2.1 H9.out.2.2 (by omega) hs9 (fun A6 c6 w9 q1 q2 q3 => ?_); have H10 := Lib.hid (HX.out w9 A6 c6 q1 q2 q3); clear q1 q2 q3 HX)
      exact ⟨⟨K, i + 1, A6, n + n5, c6, osA ++ os, r, b', hKs, by omega, rfl, rfl, by go_num, H10, HQ2⟩, by simp [intOf]; omega⟩
    · have hgo2 : (¬ (i : Int) < (m : Int)) ∨ ((i : Int) < (m : Int) ∧ ¬ (j : Int) < (F.size : Int)) := by omega
      obtain ⟨os, r, b', ho, hq, hcall⟩ := HWY.out w2.heap.size wr j F.size ly b osA hj (Nat.le_refl _) HQ.out H8.out.duo.sy
      have hr63 := hq.2.1
      have HC := Lib.hid (fun (w : World) h => sclose_any w2.heap.size r b' w h (by omega) hq.2.2 _ rfl)
      have hlen4 := allL_len r b' hq.2.2
      have hfin : (osA ++ os) ++ allL r b' = allL F.data.toList 0 := by
        have e := hq.1
        rw [List.drop_eq_nil_of_le (by rw [HLs.out]; omega), List.append_nil] at e
        exact e
      have hlenN : n + os.length + (allL r b').length = N := by
        rw [HN2.out, ← hfin, List.length_append, List.length_append, H8.out.oa.slice.1]
      generalize allL r b' = os4 at HC hlen4 hfin hlenN
      have HF := Lib.hid (And.intro hfin hlenN)
      have HCa := Lib.hid hcall
      clear hq hcall hfin hlenN hgo HWY HN2 HQ
      -- what comes behind the loop
      have HZ : Hid (∀ w8 : World, (∀ (A5 : Option Addr) (c5 : Nat), OwnO w8 wr.heap.size (.slice A5 os.length c5) os → Has w8 w2.heap.size 58 (scC r b') → wr.grownBy w8 (some w2.heap.size) → CtS w w1.heap.size w2.heap.size r b' (.slice A4 N c4) (allL F.data.toList 0) (.slice A n c) osA w8 ∧ Ops w8 A5 os.length os ∧ (A5 = none → c5 = 0 ∧ os.length = 0))) := Lib.hid (fun w8 A5 c5 p5 y8 g8 => ⟨H8.out.wrote y8 g8, p5.ops, p5.slice.2.2⟩)
      clear H8
      rcases hgo2 with q1 | ⟨q1, q2⟩
      all_goals
        go_wp2_with fail
        refine (HCa.out).mono ?_; rintro e w8 ⟨A5, c5, rfl, p5, y8, g8⟩
        have H9 := Lib.hid (HZ.out w8 A5 c5 p5 y8 g8)
        clear p5 y8 g8 HCa HZ
        have hs9 : w.heap.size ≤ w8.heap.size := H9.out.1.duo.sz
        have HX : Hid (∀ (w9 : World) (A6 : Option Addr) (c6 : Nat), OwnO w9 w.heap.size (.slice A6 (n + os.length) c6) (osA ++ os) → w8.grownBy w9 (Value.slice A n c).ownBlock → ((Value.slice A6 (n + os.length) c6).ownBlock = (Value.slice A n c).ownBlock ∨ (Value.slice A6 (n + os.length) c6).ownBlock = some w8.heap.size) → CtS w w1.heap.size w2.heap.size r b' (.slice A4 N c4) (allL F.data.toList 0) (.slice A6 (n + os.length) c6) (osA ++ os) w9) := Lib.hid (fun w9 A6 c6 q1 q2 q3 => H9.out.1.app q1 q2 q3)
        generalize os.length = n5 at H9 HX ho HF ⊢
        go_wp2_with (refine app_ops rfl _ _ rfl rfl H9.out.1.oa rfl H9.out.2.1 H9.out.2.2 (by omega) hs9 (fun A6 c6 w9 q1 q2 q3 => ?_); have H10 := Lib.hid (HX.out w9 A6 c6 q1 q2 q3); clear q1 q2 q3 HX)
        refine (HC.out _ H10.out.duo.sy).mono ?_; rintro e w10 ⟨A7, c7, rfl, p7, y10, g10⟩
        have H11 := Lib.hid (And.intro (H10.out.wrote y10 g10) (And.intro p7.ops p7.slice.2.2))
        clear p7 y10 g10 H10 HC H9
        have hs11 : w.heap.size ≤ w10.heap.size := H11.out.1.duo.sz
        have HX : Hid (∀ (w9 : World) (A6' : Option Addr) (c6' : Nat), OwnO w9 w.heap.size (.slice A6' (n + n5 + os4.length) c6') ((osA ++ os) ++ os4) → w10.grownBy w9 (Value.slice A6 (n + n5) c6).ownBlock → ((Value.slice A6' (n + n5 + os4.length) c6').ownBlock = (Value.slice A6 (n + n5) c6).ownBlock ∨ (Value.slice A6' (n + n5 + os4.length) c6').ownBlock = some w10.heap.size) → CtS w w1.heap.size w2.heap.size [] 0 (.slice A4 N c4) (allL F.data.toList 0) (.slice A6' N c6') (allL F.data.toList 0) w9) := Lib.hid (fun w9 A6 c6 q1 q2 q3 => by
          have := H11.out.1.app q1 q2 q3
          rwa [HF.out.1, HF.out.2] at this)
        have HF2 := Lib.hid HF.out.2
        generalize os4.length = n6 at H11 HX HF2 hlen4 ⊢
        clear HF
        go_wp2_with (refine app_ops rfl _ _ rfl rfl H11.out.1.oa rfl H11.out.2.1 H11.out.2.2 (by omega) hs11 (fun A8 c8 w11 q1 q2 q3 => ?_); rw [HF2.out]; have H12 := Lib.hid (HX.out w11 A8 c8 q1 q2 q3); clear q1 q2 q3 HX)
        refine (sameops_any A8 A4 N c8 c4 (allL F.data.toList 0) w11 H12.out.oa.ops H12.out.ow.ops (by omega)).mono ?_; rintro e w12 ⟨rfl, b12⟩
        have H13 := Lib.hid (H12.out.duo.below b12)
        clear b12 H12 H11
        go_wp2_with fail
        refine (waits_nil w1.heap.size 0 w12 H13.out.sx).mono ?_; rintro e w13 ⟨rfl, b13⟩
        have H14 := Lib.hid (H13.out.below b13)
        clear b13 H13
        go_wp2_with fail
        refine (waits_nil w2.heap.size 0 w13 H14.out.sy).mono ?_; rintro e w14 ⟨rfl, b14⟩
        have H15 := Lib.hid (H14.out.below b14)
        clear b14 H14
        go_wp2_with fail
        refine (badn_any w1.heap.size [] 0 w14 H15.out.sx).mono ?_; rintro e w15 ⟨rfl, rfl⟩
        go_wp2_with fail
        refine (badn_any w2.heap.size [] 0 w14 H15.out.sy).mono ?_; rintro e w15 ⟨rfl, rfl⟩
        go_wp2_with fail
        go_ret
        exact ⟨rfl, H15.out.keep⟩

end Go.Proofs.Ytoechlmahckchaa
