/-
  Walk: ScanFinds: operations come in their row out of any rubbish between them (written by gen/scfinds.py).
-/
import Derived.Test.YtoechlmahckchaaScFiP
import Derived.Test.YtoechlmahckchaaScBad
import Derived.Test.YtoechlmahckchaaScOpen
import Derived.Test.YtoechlmahckchaaScAwake
import Derived.Test.YtoechlmahckchaaScDuo
namespace Go.Proofs.Ytoechlmahckchaa
open Go.RowKit

theorem load_opR2 {ops : Array Oper} {rest : List Oper} {op : Oper} {a : Act} {w : World} {Q : Exit → Act → World → Prop} (hgd : op.guard = none) (x : Operand) (ho : op.op = .load 49 x)
    (b o : Nat) (hx : a.eval x = .pointer (some ⟨b, o, none⟩)) {y : Po} (hc : w.rangeAt b o (opL y))
    (h : wpList Try.prog ops Q rest (a.put op.dst (.agg #[.int .i64 y.k, .int .i64 y.so, .int .i64 y.se, .int .i64 y.ti, .int .i64 y.va])) w) : wpList Try.prog ops Q (op :: rest) a w :=
  wpList_load_mid hgd 49 x ho b o hx _ _ hc Try.underlying49 rfl Try.sizeOp (by simpa [opL] using h)
/-- A scanner to which nothing was written, the row that is wanted. -/
structure FiS (w0 : World) (x : Nat) (VA : Value) (want : List Po) (w : World) : Prop where
  keep : Below w0.heap.size w0 w
  sz : w0.heap.size ≤ w.heap.size
  sx : Has w x 58 (scC [] 0)
  nx : w0.heap.size ≤ x
  ow : OwnO w w0.heap.size VA want
section
variable {w0 : World} {x : Nat} {VA : Value} {want : List Po} {w w' : World}
theorem FiS.below (h : FiS w0 x VA want w) (hb : Below w.heap.size w w') : FiS w0 x VA want w' :=
  ⟨h.keep.trans (hb.mono h.sz), Nat.le_trans h.sz hb.size, h.sx.below hb h.sx.lt, h.nx, h.ow.below hb⟩
theorem FiS.app (h : FiS w0 x VA want w) {VB : Value} {osB : List Po} (ho : OwnO w' w0.heap.size VB osB) (hg : w.grownBy w' VA.ownBlock) : FiS w0 x VB osB w' :=
  ⟨below_wrote h.keep hg h.sz (fun _ hk => (h.ow.lt hk).2), Nat.le_trans h.sz hg.size, h.sx.grow hg (h.ow.apart h.sx (by decide)), h.nx, ho⟩
theorem FiS.bad (h : FiS w0 x VA want w) {VB : Value} {osB : List Po} (ho : OwnO w' w.heap.size VB osB) (hb : Below w.heap.size w w') : FiS w0 x VB osB w' :=
  ⟨h.keep.trans (hb.mono h.sz), Nat.le_trans h.sz hb.size, h.sx.below hb h.sx.lt, h.nx, ho.mono h.sz⟩
end
theorem cat_list (a b : ByteArray) : (a ++ b).data.toList = a.data.toList ++ b.data.toList := by simp
theorem isE_of {T : ByteArray} (h : T.data.toList = []) : T = ⟨#[]⟩ := by
  have e : T = txt T.data.toList := (txt_of T).symm
  rw [h] at e
  exact e
theorem isE_no {T : ByteArray} (h : 0 < T.data.toList.length) : T.toList.isEmpty = false := by
  rw [ByteArray.toList_eq]
  cases e : T.data.toList with
  | nil => rw [e] at h; simp at h
  | cons => rfl
theorem byte_at (J : ByteArray) {k : Nat} (hk : k < J.size) : J[k] = J.data.toList[k]'(by simpa using hk) := by
  simp [ByteArray.getElem_eq_getElem_data]
theorem byte_part (J : ByteArray) {k : Nat} (hk : k < J.size) : (J.extract k (k + 1)).data.toList = [J.data.toList[k]'(by simpa using hk)] := by
  rw [ByteArray.data_extract, Array.toList_extract]
  simp only [List.extract]
  rw [show k + 1 - k = 1 by omega, List.drop_eq_getElem_cons (by simpa using hk)]
  rfl

theorem bad_find {s : List UInt8} {want W : List Po} {b B L S : Nat} (h : FindQ s want W b B L S) {A : Option Addr} {n c base : Nat} {w : World} (ho : OwnO w base (.slice A n c) want) (k : Nat) (h0 : 0 < k) (hk : k ≤ 40) (hn : n ≤ 900) (hB : B ≤ 10000) :
    ∃ m, m ≤ n + 1 ∧ Calls Try.prog 23 #[.slice A n c, .int .i64 k] w fun e w' => BadO m (W ++ tellB (b + k)) e w w' := by
  have hbd := h.bd
  have hlen := ho.slice.1
  rw [h.eq] at ho hlen
  rw [tellB_pos (b := b + k) (by omega)]
  by_cases hb : b = 0
  · subst hb
    have e : W ++ tellB 0 = W := by simp [tellB]
    rw [e] at ho
    rw [Nat.zero_add]
    exact ⟨n + 1, Nat.le_refl _, badB_any A n c k W w ho.ops h.last (by omega) ho.slice.2.2⟩
  · rw [tellB_pos (b := b) (by omega)] at ho hlen
    obtain ⟨p, rfl⟩ : ∃ p, n = p + 1 := ⟨n - 1, by simp at hlen; omega⟩
    exact ⟨p + 1, by omega, badA_any A p c b k W w ho.ops (by simpa using hlen) (by omega) (by omega) ho.slice.2.2⟩

set_option maxRecDepth 100000 in
set_option maxHeartbeats 2000000 in
theorem scanfinds_any (A0 : Option Addr) (n0 c0 : Nat) (xs : List Po) (A1 : Option Addr) (n1 c1 : Nat) (Sx : Nat → ByteArray) (w : World) (hO : Ops w A0 n0 xs) (hn0 : n0 ≤ maxLen) (hT : Txts w A1 n1 Sx) (hn1 : n1 ≤ maxLen) (hJ : ∀ i, i < n1 → (Sx i).size ≤ maxLen) :
    Calls Try.prog 5 #[.slice A0 n0 c0, .slice A1 n1 c1] w fun e w' => e = .returned (.bool true) ∧ Below w.heap.size w w' := by
  unfold maxLen at hn0 hn1
  have HJ : Hid (∀ i, i < n1 → (Sx i).size ≤ 9223372036854775807) := Lib.hid hJ
  have HO := Lib.hid hO
  have HT := Lib.hid hT
  have HA := Lib.hid (fun w : World => sawake_any w)
  clear hO hT hJ
  go_enter Try.func5, Try.ntmps5
  go_wp2_with fail
  refine (HA.out _).mono ?_; rintro e w1 ⟨rfl, b1⟩
  have s1 := b1.size
  go_wp2_with fail
  refine (new_any _).mono ?_; rintro e w2 ⟨rfl, x2, b2⟩
  have k2 := b1.trans (b2.mono s1)
  have H2 : Hid (FiS w w1.heap.size (.slice none 0 0) [] w2) := Lib.hid ⟨k2, k2.size, x2, s1, OwnO.nil _ _⟩
  clear b1 b2 k2 x2 HA
  go_wp2_with fail
  go_loopw [6, 7, 8] (fun s_ v_ i_ wr => ∃ (i : Nat) (T : ByteArray) (A : Option Addr) (n c : Nat) (want W : List Po) (b : Nat), i ≤ n0 ∧ i ≤ 20 ∧ s_ = .string T ∧ v_ = .slice A n c ∧ i_ = .int .i64 i ∧ Hid (FiS w w1.heap.size (.slice A n c) want wr) ∧ Hid (FindQ T.data.toList want W b (40 * i) (2 * i) (100 * i))) (fun _ _ i_ _ => n0 - (intOf i_).toNat)
  case atStart => exact ⟨0, ⟨#[]⟩, none, 0, 0, [], [], 0, by omega, by omega, rfl, rfl, rfl, H2, Lib.hid FindQ.zero⟩
  case round =>
    clear H2
    obtain ⟨i, T, A, n, c, want, W, b, hi, hi20, rfl, rfl, rfl, H3, HQ⟩ := hrel
    have hnw : n = want.length := H3.out.ow.slice.1.symm
    have hn40 : n ≤ 40 := by have := HQ.out.len; omega
    have hT2 : T.size ≤ 2000 := by
      have := HQ.out.size
      have e : T.data.toList.length = T.size := by simp
      omega
    clear hnw
    by_cases hgo : i < n0 ∧ i < 20
    · obtain ⟨hin, hi2⟩ := hgo
      have q1 : (i : Int) < (n0 : Int) := by omega
      have q2 : (i : Int) < 20 := by omega
      have HOi : Hid (∀ wr : World, Below w.heap.size w wr → ∃ b o, A0 = some ⟨b, o, none⟩ ∧ wr.rangeAt b (o + i * 5) (opL (nthO xs i))) := Lib.hid (fun wr hb => by
        obtain ⟨b, o, e, hh⟩ := (HO.out.below hb).2 (by omega)
        exact ⟨b, o, e, hh i hin⟩)
      obtain ⟨bo, oo, hA0, _⟩ := HOi.out _ H3.out.keep
      subst hA0
      by_cases hj : i < n1
      · have q3 : (i : Int) < (n1 : Int) := by omega
        have HTi : Hid (∀ wr : World, Below w.heap.size w wr → ∃ b o, A1 = some ⟨b, o, none⟩ ∧ wr.cell? ⟨b, o + i, none⟩ = some (.string (Sx i))) := Lib.hid (fun wr hb => by
          obtain ⟨b, o, e, hh⟩ := (HT.out.below hb) (by omega)
          exact ⟨b, o, e, hh i hj⟩)
        have hJ := HJ.out i hj
        obtain ⟨bt, ot, hA1, _⟩ := HTi.out wr H3.out.keep
        subst hA1
        generalize Sx i = J at HTi hJ
        go_wp2_with fail
        go_loopw [9, 10] (fun j_ k_ wr => ∃ (k : Nat) (TJ : ByteArray), k ≤ J.size ∧ k ≤ 40 ∧ j_ = .string TJ ∧ k_ = .int .i64 k ∧ Hid (TJ.data.toList = junkU J.data.toList k) ∧ Hid (FiS w w1.heap.size (.slice A n c) want wr)) (fun _ k_ _ => J.size - (intOf k_).toNat)
        case atStart => exact ⟨0, ⟨#[]⟩, by omega, by omega, rfl, rfl, Lib.hid rfl, H3⟩
        case round =>
          clear H3
          obtain ⟨k, TJ, hkJ, hk40, rfl, rfl, HTJ, H3⟩ := hrel
          obtain ⟨bt', ot', hA1, hcell⟩ := HTi.out _ H3.out.keep
          injection hA1 with hA1
          injection hA1 with hb' ho'
          subst hb' ho'
          have htj : TJ.size ≤ 40 := by
            have h1 := junkU_len J.data.toList k
            rw [← HTJ.out] at h1
            have e : TJ.data.toList.length = TJ.size := by simp
            omega
          by_cases hkk : k < J.size ∧ k < 40
          · obtain ⟨hkl, hk4⟩ := hkk
            have q4 : (k : Int) < (J.size : Int) := by omega
            have q5 : (k : Int) < 40 := by omega
            have hkl2 : k < J.data.toList.length := by simpa using hkl
            by_cases hm : J[k].toNat = 181
            · have HTJ2 : Hid (TJ.data.toList = junkU J.data.toList (k + 1)) := Lib.hid (by
                rw [junkU_skip hkl2 (by rw [← byte_at J hkl]; exact UInt8.toNat_inj.1 hm)]; exact HTJ.out)
              have hm2 : (((J[k].toNat : Nat) : Int) != 181) = false := by simp [hm]
              go_wp2_with fail
              go_roundw
              case rel => exact ⟨k + 1, TJ, by omega, by omega, rfl, by go_num, HTJ2, H3⟩
              case measure => simp [intOf]; omega
            · have hm2 : (((J[k].toNat : Nat) : Int) != 181) = true := by simp; omega
              have HTJ2 : Hid ((TJ ++ J.extract k (k + 1)).data.toList = junkU J.data.toList (k + 1)) := Lib.hid (by
                rw [junkU_more hkl2 (by rw [← byte_at J hkl]; intro e; exact hm (by rw [e]; rfl)), cat_list, HTJ.out, byte_part J hkl])
              go_wp2_with fail
              go_roundw
              case rel => exact ⟨k + 1, _, by omega, by omega, rfl, by go_num, HTJ2, H3⟩
              case measure => simp [intOf]; omega
          · have hko : (¬ (k : Int) < (J.size : Int)) ∨ ((k : Int) < (J.size : Int) ∧ ¬ (k : Int) < 40) := by omega
            have hjn := junkU_none J.data.toList k
            rw [← HTJ.out] at hjn
            have HJN := Lib.hid hjn
            clear hjn hkk HTJ
            rcases hko with q4 | ⟨q4, q5⟩
            all_goals
              by_cases hje : TJ.data.toList.length = 0
              · obtain rfl := isE_of (List.eq_nil_of_length_eq_zero hje)
                clear hje HJN
                have HOj : Hid (∀ wz : World, Below w.heap.size w wz → wz.rangeAt bo (oo + i * 5) (opL (nthO xs i))) := Lib.hid (fun wz hb => by
                  obtain ⟨b', o', e', hh⟩ := HOi.out wz hb
                  injection e' with e'
                  injection e' with e1 e2
                  subst e1 e2
                  exact hh)
                clear HOi HO
                generalize nthO xs i = o at HOj
                have HR0 := Lib.hid (HOj.out _ H3.out.keep)
                have HFr := Lib.hid (fun w : World => framed_any o w)
                by_cases hM : MayP o
                · have h5 := frameO_len hM
                  have HQ9 := Lib.hid (((HQ.out).op hM).more (B' := 40 * (i + 1)) (L' := 2 * (i + 1)) (S' := 100 * (i + 1)) (by omega) (by omega) (by omega))
                  obtain ⟨F, hF⟩ : ∃ F, txt (frameO o) = F := ⟨_, rfl⟩
                  have hFl : F.data.toList = frameO o := by rw [← hF]; rfl
                  have hFs : F.size ≤ 54 := by rw [← hF, txt_size]; omega
                  have hFe : F.toList.isEmpty = false := isE_no (by rw [hFl]; omega)
                  rw [hF, ] at HFr
                  have HQ10 : Hid (FindQ ((T) ++ F).data.toList ((want) ++ [o]) ((want) ++ [o]) 0 (40 * (i + 1)) (2 * (i + 1)) (100 * (i + 1))) := Lib.hid (by
                    rw [cat_list, hFl]; exact HQ9.out)
                  clear hF hFl HQ9 h5 hM
                  go_wp2_with (refine load_opR2 rfl _ rfl _ _ rfl HR0.out ?_)
                  refine (HFr.out _).mono ?_; rintro e w9 ⟨rfl, b9⟩
                  have H9 := Lib.hid (H3.out.below b9)
                  have HR9 := Lib.hid (HOj.out _ H9.out.keep)
                  clear b9 HR0 HFr HOj H3
                  have HP : Hid (OwnO (w9.alloc (.cells (opC o) 49)) w.heap.size (.slice A (n) c) (want) ∧ Ops (w9.alloc (.cells (opC o) 49)) (some ⟨w9.heap.size, 0, none⟩) 1 [o] ∧ FiS w w1.heap.size (.slice A (n) c) (want) (w9.alloc (.cells (opC o) 49))) := Lib.hid (by
                    have h := H9.out.below (w' := w9.alloc (.cells (opC o) 49)) ((Below.refl _ _).alloc (Nat.le_refl _) _)
                    exact ⟨h.ow, Ops.one (Has.made w9 _ (opC o)) rfl, h⟩)
                  have hbs : w.heap.size ≤ (w9.alloc (.cells (opC o) 49)).heap.size := HP.out.2.2.sz
                  go_wp2_with (first
                    | (refine load_opR2 rfl _ rfl _ _ rfl HR9.out ?_)
                    | (refine app_ops rfl _ _ rfl rfl HP.out.1 rfl HP.out.2.1 (fun h => by cases h) (by omega) hbs (fun A7 c7 w10 g1 g2 _ => ?_); have H10 := Lib.hid (HP.out.2.2.app g1 g2); clear g1 g2))
                  exact ⟨⟨i + 1, (T) ++ F, A7, (n) + 1, c7, (want) ++ [o], (want) ++ [o], 0, by omega, by omega, rfl, rfl, by go_num, H10, HQ10⟩, by simp [intOf]; omega⟩
                · have HQ9 := Lib.hid ((HQ.out).more (B' := 40 * (i + 1)) (L' := 2 * (i + 1)) (S' := 100 * (i + 1)) (by omega) (by omega) (by omega))
                  have hF : txt (frameO o) = ⟨#[]⟩ := by rw [frameO_no hM]; rfl
                  rw [hF] at HFr
                  clear hF hM
                  go_wp2_with (refine load_opR2 rfl _ rfl _ _ rfl HR0.out ?_)
                  refine (HFr.out _).mono ?_; rintro e w9 ⟨rfl, b9⟩
                  have H9 := Lib.hid (H3.out.below b9)
                  clear b9 HR0 HFr HOj H3
                  go_wp2_with fail
                  exact ⟨⟨i + 1, T, A, n, c, want, W, b, by omega, by omega, rfl, rfl, by go_num, H9, HQ9⟩, by simp [intOf]; omega⟩
              · have hjs : TJ.data.toList.length = TJ.size := by simp
                have hjE := isE_no (T := TJ) (by omega)
                have hj0 : 0 < TJ.size := by omega
                obtain ⟨m, hm, hbad⟩ := bad_find HQ.out H3.out.ow TJ.size hj0 htj (by omega) (by omega)
                have HQJ0 := HQ.out.junk HJN.out (by omega) (by omega) (by omega)
                rw [hjs, ← cat_list] at HQJ0
                have HQJ := Lib.hid HQJ0
                have HBd := Lib.hid hbad
                clear HQJ0 hbad hje hjs HJN HQ
                go_wp2_with fail
                refine (HBd.out).mono ?_; rintro e w8 ⟨A8, c8, rfl, g1, b8⟩
                have H8 := Lib.hid (H3.out.bad g1 b8)
                clear g1 b8 H3 HBd HTi
                generalize hW2 : W ++ tellB (b + TJ.size) = want2 at H8 HQJ
                clear hW2
                have HOj : Hid (∀ wz : World, Below w.heap.size w wz → wz.rangeAt bo (oo + i * 5) (opL (nthO xs i))) := Lib.hid (fun wz hb => by
                  obtain ⟨b', o', e', hh⟩ := HOi.out wz hb
                  injection e' with e'
                  injection e' with e1 e2
                  subst e1 e2
                  exact hh)
                clear HOi HO
                generalize nthO xs i = o at HOj
                have HR0 := Lib.hid (HOj.out _ H8.out.keep)
                have HFr := Lib.hid (fun w : World => framed_any o w)
                by_cases hM : MayP o
                · have h5 := frameO_len hM
                  have HQ9 := Lib.hid (((HQJ.out).op hM).more (B' := 40 * (i + 1)) (L' := 2 * (i + 1)) (S' := 100 * (i + 1)) (by omega) (by omega) (by omega))
                  obtain ⟨F, hF⟩ : ∃ F, txt (frameO o) = F := ⟨_, rfl⟩
                  have hFl : F.data.toList = frameO o := by rw [← hF]; rfl
                  have hFs : F.size ≤ 54 := by rw [← hF, txt_size]; omega
                  have hFe : F.toList.isEmpty = false := isE_no (by rw [hFl]; omega)
                  rw [hF, ] at HFr
                  have HQ10 : Hid (FindQ ((T ++ TJ) ++ F).data.toList ((want2) ++ [o]) ((want2) ++ [o]) 0 (40 * (i + 1)) (2 * (i + 1)) (100 * (i + 1))) := Lib.hid (by
                    rw [cat_list, hFl]; exact HQ9.out)
                  clear hF hFl HQ9 h5 hM
                  go_wp2_with (refine load_opR2 rfl _ rfl _ _ rfl HR0.out ?_)
                  refine (HFr.out _).mono ?_; rintro e w9 ⟨rfl, b9⟩
                  have H9 := Lib.hid (H8.out.below b9)
                  have HR9 := Lib.hid (HOj.out _ H9.out.keep)
                  clear b9 HR0 HFr HOj H8
                  have HP : Hid (OwnO (w9.alloc (.cells (opC o) 49)) w.heap.size (.slice A8 (m) c8) (want2) ∧ Ops (w9.alloc (.cells (opC o) 49)) (some ⟨w9.heap.size, 0, none⟩) 1 [o] ∧ FiS w w1.heap.size (.slice A8 (m) c8) (want2) (w9.alloc (.cells (opC o) 49))) := Lib.hid (by
                    have h := H9.out.below (w' := w9.alloc (.cells (opC o) 49)) ((Below.refl _ _).alloc (Nat.le_refl _) _)
                    exact ⟨h.ow, Ops.one (Has.made w9 _ (opC o)) rfl, h⟩)
                  have hbs : w.heap.size ≤ (w9.alloc (.cells (opC o) 49)).heap.size := HP.out.2.2.sz
                  go_wp2_with (first
                    | (refine load_opR2 rfl _ rfl _ _ rfl HR9.out ?_)
                    | (refine app_ops rfl _ _ rfl rfl HP.out.1 rfl HP.out.2.1 (fun h => by cases h) (by omega) hbs (fun A7 c7 w10 g1 g2 _ => ?_); have H10 := Lib.hid (HP.out.2.2.app g1 g2); clear g1 g2))
                  exact ⟨⟨i + 1, (T ++ TJ) ++ F, A7, (m) + 1, c7, (want2) ++ [o], (want2) ++ [o], 0, by omega, by omega, rfl, rfl, by go_num, H10, HQ10⟩, by simp [intOf]; omega⟩
                · have HQ9 := Lib.hid ((HQJ.out).more (B' := 40 * (i + 1)) (L' := 2 * (i + 1)) (S' := 100 * (i + 1)) (by omega) (by omega) (by omega))
                  have hF : txt (frameO o) = ⟨#[]⟩ := by rw [frameO_no hM]; rfl
                  rw [hF] at HFr
                  clear hF hM
                  go_wp2_with (refine load_opR2 rfl _ rfl _ _ rfl HR0.out ?_)
                  refine (HFr.out _).mono ?_; rintro e w9 ⟨rfl, b9⟩
                  have H9 := Lib.hid (H8.out.below b9)
                  clear b9 HR0 HFr HOj H8
                  go_wp2_with fail
                  exact ⟨⟨i + 1, T ++ TJ, A8, m, c8, want2, W, b + TJ.size, by omega, by omega, rfl, rfl, by go_num, H9, HQ9⟩, by simp [intOf]; omega⟩
      · have q3 : ¬ (i : Int) < (n1 : Int) := by omega
        have HOj : Hid (∀ wz : World, Below w.heap.size w wz → wz.rangeAt bo (oo + i * 5) (opL (nthO xs i))) := Lib.hid (fun wz hb => by
          obtain ⟨b', o', e', hh⟩ := HOi.out wz hb
          injection e' with e'
          injection e' with e1 e2
          subst e1 e2
          exact hh)
        clear HOi HO
        generalize nthO xs i = o at HOj
        have HR0 := Lib.hid (HOj.out _ H3.out.keep)
        have HFr := Lib.hid (fun w : World => framed_any o w)
        by_cases hM : MayP o
        · have h5 := frameO_len hM
          have HQ9 := Lib.hid (((HQ.out).op hM).more (B' := 40 * (i + 1)) (L' := 2 * (i + 1)) (S' := 100 * (i + 1)) (by omega) (by omega) (by omega))
          obtain ⟨F, hF⟩ : ∃ F, txt (frameO o) = F := ⟨_, rfl⟩
          have hFl : F.data.toList = frameO o := by rw [← hF]; rfl
          have hFs : F.size ≤ 54 := by rw [← hF, txt_size]; omega
          have hFe : F.toList.isEmpty = false := isE_no (by rw [hFl]; omega)
          rw [hF, ] at HFr
          have HQ10 : Hid (FindQ ((T) ++ F).data.toList ((want) ++ [o]) ((want) ++ [o]) 0 (40 * (i + 1)) (2 * (i + 1)) (100 * (i + 1))) := Lib.hid (by
            rw [cat_list, hFl]; exact HQ9.out)
          clear hF hFl HQ9 h5 hM
          go_wp2_with (refine load_opR2 rfl _ rfl _ _ rfl HR0.out ?_)
          refine (HFr.out _).mono ?_; rintro e w9 ⟨rfl, b9⟩
          have H9 := Lib.hid (H3.out.below b9)
          have HR9 := Lib.hid (HOj.out _ H9.out.keep)
          clear b9 HR0 HFr HOj H3
          have HP : Hid (OwnO (w9.alloc (.cells (opC o) 49)) w.heap.size (.slice A (n) c) (want) ∧ Ops (w9.alloc (.cells (opC o) 49)) (some ⟨w9.heap.size, 0, none⟩) 1 [o] ∧ FiS w w1.heap.size (.slice A (n) c) (want) (w9.alloc (.cells (opC o) 49))) := Lib.hid (by
            have h := H9.out.below (w' := w9.alloc (.cells (opC o) 49)) ((Below.refl _ _).alloc (Nat.le_refl _) _)
            exact ⟨h.ow, Ops.one (Has.made w9 _ (opC o)) rfl, h⟩)
          have hbs : w.heap.size ≤ (w9.alloc (.cells (opC o) 49)).heap.size := HP.out.2.2.sz
          go_wp2_with (first
            | (refine load_opR2 rfl _ rfl _ _ rfl HR9.out ?_)
            | (refine app_ops rfl _ _ rfl rfl HP.out.1 rfl HP.out.2.1 (fun h => by cases h) (by omega) hbs (fun A7 c7 w10 g1 g2 _ => ?_); have H10 := Lib.hid (HP.out.2.2.app g1 g2); clear g1 g2))
          exact ⟨⟨i + 1, (T) ++ F, A7, (n) + 1, c7, (want) ++ [o], (want) ++ [o], 0, by omega, by omega, rfl, rfl, by go_num, H10, HQ10⟩, by simp [intOf]; omega⟩
        · have HQ9 := Lib.hid ((HQ.out).more (B' := 40 * (i + 1)) (L' := 2 * (i + 1)) (S' := 100 * (i + 1)) (by omega) (by omega) (by omega))
          have hF : txt (frameO o) = ⟨#[]⟩ := by rw [frameO_no hM]; rfl
          rw [hF] at HFr
          clear hF hM
          go_wp2_with (refine load_opR2 rfl _ rfl _ _ rfl HR0.out ?_)
          refine (HFr.out _).mono ?_; rintro e w9 ⟨rfl, b9⟩
          have H9 := Lib.hid (H3.out.below b9)
          clear b9 HR0 HFr HOj H3
          go_wp2_with fail
          exact ⟨⟨i + 1, T, A, n, c, want, W, b, by omega, by omega, rfl, rfl, by go_num, H9, HQ9⟩, by simp [intOf]; omega⟩
    · have hgo2 : (¬ (i : Int) < (n0 : Int)) ∨ ((i : Int) < (n0 : Int) ∧ ¬ (i : Int) < 20) := by omega
      have hLs : T.data.toList.length = T.size := by simp
      obtain ⟨os1, r1, m1, h1⟩ : ∃ os r n, runL false T.data.toList 0 = (os, r, n) := ⟨_, _, _, rfl⟩
      have f1 := runL_fits false T.data.toList.length T.data.toList 0 (Nat.le_refl _) (by omega)
      rw [h1] at f1
      have hr1 : r1.length ≤ 63 := (look_two f1.1).2
      have hm1 : m1 ≤ 1073741823 := f1.2.2.1
      have ho1 : os1.length ≤ 10000 := by have h := f1.2.2.2.1; simp only at h; omega
      have hall : os1 ++ allL r1 m1 = want := by
        have h := allL_close T.data.toList 0
        rw [h1, HQ.out.all] at h
        exact h.symm
      have HW := Lib.hid (swrite_any w1.heap.size [] 0 T wr H3.out.sx (by simp; omega) (by decide) os1 r1 m1 (by rw [List.nil_append]; exact h1))
      have HC := Lib.hid (fun (w : World) h => sclose_any w1.heap.size r1 m1 w h (by omega) hm1 _ rfl)
      generalize allL r1 m1 = os2 at HC hall
      have hn12 : os1.length + os2.length = n := by rw [← List.length_append, hall, H3.out.ow.slice.1]
      have HALL := Lib.hid (And.intro hall hn12)
      clear h1 f1 hr1 hm1 hall hn12 hLs HQ hgo
      have HZ : Hid (∀ (w8 : World) (A5 : Option Addr) (c5 : Nat), OwnO w8 wr.heap.size (.slice A5 os1.length c5) os1 → Has w8 w1.heap.size 58 (scC r1 m1) → wr.grownBy w8 (some w1.heap.size) →
          Below w.heap.size w w8 ∧ w.heap.size ≤ w8.heap.size ∧ OwnO w8 w.heap.size (.slice A n c) want ∧ OwnO w8 w.heap.size (.slice A5 os1.length c5) os1 ∧ (∀ k, (Value.slice A n c).ownBlock = some k → (Value.slice A5 os1.length c5).ownBlock ≠ some k)) := Lib.hid (fun w8 A5 c5 p5 x8 g8 =>
        ⟨below_wrote H3.out.keep g8 H3.out.sz (fun k hk => by injection hk with hk; subst hk; exact H3.out.nx), Nat.le_trans H3.out.sz g8.size, H3.out.ow.grow g8 (.inr (H3.out.ow.apart H3.out.sx (by decide))), p5.mono H3.out.sz, fun k hk e => by have h1 := (H3.out.ow.lt hk).1; have h2 := (p5.lt e).2; omega⟩)
      have hnx := H3.out.nx
      clear H3
      rcases hgo2 with q1 | ⟨q1, q2⟩
      all_goals
        go_wp2_with fail
        refine (HW.out).mono ?_; rintro e w8 ⟨A5, c5, rfl, p5, x8, g8⟩
        have H8 := Lib.hid (And.intro (HZ.out w8 A5 c5 p5 x8 g8) x8)
        clear p5 x8 g8 HW HZ
        go_wp2_with fail
        refine (HC.out _ H8.out.2).mono ?_; rintro e w9 ⟨A6, c6, rfl, p6, x9, g9⟩
        have H9 : Hid (Below w.heap.size w w9 ∧ w.heap.size ≤ w9.heap.size ∧ OwnO w9 w.heap.size (.slice A n c) want ∧ OwnO w9 w.heap.size (.slice A5 os1.length c5) os1 ∧ (∀ k, (Value.slice A n c).ownBlock = some k → (Value.slice A5 os1.length c5).ownBlock ≠ some k) ∧ Ops w9 A6 os2.length os2 ∧ (A6 = none → c6 = 0 ∧ os2.length = 0)) := Lib.hid
          ⟨below_wrote H8.out.1.1 g9 H8.out.1.2.1 (fun k hk => by injection hk with hk; omega), Nat.le_trans H8.out.1.2.1 g9.size, H8.out.1.2.2.1.grow g9 (.inr (H8.out.1.2.2.1.apart H8.out.2 (by decide))), H8.out.1.2.2.2.1.grow g9 (.inr (H8.out.1.2.2.2.1.apart H8.out.2 (by decide))), H8.out.1.2.2.2.2, p6.ops, p6.slice.2.2⟩
        clear p6 x9 g9 HC H8
        have hbs : w.heap.size ≤ w9.heap.size := H9.out.2.1
        have HX : Hid (∀ (w10 : World) (A7 : Option Addr) (c7 : Nat), OwnO w10 w.heap.size (.slice A7 (os1.length + os2.length) c7) (os1 ++ os2) → w9.grownBy w10 (Value.slice A5 os1.length c5).ownBlock → OwnO w10 w.heap.size (.slice A7 n c7) want ∧ OwnO w10 w.heap.size (.slice A n c) want ∧ Below w.heap.size w w10) := Lib.hid (fun w10 A7 c7 g1 g2 => by
          rw [HALL.out.1, HALL.out.2] at g1
          refine ⟨g1, H9.out.2.2.1.grow g2 ?_, below_wrote H9.out.1 g2 H9.out.2.1 (fun _ hk => (H9.out.2.2.2.1.lt hk).2)⟩
          cases hv : (Value.slice A n c).ownBlock with
          | none => exact .inl rfl
          | some k => exact .inr (fun e => H9.out.2.2.2.2.1 k hv e.symm))
        have HN := Lib.hid HALL.out.2
        generalize os1.length = m1 at H9 HX HN ho1 ⊢
        generalize os2.length = m2 at H9 HX HN ⊢
        go_wp2_with (refine app_ops rfl _ _ rfl rfl H9.out.2.2.2.1 rfl H9.out.2.2.2.2.2.1 H9.out.2.2.2.2.2.2 (by have := HN.out; omega) hbs (fun A7 c7 w10 g1 g2 _ => ?_); rw [HN.out]; have H10 := Lib.hid (HX.out w10 A7 c7 g1 g2); clear g1 g2)
        refine (sameops_any A7 A n c7 c want w10 H10.out.1.ops H10.out.2.1.ops (by omega)).mono ?_; rintro e w11 ⟨rfl, b11⟩
        have HE := Lib.hid (H10.out.2.2.trans (b11.mono (H10.out.2.2.size)))
        clear b11 H10
        go_wp2_with fail
        go_ret
        exact ⟨rfl, HE.out⟩

end Go.Proofs.Ytoechlmahckchaa
