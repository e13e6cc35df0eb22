/-
  Walk: ScanCut: an operation that comes byte by byte comes with its last byte alone.
-/
import Derived.Test.YtoechlmahckchaaScCuP
import Derived.Test.YtoechlmahckchaaScCuR
import Derived.Test.YtoechlmahckchaaScAwake
namespace Go.Proofs.Ytoechlmahckchaa
open Go.RowKit

theorem load_opR {ops : Array Oper} {rest : List Oper} {op : Oper} {a : Act} {w : World} {Q : Exit → Act → World → Prop} (hgd : op.guard = none) (x : Operand) (ho : op.op = .load 49 x)
    (b o : Nat) (hx : a.eval x = .pointer (some ⟨b, o, none⟩)) {y : Po} (hc : w.rangeAt b o (opL y))
    (h : wpList Try.prog ops Q rest (a.put op.dst (.agg #[.int .i64 y.k, .int .i64 y.so, .int .i64 y.se, .int .i64 y.ti, .int .i64 y.va])) w) : wpList Try.prog ops Q (op :: rest) a w :=
  wpList_load_mid hgd 49 x ho b o hx _ _ hc Try.underlying49 rfl Try.sizeOp (by simpa [opL] using h)
/-- A scanner, two operations in their boxes. -/
structure CuS (w0 : World) (g1 g2 x : Nat) (o p : Po) (l : List UInt8) (b : Nat) (w : World) : Prop where
  keep : Below w0.heap.size w0 w
  sz : w0.heap.size ≤ w.heap.size
  ob : Has w g1 49 (opC o)
  pb : Has w g2 49 (opC p)
  sx : Has w x 58 (scC l b)
  nx : w0.heap.size ≤ x
section
variable {w0 : World} {g1 g2 x : Nat} {o p : Po} {l : List UInt8} {b : Nat} {w w' : World}
theorem CuS.below (h : CuS w0 g1 g2 x o p l b w) (hb : Below w.heap.size w w') : CuS w0 g1 g2 x o p l b w' :=
  ⟨h.keep.trans (hb.mono h.sz), Nat.le_trans h.sz hb.size, h.ob.below hb h.ob.lt, h.pb.below hb h.pb.lt, h.sx.below hb h.sx.lt, h.nx⟩
theorem CuS.wrote (h : CuS w0 g1 g2 x o p l b w) {l' : List UInt8} {b' : Nat} (hs : Has w' x 58 (scC l' b')) (hg : w.grownBy w' (some x)) : CuS w0 g1 g2 x o p l' b' w' :=
  ⟨below_wrote h.keep hg h.sz (fun k hk => by injection hk with hk; subst hk; exact h.nx), Nat.le_trans h.sz hg.size, h.ob.grow hg (fun e => by injection e with e; subst e; exact has_types h.sx h.ob (by decide)), h.pb.grow hg (fun e => by injection e with e; subst e; exact has_types h.sx h.pb (by decide)), hs, h.nx⟩
end
theorem take_byte (F : ByteArray) {i : Nat} (_ : i < F.size) : F.data.toList.take i ++ (F.extract i (i + 1)).data.toList = F.data.toList.take (i + 1) := by
  rw [ByteArray.data_extract, Array.toList_extract, List.take_add]
  simp [List.extract]
theorem take_text (F : ByteArray) (n : Nat) : F.extract 0 n = txt (F.data.toList.take n) := by
  have h : (F.extract 0 n).data.toList = F.data.toList.take n := by
    rw [ByteArray.data_extract, Array.toList_extract]; simp [List.extract]
  rw [← h, txt_of]
theorem sumO_take {os : List Po} (h : ∀ o ∈ os, 0 ≤ sizeO o) (j : Nat) : 0 ≤ sumO (os.take j) ∧ sumO (os.take j) ≤ sumO os := by
  have pos : ∀ l : List Po, (∀ o ∈ l, 0 ≤ sizeO o) → 0 ≤ sumO l := by
    intro l
    induction l with
    | nil => intro _; simp [sumO]
    | cons x r ih => intro h; rw [sumO_cons]; have := ih (fun o ho => h o (by simp [ho])); have := h x (by simp); omega
  have e : sumO os = sumO (os.take j) + sumO (os.drop j) := by rw [← sumO_append, List.take_append_drop]
  have h1 := pos (os.take j) (fun o ho => h o (List.mem_of_mem_take ho))
  have h2 := pos (os.drop j) (fun o ho => h o (List.mem_of_mem_drop ho))
  omega
theorem sumO_succ (os : List Po) {j : Nat} (hj : j < os.length) : sumO (os.take (j + 1)) = sumO (os.take j) + sizeO (nthO os j) := by
  rw [List.take_succ_eq_append_getElem hj, sumO_append, sumO_cons]
  have : nthO os j = os[j] := by simp [nthO, hj]
  rw [this]
  simp [sumO]

theorem OwnO.at0 {w : World} {base n c : Nat} {A : Option Addr} {xs : List Po} (h : OwnO w base (.slice A n c) xs) (hn : 0 < n) : ∃ g, A = some ⟨g, 0, none⟩ ∧ ∀ i, i < n → w.rangeAt g (i * 5) (opL (nthO xs i)) := by
  obtain ⟨b, o, e, hi⟩ := h.ops.2 hn
  rcases h.2 with ⟨e1, h1⟩ | ⟨g, cap, cur, e1, hg, hh, _⟩
  · injection e1 with _ e2
    omega
  · injection e1 with e2
    rw [e2] at e
    injection e with e
    injection e with e3 e4
    subst e3 e4
    exact ⟨g, e2, fun i hlt => by have := hi i hlt; rwa [Nat.zero_add] at this⟩
/-- What is known of the operation that comes byte by byte. -/
structure FirstS (o : Po) (F : ByteArray) : Prop where
  len : F.size ≤ 60
  mid : ∀ (i g : Nat) (w : World), i + 1 < F.size → Has w g 58 (scC (F.data.toList.take i) 0) → Calls Try.prog 13 #[.pointer (some ⟨g, 0, none⟩), .string (F.extract i (i + 1))] w fun e w' => WroteO g 58 [] (F.data.toList.take (i + 1)) 0 e w w'
  end_ : ∀ (i g : Nat) (w : World), i + 1 = F.size → Has w g 58 (scC (F.data.toList.take i) 0) → Calls Try.prog 13 #[.pointer (some ⟨g, 0, none⟩), .string (F.extract i (i + 1))] w fun e w' => WroteO g 58 [o] [] 0 e w w'
theorem first_of (o : Po) (F : ByteArray) (hF : txt (frameO o) = F) : FirstS o F := by
  have hl : F.data.toList = frameO o := by rw [← hF]; rfl
  have hs : F.size = (frameO o).length := by rw [← hF, txt_size]
  by_cases hM : MayP o
  · have h5 := frameO_len hM
    refine ⟨by omega, fun i g w hi h => ?_, fun i g w hi h => ?_⟩
    · exact swrite_any g _ 0 _ w h (by rw [List.length_take, ByteArray.size_extract]; simp; omega) (by decide) _ _ _ (by rw [take_byte F (by omega), hl]; exact run_byte hM (by omega))
    · exact swrite_any g _ 0 _ w h (by rw [List.length_take, ByteArray.size_extract]; simp; omega) (by decide) _ _ _ (by rw [take_byte F (by omega), hl]; exact run_last hM (by omega))
  · have h0 : F.size = 0 := by rw [hs, frameO_no hM]; rfl
    exact ⟨by omega, fun i g w hi => by omega, fun i g w hi => by omega⟩

set_option maxRecDepth 100000 in
set_option maxHeartbeats 4000000 in
theorem scancut_o (o p : Po) (F P : ByteArray) (hF : txt (frameO o) = F) (hP : txt (frameO p) = P) (w : World) :
    Calls Try.prog 8 #[.agg #[.int .i64 o.k, .int .i64 o.so, .int .i64 o.se, .int .i64 o.ti, .int .i64 o.va], .agg #[.int .i64 p.k, .int .i64 p.so, .int .i64 p.se, .int .i64 p.ti, .int .i64 p.va]] w fun e w' => e = .returned (.bool true) ∧ Below w.heap.size w w' := by
  have HS := Lib.hid (first_of o F hF)
  have HFo : Hid (∀ w : World, Calls Try.prog 24 #[.agg #[.int .i64 o.k, .int .i64 o.so, .int .i64 o.se, .int .i64 o.ti, .int .i64 o.va]] w fun e w' => e = .returned (.string F) ∧ Below w.heap.size w w') := Lib.hid (fun w => by rw [← hF]; exact framed_any o w)
  have HFp : Hid (∀ w : World, Calls Try.prog 24 #[.agg #[.int .i64 p.k, .int .i64 p.so, .int .i64 p.se, .int .i64 p.ti, .int .i64 p.va]] w fun e w' => e = .returned (.string P) ∧ Below w.heap.size w w') := Lib.hid (fun w => by rw [← hP]; exact framed_any p w)
  have HA := Lib.hid (fun w : World => sawake_any w)
  have hF60 := HS.out.len
  have b0 : Below w.heap.size w ((w.alloc (.cells (opC o) 49)).alloc (.cells (opC p) 49)) := ((Below.refl _ _).alloc (Nat.le_refl _) _).alloc (by simp) _
  have o0 : Has ((w.alloc (.cells (opC o) 49)).alloc (.cells (opC p) 49)) w.heap.size 49 (opC o) := (Has.made w _ _).alloc _
  have p0 : Has ((w.alloc (.cells (opC o) 49)).alloc (.cells (opC p) 49)) (w.heap.size + 1) 49 (opC p) := by simpa using Has.made (w.alloc (.cells (opC o) 49)) 49 (opC p)
  clear hF
  go_enter Try.func8, Try.ntmps8
  go_wp2_with fail
  refine (HA.out _).mono ?_; rintro e w1 ⟨rfl, b1⟩
  have o1 := o0.below b1 o0.lt
  have p1 := p0.below b1 p0.lt
  have k1 := b0.trans (b1.mono b0.size)
  clear b0 o0 p0 b1
  go_wp2_with fail
  refine (new_any _).mono ?_; rintro e w2 ⟨rfl, x2, b2⟩
  have H2 : Hid (CuS w w.heap.size (w.heap.size + 1) w1.heap.size o p [] 0 w2) := Lib.hid ⟨k1.trans (b2.mono k1.size), Nat.le_trans k1.size b2.size, o1.below b2 o1.lt, p1.below b2 p1.lt, x2, k1.size⟩
  clear o1 p1 k1 x2 b2
  go_wp2_with (refine load_op rfl _ rfl _ rfl H2.out.ob ?_)
  refine (HFo.out _).mono ?_; rintro e w3 ⟨rfl, b3⟩
  have H3 := Lib.hid (H2.out.below b3)
  clear H2 b3 HFo HA
  go_wp2_with fail
  go_loopw [7] (fun i wr => ∃ (j : Nat) (l : List UInt8), j ≤ F.size ∧ i = .int .i64 j ∧ (j < F.size → l = F.data.toList.take j) ∧ (j = F.size → l = []) ∧ Hid (CuS w w.heap.size (w.heap.size + 1) w1.heap.size o p l 0 wr)) (fun i _ => F.size - (intOf i).toNat)
  case atStart => exact ⟨0, [], by omega, rfl, fun _ => rfl, fun _ => rfl, H3⟩
  case round =>
    clear H3
    obtain ⟨j, l, hj, rfl, hl1, hl2, H3⟩ := hrel
    by_cases hlt : j < F.size
    · obtain rfl := hl1 hlt
      clear hl1 hl2
      have hjn : (j : Int) < (F.size : Int) := by omega
      by_cases hmid : j + 1 < F.size
      · have hq : ((j : Int) == (F.size : Int) - 1) = false := by simp; omega
        have HW := Lib.hid (HS.out.mid j w1.heap.size wr hmid H3.out.sx)
        go_wp2_with fail
        refine (HW.out).mono ?_; rintro e w4 ⟨A1, c1, rfl, p1, x4, g4⟩
        have H4 := Lib.hid (H3.out.wrote x4 g4)
        clear p1 x4 g4 H3 HW
        go_upto_region 11 with fail
        refine cm11_any (F := F) (lw := F.data.toList.take (j + 1)) (A := A1) (c := c1) (y := w1.heap.size) (q := j) ⟨rfl, rfl, rfl, rfl, rfl, ⟨hmid, hF60⟩, H4.out.sx, fun w h => by rw [take_text]; exact waits_any _ _ 0 w h (by rw [List.length_take]; simp; omega)⟩ (by kernel_rfl) ?_
        intro w5 b5
        have H5 := Lib.hid (H4.out.below b5)
        clear b5 H4
        simp only [putAll, Act.put, List.setIfInBounds_toArray, List.set_cons_succ, List.set_cons_zero]
        go_wp2_with fail
        go_roundw
        case rel => exact ⟨j + 1, _, by omega, by go_num, fun _ => rfl, fun e => by omega, H5⟩
        case measure => simp [intOf]; omega
      · have hq : ((j : Int) == (F.size : Int) - 1) = true := by simp; omega
        have hend : j + 1 = F.size := by omega
        have HW := Lib.hid (HS.out.end_ j w1.heap.size wr hend H3.out.sx)
        have HE := Lib.hid hend
        clear hend hmid
        go_wp2_with fail
        refine (HW.out).mono ?_; rintro e w4 ⟨A1, c1, rfl, p1, x4, g4⟩
        have H4 := Lib.hid (And.intro (H3.out.wrote x4 g4) p1.ops)
        clear p1 x4 g4 H3 HW
        go_upto_region 11 with fail
        refine cl11_any (F := F) (lw := []) (A := A1) (c := c1) (y := w1.heap.size) (q := j) ⟨rfl, rfl, rfl, ⟨HE.out, hF60⟩⟩ (by kernel_rfl) ?_
        intro w5 b5
        have H5 := Lib.hid (And.intro (H4.out.1.below b5) (H4.out.2.below b5))
        clear b5 H4
        simp only [putAll, Act.put, List.setIfInBounds_toArray, List.set_cons_succ, List.set_cons_zero]
        go_wp2_with (refine load_op rfl _ rfl _ rfl H5.out.1.ob ?_)
        have b6 : Below w5.heap.size w5 (w5.alloc (.cells #[.int .i64 o.k, .int .i64 o.so, .int .i64 o.se, .int .i64 o.ti, .int .i64 o.va] 49)) := (Below.refl _ _).alloc (Nat.le_refl _) _
        refine (sameops_any A1 _ 1 c1 _ [o] _ (H5.out.2.below b6) (ops_made w5 [o] (by simp) rfl) (by decide)).mono ?_
        rintro e w6 ⟨rfl, b7⟩
        have H6 := Lib.hid ((H5.out.1.below b6).below b7)
        clear b6 b7 H5
        have HWt := Lib.hid (waits_any w1.heap.size [] 0 w6 H6.out.sx (by decide))
        go_wp2_with fail
        refine (HWt.out).mono ?_; rintro e w7 ⟨rfl, b8⟩
        have H7 := Lib.hid (H6.out.below b8)
        clear b8 H6 HWt
        generalize hT : txt [] = T
        obtain rfl : (⟨#[]⟩ : ByteArray) = T := hT
        go_wp2_with fail
        go_roundw
        case rel => exact ⟨j + 1, [], by omega, by go_num, fun e => by have := HE.out; omega, fun _ => rfl, H7⟩
        case measure => simp [intOf]; omega
    · obtain rfl : j = F.size := by omega
      obtain rfl := hl2 rfl
      clear hl1 hl2 HS
      have hjn : ¬ (F.size : Int) < (F.size : Int) := by omega
      go_wp2_with (refine load_op rfl _ rfl _ rfl H3.out.pb ?_)
      refine (HFp.out _).mono ?_; rintro e w4 ⟨rfl, b4⟩
      have H4 := Lib.hid (H3.out.below b4)
      clear b4 H3 HFp
      by_cases hM : MayP p
      · have h5 := frameO_len hM
        have hPs : P.size = (frameO p).length := by rw [← hP, txt_size]
        have hPl : P.data.toList = frameO p := by rw [← hP]; rfl
        have hc : P.toList.isEmpty = false := by
          cases e : P.toList with
          | nil =>
            rw [toList_nil_iff_emptyBytes] at e
            have : P.size = 0 := by rw [e]; rfl
            omega
          | cons => rfl
        obtain ⟨n, hn⟩ : ∃ n, n + 1 = P.size := ⟨P.size - 1, by omega⟩
        have hcut := all_cut hM (n := n) (by omega)
        have hP60 : P.size ≤ 60 := by omega
        have hn1 : (P.size : Int) - 1 = (n : Int) := by omega
        have hextract : (P.extract 0 n).data.toList = (frameO p).take n := by rw [take_text, hPl]; rfl
        have HW := Lib.hid (swrite_any w1.heap.size [] 0 (P.extract 0 n) w4 H4.out.sx (by rw [ByteArray.size_extract]; simp; omega) (by decide) [] ((frameO p).take n) 0 (by rw [List.nil_append, hextract]; exact runL_cut (look_begin hM (by omega))))
        have HC := Lib.hid (fun (w : World) h => sclose_any w1.heap.size ((frameO p).take n) 0 w h (by rw [List.length_take]; omega) (by decide) _ rfl)
        have hkinds := allL_kinds ((frameO p).take n) 0 (by omega)
        have hlen : (allL ((frameO p).take n) 0).length ≤ 200 := by
          have h := (runL_fits true ((frameO p).take n).length ((frameO p).take n) 0 (Nat.le_refl _) (by omega)).2.2.2.1
          have h1 : ∀ b, (tellB b).length ≤ 1 := fun b => by unfold tellB; split <;> simp
          have h2 := h1 (runL true ((frameO p).take n) 0).2.2
          unfold allL
          rw [List.length_append]
          rw [List.length_take] at h
          omega
        generalize allL ((frameO p).take n) 0 = os at HC hcut hkinds hlen
        generalize (frameO p).take n = lw at HW HC
        clear hPs hPl h5 hM hP hextract
        have HK := Lib.hid (And.intro hcut hkinds)
        clear hcut hkinds
        have HN := Lib.hid hn; clear hn
        go_wp2_with fail
        refine (HW.out).mono ?_; rintro e w5 ⟨A1, c1, rfl, p1, x5, g5⟩
        have H5 := Lib.hid (H4.out.wrote x5 g5)
        clear p1 x5 g5 H4 HW
        go_wp2_with fail
        refine (HC.out _ H5.out.sx).mono ?_; rintro e w6 ⟨A2, c2, rfl, p2, x6, g6⟩
        have H6 : Hid (CuS w w.heap.size (w.heap.size + 1) w1.heap.size o p [] 0 w6 ∧ OwnO w6 w.heap.size (.slice A2 os.length c2) os) := Lib.hid ⟨H5.out.wrote x6 g6, p2.mono H5.out.sz⟩
        clear p2 x6 g6 H5 HC
        have hpos : ∀ y ∈ os, 0 ≤ sizeO y := fun y hy => by
          rcases HK.out.2 y hy with hM | ⟨k, _, _, rfl⟩
          · rw [show sizeO y = ((frameO y).length : Int) from if_neg (may_kind hM)]; omega
          · rw [show sizeO (badP k) = (k : Int) from rfl]; omega
        have HT : Hid (∀ j, 0 ≤ sumO (os.take j) ∧ sumO (os.take j) ≤ 60) := Lib.hid (fun j => by
          have h := sumO_take hpos j
          have := HK.out.1.1
          have := HN.out
          omega)
        clear hpos
        go_wp2_with fail
        go_loopw [12, 13] (fun rr i wr => ∃ (j : Nat) (R : Int), j ≤ os.length ∧ i = .int .i64 j ∧ rr = .int .i64 R ∧ Hid (R = sumO (os.take j)) ∧ Hid (CuS w w.heap.size (w.heap.size + 1) w1.heap.size o p [] 0 wr ∧ OwnO wr w.heap.size (.slice A2 os.length c2) os)) (fun _ i _ => os.length - (intOf i).toNat)
        case atStart => exact ⟨0, 0, by omega, rfl, rfl, Lib.hid (by simp [sumO]), H6⟩
        case round =>
          clear H6
          obtain ⟨j, R, hj, rfl, rfl, HR, H6⟩ := hrel
          have hR := HT.out j
          rw [← HR.out] at hR
          by_cases hlt : j < os.length
          · have hjn : (j : Int) < (os.length : Int) := by omega
            obtain ⟨g, rfl, hi⟩ := H6.out.2.at0 (by omega)
            have X := hi j hlt
            have hR2 := HT.out (j + 1)
            rw [sumO_succ os hlt, ← HR.out] at hR2
            have HR2 := Lib.hid (sumO_succ os hlt)
            have hy : nthO os j ∈ os := by
              have : nthO os j = os[j] := by simp [nthO, hlt]
              rw [this]; exact List.getElem_mem hlt
            have hkind := HK.out.2 _ hy
            clear hi hy
            generalize nthO os j = y at X hR2 HR2 hkind
            have c0 : wr.cell? ⟨g, j * 5, none⟩ = some (.int .i64 y.k) := X 0 _ rfl
            have c4 : wr.cell? ⟨g, j * 5 + 4, none⟩ = some (.int .i64 y.va) := X 4 _ rfl
            have HX := Lib.hid X; clear X
            rcases hkind with hM | ⟨k, _, _, hy⟩
            · have hk : (y.k == 3) = false := by simpa using may_kind hM
              have hsz : sizeO y = ((frameO y).length : Int) := if_neg (may_kind hM)
              have HFy := Lib.hid (fun w : World => framed_any y w)
              have hts := txt_size (frameO y)
              generalize txt (frameO y) = T at HFy hts
              have hsz2 : sizeO y = (T.size : Int) := by rw [hsz, hts]
              rw [hsz2] at hR2
              have HZ := Lib.hid hsz2
              clear hsz hts hM hsz2
              go_wp2_with (refine load_opR rfl _ rfl _ _ rfl HX.out ?_)
              refine (HFy.out _).mono ?_; rintro e w7 ⟨rfl, b7⟩
              have H7 := Lib.hid (And.intro (H6.out.1.below b7) (H6.out.2.below b7))
              clear b7 H6 HFy HX
              go_wp2_with fail
              go_roundw
              case rel => exact ⟨j + 1, R + (T.size : Int), by omega, by go_num, rfl, Lib.hid (by rw [HR2.out, ← HR.out, HZ.out]), H7⟩
              case measure => simp [intOf]; omega
            · have hk : (y.k == 3) = true := by rw [hy]; rfl
              have hsz2 : sizeO y = y.va := by rw [hy]; rfl
              rw [hsz2] at hR2
              have HZ := Lib.hid hsz2
              clear hy hsz2
              go_wp2_with fail
              go_roundw
              case rel => exact ⟨j + 1, R + y.va, by omega, by go_num, rfl, Lib.hid (by rw [HR2.out, ← HR.out, HZ.out]), H6⟩
              case measure => simp [intOf]; omega
          · obtain rfl : j = os.length := by omega
            have hRn : R = (n : Int) := by
              have h1 := HR.out
              rw [List.take_length, HK.out.1.1] at h1
              exact h1
            subst hRn
            obtain ⟨k0, r0, hos⟩ := HK.out.1.2
            have hpos2 : 0 < os.length := by rw [hos]; simp
            obtain ⟨g, rfl, hi⟩ := H6.out.2.at0 hpos2
            have X := hi 0 hpos2
            have hk0 : nthO os 0 = badP k0 := by rw [hos]; rfl
            rw [hk0, Nat.zero_mul] at X
            have c0 : wr.cell? ⟨g, 0, none⟩ = some (.int .i64 3) := X 0 _ rfl
            have hjn : ¬ (os.length : Int) < (os.length : Int) := by omega
            have hgt : decide ((0 : Int) < (os.length : Int)) = true := by simp; omega
            have hgt2 : decide (0 < os.length) = true := by simpa using hpos2
            clear hi X hk0 hos HR HT HK
            have HWt := Lib.hid (waits_any w1.heap.size [] 0 wr H6.out.1.sx (by decide))
            go_wp2_with fail
            refine (HWt.out).mono ?_; rintro e w7 ⟨rfl, b7⟩
            have H7 := Lib.hid (H6.out.1.below b7)
            clear b7 H6 HWt
            have HBd := Lib.hid (badn_any w1.heap.size [] 0 w7 H7.out.sx)
            generalize hT : txt [] = T
            obtain rfl : (⟨#[]⟩ : ByteArray) = T := hT
            go_wp2_with fail
            refine (HBd.out).mono ?_; rintro e w8 ⟨rfl, rfl⟩
            go_wp2_with fail
            go_ret
            exact ⟨rfl, H7.out.keep⟩
      · have hP0 : P = ⟨#[]⟩ := by rw [← hP, frameO_no hM]; rfl
        subst hP0
        have HW := Lib.hid (swrite_any w1.heap.size [] 0 ⟨#[]⟩ w4 H4.out.sx (by decide) (by decide) [] [] 0 rfl)
        clear hP
        go_wp2_with fail
        refine (HW.out).mono ?_; rintro e w5 ⟨A1, c1, rfl, p1, x5, g5⟩
        have H5 := Lib.hid (H4.out.wrote x5 g5).keep
        clear p1 x5 g5 H4 HW
        go_wp2_with fail
        go_ret
        exact ⟨rfl, H5.out⟩

theorem scancut_any (k so se ti va k' so' se' ti' va' : Int) (w : World) (_ : (Lit.int .i64 k).wf = true ∧ (Lit.int .i64 so).wf = true ∧ (Lit.int .i64 se).wf = true ∧ (Lit.int .i64 ti).wf = true ∧ (Lit.int .i64 va).wf = true) (_ : (Lit.int .i64 k').wf = true ∧ (Lit.int .i64 so').wf = true ∧ (Lit.int .i64 se').wf = true ∧ (Lit.int .i64 ti').wf = true ∧ (Lit.int .i64 va').wf = true) :
    Calls Try.prog 8 #[.agg #[.int .i64 k, .int .i64 so, .int .i64 se, .int .i64 ti, .int .i64 va], .agg #[.int .i64 k', .int .i64 so', .int .i64 se', .int .i64 ti', .int .i64 va']] w fun e w' => e = .returned (.bool true) ∧ Below w.heap.size w w' :=
  scancut_o ⟨k, so, se, ti, va⟩ ⟨k', so', se', ti', va'⟩ _ _ rfl rfl w

end Go.Proofs.Ytoechlmahckchaa
