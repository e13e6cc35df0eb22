import Derived.Test.YtbpaepkcchpmbaaGreatG9
import Derived.Laws.Slices
import Derived.BigQuiet
import Derived.Deep.QuietTactic
import Derived.Test.YtbpaepkcchpmbaaGreatStQuR
import Derived.Test.YtbpaepkcchpmbaaGreatG28
import Derived.Deep.LoopGhost
namespace Go.Proofs.YtbpaepkcchpmbaaGreat
open Go.RowKit
set_option maxRecDepth 100000 in
set_option maxHeartbeats 2000000 in
theorem sclone_some (ad : Addr) (n c : Nat) (xs : List Int) (w : World) (hr : Ints w (some ad) n xs) (hn : n * 8 ≤ 140737488351232) :
    Calls Tryz.prog 99 #[.slice (some ad) n c] w fun e w' => ∃ A' c', e = .returned (.slice A' n c') ∧ OwnI w' w.heap.size (.slice A' n c') xs ∧ Below w.heap.size w w' := by
  have hnil : ∀ W, (binOp .eql 57 (.slice (some ad) n c) (.slice none 0 0)).run Tryz.prog W = .ok (.bool false) W := fun W => Lib.run_eql_slice_nil (w := W) (h := Tryz.underlying57) ..
  go_enter Tryz.func99, Tryz.ntmps99
  go_wp2_with (refine app_intsA rfl _ _ rfl rfl (own_empty w) rfl (hr.below ((Below.refl _ _).alloc (Nat.le_refl _) _)) (fun e => by cases e) hn (by simp) ?_; intro A2 c2 wn hwn hbn)
  have hB : Below w.heap.size w wn := ((Below.refl _ _).alloc (Nat.le_refl _) _).trans hbn
  go_ret
  exact ⟨A2, _, rfl, hwn, hB⟩
set_option maxRecDepth 100000 in
set_option maxHeartbeats 400000 in
theorem sclone_none (w : World) :
    Calls Tryz.prog 99 #[.slice none 0 0] w fun e w' => e = .returned (.slice none 0 0) ∧ w = w' := by
  have hnil : ∀ W, (binOp .eql 57 (.slice none 0 0) (.slice none 0 0)).run Tryz.prog W = .ok (.bool true) W := fun W => Lib.run_eql_slice_nil (w := W) (h := Tryz.underlying57) ..
  go_enter Tryz.func99, Tryz.ntmps99
  go_wp2_with fail
  go_ret
  exact ⟨rfl, rfl⟩
theorem sclone_any (A : Option Addr) (n c : Nat) (xs : List Int) (w : World) (hr : Ints w A n xs) (hnil : A = none → c = 0) (hn : n * 8 ≤ 140737488351232) :
    Calls Tryz.prog 99 #[.slice A n c] w fun e w' => ∃ A' c', e = .returned (.slice A' n c') ∧ OwnI w' w.heap.size (.slice A' n c') xs ∧ Below w.heap.size w w' := by
  cases A with
  | some ad => exact sclone_some ad n c xs w hr hn
  | none =>
    have hc := hnil rfl
    subst hc
    have h0 : n = 0 := by
      rcases Nat.eq_zero_or_pos n with h | h
      · exact h
      · obtain ⟨b, o, e, _⟩ := hr.at_ h
        cases e
    subst h0
    obtain rfl : xs = [] := List.eq_nil_of_length_eq_zero hr.1
    refine (sclone_none w).mono ?_
    rintro e w' ⟨rfl, rfl⟩
    exact ⟨none, 0, rfl, OwnI.nil _ _, Below.refl _ _⟩
end Go.Proofs.YtbpaepkcchpmbaaGreat
namespace Go.Proofs.YtbpaepkcchpmbaaGreat
open Go.RowKit
set_option maxRecDepth 100000 in
set_option maxHeartbeats 1000000 in
theorem qlen_raw (g fn fc bn bc : Nat) (bv : Value) (FA BA : Option Addr) (w : World) (hst : Has w g QT #[bv, .slice FA fn fc, .slice BA bn bc]) (h1 : fn ≤ 65536) (h2 : bn ≤ 65536) :
    Calls Tryz.prog 112 #[.pointer (some ⟨g, 0, none⟩)] w fun e w' => e = .returned (.int .i64 ((fn + bn : Nat) : Int)) ∧ ∃ k, w' = w.drewN k := by
  have c1 := hst.cell 1
  have c2 := hst.cell 2
  simp only [List.getElem?_toArray, List.getElem?_cons_succ, List.getElem?_cons_zero] at c1 c2
  clear hst
  go_enter Tryz.func112, Tryz.ntmps112
  go_wp2_with fail
  go_quiet (fail)
  go_wp2_with fail
  go_ret
  exact ⟨by rw [Int.natCast_add]; rfl, _, rfl⟩
section
variable {g m d fn fc bn bc : Nat} {bA FA BA : Option Addr} {w : World}
set_option maxRecDepth 100000 in
set_option maxHeartbeats 1000000 in
theorem qtotal_raw {V W T : Ac} (hst : Has w g QT #[.slice bA m d, .slice FA fn fc, .slice BA bn bc])
    (c1 : ∀ w', Below w.heap.size w w' → Calls Tryz.prog 190 #[.pointer (some ⟨g, 0, none⟩), .slice FA fn fc] w' (OutT V w'))
    (c2 : ∀ w', Below w.heap.size w w' → Calls Tryz.prog 190 #[.pointer (some ⟨g, 0, none⟩), .slice BA bn bc] w' (OutT W w'))
    (cj : ∀ (w' : World) (e : Nat), Below w.heap.size w w' → Accs w' (some ⟨e, 0, none⟩) 2 [V, W] → Calls Tryz.prog 189 #[.pointer (some ⟨g, 0, none⟩), .slice (some ⟨e, 0, none⟩) 2 2] w' (OutA T w'))
    (lV : V.h.length ≤ maxLen) (lW : W.h.length ≤ maxLen) :
    Calls Tryz.prog 142 #[.pointer (some ⟨g, 0, none⟩)] w (OutA T w) := by
  have HC1 := Lib.hid c1
  have HC2 := Lib.hid c2
  have HCJ := Lib.hid cj
  have HST := Lib.hid hst
  have HLV := Lib.hid lV
  have HLW := Lib.hid lW
  have HAL : Hid (∀ o, Below w.heap.size w (w.alloc o)) := fun o => (Below.refl _ _).alloc (Nat.le_refl _) o
  clear c1 c2 cj hst lV lW
  go_enter Tryz.func142, Tryz.ntmps142
  go_upto_region 3 with fail
  refine stt3_any (g := g) (m := m) (d := d) (fn := fn) (fc := fc) (bn := bn) (bc := bc) (bA := bA) (FA := FA) (BA := BA) (z := w.heap.size + 1) (V := V) (W := W) (T := T) ⟨rfl, rfl, HST.out.alloc _, by simp, fun w' hb => HC1.out w' ((HAL.out _).trans (hb.mono (by simp))), fun w' hb => HC2.out w' ((HAL.out _).trans (hb.mono (by simp))), fun w' e hb ha => HCJ.out w' e ((HAL.out _).trans (hb.mono (by simp))) ha, HLV.out, HLW.out⟩ (by kernel_rfl) ?_
  intro H12 H18 e19 H20 w9 hB9 _ _ _ hH
  have H4 := Lib.hid (show Has w9 w.heap.size 144 (accC zeroAc none 0 0) from (Has.made w _ _).below hB9 (by simp))
  have HB9 := Lib.hid ((HAL.out _).trans (hB9.mono (by simp)))
  have HH := Lib.hid hH
  clear hB9 hH HC1 HC2 HCJ HAL
  simp only [putAll, Act.put, List.setIfInBounds_toArray, List.set_cons_succ, List.set_cons_zero, List.drop_succ_cons, List.drop_zero]
  go_wp2_with (refine store_has rfl _ _ rfl w.heap.size (ac := T) (A := some ⟨H20, 0, none⟩) (k := T.h.length) (c := T.h.length) rfl rfl H4.out rfl ?_)
  refine bodyPost_ret (ret_row1 rfl _ _ _ 144 (accC T (some ⟨H20, 0, none⟩) T.h.length T.h.length) _ rfl (H4.out.row _) Tryz.underlying144 rfl (by exact Tryz.sizeAcc)) rfl ?_
  have hlo := HH.out.2
  exact ⟨H20, by omega, rfl, HH.out.1.rowFar (by omega) _, below_row HB9.out (Nat.le_refl _) _⟩
end
end Go.Proofs.YtbpaepkcchpmbaaGreat
namespace Go.Proofs.YtbpaepkcchpmbaaGreat
open Go.RowKit
section
variable {O : Nat → Prop} {w w' : World} {g : Nat} {bs : List Int} {bv F B : Value} {fs bk : List Pt}
theorem joinAc_hl {bs : List Int} {xs : List Ac} (h : RowJ bs xs) : (joinAc bs xs).h.length = bs.length + 1 ∧ (joinAc bs xs).h.length ≤ maxLen := by
  have h1 := (fit_part (m := bs.length + 1) h.fit).len
  have h2 := (boundsB_true h.bd).1
  exact ⟨h1, by rw [h1]; unfold maxLen; omega⟩
theorem RowJ.acLen {bs : List Int} {xs : List Ac} (h : RowJ bs xs) {a : Ac} (ha : a ∈ xs) : a.h.length = bs.length + 1 := (h.parts a ha).len
theorem bd_ints {bA : Option Addr} {m d : Nat} (h : OwnI w 0 (.slice bA m d) bs) (hb : Below w.heap.size w w') : Ints w' bA m bs := (h.below hb).ints
theorem stk_tog {v : Value} {ts : List Pt} {bA : Option Addr} {m d : Nat} {X Y : Value} (hst : Has w g QT #[.slice bA m d, X, Y]) (hbs : Ints w bA m bs) (hv : OwnP w v ts.reverse) (hall : ∀ p ∈ ts, Has w p.H 3 (ints p.s.h)) (hbd : boundsB bs = true) (hn : ts.length ≤ 65536) :
    Calls Tryz.prog 190 #[.pointer (some ⟨g, 0, none⟩), v] w (OutT (topV bs ts) w) := by
  obtain ⟨A, c, rfl, _, _, _, ha⟩ := hv.form
  cases ts with
  | nil => exact (stk_none g bA m d bs X Y w hst hbs hbd A c).mono fun e w' ⟨H, _, h1, h2, h3⟩ => ⟨H, h1, h2, h3⟩
  | cons p r =>
    rw [List.reverse_cons, List.length_append] at hv ⊢
    rcases hv.shape with ⟨_, h, _⟩ | ⟨b, rfl⟩
    · simp at h
    · exact stk_some g w b r.reverse.length c r.reverse p hv (by simp at hn ⊢; omega) (hall p (by simp))
theorem QuM.tog1 (h : QuM O w g bs bv F B fs bk) (hbd : boundsB bs = true) (hn : fs.length ≤ 65536) (hb : Below w.heap.size w w') :
    Calls Tryz.prog 190 #[.pointer (some ⟨g, 0, none⟩), F] w' (OutT (topV bs fs) w') := by
  have h2 := h.below hb
  obtain ⟨A, c, rfl, _⟩ := h2.bd.form
  exact stk_tog h2.st h2.bd.ints h2.fr (fun p hp => h2.all p (by simp [hp])) hbd hn
theorem QuM.tog2 (h : QuM O w g bs bv F B fs bk) (hbd : boundsB bs = true) (hn : bk.length ≤ 65536) (hb : Below w.heap.size w w') :
    Calls Tryz.prog 190 #[.pointer (some ⟨g, 0, none⟩), B] w' (OutT (topV bs bk) w') := by
  have h2 := h.below hb
  obtain ⟨A, c, rfl, _⟩ := h2.bd.form
  exact stk_tog h2.st h2.bd.ints h2.ba (fun p hp => h2.all p (by simp [hp])) hbd hn
theorem QuM.joinQ (h : QuM O w g bs bv F B fs bk) {xs : List Ac} (hJ : RowJ bs xs) (hb : Below w.heap.size w w') {A : Option Addr} {n c : Nat} (hA : Accs w' A n xs) (hn : n ≤ 17592186044416) :
    Calls Tryz.prog 189 #[.pointer (some ⟨g, 0, none⟩), .slice A n c] w' (OutA (joinAc bs xs) w') := by
  have h2 := h.below hb
  obtain ⟨bA, d, rfl, _⟩ := h2.bd.form
  exact qjoin_any g bA bs.length d bs F B A n c xs w' h2.st h2.bd.ints hA hn hJ
theorem QuM.forms (h : QuM O w g bs bv F B fs bk) : ∃ bA d FA fc BA bc, bv = .slice bA bs.length d ∧ F = .slice FA fs.length fc ∧ B = .slice BA bk.length bc := by
  obtain ⟨bA, d, e1, _⟩ := h.bd.form
  obtain ⟨FA, fc, e2, _⟩ := h.fr.form
  obtain ⟨BA, bc, e3, _⟩ := h.ba.form
  rw [List.length_reverse] at e2 e3
  exact ⟨bA, d, FA, fc, BA, bc, e1, e2, e3⟩
theorem QuM.len (h : QuM O w g bs bv F B fs bk) (h1 : fs.length ≤ 65536) (h2 : bk.length ≤ 65536) :
    Calls Tryz.prog 112 #[.pointer (some ⟨g, 0, none⟩)] w fun e w' => e = .returned (.int .i64 ((ordQ fs bk).length : Nat)) ∧ ∃ k, w' = w.drewN k := by
  obtain ⟨bA, d, FA, fc, BA, bc, rfl, rfl, rfl⟩ := h.forms
  have e : (ordQ fs bk).length = fs.length + bk.length := by simp [ordQ]
  rw [e]
  exact qlen_raw g fs.length fc bk.length bc _ FA BA w h.st h1 h2
theorem QuM.total (h : QuM O w g bs bv F B fs bk) (hJ : RowJ bs (ordQ fs bk)) (h1 : fs.length ≤ 65536) (h2 : bk.length ≤ 65536) :
    Calls Tryz.prog 142 #[.pointer (some ⟨g, 0, none⟩)] w (OutA (joinAc bs (ordQ fs bk)) w) := by
  obtain ⟨bA, d, FA, fc, BA, bc, e1, e2, e3⟩ := h.forms
  have hw := RowJ.wholes (show RowJ bs (fs.map (·.a) ++ (bk.map (·.a)).reverse) from hJ)
  have hc := RowJ.cut (show RowJ bs (fs.map (·.a) ++ (bk.map (·.a)).reverse) from hJ)
  have l1 := joinAc_hl (show RowJ bs (fs.map (·.a)) from RowJ.left hJ)
  have l2 := joinAc_hl (show RowJ bs (bk.map (·.a)).reverse from RowJ.right hJ)
  have ht1 := fun w' hb => h.tog1 hJ.bd h1 (w' := w') hb
  have ht2 := fun w' hb => h.tog2 hJ.bd h2 (w' := w') hb
  have htj := fun w' (e : Nat) hb ha => h.joinQ hw (w' := w') hb (A := some ⟨e, 0, none⟩) (n := 2) (c := 2) ha (by omega)
  rw [hc] at htj
  rw [topV_up h.up] at ht1
  rw [topV_dn h.dn] at ht2
  have hst := h.st
  rw [e1, e2, e3] at hst
  rw [e2] at ht1
  rw [e3] at ht2
  exact qtotal_raw hst ht1 ht2 htj l1.2 l2.2
end
end Go.Proofs.YtbpaepkcchpmbaaGreat
namespace Go.Proofs.YtbpaepkcchpmbaaGreat
open Go.RowKit
def GrowO (O : Nat → Prop) (w w' : World) : Nat → Prop := fun k => O k ∨ (w.heap.size ≤ k ∧ k < w'.heap.size)
def TuS (O : Nat → Prop) (w : World) (g : Nat) (bs : List Int) (bv : Value) (xs : List Ac) (j : Nat) (wr : World) : Prop :=
  ∃ F B fs bk, QuM (GrowO O w wr) wr g bs bv F B fs bk ∧ (bk.map (·.a)).reverse ++ fs.map (·.a) = xs ∧ bk.length = j ∧ ButO O w wr
section
variable {O : Nat → Prop} {w w1 w2 w3 w4 : World} {g : Nat} {bs : List Int} {bv F B : Value} {fs bk : List Pt} {xs : List Ac}
theorem own_caps {h n c : Nat} {l : List Int} (ho : OwnI w 0 (.slice (some ⟨h, 0, none⟩) n c) l) : n ≤ c ∧ c ≤ maxLen := by
  obtain ⟨A, c', e, h1, h2, _⟩ := ho.form
  injection e with e1 e2 e3
  exact ⟨by omega, by omega⟩
theorem TuS.step {j b n c H : Nat} {FA : Option Addr} {fc : Nat} {p : Pt} {wr : World} {T : Ac} (h : QuM (GrowO O w wr) wr g bs bv (.slice FA fs.length fc) (.slice (some ⟨b, 0, none⟩) (n + 1) c) fs (p :: bk)) (he : ((p :: bk).map (·.a)).reverse ++ fs.map (·.a) = xs) (hj : (p :: bk).length = j + 1) (hO : ButO O w wr)
    (hst : Has w1 g QT #[bv, .slice FA fs.length fc, .slice (some ⟨b, 0, none⟩) n c]) (ho : OwnP w1 (.slice (some ⟨b, 0, none⟩) n c) bk.reverse) (hk : ButS [g, b] wr w1)
    (hb : Below w1.heap.size w1 w3) (hH : Has w3 H 3 (ints T.h)) (hlo : w1.heap.size ≤ H) (hT : T = joinAc bs (p.a :: fs.map (·.a)))
    (hp : PushedO g 1 #[bv, .slice FA fs.length fc, .slice (some ⟨b, 0, none⟩) n c] (.slice FA fs.length fc) (fs.reverse ++ [⟨p.a, p.h, p.c, T, H⟩]) w3 w4) : TuS O w g bs bv xs j w4 := by
  obtain ⟨t1, t2, t3⟩ := h.takeB (B' := .slice (some ⟨b, 0, none⟩) n c) rfl hst ho rfl hk
  have hlt : p.h < w1.heap.size := by
    obtain ⟨c, hh⟩ := t2.one.has (own_some _ _ _)
    exact hh.lt
  have hq : NewP w1 bs bv fs bk ⟨p.a, p.h, p.c, T, H⟩ w3 := ⟨hb, t2.one.below hb, hH, t2.off, t2.offD, by show p.h < H; omega, hlo⟩
  obtain ⟨⟨F', k1⟩, k2⟩ := t1.putF hq (by rw [← hT]) hp
  have s1 := hO.size
  have s2 := t3.size
  have s3 := k2.size
  refine ⟨F', _, _, bk, k1.mono fun k hk ho => ?_, ?_, by simpa using hj, ?_⟩
  · rcases ho with ⟨ho, _⟩ | rfl | ⟨h4, h5⟩
    · rcases ho with ho | ⟨h4, h5⟩
      · exact .inl ho
      · exact .inr ⟨h4, hk⟩
    · have : GrowO O w wr p.h := (h.inO p (by simp)).1
      rcases this with ho | ⟨h4, h5⟩
      · exact .inl ho
      · exact .inr ⟨h4, hk⟩
    · exact .inr ⟨by omega, hk⟩
  · rw [← he]; simp
  · refine (hO.andThen t3 fun i hi hl => ?_).andThen k2 fun i hi hl => ?_
    · rcases hi with hi | hi
      · exact hi
      · omega
    · rcases hi.1 with hi | hi
      · exact hi
      · omega
set_option maxRecDepth 100000 in
set_option maxHeartbeats 4000000 in
theorem turn_any (h : QuM O w g bs bv F B [] bk) (hJ : RowJ bs (bk.map (·.a)).reverse) (hn : bk.length ≤ 65536) :
    Calls Tryz.prog 193 #[.pointer (some ⟨g, 0, none⟩)] w fun e w' => e = .returned (.tuple #[]) ∧ TuS O w g bs bv (bk.map (·.a)).reverse 0 w' := by
  have HT := Lib.hid (show TuS O w g bs bv (bk.map (·.a)).reverse bk.length w from ⟨F, B, [], bk, h.mono fun k _ ho => .inl ho, by simp, rfl, below_butO (Below.refl _ _) _⟩)
  have HLX := Lib.hid (show (bk.map (·.a)).reverse.length = bk.length by simp)
  generalize hxs : (bk.map (·.a)).reverse = xs at HT HLX hJ ⊢
  generalize bk.length = N at HT hn HLX
  have HJ := Lib.hid hJ
  clear h hxs hJ
  go_enter Tryz.func193, Tryz.ntmps193
  go_wp2_with fail
  go_loopg [3] N (fun k _ wr => k ≤ N ∧ Hid (TuS O w g bs bv xs k wr))
  case atStart => exact ⟨Nat.le_refl _, HT⟩
  case round =>
    clear HT
    obtain ⟨hkN, HR⟩ := hrel
    obtain ⟨F1, B1, fs, bk, hq, he, hl, hO⟩ := HR.out
    cases bk with
    | nil =>
      obtain ⟨bA, d, FA, fc, BA, bc, rfl, rfl, rfl⟩ := hq.forms
      have hc2 : wr.cell? ⟨g, 2, none⟩ = some (.slice BA 0 bc) := hq.st.cell 2
      obtain rfl : gk = 0 := by simpa using hl.symm
      clear hq he hO hl
      go_wp2_with fail
      exact Great.bodyPost_end0 rfl rfl ⟨rfl, HR.out⟩
    | cons p r =>
      obtain ⟨bA, d, FA, fc, BA, bc, rfl, rfl, rfl⟩ := hq.forms
      have hba := hq.ba
      rw [List.length_cons] at hba
      have hrl : r.length + 1 ≤ N := by simp only [List.length_cons] at hl; omega
      have hfl : fs.length ≤ 65536 := by
        have h1 := congrArg List.length he
        have h2 := HLX.out
        simp only [List.length_append, List.length_reverse, List.length_map, List.length_cons] at h1
        omega
      obtain ⟨b, rfl⟩ : ∃ b, BA = some ⟨b, 0, none⟩ := by
        rcases hba.shape with ⟨_, h, _⟩ | h
        · omega
        · exact h
      rw [List.reverse_cons] at hba
      have hJ2 : RowJ bs (p.a :: fs.map (·.a)) := by
        have h1 := HJ.out
        rw [← he, List.map_cons, List.reverse_cons, List.append_assoc] at h1
        exact RowJ.right h1
      have hc2 : wr.cell? ⟨g, 2, none⟩ = some (.slice (some ⟨b, 0, none⟩) (r.length + 1) bc) := hq.st.cell 2
      have hpos : ((r.length + 1 : Nat) : Int) > 0 := by omega
      have HPOP := Lib.hid (spop_any g 2 b r.length bc r.reverse p #[.slice bA bs.length d, .slice FA fs.length fc, .slice (some ⟨b, 0, none⟩) (r.length + 1) bc] wr hq.st rfl hba (by omega))
      obtain ⟨gk, rfl⟩ : ∃ k, gk = k + 1 := ⟨r.length, by simpa using hl.symm⟩
      have HQ := Lib.hid hq
      have HE := Lib.hid he
      have HL := Lib.hid hl
      have HO := Lib.hid hO
      have HJ2 := Lib.hid hJ2
      clear hq he hl hO hJ2 hba HR
      go_wp2_with fail
      refine HPOP.out.mono ?_
      rintro e w1 ⟨rfl, hst1, ho1, hk1⟩
      have hst2 : Has w1 g QT #[.slice bA bs.length d, .slice FA fs.length fc, .slice (some ⟨b, 0, none⟩) r.length bc] := hst1
      obtain ⟨t1, t2, _⟩ := HQ.out.takeB rfl hst2 ho1 rfl hk1
      have HC := Lib.hid (own_caps t2.one)
      have HST := Lib.hid hst2
      have HO1 := Lib.hid ho1
      have HK1 := Lib.hid hk1
      have HT1 := Lib.hid t1
      have HT2 := Lib.hid t2
      have HB0 := Lib.hid (show Below w1.heap.size w1 (w1.alloc (.cells (accC p.a (some ⟨p.h, 0, none⟩) p.a.h.length p.c) 144)) from (Below.refl _ _).alloc (Nat.le_refl _) _)
      clear hst1 hst2 ho1 hk1 t1 t2 HPOP hc2
      go_upto_region 2 with (refine store_made rfl _ _ rfl rfl rfl rfl ?_)
      refine stu2_any (g := g) (m := bs.length) (d := d) (fn := fs.length) (fc := fc) (bn := r.length) (bc := bc) (bA := bA) (FA := FA) (BA := some ⟨b, 0, none⟩) (hk := p.h) (c := p.c) (x := w1.heap.size) (z := w1.heap.size) (u := p.a) (V := joinAc bs (fs.map (·.a))) (T := joinAc bs (p.a :: fs.map (·.a))) ⟨rfl, rfl, rfl, HST.out.alloc _, by simp, Has.made _ _ _, (HT2.out.one.below HB0.out).ints, HC.out.1, HC.out.2, (joinAc_hl HJ2.out.tail).2,
        fun w' hb => by have h := HT1.out.tog1 HJ.out.bd hfl (HB0.out.trans (hb.mono (by simp))); rw [topV_up HT1.out.up] at h; exact h,
        fun w' e hb ha => by have h := HT1.out.joinQ HJ2.out.cons_whole (HB0.out.trans (hb.mono (by simp))) (c := 2) ha (by omega); rw [HJ2.out.cons] at h; exact h⟩ (by kernel_rfl) ?_
      intro H24 e25 H26 H27 w3 hB3 _ _ _ hH
      have HB3 := Lib.hid (HB0.out.trans (hB3.mono (by simp)))
      have HH := Lib.hid hH
      clear hB3 hH HB0
      simp only [putAll, Act.put, List.setIfInBounds_toArray, List.set_cons_succ, List.set_cons_zero, List.drop_succ_cons, List.drop_zero]
      go_wp2_with fail
      refine (spush_any g 1 _ _ fs.reverse _ w3 (HST.out.below HB3.out HST.out.lt) rfl (HT1.out.fr.below HB3.out) (by simpa using hfl)).mono ?_
      rintro e w4 ⟨rfl, hp⟩
      have HF := Lib.hid (TuS.step HQ.out HE.out HL.out HO.out HST.out HO1.out HK1.out HB3.out HH.out.1 HH.out.2 rfl hp)
      clear hp HQ HE HL HO HST HO1 HK1 HT1 HT2 HB3 HH
      go_wp2_with fail
      go_roundg gk
      case measure => omega
      case rel => exact ⟨by omega, HF⟩
end
end Go.Proofs.YtbpaepkcchpmbaaGreat
namespace Go.Proofs.YtbpaepkcchpmbaaGreat
open Go.RowKit
def PopO (O : Nat → Prop) (g : Nat) (bs : List Int) (bv : Value) (a : Ac) (ys : List Ac) (w : World) (e : Ending) (w' : World) : Prop :=
  ∃ h c, e = .returned (.tuple #[accV a (some ⟨h, 0, none⟩) a.h.length c, .int .i64 0]) ∧ OwnI w' 0 (.slice (some ⟨h, 0, none⟩) a.h.length c) a.h ∧ GrowO O w w' h ∧ ButO O w w' ∧
    ∃ F B fs bk, QuM (fun k => GrowO O w w' k ∧ k ≠ h) w' g bs bv F B fs bk ∧ ordQ fs bk = ys
section
variable {O : Nat → Prop} {w w1 w2 w3 : World} {g : Nat} {bs : List Int} {bv F B : Value} {fs bk : List Pt}
theorem pop_end {p : Pt} {b n c : Nat} {BA : Option Addr} {bn bc : Nat} {V : Array Value} (h : QuM (GrowO O w w2) w2 g bs bv (.slice (some ⟨b, 0, none⟩) (n + 1) c) (.slice BA bn bc) (p :: fs) bk) (hres : Has w2 w.heap.size 144 V) (hB : ButO O w w2)
    (hst : Has w3 g QT #[bv, .slice (some ⟨b, 0, none⟩) n c, .slice BA bn bc]) (ho : OwnP w3 (.slice (some ⟨b, 0, none⟩) n c) fs.reverse) (hk : ButS [g, b] w2 w3) (V' : Array Value) :
    Has w3 w.heap.size 144 V ∧ PopO O g bs bv p.a (ordQ fs bk) w (.returned (.tuple #[accV p.a (some ⟨p.h, 0, none⟩) p.a.h.length p.c, .int .i64 0])) (w3.setRow w.heap.size V') := by
  obtain ⟨t1, t2, t3⟩ := h.takeF (F' := .slice (some ⟨b, 0, none⟩) n c) rfl hst ho rfl hk
  have hne : w.heap.size ∉ [g, b] := fun e => by
    simp only [List.mem_cons, List.not_mem_nil, or_false] at e
    rcases e with e | e
    · exact has_types (e ▸ hres) h.st (by decide)
    · exact h.fr.apart hres (by decide) (by rw [e]; rfl)
  have h3 := hres.butS hk hne
  have hset : ∀ k, k ≠ w.heap.size → (w3.setRow w.heap.size V').heap[k]? = w3.heap[k]? := fun k hk => setRow_other _ _ _ _ hk
  have hph : p.h ≠ w.heap.size := fun e => by
    obtain ⟨cur, hh⟩ := t2.one.has (own_some _ _ _)
    exact has_types (e ▸ hh) h3 (by decide)
  have hs2 := hB.size
  have hs3 := t3.size
  have hsz : (w3.setRow w.heap.size V').heap.size = w3.heap.size := by simp
  refine ⟨h3, p.h, p.c, rfl, t2.one.same fun k e => hset k (fun e2 => hph ?_), ?_, ?_, .slice (some ⟨b, 0, none⟩) n c, .slice BA bn bc, fs, bk, ?_, rfl⟩
  · rw [own_some] at e; injection e with e; omega
  · rcases (h.inO p (by simp)).1 with h4 | h4
    · exact .inl h4
    · exact .inr ⟨h4.1, by rw [hsz]; omega⟩
  · refine hB.andThen (⟨t3.os, t3.tape, t3.output, by rw [hsz]; exact hs3, fun k hk hn => ?_⟩ : ButO (fun k => GrowO O w w2 k ∨ k = w.heap.size) w2 (w3.setRow w.heap.size V')) fun i hi hl => ?_
    · rw [hset k (fun e => hn (.inr e))]
      exact t3.other k hk (fun e => hn (.inl e))
    · rcases hi with (hi | hi) | rfl
      · exact hi
      · omega
      · omega
  · have t4 : QuM (fun k => LessO (GrowO O w w2) p k ∧ k ≠ w.heap.size) w3 g bs bv (.slice (some ⟨b, 0, none⟩) n c) (.slice BA bn bc) fs bk := by
      have hint : ∀ {k cur}, Has w3 k 3 cur → k ≠ w.heap.size := fun hh e => has_types (e ▸ hh) h3 (by decide)
      exact ⟨t1.st, t1.bd, t1.fr, t1.ba, t1.one, t1.all, ⟨t1.inG, fun e => has_types (e ▸ t1.st) h3 (by decide)⟩, (fun k e => ⟨t1.inD k e, by obtain ⟨c, hh⟩ := t1.bd.has e; exact hint hh⟩), (fun k e => ⟨t1.inF k e, fun e2 => t1.fr.apart h3 (by decide) (e2 ▸ e)⟩), (fun k e => ⟨t1.inB k e, fun e2 => t1.ba.apart h3 (by decide) (e2 ▸ e)⟩),
        fun q hq => ⟨⟨(t1.inO q hq).1, by obtain ⟨c, hh⟩ := t1.oneHas hq; exact hint hh⟩, ⟨(t1.inO q hq).2, hint (t1.all q hq)⟩⟩, t1.far, t1.ones, t1.offH, t1.offD, t1.up, t1.dn⟩
    refine (t4.same (w' := w3.setRow w.heap.size V') fun k hk => hset k hk.2).mono fun k hk ho => ⟨?_, ho.1.2⟩
    rcases ho.1.1 with h4 | h4
    · exact .inl h4
    · exact .inr ⟨h4.1, hk⟩
set_option maxRecDepth 100000 in
set_option maxHeartbeats 4000000 in
theorem qpop_front {p : Pt} (h : QuM O w g bs bv F B (p :: fs) bk) (h1 : fs.length ≤ 65535) (h2 : bk.length ≤ 65536) :
    Calls Tryz.prog 145 #[.pointer (some ⟨g, 0, none⟩)] w fun e w' => PopO O g bs bv p.a (ordQ fs bk) w e w' := by
  have HB0 := Lib.hid (show ∀ o, Below w.heap.size w (w.alloc o) from fun o => (Below.refl _ _).alloc (Nat.le_refl _) o)
  have HQ := Lib.hid h
  have HL : Hid (∀ o, Calls Tryz.prog 112 #[.pointer (some ⟨g, 0, none⟩)] (w.alloc o) fun e w' => e = .returned (.int .i64 ((ordQ (p :: fs) bk).length : Nat)) ∧ ∃ k, w' = (w.alloc o).drewN k) := fun o => (h.below (HB0.out o)).len (by simp; omega) h2
  have hne : ¬ ((ordQ (p :: fs) bk).length : Int) = 0 := by simp [ordQ]; omega
  generalize (ordQ (p :: fs) bk).length = N at HL hne
  clear h
  go_enter Tryz.func145, Tryz.ntmps145
  go_wp2_with fail
  refine (HL.out _).mono ?_
  rintro e w2 ⟨rfl, k, hk⟩
  have HBW := Lib.hid (show Below w.heap.size w w2 from hk ▸ below_drewN (HB0.out _) k)
  have HRES := Lib.hid (show Has w2 w.heap.size 144 (accC zeroAc none 0 0) from hk ▸ (Has.made w _ _).drewN k)
  clear hk HL HB0
  have hq2 := (HQ.out.below HBW.out).mono (O' := GrowO O w w2) fun k _ ho => .inl ho
  obtain ⟨bA, d, FA, fc, BA, bc, rfl, rfl, rfl⟩ := hq2.forms
  rw [List.length_cons] at hq2
  have hfr := hq2.fr
  obtain ⟨b, rfl⟩ : ∃ b, FA = some ⟨b, 0, none⟩ := by
    rcases hfr.shape with ⟨_, h, _⟩ | h
    · omega
    · exact h
  rw [List.reverse_cons] at hfr
  have hc1 : w2.cell? ⟨g, 1, none⟩ = some (.slice (some ⟨b, 0, none⟩) (fs.length + 1) fc) := hq2.st.cell 1
  have hne2 : ¬ ((fs.length + 1 : Nat) : Int) = 0 := by omega
  have HPOP := Lib.hid (spop_any g 1 b fs.length fc fs.reverse p #[.slice bA bs.length d, .slice (some ⟨b, 0, none⟩) (fs.length + 1) fc, .slice BA bk.length bc] w2 hq2.st rfl hfr (by omega))
  have HQ2 := Lib.hid hq2
  clear hq2 hfr HQ
  go_wp2_with fail
  refine HPOP.out.mono ?_
  rintro e w3 ⟨rfl, hst1, ho1, hk1⟩
  have HE := Lib.hid (pop_end HQ2.out HRES.out (below_butO HBW.out O) hst1 ho1 hk1 (accC p.a (some ⟨p.h, 0, none⟩) p.a.h.length p.c))
  clear hst1 ho1 hk1 HPOP hc1
  go_wp2_with (refine store_has rfl _ _ rfl w.heap.size (ac := p.a) (A := some ⟨p.h, 0, none⟩) (k := p.a.h.length) (c := p.c) rfl rfl HE.out.1 rfl ?_)
  refine bodyPost_ret (ret_row rfl _ _ _ 144 (accC p.a (some ⟨p.h, 0, none⟩) p.a.h.length p.c) _ rfl (HE.out.1.row _) Tryz.underlying144 rfl (by exact Tryz.sizeAcc)) rfl ?_
  exact HE.out.2
set_option maxRecDepth 100000 in
set_option maxHeartbeats 4000000 in
theorem qpop_back {a : Ac} {ys : List Ac} (h : QuM O w g bs bv F B [] bk) (hJ : RowJ bs (bk.map (·.a)).reverse) (hx : (bk.map (·.a)).reverse = a :: ys) (h2 : bk.length ≤ 65536) :
    Calls Tryz.prog 145 #[.pointer (some ⟨g, 0, none⟩)] w fun e w' => PopO O g bs bv a ys w e w' := by
  have HB0 := Lib.hid (show ∀ o, Below w.heap.size w (w.alloc o) from fun o => (Below.refl _ _).alloc (Nat.le_refl _) o)
  have HQ := Lib.hid h
  have HJ := Lib.hid hJ
  have HX := Lib.hid hx
  have HL : Hid (∀ o, Calls Tryz.prog 112 #[.pointer (some ⟨g, 0, none⟩)] (w.alloc o) fun e w' => e = .returned (.int .i64 ((ordQ [] bk).length : Nat)) ∧ ∃ k, w' = (w.alloc o).drewN k) := fun o => (h.below (HB0.out o)).len (by simp) h2
  have hbl : bk.length = ys.length + 1 := by have := congrArg List.length hx; simpa using this
  have hne : ¬ ((ordQ [] bk).length : Int) = 0 := by rw [show (ordQ [] bk).length = bk.length by simp [ordQ]]; omega
  generalize (ordQ [] bk).length = N at HL hne
  clear h hJ hx
  go_enter Tryz.func145, Tryz.ntmps145
  go_wp2_with fail
  refine (HL.out _).mono ?_
  rintro e w1 ⟨rfl, k, hk⟩
  have HBW := Lib.hid (show Below w.heap.size w w1 from hk ▸ below_drewN (HB0.out _) k)
  have HRES := Lib.hid (show Has w1 w.heap.size 144 (accC zeroAc none 0 0) from hk ▸ (Has.made w _ _).drewN k)
  clear hk HL HB0
  have hq1 : QuM (fun k => O k ∧ k < w.heap.size) w1 g bs bv F B [] bk := (HQ.out.mono (fun k hk ho => ⟨ho, hk⟩)).same fun k hk => HBW.out.block k hk.2
  obtain ⟨bA, d, FA, fc, BA, bc, rfl, rfl, rfl⟩ := hq1.forms
  have hc1 : w1.cell? ⟨g, 1, none⟩ = some (.slice FA 0 fc) := hq1.st.cell 1
  have HTU := Lib.hid (turn_any hq1 HJ.out h2)
  clear hq1 HQ
  go_wp2_with fail
  refine HTU.out.mono ?_
  rintro e w2 ⟨rfl, F2, B2, fs, bk2, hq2, he2, hl2, hO2⟩
  obtain rfl : bk2 = [] := List.length_eq_zero_iff.1 hl2
  have hs1 := HBW.out.size
  have hs2 := hO2.size
  have hres2 := HRES.out.butO hO2 (fun h => by omega)
  rw [List.map_nil, List.reverse_nil, List.nil_append, HX.out] at he2
  cases fs with
  | nil => cases he2
  | cons p fs =>
    rw [List.map_cons] at he2
    injection he2 with e1 e2
    subst e1
    have hfl : fs.length ≤ 65536 := by have := congrArg List.length e2; rw [List.length_map] at this; omega
    have hq3 := hq2.mono (O' := GrowO O w w2) fun k hk ho => by
      rcases ho with ho | ho
      · exact .inl ho.1
      · exact .inr ⟨by omega, hk⟩
    have hB2 : ButO O w w2 := (below_butO HBW.out O).andThen hO2 fun i hi _ => hi.1
    obtain ⟨bA2, d2, FA2, fc2, BA2, bc2, e3, rfl, rfl⟩ := hq3.forms
    rw [List.length_cons] at hq3
    have hfr := hq3.fr
    obtain ⟨b, rfl⟩ : ∃ b, FA2 = some ⟨b, 0, none⟩ := by
      rcases hfr.shape with ⟨_, h, _⟩ | h
      · omega
      · exact h
    rw [List.reverse_cons] at hfr
    have HPOP := Lib.hid (spop_any g 1 b fs.length fc2 fs.reverse p #[.slice bA bs.length d, .slice (some ⟨b, 0, none⟩) (fs.length + 1) fc2, .slice BA2 ([] : List Pt).length bc2] w2 hq3.st rfl hfr hfl)
    have HQ3 := Lib.hid hq3
    have HB2 := Lib.hid hB2
    have HR2 := Lib.hid hres2
    have HYS := Lib.hid (show ordQ fs [] = ys by rw [← e2]; simp [ordQ])
    clear hq3 hfr hq2 hO2 hB2 hres2 hc1 HTU
    go_wp2_with fail
    refine HPOP.out.mono ?_
    rintro e w3 ⟨rfl, hst1, ho1, hk1⟩
    have HE := Lib.hid (pop_end HQ3.out HR2.out HB2.out hst1 ho1 hk1 (accC p.a (some ⟨p.h, 0, none⟩) p.a.h.length p.c))
    clear hst1 ho1 hk1 HPOP
    go_wp2_with (refine store_has rfl _ _ rfl w.heap.size (ac := p.a) (A := some ⟨p.h, 0, none⟩) (k := p.a.h.length) (c := p.c) rfl rfl HE.out.1 rfl ?_)
    refine bodyPost_ret (ret_row rfl _ _ _ 144 (accC p.a (some ⟨p.h, 0, none⟩) p.a.h.length p.c) _ rfl (HE.out.1.row _) Tryz.underlying144 rfl (by exact Tryz.sizeAcc)) rfl ?_
    have := HE.out.2
    rw [HYS.out] at this
    exact this
end
end Go.Proofs.YtbpaepkcchpmbaaGreat
