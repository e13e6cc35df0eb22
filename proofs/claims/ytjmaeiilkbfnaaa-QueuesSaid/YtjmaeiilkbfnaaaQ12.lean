/-
  The queue's together, join, Len and Total, as contracts on the queue in memory.
  Walk: the queue's turn.
  Walk: the queue's Pop.
  The program's queue as its callers see it: the row that it holds, the blocks that it owns.
-/
import Derived.Test.YtjmaeiilkbfnaaaQ10
import Derived.Test.YtjmaeiilkbfnaaaQ11
import Derived.Deep.LoopGhost
namespace Go.Proofs.Ytjmaeiilkbfnaaa
open Go.RowKit

section
variable {O : Nat → Prop} {w w' : World} {g : Nat} {bs : List Int} {bv F B : Value} {fs bk : List Pt}
theorem joinAc_hl {bs : List Int} {xs : List Ac} (h : RowJ bs xs) : (joinAc bs xs).h.length = bs.length + 1 ∧ (joinAc bs xs).h.length ≤ maxLen := by
  have h1 := (fit_part (m := bs.length + 1) h.fit).len
  have h2 := (boundsB_true h.bd).1
  exact ⟨h1, by rw [h1]; unfold maxLen; omega⟩
theorem RowJ.acLen {bs : List Int} {xs : List Ac} (h : RowJ bs xs) {a : Ac} (ha : a ∈ xs) : a.h.length = bs.length + 1 := (h.parts a ha).len
/-- The bounds as Join reads them. -/
theorem bd_ints {bA : Option Addr} {m d : Nat} (h : OwnI w 0 (.slice bA m d) bs) (hb : Below w.heap.size w w') : Ints w' bA m bs := (h.below hb).ints
theorem stk_tog {v : Value} {ts : List Pt} {bA : Option Addr} {m d : Nat} {X Y : Value} (hst : Has w g QT #[.slice bA m d, X, Y]) (hbs : Ints w bA m bs) (hv : OwnP w v ts.reverse) (hall : ∀ p ∈ ts, Has w p.H 3 (ints p.s.h)) (hbd : boundsB bs = true) (hn : ts.length ≤ 65536) :
    Calls Try.prog 57 #[.pointer (some ⟨g, 0, none⟩), v] w (OutT (topV bs ts) w) := by
  obtain ⟨A, c, rfl, _, _, _, ha⟩ := hv.form
  cases ts with
  | nil => exact (stk_none g bA m d bs X Y w hst hbs hbd A c).mono fun e w' ⟨H, _, h1, h2, h3⟩ => ⟨H, h1, h2, h3⟩
  | cons p r =>
    rw [List.reverse_cons, List.length_append] at hv ⊢
    rcases hv.shape with ⟨_, h, _⟩ | ⟨b, rfl⟩
    · simp at h
    · exact stk_some g w b r.reverse.length c r.reverse p hv (by simp at hn ⊢; omega) (hall p (by simp))
theorem QuM.tog1 (h : QuM O w g bs bv F B fs bk) (hbd : boundsB bs = true) (hn : fs.length ≤ 65536) (hb : Below w.heap.size w w') :
    Calls Try.prog 57 #[.pointer (some ⟨g, 0, none⟩), F] w' (OutT (topV bs fs) w') := by
  have h2 := h.below hb
  obtain ⟨A, c, rfl, _⟩ := h2.bd.form
  exact stk_tog h2.st h2.bd.ints h2.fr (fun p hp => h2.all p (by simp [hp])) hbd hn
theorem QuM.tog2 (h : QuM O w g bs bv F B fs bk) (hbd : boundsB bs = true) (hn : bk.length ≤ 65536) (hb : Below w.heap.size w w') :
    Calls Try.prog 57 #[.pointer (some ⟨g, 0, none⟩), B] w' (OutT (topV bs bk) w') := by
  have h2 := h.below hb
  obtain ⟨A, c, rfl, _⟩ := h2.bd.form
  exact stk_tog h2.st h2.bd.ints h2.ba (fun p hp => h2.all p (by simp [hp])) hbd hn
theorem QuM.joinQ (h : QuM O w g bs bv F B fs bk) {xs : List Ac} (hJ : RowJ bs xs) (hb : Below w.heap.size w w') {A : Option Addr} {n c : Nat} (hA : Accs w' A n xs) (hn : n ≤ 17592186044416) :
    Calls Try.prog 56 #[.pointer (some ⟨g, 0, none⟩), .slice A n c] w' (OutA (joinAc bs xs) w') := by
  have h2 := h.below hb
  obtain ⟨bA, d, rfl, _⟩ := h2.bd.form
  exact qjoin_any g bA bs.length d bs F B A n c xs w' h2.st h2.bd.ints hA hn hJ
/-- The three fields as slices. -/
theorem QuM.forms (h : QuM O w g bs bv F B fs bk) : ∃ bA d FA fc BA bc, bv = .slice bA bs.length d ∧ F = .slice FA fs.length fc ∧ B = .slice BA bk.length bc := by
  obtain ⟨bA, d, e1, _⟩ := h.bd.form
  obtain ⟨FA, fc, e2, _⟩ := h.fr.form
  obtain ⟨BA, bc, e3, _⟩ := h.ba.form
  rw [List.length_reverse] at e2 e3
  exact ⟨bA, d, FA, fc, BA, bc, e1, e2, e3⟩
theorem QuM.len (h : QuM O w g bs bv F B fs bk) (h1 : fs.length ≤ 65536) (h2 : bk.length ≤ 65536) :
    Calls Try.prog 31 #[.pointer (some ⟨g, 0, none⟩)] w fun e w' => e = .returned (.int .i64 ((ordQ fs bk).length : Nat)) ∧ ∃ k, w' = w.drewN k := by
  obtain ⟨bA, d, FA, fc, BA, bc, rfl, rfl, rfl⟩ := h.forms
  have e : (ordQ fs bk).length = fs.length + bk.length := by simp [ordQ]
  rw [e]
  exact qlen_raw g fs.length fc bk.length bc _ FA BA w h.st h1 h2
theorem QuM.total (h : QuM O w g bs bv F B fs bk) (hJ : RowJ bs (ordQ fs bk)) (h1 : fs.length ≤ 65536) (h2 : bk.length ≤ 65536) :
    Calls Try.prog 29 #[.pointer (some ⟨g, 0, none⟩)] w (OutA (joinAc bs (ordQ fs bk)) w) := by
  obtain ⟨bA, d, FA, fc, BA, bc, e1, e2, e3⟩ := h.forms
  have hw := RowJ.wholes (show RowJ bs (fs.map (·.a) ++ (bk.map (·.a)).reverse) from hJ)
  have hc := RowJ.cut (show RowJ bs (fs.map (·.a) ++ (bk.map (·.a)).reverse) from hJ)
  have l1 := joinAc_hl (show RowJ bs (fs.map (·.a)) from RowJ.left hJ)
  have l2 := joinAc_hl (show RowJ bs (bk.map (·.a)).reverse from RowJ.right hJ)
  have ht1 := fun w' hb => h.tog1 hJ.bd h1 (w' := w') hb
  have ht2 := fun w' hb => h.tog2 hJ.bd h2 (w' := w') hb
  have htj := fun w' (e : Nat) hb ha => h.joinQ hw (w' := w') hb (A := some ⟨e, 0, none⟩) (n := 2) (c := 2) ha (by omega)
  rw [hc] at htj
  rw [topV_up h.up] at ht1
  rw [topV_dn h.dn] at ht2
  have hst := h.st
  rw [e1, e2, e3] at hst
  rw [e2] at ht1
  rw [e3] at ht2
  exact qtotal_raw hst ht1 ht2 htj l1.2 l2.2
end

end Go.Proofs.Ytjmaeiilkbfnaaa

namespace Go.Proofs.Ytjmaeiilkbfnaaa
open Go.RowKit

def GrowO (O : Nat → Prop) (w w' : World) : Nat → Prop := fun k => O k ∨ (w.heap.size ≤ k ∧ k < w'.heap.size)
/-- In the midst of turning: the back holds j yet. -/
def TuS (O : Nat → Prop) (w : World) (g : Nat) (bs : List Int) (bv : Value) (xs : List Ac) (j : Nat) (wr : World) : Prop :=
  ∃ F B fs bk, QuM (GrowO O w wr) wr g bs bv F B fs bk ∧ (bk.map (·.a)).reverse ++ fs.map (·.a) = xs ∧ bk.length = j ∧ ButO O w wr

section
variable {O : Nat → Prop} {w w1 w2 w3 w4 : World} {g : Nat} {bs : List Int} {bv F B : Value} {fs bk : List Pt} {xs : List Ac}
theorem own_caps {h n c : Nat} {l : List Int} (ho : OwnI w 0 (.slice (some ⟨h, 0, none⟩) n c) l) : n ≤ c ∧ c ≤ maxLen := by
  obtain ⟨A, c', e, h1, h2, _⟩ := ho.form
  injection e with e1 e2 e3
  exact ⟨by omega, by omega⟩
/-- One more lies in front. -/
theorem TuS.step {j b n c H : Nat} {FA : Option Addr} {fc : Nat} {p : Pt} {wr : World} {T : Ac} (h : QuM (GrowO O w wr) wr g bs bv (.slice FA fs.length fc) (.slice (some ⟨b, 0, none⟩) (n + 1) c) fs (p :: bk)) (he : ((p :: bk).map (·.a)).reverse ++ fs.map (·.a) = xs) (hj : (p :: bk).length = j + 1) (hO : ButO O w wr)
    (hst : Has w1 g QT #[bv, .slice FA fs.length fc, .slice (some ⟨b, 0, none⟩) n c]) (ho : OwnP w1 (.slice (some ⟨b, 0, none⟩) n c) bk.reverse) (hk : ButS [g, b] wr w1)
    (hb : Below w1.heap.size w1 w3) (hH : Has w3 H 3 (ints T.h)) (hlo : w1.heap.size ≤ H) (hT : T = joinAc bs (p.a :: fs.map (·.a)))
    (hp : PushedO g 1 #[bv, .slice FA fs.length fc, .slice (some ⟨b, 0, none⟩) n c] (.slice FA fs.length fc) (fs.reverse ++ [⟨p.a, p.h, p.c, T, H⟩]) w3 w4) : TuS O w g bs bv xs j w4 := by
  obtain ⟨t1, t2, t3⟩ := h.takeB (B' := .slice (some ⟨b, 0, none⟩) n c) rfl hst ho rfl hk
  have hlt : p.h < w1.heap.size := by
    obtain ⟨c, hh⟩ := t2.one.has (own_some _ _ _)
    exact hh.lt
  have hq : NewP w1 bs bv fs bk ⟨p.a, p.h, p.c, T, H⟩ w3 := ⟨hb, t2.one.below hb, hH, t2.off, t2.offD, by show p.h < H; omega, hlo⟩
  obtain ⟨⟨F', k1⟩, k2⟩ := t1.putF hq (by rw [← hT]) hp
  have s1 := hO.size
  have s2 := t3.size
  have s3 := k2.size
  refine ⟨F', _, _, bk, k1.mono fun k hk ho => ?_, ?_, by simpa using hj, ?_⟩
  · rcases ho with ⟨ho, _⟩ | rfl | ⟨h4, h5⟩
    · rcases ho with ho | ⟨h4, h5⟩
      · exact .inl ho
      · exact .inr ⟨h4, hk⟩
    · have : GrowO O w wr p.h := (h.inO p (by simp)).1
      rcases this with ho | ⟨h4, h5⟩
      · exact .inl ho
      · exact .inr ⟨h4, hk⟩
    · exact .inr ⟨by omega, hk⟩
  · rw [← he]; simp
  · refine (hO.andThen t3 fun i hi hl => ?_).andThen k2 fun i hi hl => ?_
    · rcases hi with hi | hi
      · exact hi
      · omega
    · rcases hi.1 with hi | hi
      · exact hi
      · omega

set_option maxRecDepth 100000 in
set_option maxHeartbeats 4000000 in
theorem turn_any (h : QuM O w g bs bv F B [] bk) (hJ : RowJ bs (bk.map (·.a)).reverse) (hn : bk.length ≤ 65536) :
    Calls Try.prog 53 #[.pointer (some ⟨g, 0, none⟩)] w fun e w' => e = .returned (.tuple #[]) ∧ TuS O w g bs bv (bk.map (·.a)).reverse 0 w' := by
  have HT := Lib.hid (show TuS O w g bs bv (bk.map (·.a)).reverse bk.length w from ⟨F, B, [], bk, h.mono fun k _ ho => .inl ho, by simp, rfl, below_butO (Below.refl _ _) _⟩)
  have HLX := Lib.hid (show (bk.map (·.a)).reverse.length = bk.length by simp)
  generalize hxs : (bk.map (·.a)).reverse = xs at HT HLX hJ ⊢
  generalize bk.length = N at HT hn HLX
  have HJ := Lib.hid hJ
  clear h hxs hJ
  go_enter Try.func53, Try.ntmps53
  go_wp2_with fail
  go_loopg [3] N (fun k _ wr => k ≤ N ∧ Hid (TuS O w g bs bv xs k wr))
  case atStart => exact ⟨Nat.le_refl _, HT⟩
  case round =>
    clear HT
    obtain ⟨hkN, HR⟩ := hrel
    obtain ⟨F1, B1, fs, bk, hq, he, hl, hO⟩ := HR.out
    cases bk with
    | nil =>
      obtain ⟨bA, d, FA, fc, BA, bc, rfl, rfl, rfl⟩ := hq.forms
      have hc2 : wr.cell? ⟨g, 2, none⟩ = some (.slice BA 0 bc) := hq.st.cell 2
      obtain rfl : gk = 0 := by simpa using hl.symm
      clear hq he hO hl
      go_wp2_with fail
      exact Great.bodyPost_end0 rfl rfl ⟨rfl, HR.out⟩
    | cons p r =>
      obtain ⟨bA, d, FA, fc, BA, bc, rfl, rfl, rfl⟩ := hq.forms
      have hba := hq.ba
      rw [List.length_cons] at hba
      have hrl : r.length + 1 ≤ N := by simp only [List.length_cons] at hl; omega
      have hfl : fs.length ≤ 65536 := by
        have h1 := congrArg List.length he
        have h2 := HLX.out
        simp only [List.length_append, List.length_reverse, List.length_map, List.length_cons] at h1
        omega
      obtain ⟨b, rfl⟩ : ∃ b, BA = some ⟨b, 0, none⟩ := by
        rcases hba.shape with ⟨_, h, _⟩ | h
        · omega
        · exact h
      rw [List.reverse_cons] at hba
      have hJ2 : RowJ bs (p.a :: fs.map (·.a)) := by
        have h1 := HJ.out
        rw [← he, List.map_cons, List.reverse_cons, List.append_assoc] at h1
        exact RowJ.right h1
      have hc2 : wr.cell? ⟨g, 2, none⟩ = some (.slice (some ⟨b, 0, none⟩) (r.length + 1) bc) := hq.st.cell 2
      have hpos : ((r.length + 1 : Nat) : Int) > 0 := by omega
      have HPOP := Lib.hid (spop_any g 2 b r.length bc r.reverse p #[.slice bA bs.length d, .slice FA fs.length fc, .slice (some ⟨b, 0, none⟩) (r.length + 1) bc] wr hq.st rfl hba (by omega))
      obtain ⟨gk, rfl⟩ : ∃ k, gk = k + 1 := ⟨r.length, by simpa using hl.symm⟩
      have HQ := Lib.hid hq
      have HE := Lib.hid he
      have HL := Lib.hid hl
      have HO := Lib.hid hO
      have HJ2 := Lib.hid hJ2
      clear hq he hl hO hJ2 hba HR
      go_wp2_with fail
      refine HPOP.out.mono ?_
      rintro e w1 ⟨rfl, hst1, ho1, hk1⟩
      have hst2 : Has w1 g QT #[.slice bA bs.length d, .slice FA fs.length fc, .slice (some ⟨b, 0, none⟩) r.length bc] := hst1
      obtain ⟨t1, t2, _⟩ := HQ.out.takeB rfl hst2 ho1 rfl hk1
      have HC := Lib.hid (own_caps t2.one)
      have HST := Lib.hid hst2
      have HO1 := Lib.hid ho1
      have HK1 := Lib.hid hk1
      have HT1 := Lib.hid t1
      have HT2 := Lib.hid t2
      have HB0 := Lib.hid (show Below w1.heap.size w1 (w1.alloc (.cells (accC p.a (some ⟨p.h, 0, none⟩) p.a.h.length p.c) 29)) from (Below.refl _ _).alloc (Nat.le_refl _) _)
      clear hst1 hst2 ho1 hk1 t1 t2 HPOP hc2
      go_upto_region 2 with (refine store_made rfl _ _ rfl rfl rfl rfl ?_)
      refine stu2_any (g := g) (m := bs.length) (d := d) (fn := fs.length) (fc := fc) (bn := r.length) (bc := bc) (bA := bA) (FA := FA) (BA := some ⟨b, 0, none⟩) (hk := p.h) (c := p.c) (x := w1.heap.size) (z := w1.heap.size) (u := p.a) (V := joinAc bs (fs.map (·.a))) (T := joinAc bs (p.a :: fs.map (·.a))) ⟨rfl, rfl, rfl, HST.out.alloc _, by simp, Has.made _ _ _, (HT2.out.one.below HB0.out).ints, HC.out.1, HC.out.2, (joinAc_hl HJ2.out.tail).2,
        fun w' hb => by have h := HT1.out.tog1 HJ.out.bd hfl (HB0.out.trans (hb.mono (by simp))); rw [topV_up HT1.out.up] at h; exact h,
        fun w' e hb ha => by have h := HT1.out.joinQ HJ2.out.cons_whole (HB0.out.trans (hb.mono (by simp))) (c := 2) ha (by omega); rw [HJ2.out.cons] at h; exact h⟩ (by kernel_rfl) ?_
      intro H24 e25 H26 H27 w3 hB3 _ _ _ hH
      have HB3 := Lib.hid (HB0.out.trans (hB3.mono (by simp)))
      have HH := Lib.hid hH
      clear hB3 hH HB0
      simp only [putAll, Act.put, List.setIfInBounds_toArray, List.set_cons_succ, List.set_cons_zero, List.drop_succ_cons, List.drop_zero]
      go_wp2_with fail
      refine (spush_any g 1 _ _ fs.reverse _ w3 (HST.out.below HB3.out HST.out.lt) rfl (HT1.out.fr.below HB3.out) (by simpa using hfl)).mono ?_
      rintro e w4 ⟨rfl, hp⟩
      have HF := Lib.hid (TuS.step HQ.out HE.out HL.out HO.out HST.out HO1.out HK1.out HB3.out HH.out.1 HH.out.2 rfl hp)
      clear hp HQ HE HL HO HST HO1 HK1 HT1 HT2 HB3 HH
      go_wp2_with fail
      go_roundg gk
      case measure => omega
      case rel => exact ⟨by omega, HF⟩
end

end Go.Proofs.Ytjmaeiilkbfnaaa

namespace Go.Proofs.Ytjmaeiilkbfnaaa
open Go.RowKit

/-- What Pop leaves where one was there: a the aggregate handed out, ys the rest. -/
def PopO (O : Nat → Prop) (g : Nat) (bs : List Int) (bv : Value) (a : Ac) (ys : List Ac) (w : World) (e : Ending) (w' : World) : Prop :=
  ∃ h c, e = .returned (.tuple #[accV a (some ⟨h, 0, none⟩) a.h.length c, .int .i64 0]) ∧ OwnI w' 0 (.slice (some ⟨h, 0, none⟩) a.h.length c) a.h ∧ GrowO O w w' h ∧ ButO O w w' ∧
    ∃ F B fs bk, QuM (fun k => GrowO O w w' k ∧ k ≠ h) w' g bs bv F B fs bk ∧ ordQ fs bk = ys
section
variable {O : Nat → Prop} {w w1 w2 w3 : World} {g : Nat} {bs : List Int} {bv F B : Value} {fs bk : List Pt}
/-- The end of Pop: the front's top is taken, behind what was done before. -/
theorem pop_end {p : Pt} {b n c : Nat} {BA : Option Addr} {bn bc : Nat} {V : Array Value} (h : QuM (GrowO O w w2) w2 g bs bv (.slice (some ⟨b, 0, none⟩) (n + 1) c) (.slice BA bn bc) (p :: fs) bk) (hres : Has w2 w.heap.size 29 V) (hB : ButO O w w2)
    (hst : Has w3 g QT #[bv, .slice (some ⟨b, 0, none⟩) n c, .slice BA bn bc]) (ho : OwnP w3 (.slice (some ⟨b, 0, none⟩) n c) fs.reverse) (hk : ButS [g, b] w2 w3) (V' : Array Value) :
    Has w3 w.heap.size 29 V ∧ PopO O g bs bv p.a (ordQ fs bk) w (.returned (.tuple #[accV p.a (some ⟨p.h, 0, none⟩) p.a.h.length p.c, .int .i64 0])) (w3.setRow w.heap.size V') := by
  obtain ⟨t1, t2, t3⟩ := h.takeF (F' := .slice (some ⟨b, 0, none⟩) n c) rfl hst ho rfl hk
  have hne : w.heap.size ∉ [g, b] := fun e => by
    simp only [List.mem_cons, List.not_mem_nil, or_false] at e
    rcases e with e | e
    · exact has_types (e ▸ hres) h.st (by decide)
    · exact h.fr.apart hres (by decide) (by rw [e]; rfl)
  have h3 := hres.butS hk hne
  have hset : ∀ k, k ≠ w.heap.size → (w3.setRow w.heap.size V').heap[k]? = w3.heap[k]? := fun k hk => setRow_other _ _ _ _ hk
  have hph : p.h ≠ w.heap.size := fun e => by
    obtain ⟨cur, hh⟩ := t2.one.has (own_some _ _ _)
    exact has_types (e ▸ hh) h3 (by decide)
  have hs2 := hB.size
  have hs3 := t3.size
  have hsz : (w3.setRow w.heap.size V').heap.size = w3.heap.size := by simp
  refine ⟨h3, p.h, p.c, rfl, t2.one.same fun k e => hset k (fun e2 => hph ?_), ?_, ?_, .slice (some ⟨b, 0, none⟩) n c, .slice BA bn bc, fs, bk, ?_, rfl⟩
  · rw [own_some] at e; injection e with e; omega
  · rcases (h.inO p (by simp)).1 with h4 | h4
    · exact .inl h4
    · exact .inr ⟨h4.1, by rw [hsz]; omega⟩
  · refine hB.andThen (⟨t3.os, t3.tape, t3.output, by rw [hsz]; exact hs3, fun k hk hn => ?_⟩ : ButO (fun k => GrowO O w w2 k ∨ k = w.heap.size) w2 (w3.setRow w.heap.size V')) fun i hi hl => ?_
    · rw [hset k (fun e => hn (.inr e))]
      exact t3.other k hk (fun e => hn (.inl e))
    · rcases hi with (hi | hi) | rfl
      · exact hi
      · omega
      · omega
  · have t4 : QuM (fun k => LessO (GrowO O w w2) p k ∧ k ≠ w.heap.size) w3 g bs bv (.slice (some ⟨b, 0, none⟩) n c) (.slice BA bn bc) fs bk := by
      have hint : ∀ {k cur}, Has w3 k 3 cur → k ≠ w.heap.size := fun hh e => has_types (e ▸ hh) h3 (by decide)
      exact ⟨t1.st, t1.bd, t1.fr, t1.ba, t1.one, t1.all, ⟨t1.inG, fun e => has_types (e ▸ t1.st) h3 (by decide)⟩, (fun k e => ⟨t1.inD k e, by obtain ⟨c, hh⟩ := t1.bd.has e; exact hint hh⟩), (fun k e => ⟨t1.inF k e, fun e2 => t1.fr.apart h3 (by decide) (e2 ▸ e)⟩), (fun k e => ⟨t1.inB k e, fun e2 => t1.ba.apart h3 (by decide) (e2 ▸ e)⟩),
        fun q hq => ⟨⟨(t1.inO q hq).1, by obtain ⟨c, hh⟩ := t1.oneHas hq; exact hint hh⟩, ⟨(t1.inO q hq).2, hint (t1.all q hq)⟩⟩, t1.far, t1.ones, t1.offH, t1.offD, t1.up, t1.dn⟩
    refine (t4.same (w' := w3.setRow w.heap.size V') fun k hk => hset k hk.2).mono fun k hk ho => ⟨?_, ho.1.2⟩
    rcases ho.1.1 with h4 | h4
    · exact .inl h4
    · exact .inr ⟨h4.1, hk⟩

set_option maxRecDepth 100000 in
set_option maxHeartbeats 4000000 in
theorem qpop_front {p : Pt} (h : QuM O w g bs bv F B (p :: fs) bk) (h1 : fs.length ≤ 65535) (h2 : bk.length ≤ 65536) :
    Calls Try.prog 24 #[.pointer (some ⟨g, 0, none⟩)] w fun e w' => PopO O g bs bv p.a (ordQ fs bk) w e w' := by
  have HB0 := Lib.hid (show ∀ o, Below w.heap.size w (w.alloc o) from fun o => (Below.refl _ _).alloc (Nat.le_refl _) o)
  have HQ := Lib.hid h
  have HL : Hid (∀ o, Calls Try.prog 31 #[.pointer (some ⟨g, 0, none⟩)] (w.alloc o) fun e w' => e = .returned (.int .i64 ((ordQ (p :: fs) bk).length : Nat)) ∧ ∃ k, w' = (w.alloc o).drewN k) := fun o => (h.below (HB0.out o)).len (by simp; omega) h2
  have hne : ¬ ((ordQ (p :: fs) bk).length : Int) = 0 := by simp [ordQ]; omega
  generalize (ordQ (p :: fs) bk).length = N at HL hne
  clear h
  go_enter Try.func24, Try.ntmps24
  go_wp2_with fail
  refine (HL.out _).mono ?_
  rintro e w2 ⟨rfl, k, hk⟩
  have HBW := Lib.hid (show Below w.heap.size w w2 from hk ▸ below_drewN (HB0.out _) k)
  have HRES := Lib.hid (show Has w2 w.heap.size 29 (accC zeroAc none 0 0) from hk ▸ (Has.made w _ _).drewN k)
  clear hk HL HB0
  have hq2 := (HQ.out.below HBW.out).mono (O' := GrowO O w w2) fun k _ ho => .inl ho
  obtain ⟨bA, d, FA, fc, BA, bc, rfl, rfl, rfl⟩ := hq2.forms
  rw [List.length_cons] at hq2
  have hfr := hq2.fr
  obtain ⟨b, rfl⟩ : ∃ b, FA = some ⟨b, 0, none⟩ := by
    rcases hfr.shape with ⟨_, h, _⟩ | h
    · omega
    · exact h
  rw [List.reverse_cons] at hfr
  have hc1 : w2.cell? ⟨g, 1, none⟩ = some (.slice (some ⟨b, 0, none⟩) (fs.length + 1) fc) := hq2.st.cell 1
  have hne2 : ¬ ((fs.length + 1 : Nat) : Int) = 0 := by omega
  have HPOP := Lib.hid (spop_any g 1 b fs.length fc fs.reverse p #[.slice bA bs.length d, .slice (some ⟨b, 0, none⟩) (fs.length + 1) fc, .slice BA bk.length bc] w2 hq2.st rfl hfr (by omega))
  have HQ2 := Lib.hid hq2
  clear hq2 hfr HQ
  go_wp2_with fail
  refine HPOP.out.mono ?_
  rintro e w3 ⟨rfl, hst1, ho1, hk1⟩
  have HE := Lib.hid (pop_end HQ2.out HRES.out (below_butO HBW.out O) hst1 ho1 hk1 (accC p.a (some ⟨p.h, 0, none⟩) p.a.h.length p.c))
  clear hst1 ho1 hk1 HPOP hc1
  go_wp2_with (refine store_has rfl _ _ rfl w.heap.size (ac := p.a) (A := some ⟨p.h, 0, none⟩) (k := p.a.h.length) (c := p.c) rfl rfl HE.out.1 rfl ?_)
  refine bodyPost_ret (ret_row rfl _ _ _ 29 (accC p.a (some ⟨p.h, 0, none⟩) p.a.h.length p.c) _ rfl (HE.out.1.row _) Try.underlying29 rfl (by exact Try.sizeAcc)) rfl ?_
  exact HE.out.2
set_option maxRecDepth 100000 in
set_option maxHeartbeats 4000000 in
theorem qpop_back {a : Ac} {ys : List Ac} (h : QuM O w g bs bv F B [] bk) (hJ : RowJ bs (bk.map (·.a)).reverse) (hx : (bk.map (·.a)).reverse = a :: ys) (h2 : bk.length ≤ 65536) :
    Calls Try.prog 24 #[.pointer (some ⟨g, 0, none⟩)] w fun e w' => PopO O g bs bv a ys w e w' := by
  have HB0 := Lib.hid (show ∀ o, Below w.heap.size w (w.alloc o) from fun o => (Below.refl _ _).alloc (Nat.le_refl _) o)
  have HQ := Lib.hid h
  have HJ := Lib.hid hJ
  have HX := Lib.hid hx
  have HL : Hid (∀ o, Calls Try.prog 31 #[.pointer (some ⟨g, 0, none⟩)] (w.alloc o) fun e w' => e = .returned (.int .i64 ((ordQ [] bk).length : Nat)) ∧ ∃ k, w' = (w.alloc o).drewN k) := fun o => (h.below (HB0.out o)).len (by simp) h2
  have hbl : bk.length = ys.length + 1 := by have := congrArg List.length hx; simpa using this
  have hne : ¬ ((ordQ [] bk).length : Int) = 0 := by rw [show (ordQ [] bk).length = bk.length by simp [ordQ]]; omega
  generalize (ordQ [] bk).length = N at HL hne
  clear h hJ hx
  go_enter Try.func24, Try.ntmps24
  go_wp2_with fail
  refine (HL.out _).mono ?_
  rintro e w1 ⟨rfl, k, hk⟩
  have HBW := Lib.hid (show Below w.heap.size w w1 from hk ▸ below_drewN (HB0.out _) k)
  have HRES := Lib.hid (show Has w1 w.heap.size 29 (accC zeroAc none 0 0) from hk ▸ (Has.made w _ _).drewN k)
  clear hk HL HB0
  have hq1 : QuM (fun k => O k ∧ k < w.heap.size) w1 g bs bv F B [] bk := (HQ.out.mono (fun k hk ho => ⟨ho, hk⟩)).same fun k hk => HBW.out.block k hk.2
  obtain ⟨bA, d, FA, fc, BA, bc, rfl, rfl, rfl⟩ := hq1.forms
  have hc1 : w1.cell? ⟨g, 1, none⟩ = some (.slice FA 0 fc) := hq1.st.cell 1
  have HTU := Lib.hid (turn_any hq1 HJ.out h2)
  clear hq1 HQ
  go_wp2_with fail
  refine HTU.out.mono ?_
  rintro e w2 ⟨rfl, F2, B2, fs, bk2, hq2, he2, hl2, hO2⟩
  obtain rfl : bk2 = [] := List.length_eq_zero_iff.1 hl2
  have hs1 := HBW.out.size
  have hs2 := hO2.size
  have hres2 := HRES.out.butO hO2 (fun h => by omega)
  rw [List.map_nil, List.reverse_nil, List.nil_append, HX.out] at he2
  cases fs with
  | nil => cases he2
  | cons p fs =>
    rw [List.map_cons] at he2
    injection he2 with e1 e2
    subst e1
    have hfl : fs.length ≤ 65536 := by have := congrArg List.length e2; rw [List.length_map] at this; omega
    have hq3 := hq2.mono (O' := GrowO O w w2) fun k hk ho => by
      rcases ho with ho | ho
      · exact .inl ho.1
      · exact .inr ⟨by omega, hk⟩
    have hB2 : ButO O w w2 := (below_butO HBW.out O).andThen hO2 fun i hi _ => hi.1
    obtain ⟨bA2, d2, FA2, fc2, BA2, bc2, e3, rfl, rfl⟩ := hq3.forms
    rw [List.length_cons] at hq3
    have hfr := hq3.fr
    obtain ⟨b, rfl⟩ : ∃ b, FA2 = some ⟨b, 0, none⟩ := by
      rcases hfr.shape with ⟨_, h, _⟩ | h
      · omega
      · exact h
    rw [List.reverse_cons] at hfr
    have HPOP := Lib.hid (spop_any g 1 b fs.length fc2 fs.reverse p #[.slice bA bs.length d, .slice (some ⟨b, 0, none⟩) (fs.length + 1) fc2, .slice BA2 ([] : List Pt).length bc2] w2 hq3.st rfl hfr hfl)
    have HQ3 := Lib.hid hq3
    have HB2 := Lib.hid hB2
    have HR2 := Lib.hid hres2
    have HYS := Lib.hid (show ordQ fs [] = ys by rw [← e2]; simp [ordQ])
    clear hq3 hfr hq2 hO2 hB2 hres2 hc1 HTU
    go_wp2_with fail
    refine HPOP.out.mono ?_
    rintro e w3 ⟨rfl, hst1, ho1, hk1⟩
    have HE := Lib.hid (pop_end HQ3.out HR2.out HB2.out hst1 ho1 hk1 (accC p.a (some ⟨p.h, 0, none⟩) p.a.h.length p.c))
    clear hst1 ho1 hk1 HPOP
    go_wp2_with (refine store_has rfl _ _ rfl w.heap.size (ac := p.a) (A := some ⟨p.h, 0, none⟩) (k := p.a.h.length) (c := p.c) rfl rfl HE.out.1 rfl ?_)
    refine bodyPost_ret (ret_row rfl _ _ _ 29 (accC p.a (some ⟨p.h, 0, none⟩) p.a.h.length p.c) _ rfl (HE.out.1.row _) Try.underlying29 rfl (by exact Try.sizeAcc)) rfl ?_
    have := HE.out.2
    rw [HYS.out] at this
    exact this
set_option maxRecDepth 100000 in
set_option maxHeartbeats 1000000 in
theorem qpop_none (h : QuM O w g bs bv F B [] []) :
    Calls Try.prog 24 #[.pointer (some ⟨g, 0, none⟩)] w fun e w' => e = .returned (.tuple #[accV zeroAc none 0 0, .int .i64 1701]) ∧ Below w.heap.size w w' := by
  have HB0 := Lib.hid (show ∀ o, Below w.heap.size w (w.alloc o) from fun o => (Below.refl _ _).alloc (Nat.le_refl _) o)
  have HL : Hid (∀ o, Calls Try.prog 31 #[.pointer (some ⟨g, 0, none⟩)] (w.alloc o) fun e w' => e = .returned (.int .i64 0) ∧ ∃ k, w' = (w.alloc o).drewN k) := fun o => (h.below (HB0.out o)).len (by simp) (by simp)
  clear h
  go_enter Try.func24, Try.ntmps24
  go_wp2_with fail
  refine (HL.out _).mono ?_
  rintro e w1 ⟨rfl, k, hk⟩
  have HBW := Lib.hid (show Below w.heap.size w w1 from hk ▸ below_drewN (HB0.out _) k)
  have HRES := Lib.hid (show Has w1 w.heap.size 29 (accC zeroAc none 0 0) from hk ▸ (Has.made w _ _).drewN k)
  clear hk HL HB0
  go_wp2_with (refine store_has rfl _ _ rfl w.heap.size (ac := zeroAc) (A := none) (k := 0) (c := 0) rfl rfl HRES.out rfl ?_)
  refine bodyPost_ret (ret_row rfl _ _ _ 29 (accC zeroAc none 0 0) _ rfl (HRES.out.row _) Try.underlying29 rfl (by exact Try.sizeAcc)) rfl ?_
  exact ⟨rfl, below_row HBW.out (Nat.le_refl _) _⟩
end

end Go.Proofs.Ytjmaeiilkbfnaaa

namespace Go.Proofs.Ytjmaeiilkbfnaaa
open Go.RowKit

/-- The queue at g, with these bounds, holds the row xs; it lies in blocks out of O. -/
def PQ (O : Nat → Prop) (g : Nat) (bs : List Int) (xs : List Ac) (w : World) : Prop := ∃ bv F B fs bk, QuM O w g bs bv F B fs bk ∧ ordQ fs bk = xs
theorem join_bad {bs : List Int} {xs : List Ac} {m n : Nat} (hm : m ≤ maxLen) (hn : n ≤ 17592186044416) (h : ¬ RowJ bs xs) : ∃ code : Int, ¬ code = 0 ∧ ∀ W B d A c, Ints W B m bs → Accs W A n xs → Calls Try.prog 11 #[.slice B m d, .slice A n c] W (OutX zeroAc code W) := by
  cases h2 : (boundsB bs && togB (bs.length + 1) (-1) xs)
  · exact ⟨100, by decide, fun W B d A c hI hA => (join_form B m d bs A n c xs W hI hm hA hn h2).mono fun e w' hb => ⟨none, 0, 0, hb.1, hb.2⟩⟩
  · simp only [Bool.and_eq_true] at h2
    have ht : ¬ totalA xs ≤ 8192 := fun h3 => h ⟨h2.1, h2.2, h3⟩
    exact ⟨101, by decide, fun W B d A c hI hA => (join_total B m d bs A n c xs W hI hA hn h2.1 h2.2 (by omega)).mono fun e w' hb => ⟨none, 0, 0, hb.1, hb.2⟩⟩
section
variable {O O' : Nat → Prop} {g : Nat} {bs : List Int} {xs ys : List Ac} {a : Ac} {w w' : World}
theorem PQ.same (h : PQ O g bs xs w) (hk : ∀ k, O k → w'.heap[k]? = w.heap[k]?) : PQ O g bs xs w' := by
  obtain ⟨bv, F, B, fs, bk, h1, h2⟩ := h
  exact ⟨bv, F, B, fs, bk, h1.same hk, h2⟩
theorem PQ.mono (h : PQ O g bs xs w) (ho : ∀ k, k < w.heap.size → O k → O' k) : PQ O' g bs xs w := by
  obtain ⟨bv, F, B, fs, bk, h1, h2⟩ := h
  exact ⟨bv, F, B, fs, bk, h1.mono ho, h2⟩
theorem PQ.below (h : PQ O g bs xs w) (hb : Below w.heap.size w w') : PQ O g bs xs w' := by
  obtain ⟨bv, F, B, fs, bk, h1, h2⟩ := h
  exact ⟨bv, F, B, fs, bk, h1.below hb, h2⟩
theorem ordQ_len {fs bk : List Pt} (h : ordQ fs bk = xs) : fs.length + bk.length = xs.length := by rw [← h]; simp [ordQ]
theorem PQ.len (h : PQ O g bs xs w) (hn : xs.length ≤ 65535) :
    Calls Try.prog 31 #[.pointer (some ⟨g, 0, none⟩)] w fun e w' => e = .returned (.int .i64 (xs.length : Nat)) ∧ ∃ k, w' = w.drewN k := by
  obtain ⟨bv, F, B, fs, bk, h1, rfl⟩ := h
  have := ordQ_len (xs := ordQ fs bk) rfl
  exact h1.len (by omega) (by omega)
theorem PQ.total (h : PQ O g bs xs w) (hJ : RowJ bs xs) (hn : xs.length ≤ 65535) :
    Calls Try.prog 29 #[.pointer (some ⟨g, 0, none⟩)] w (OutA (joinAc bs xs) w) := by
  obtain ⟨bv, F, B, fs, bk, h1, rfl⟩ := h
  have := ordQ_len (xs := ordQ fs bk) rfl
  exact h1.total hJ (by omega) (by omega)
theorem PQ.popNone (h : PQ O g bs [] w) :
    Calls Try.prog 24 #[.pointer (some ⟨g, 0, none⟩)] w fun e w' => e = .returned (.tuple #[accV zeroAc none 0 0, .int .i64 1701]) ∧ Below w.heap.size w w' := by
  obtain ⟨bv, F, B, fs, bk, h1, h2⟩ := h
  have h3 := ordQ_len h2
  rw [List.length_nil] at h3
  have h4 : fs.length = 0 ∧ bk.length = 0 := by omega
  obtain rfl : fs = [] := List.length_eq_zero_iff.1 h4.1
  obtain rfl : bk = [] := List.length_eq_zero_iff.1 h4.2
  exact qpop_none h1
/-- What a pop hands out and leaves. -/
def PoppedO (O : Nat → Prop) (g : Nat) (bs : List Int) (a : Ac) (ys : List Ac) (w : World) (e : Ending) (w' : World) : Prop :=
  ∃ h c, e = .returned (.tuple #[accV a (some ⟨h, 0, none⟩) a.h.length c, .int .i64 0]) ∧ OwnI w' 0 (.slice (some ⟨h, 0, none⟩) a.h.length c) a.h ∧ GrowO O w w' h ∧ ButO O w w' ∧ PQ (fun k => GrowO O w w' k ∧ k ≠ h) g bs ys w'
theorem PQ.pop (h : PQ O g bs (a :: ys) w) (hJ : RowJ bs (a :: ys)) (hn : (a :: ys).length ≤ 65535) :
    Calls Try.prog 24 #[.pointer (some ⟨g, 0, none⟩)] w (PoppedO O g bs a ys w) := by
  obtain ⟨bv, F, B, fs, bk, h1, h2⟩ := h
  have h3 := ordQ_len h2
  have key : ∀ e w', PopO O g bs bv a ys w e w' → PoppedO O g bs a ys w e w' := by
    rintro e w' ⟨h, c, k1, k2, k3, k4, F2, B2, fs2, bk2, k5, k6⟩
    exact ⟨h, c, k1, k2, k3, k4, bv, F2, B2, fs2, bk2, k5, k6⟩
  cases fs with
  | nil =>
    have h4 : (bk.map (·.a)).reverse = a :: ys := by simpa [ordQ] using h2
    exact (qpop_back h1 (h4 ▸ hJ) h4 (by simp at h3 hn; omega)).mono key
  | cons p fs =>
    have h4 : p.a = a ∧ ordQ fs bk = ys := by simpa [ordQ] using h2
    obtain ⟨rfl, rfl⟩ := h4
    exact (qpop_front h1 (by simp at h3 hn; omega) (by simp at h3 hn; omega)).mono key
theorem PQ.push_no {A : Option Addr} {k c : Nat} (h : PQ O g bs xs w) (hJ : RowJ bs xs) (hn : xs.length ≤ 65535) (ha : Ints w A k a.h) (hk : k ≤ c) (hc : c ≤ maxLen) (hno : ¬ RowJ bs (xs ++ [a])) :
    Calls Try.prog 27 #[.pointer (some ⟨g, 0, none⟩), .agg (accC a A k c)] w fun e w' => e = .returned (.int .i64 1700) ∧ Below w.heap.size w w' := by
  have ht := fun w' hb => (h.below (w' := w') hb).total hJ hn
  obtain ⟨bv, F, B, fs, bk, h1, rfl⟩ := h
  obtain ⟨bA, d, FA, fc, BA, bc, rfl, rfl, rfl⟩ := h1.forms
  have h8 := (boundsB_true hJ.bd).1
  obtain ⟨code, hcode, hj⟩ := join_bad (m := bs.length) (n := 2) (by unfold maxLen; omega) (by omega) (fun h2 => hno ((RowJ.snoc_iff hJ).1 h2))
  exact qpush_no h1.st ha hk hc (joinAc_hl hJ).2 ht (fun w' e hb hx => hj w' _ _ _ _ (bd_ints h1.bd hb) hx) hcode
/-- What a push leaves. -/
def PushPQ (O : Nat → Prop) (g : Nat) (bs : List Int) (xs : List Ac) (w w' : World) : Prop := ButO O w w' ∧ PQ (GrowO O w w') g bs xs w'
theorem PQ.push {A : Option Addr} {k c : Nat} (h : PQ O g bs xs w) (hn : xs.length ≤ 65535) (ha : Ints w A k a.h) (hk : k ≤ c) (hc : c ≤ maxLen) (hJ2 : RowJ bs (xs ++ [a])) :
    Calls Try.prog 27 #[.pointer (some ⟨g, 0, none⟩), .agg (accC a A k c)] w fun e w' => e = .returned (.int .i64 0) ∧ PushPQ O g bs (xs ++ [a]) w w' := by
  have hJ := RowJ.left hJ2
  have ht := fun w' hb => (h.below (w' := w') hb).total hJ hn
  obtain ⟨bv, F, B, fs, bk, h1, rfl⟩ := h
  have hlen := ordQ_len (xs := ordQ fs bk) rfl
  obtain ⟨bA, d, FA, fc, BA, bc, e1, e2, e3⟩ := h1.forms
  have hal : a.h.length = bs.length + 1 := hJ2.acLen (by simp)
  have h8 := (boundsB_true hJ.bd).1
  have hT := joinAc_hl hJ
  have hJr : RowJ bs ((bk.map (·.a)).reverse ++ [a]) := by
    have : RowJ bs (fs.map (·.a) ++ ((bk.map (·.a)).reverse ++ [a])) := by rw [← List.append_assoc]; exact hJ2
    exact RowJ.right this
  have hJb := RowJ.left hJr
  have hW := joinAc_hl hJb
  have hpair := (RowJ.snoc_iff hJ).2 hJ2
  have hpair2 := (RowJ.snoc_iff hJb).2 hJr
  have hka : k = a.h.length := ha.1.symm
  have hst := h1.st
  have hba := h1.ba
  have hbd := h1.bd
  have hq := fun w' (e : Nat) hb hx => h1.joinQ hpair2 (w' := w') hb (A := some ⟨e, 0, none⟩) (n := 2) (c := 2) hx (by omega)
  rw [RowJ.snoc hJr] at hq
  have h2 := fun w' hb => h1.tog2 hJ.bd (by omega) (w' := w') hb
  rw [topV_dn h1.dn, e3] at h2
  rw [e1, e2, e3] at hst
  rw [e3] at hba
  rw [e1] at hbd
  refine (qpush_ok (U := joinAc bs [joinAc bs (ordQ fs bk), a]) hst ha hk hc (by omega) (by omega) hT.2 hW.2 ht (fun w' e hb hx => ?_) h2 hq hba (by simp; omega)).mono ?_
  · refine (join_ok bA bs.length d bs (some ⟨e, 0, none⟩) 2 2 _ w' (bd_ints hbd hb) hx (by omega) hpair.bd hpair.tog hpair.tot).mono ?_
    rintro e2 w2 ⟨H, _, rfl, _, hb2⟩
    exact ⟨_, _, _, rfl, hb2⟩
  · rintro e w2 ⟨rfl, hk2, c', H, w1, k1, k2, k3, k4, k5⟩
    refine ⟨rfl, ?_⟩
    have hlo : w.heap.size ≤ hk2 := by
      have := k2.new _ rfl
      exact this
    rw [← e1, ← e2, ← e3] at k5
    have hNP : NewP w bs bv fs bk ⟨a, hk2, c', joinAc bs ((bk.map (·.a)).reverse ++ [a]), H⟩ w1 := ⟨k1, k2.mono (Nat.zero_le _), k3, fun p hp => by
      obtain ⟨cur, hh⟩ := h1.oneHas hp
      have x1 := hh.lt
      have x2 := (h1.all p hp).lt
      exact ⟨by show hk2 ≠ _; omega, by show hk2 ≠ _; omega⟩, fun e => by
      obtain ⟨cur, hh⟩ := h1.bd.has e
      have x1 : hk2 < _ := hh.lt
      omega, k4, by show w.heap.size ≤ H; omega⟩
    obtain ⟨⟨B', q1⟩, q2⟩ := h1.putB hNP rfl k5
    refine ⟨q2, bv, F, B', fs, _, q1.mono fun j hj ho => ?_, by simp [ordQ]⟩
    rcases ho with ho | rfl | ho
    · exact .inl ho
    · exact .inr ⟨hlo, hj⟩
    · exact .inr ho
theorem pq_new {e : Ending} (h : NewQ QT (fun bv => #[bv, .slice none 0 0, .slice none 0 0]) bs w e w') : ∃ g, e = .returned (.tuple #[.pointer (some ⟨g, 0, none⟩), .int .i64 0]) ∧ PQ (fun k => w.heap.size ≤ k ∧ k < w'.heap.size) g bs [] w' ∧ Below w.heap.size w w' := by
  obtain ⟨g, A, c, rfl, h1, h2, h3, h4⟩ := h
  refine ⟨g, rfl, ⟨.slice A bs.length c, .slice none 0 0, .slice none 0 0, [], [], ⟨h2, h3.mono (Nat.zero_le _), OwnP.nil _, OwnP.nil _, (fun p hp => by cases hp), (fun p hp => by cases hp), ⟨h1, h2.lt⟩, fun k e => ?_, (fun k e => by simp [Value.ownBlock] at e), (fun k e => by simp [Value.ownBlock] at e), (fun p hp => by cases hp), (fun k e => by simp [Value.ownBlock] at e), by simp, (fun p hp => by cases hp), (fun p hp => by cases hp), trivial, trivial⟩, rfl⟩, h4⟩
  obtain ⟨cur, hh⟩ := h3.has e
  refine ⟨?_, hh.lt⟩
  cases A with
  | none => simp [Value.ownBlock] at e
  | some ad =>
    have := h3.new ad rfl
    simp [Value.ownBlock] at e
    omega
end

end Go.Proofs.Ytjmaeiilkbfnaaa
