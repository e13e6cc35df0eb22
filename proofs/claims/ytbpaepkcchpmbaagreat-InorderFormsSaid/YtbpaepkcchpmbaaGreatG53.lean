import Derived.Test.YtbpaepkcchpmbaaGreatIoSaR
import Derived.IntWalk
import Derived.Test.YtbpaepkcchpmbaaGreatG51
import Derived.Test.YtbpaepkcchpmbaaGreatG19
import Derived.Test.YtbpaepkcchpmbaaGreatG2
import Derived.Test.YtbpaepkcchpmbaaGreatG6
import Derived.Test.YtbpaepkcchpmbaaGreatG25
import Derived.OwnWalk
import Derived.Deep.Cut
import Derived.Great.Walk
import Derived.Maps.AppendAt
namespace Go.Proofs.YtbpaepkcchpmbaaGreat
open Go.RowKit
structure RowZ (w : World) (A : Option Addr) (n : Nat) (zs : List Rz) : Prop where
  len : zs.length = n
  row : 0 < n → ∃ b cur, A = some ⟨b, 0, none⟩ ∧ Has w b 71 cur ∧ ∀ i (hi : i < zs.length), RzC cur (0 + i * 7) (zs[i])
  hist : ∀ z ∈ zs, Ints w z.A z.hs.length z.hs
section
variable {A B : Option Addr} {n c d : Nat} {zs ts : List Rz} {w w' : World} {V : Value} {N : Nat → Prop}
theorem OutZ.rowz (h : OutZ N w V zs) : ∃ A c, V = .slice A zs.length c ∧ RowZ w A zs.length zs := by
  obtain ⟨A, c, e, _, _, _, hA⟩ := h.row.form
  subst e
  refine ⟨A, c, rfl, rfl, fun hn => ?_, fun z hz => ?_⟩
  · rcases h.row.shape with ⟨_, e, _⟩ | ⟨b, rfl⟩
    · omega
    · obtain ⟨_, h3, _, cur, h5, h6, h7⟩ := h.row.blk
      refine ⟨b, cur, rfl, h5, fun i hi => ⟨fun j hj => ?_⟩⟩
      have hf := rowZ_at zs hi hj
      rw [← h7, List.getElem?_take, if_pos (by omega)] at hf
      rw [Nat.zero_add]
      simpa using hf
  · exact (h.hist z hz).ints
theorem rowz_one {b : Nat} {z : Rz} (h : Has w b 71 (rzC z)) (hh : Ints w z.A z.hs.length z.hs) : RowZ w (some ⟨b, 0, none⟩) 1 [z] :=
  ⟨rfl, fun _ => ⟨b, _, rfl, h, fun i hi => ⟨fun j hj => by
    obtain rfl : i = 0 := by simp at hi; omega
    rw [show 0 + 0 * 7 + j = j by omega]
    unfold rzL
    simp⟩⟩, fun y hy => by rw [List.mem_singleton] at hy; subst hy; exact hh⟩
theorem val_at {z t : Rz} (h : t.val = z.val) : t = z.at_ t.A t.c := by
  unfold Rz.val at h
  injection h with h1 h2 h3 h4 h5 h6 h7
  cases t; cases z
  simp only at h1 h2 h3 h4 h5 h6 h7
  subst h1 h2 h3 h4 h5 h6 h7
  rfl
set_option maxRecDepth 100000 in
set_option maxHeartbeats 1000000 in
theorem sameres_yes (h1 : RowZ w A n zs) (h2 : RowZ w B n ts) (hv : ts.map Rz.val = zs.map Rz.val) (hn : n ≤ 1073741824) (hh : ∀ z ∈ zs, z.hs.length ≤ maxLen) :
    Calls Tryz.prog 29 #[.slice A n c, .slice B n d] w fun e w' => e = .returned (.bool true) ∧ Below w.heap.size w w' := by
  have X1 := Lib.hid h1
  have X2 := Lib.hid h2
  have HV := Lib.hid hv
  have HH := Lib.hid hh
  clear h1 h2 hv hh
  go_enter Tryz.func29, Tryz.ntmps29
  go_wp2_with fail
  go_loopw [5] (fun i wr => ∃ j : Nat, j ≤ n ∧ i = .int .i64 j ∧ Hid (Below w.heap.size w wr)) (fun i _ => n - (intOf i).toNat)
  case atStart => exact ⟨0, Nat.zero_le _, rfl, Lib.hid (Below.refl _ _)⟩
  case round =>
    obtain ⟨j, hj, rfl, HW⟩ := hrel
    by_cases hjn : j < n
    · obtain ⟨b1, cu1, rfl, w1, q1⟩ := X1.out.row (by omega)
      obtain ⟨b2, cu2, rfl, w2, q2⟩ := X2.out.row (by omega)
      have l1 := X1.out.len
      have l2 := X2.out.len
      have hz := q1 j (by omega)
      have ht := q2 j (by omega)
      have hv : (ts[j]'(by omega)).val = (zs[j]'(by omega)).val := by
        have := congrArg (·[j]?) HV.out
        simpa [List.getElem?_eq_getElem (show j < ts.length by omega), List.getElem?_eq_getElem (show j < zs.length by omega)] using this
      have hi1 := X1.out.hist _ (List.getElem_mem (show j < zs.length by omega))
      have hi2 := X2.out.hist _ (List.getElem_mem (show j < ts.length by omega))
      have hm := HH.out _ (List.getElem_mem (show j < zs.length by omega))
      rw [val_at hv] at ht hi2
      generalize (zs[j]'(by omega)) = z at hz ht hi1 hi2 hm
      generalize (ts[j]'(by omega)).A = B2 at ht hi2
      generalize (ts[j]'(by omega)).c = d2 at ht hi2
      have HS := Lib.hid (show _ ∧ _ ∧ _ ∧ _ ∧ _ ∧ _ ∧ _ from ⟨w1, w2, hz, ht, hi1, hi2, hm⟩)
      clear w1 w2 hz ht hi1 hi2 hm q1 q2 hv l1 l2
      go_upto_region 6 with fail
      refine srz_any (z := z) (B := B2) (d := d2) (b1 := b1) (b2 := b2) (jj := j) (m := n) (k1 := c) (k2 := d) (cu1 := cu1) (cu2 := cu2) ⟨rfl, rfl, rfl, rfl, HS.out.1.below HW.out HS.out.1.lt, HS.out.2.1.below HW.out HS.out.2.1.lt, HS.out.2.2.1, HS.out.2.2.2.1, HS.out.2.2.2.2.1.below HW.out, HS.out.2.2.2.2.2.1.below HW.out, HS.out.2.2.2.2.2.2, hjn⟩ (by kernel_rfl) ?_
      intro w9 hB9
      have HB9 := Lib.hid (HW.out.trans (hB9.mono HW.out.size))
      clear hB9 X1 X2 HW HV HH HS
      simp only [putAll, Act.put, List.setIfInBounds_toArray, List.set_cons_succ, List.set_cons_zero]
      have hw0 : wrap64 ((j : Int) + 1) = ((j + 1 : Nat) : Int) := by rw [IntWalk.wrap64_in _ (by omega)]; omega
      go_wp2_with fail
      go_roundw
      case rel => exact ⟨j + 1, by omega, rfl, HB9⟩
      case measure => simp [intOf]; omega
    · obtain rfl : j = n := by omega
      clear X1 X2 HV HH
      go_wp2_with fail
      go_ret
      exact ⟨rfl, HW.out⟩
end
end Go.Proofs.YtbpaepkcchpmbaaGreat
namespace Go.Proofs.YtbpaepkcchpmbaaGreat
open Go.RowKit
set_option maxHeartbeats 400000 in
theorem item18_any (s t q v : Int) (w : World) :
    Calls Tryz.prog 33 #[.int .i64 s, .int .i64 t, .int .i64 q, .int .i64 v] w fun e w' => e = .returned (.agg #[.int .i64 s, .int .i64 t, .int .i64 q, .int .i64 v]) ∧ Below w.heap.size w w' := by
  go_enter Tryz.func33, Tryz.ntmps33
  go_wp2
  exact bodyPost_ret (v := .agg #[.int .i64 s, .int .i64 t, .int .i64 q, .int .i64 v]) (by simp [results, Tryz.results33, go_sem]) rfl ⟨rfl, (Below.refl _ _).alloc (Nat.le_refl _) _⟩
def quA (ag sz : Int) : Qu := ⟨0, ag, sz, 0, [], 0⟩
theorem qusR_one {w : World} {g : Nat} {q : Qu} (hb : q.bs = []) (h : Has w g 59 (quC q none 0 0)) : QusR w (some ⟨g, 0, none⟩) 1 [q] := by
  refine ⟨rfl, fun _ => ⟨g, 0, rfl, fun i hi => ?_⟩⟩
  obtain rfl : i = 0 := by omega
  refine ⟨none, 0, 0, ⟨fun j v hv => ?_, by show Ints w none 0 q.bs; rw [hb]; exact Ints.nil, Nat.zero_le _⟩, fun _ => rfl, by omega⟩
  rw [show nthQ [q] 0 = q from rfl] at hv
  rw [show 0 + 0 * 6 + j = j by omega, h.cell]
  exact (by simpa using hv : (quC q none 0 0)[j]? = some v)
def CountO (la ro : Int) (w : World) (e : Ending) (w' : World) : Prop :=
  ∃ g, e = .returned (.agg #[.slice (some ⟨g, 0, none⟩) 1 1, .int .i64 la, .int .i64 ro, .int .i64 2, .int .i64 1]) ∧ w.heap.size ≤ g ∧ Has w' g 59 (quC (quA 0 10) none 0 0) ∧ Below w.heap.size w w'
set_option maxRecDepth 100000 in
set_option maxHeartbeats 1000000 in
theorem count18_any (la ro : Int) (w : World) : Calls Tryz.prog 36 #[.int .i64 la, .int .i64 ro] w (CountO la ro w) := by
  have HB : Hid (∀ o1 o2, Below w.heap.size w ((w.alloc o1).alloc o2)) := fun o1 o2 => ((Below.refl _ _).alloc (Nat.le_refl _) _).alloc (by simp) _
  have HC : Hid (∀ cs o2, Has ((w.alloc (.cells cs 24)).alloc o2) w.heap.size 24 cs) := fun cs o2 => (Has.made w _ cs).alloc o2
  have HQ : Hid (∀ o1 cs, Has ((w.alloc o1).alloc (.cells cs 59)) (w.heap.size + 1) 59 cs) := fun o1 cs => by
    have h := Has.made (w.alloc o1) 59 cs
    have e : (w.alloc o1).heap.size = w.heap.size + 1 := by simp
    rw [e] at h
    exact h
  go_enter Tryz.func36, Tryz.ntmps36
  go_wp2_with fail
  refine bodyPost_ret (ret_rowA rfl _ _ w.heap.size 24 _ _ rfl (HC.out _ _) Tryz.underlying24 rfl (by exact Tryz.csize)) rfl ?_
  exact ⟨w.heap.size + 1, rfl, by omega, HQ.out _ _, HB.out _ _⟩
structure LE (w0 : World) (O : Nat → Prop) (ge : Nat) (qs : List Qu) (la : Int) (m : Mc) (N : Nat) (w : World) : Prop where
  e : EM O ge qs la m N w
  lo : ∀ k, O k → w0.heap.size ≤ k
  hi : ∀ k, O k → k < w.heap.size
  keep : Below w0.heap.size w0 w
theorem OutZ.mono' {N N' : Nat → Prop} {w w' : World} {V : Value} {zs : List Rz} (h : OutZ N w' V zs) (h0 : OutZ N w V zs) (hN : ∀ k, k < w.heap.size → N' k → N k) : OutZ N' w' V zs :=
  ⟨h.row, fun k hk e => h.off k hk (hN k (h0.lt.1 k hk) e), h.hist, fun z hz k hk e => h.offH z hz k hk (hN k (h0.lt.2 z hz k hk) e)⟩
section
variable {w0 w w' : World} {O O' : Nat → Prop} {ge n c N : Nat} {X : Option Addr} {qs : List Qu} {la : Int} {m : Mc} {xs : List It}
theorem LE.below (l : LE w0 O ge qs la m N w) (hb : Below w.heap.size w w') : LE w0 O ge qs la m N w' := ⟨l.e.below hb, l.lo, fun k hk => Nat.lt_of_lt_of_le (l.hi k hk) hb.size, l.keep.trans (hb.mono l.keep.size)⟩
theorem LE.apart {P : Nat → Prop} (l : LE w0 O ge qs la m N w) (hb : ButO P w w') (hP : ∀ k, O k → ¬ P k) (hlo : ∀ k, P k → w0.heap.size ≤ k) : LE w0 O ge qs la m N w' :=
  ⟨l.e.butO hb hP, l.lo, fun _ hk => Nat.lt_of_lt_of_le (l.hi _ hk) hb.size, hb.below l.keep l.keep.size hlo⟩
theorem LE.new (hb0 : Below w0.heap.size w0 w) (h : EM O ge qs la m N w') (hlo : ∀ k, O k → w.heap.size ≤ k) (hb : Below w.heap.size w w') : LE w0 (fun k => O k ∧ k < w'.heap.size) ge qs la m N w' :=
  ⟨h.mono fun _ hk ho => ⟨ho, hk⟩, fun k hk => Nat.le_trans hb0.size (hlo k hk.1), fun _ hk => hk.2, hb0.trans (hb.mono hb0.size)⟩
theorem LE.feed (l : LE w0 O ge qs la m N w) (hx : Items w X n xs) (hfar : ∀ ad, 0 < n → X = some ad → ¬ O ad.block) :
    Calls Tryz.prog 23 #[.pointer (some ⟨ge, 0, none⟩), .slice X n c] w fun e w' => e = .returned (.int .i64 (feedC 1800 1801 la m xs)) ∧ LE w0 (GrowO O w w') ge qs la (feedM 1800 1801 la m xs) N w' ∧ ButO O w w' :=
  (eng_feed l.e hx hfar).mono fun _ w' ⟨e, h1, h2⟩ => ⟨e, ⟨h1, fun _ hk => by rcases hk with hk | hk; exact l.lo _ hk; have := l.keep.size; omega, fun _ hk => by rcases hk with hk | hk; exact Nat.lt_of_lt_of_le (l.hi _ hk) h2.size; exact hk.2, h2.below l.keep l.keep.size l.lo⟩, h2⟩
theorem LE.mark_no (l : LE w0 O ge qs la m N w) (x : Int) (hx : markOk m x = false) :
    Calls Tryz.prog 27 #[.pointer (some ⟨ge, 0, none⟩), .int .i64 x] w fun e w' => e = .returned (.tuple #[.slice none 0 0, .int .i64 1800]) ∧ w' = w :=
  eng_mark_no l.e x hx
theorem LE.mark (l : LE w0 O ge qs la m N w) (hN : N + 8192 ≤ 1048576) (x : Int) (hx : markOk m x = true) :
    Calls Tryz.prog 27 #[.pointer (some ⟨ge, 0, none⟩), .int .i64 x] w fun e w' => ∃ V zs O', e = .returned (.tuple #[V, .int .i64 0]) ∧ OutZ O' w' V zs ∧ zs.map Rz.val = (markT (qs.map qw) la m x).map (valQ qs) ∧ LE w0 O' ge qs la (markM (qs.map qw) la m x) (N + 8192) w' ∧ ButO O w w' ∧ (∀ k, O' k → O k ∨ w.heap.size ≤ k) ∧ (∀ k, V.ownBlock = some k → w.heap.size ≤ k) := by
  refine (eng_mark_ok l.e hN x hx).mono ?_
  rintro e w' ⟨V, he, O', zs, h1, h2, h3, h4, h5, h6⟩
  exact ⟨V, zs, fun k => O' k ∧ k < w'.heap.size, he, h1.mono fun _ _ hk => hk.1, h2, ⟨h3.mono fun _ hk ho => ⟨ho, hk⟩, fun k hk => (h5 k hk.1).elim (l.lo k) fun e => Nat.le_trans l.keep.size e, fun k hk => hk.2, h4.below l.keep l.keep.size l.lo⟩, h4, fun k hk => h5 k hk.1, h6⟩
theorem LE.held (l : LE w0 O ge qs la m N w) :
    Calls Tryz.prog 31 #[.pointer (some ⟨ge, 0, none⟩)] w fun e w' => ∃ A c O', e = .returned (.slice A m.ys.length c) ∧ OwnIt w' w.heap.size (.slice A m.ys.length c) m.ys ∧ LE w0 O' ge qs la m N w' ∧ ButO O w w' ∧ (∀ k, O' k → O k ∨ w.heap.size ≤ k) := by
  refine (eng_held l.e).mono ?_
  rintro e w' ⟨V, O', he, h1, _, h3, h4, h5⟩
  obtain ⟨A, c, rfl, _⟩ := h1.form
  exact ⟨A, c, fun k => O' k ∧ k < w'.heap.size, he, h1, ⟨h3.mono fun _ hk ho => ⟨ho, hk⟩, fun k hk => (h5 k hk.1).elim (l.lo k) fun e => Nat.le_trans l.keep.size e, fun k hk => hk.2, h4.below l.keep l.keep.size l.lo⟩, h4, fun k hk => h5 k hk.1⟩
theorem OutZ.grow {V : Value} {zs : List Rz} (h : OutZ O w V zs) (hb : ButO O w w') : OutZ (GrowO O w w') w' V zs :=
  (h.same fun k hk hn => hb.other k hk hn).mono' h fun k hk hn => hn.elim id fun e => absurd e.1 (by omega)
theorem OutZ.turn {V : Value} {zs : List Rz} (h : OutZ O w V zs) (hb : ButO O w w') (hO : ∀ k, O' k → O k ∨ w.heap.size ≤ k) : OutZ O' w' V zs :=
  (h.same fun k hk hn => hb.other k hk hn).mono' h fun k hk hn => (hO k hn).elim id fun e => absurd e (by omega)
theorem OutZ.rowz' {A : Option Addr} {zs : List Rz} {P : Nat → Prop} (h : OutZ P w (.slice A n c) zs) : RowZ w A n zs := by
  obtain ⟨A', c', e, r⟩ := h.rowz
  injection e with e1 e2 e3
  subst e1; subst e2
  exact r
theorem LE.far (l : LE w0 O ge qs la m N w) : ¬ O w.heap.size := fun e => by have := l.hi _ e; omega
end
end Go.Proofs.YtbpaepkcchpmbaaGreat
namespace Go.Proofs.YtbpaepkcchpmbaaGreat
def aw1 : List It := [⟨0, 15, 1, 1⟩, ⟨0, 3, 2, 1⟩]
def aw2 : List It := [⟨0, 4, 2, 1⟩]
def aw3 : List It := [⟨0, 9, 3, 1⟩]
def aw4 : List It := [⟨0, 15, 1, 1⟩]
def awM0 : Mc := ⟨[], -4398046511104, 0⟩
def awM1 : Mc := ⟨[⟨0, 3, 2, 1⟩, ⟨0, 15, 1, 1⟩], -4398046511104, 2⟩
def awM2 : Mc := ⟨aw4, 12, 2⟩
theorem feedM_no {f l late : Int} {m : Mc} {xs : List It} (h : feedC f l late m xs ≠ 0) : feedM f l late m xs = m := by
  unfold feedM
  rw [if_neg h]
theorem aw_f1 : feedC 1800 1801 2 awM0 aw1 = 0 := by decide
theorem aw_f1m : feedM 1800 1801 2 awM0 aw1 = awM1 := by
  unfold feedM
  rw [if_pos aw_f1]
  rfl
theorem aw_f2 : feedC 1800 1801 2 awM1 aw2 = 1800 := by decide
theorem aw_ok : markOk awM1 12 = true := by decide
theorem aw_m : markM ([quA 0 10].map qw) 2 awM1 12 = awM2 := by
  unfold markM
  rw [if_pos aw_ok]
  rfl
theorem aw_t : (markT ([quA 0 10].map qw) 2 awM1 12).map (valQ [quA 0 10]) = [⟨0, 0, 0, 10, 1, false, []⟩] := by
  unfold markT
  rw [if_pos aw_ok]
  rfl
theorem aw_f3 : feedC 1800 1801 2 awM2 aw3 = 1801 := by decide
theorem aw_no : markOk awM2 11 = false := by decide
end Go.Proofs.YtbpaepkcchpmbaaGreat
namespace Go.Proofs.YtbpaepkcchpmbaaGreat
open Go.RowKit
set_option maxRecDepth 100000 in
theorem rf_neqI {D : List (Option Tmp)} {Φ : Fact} {o : Oper} {a : Act} {w : World} (hw : Region.wanted o (yieldD D a.tmps) = true) {t : Tmp} (hd : o.dst = some t) (x y : Operand) (ho : o.op = .binOp .neq 61 x y 61) (z : It) (hx : a.eval x = .agg #[.int .i64 z.s, .int .i64 z.t, .int .i64 z.q, .int .i64 z.v]) (hy : a.eval y = .agg #[.int .i64 z.s, .int .i64 z.t, .int .i64 z.q, .int .i64 z.v]) (h : Φ (.bool false) w) : StepD Tryz.prog D Φ o a w :=
  step_val hw hd _ _ (by unfold execOp; rw [ho]; simp only [hx, hy]; simp [go_sem]) (Below.refl _ _) h
def sitD : List (Option Tmp) := [some 17, some 18, some 19, some 20, some 21, some 22, some 23, some 24, some 25]
def sitF (x : It) (b1 o1 b2 o2 n e1 e2 q : Nat) : List Fact := [isV (.slice (some ⟨b1, o1, none⟩) n e1), isV (.int .i64 q), isV (.pointer (some ⟨b1, o1 + q * 4, none⟩)), isV (.agg #[.int .i64 x.s, .int .i64 x.t, .int .i64 x.q, .int .i64 x.v]), isV (.slice (some ⟨b2, o2, none⟩) n e2), isV (.int .i64 q), isV (.pointer (some ⟨b2, o2 + q * 4, none⟩)), isV (.agg #[.int .i64 x.s, .int .i64 x.t, .int .i64 x.q, .int .i64 x.v]), isV (.bool false)]
set_option maxRecDepth 100000 in
theorem sitF_mono (x : It) (b1 o1 b2 o2 n e1 e2 q : Nat) : ∀ φ ∈ sitF x b1 o1 b2 o2 n e1 e2 q, Mono φ := by
  unfold sitF
  repeat (first | exact monos_nil | (refine monos_cons (mono_isV _) ?_))
structure sitS (x : It) (b1 o1 b2 o2 n e1 e2 q : Nat) (a0 : Act) (w0 : World) : Prop where
  size : a0.tmps.size = 26
  v0 : a0.tmps.getD 0 undef = .slice (some ⟨b1, o1, none⟩) n e1
  v1 : a0.tmps.getD 1 undef = .slice (some ⟨b2, o2, none⟩) n e2
  v5 : a0.tmps.getD 5 undef = .int .i64 q
  x1 : w0.rangeAt b1 (o1 + q * 4) (itemL x)
  x2 : w0.rangeAt b2 (o2 + q * 4) (itemL x)
  hq : q < n
section
variable {x : It} {b1 o1 b2 o2 n e1 e2 q : Nat} {a0 : Act} {w0 : World} (S : sitS x b1 o1 b2 o2 n e1 e2 q a0 w0)
include S
set_option maxRecDepth 100000 in
set_option maxHeartbeats 8000000 in
theorem sit_ok : AllOps (fun j o => ∀ (a : Act) (w : World), Below w0.heap.size w0 w → FrD sitD a0 a → needs sitD (sitF x b1 o1 b2 o2 n e1 e2 q) a w o.after.toList → StepD Tryz.prog sitD (factAt (sitF x b1 o1 b2 o2 n e1 e2 q) j) o a w) 0 (opsOf 6 Tryz.f32) := by
  simp only [opsOf, Tryz.f32, opsAt, Option.bind, Option.or, Option.getD, reduceCtorEq, if_true, if_false, Nat.reduceEqDiff]
  refine ⟨?_, ?_⟩
  · intro _a _w _hB hF _hd
    exact step_move (guard_none rfl) rfl _ rfl ((hF.other 0 rfl).trans S.v0)
  refine ⟨?_, ?_⟩
  · intro _a _w _hB hF _hd
    exact step_move (guard_none rfl) rfl _ rfl ((hF.other 5 rfl).trans S.v5)
  refine ⟨?_, ?_⟩
  · intro a _w _hB _hF hd
    have h17 : a.tmps.getD 17 undef = .slice (some ⟨b1, o1, none⟩) n e1 := hd.1 rfl
    have h18 : a.tmps.getD 18 undef = .int .i64 q := hd.2.1 rfl
    exact rf_index (guard_none rfl) rfl _ _ _ rfl Tryz.underlying38 4 (fun _ => by kernel_rfl) _ _ _ _ q _ h17 h18 rfl S.hq rfl
  refine ⟨?_, ?_⟩
  · intro a _w hB _hF hd
    have h19 : a.tmps.getD 19 undef = .pointer (some ⟨b1, o1 + q * 4, none⟩) := hd.1 rfl
    exact rf_loadS (guard_none rfl) rfl _ _ rfl _ _ h19 _ (rangeAt_keep S.x1 (by simp [itemL]) fun _ hp => hB.cell hp) Tryz.underlying61 rfl Tryz.sizeItem rfl
  refine ⟨?_, ?_⟩
  · intro _a _w _hB hF _hd
    exact step_move (guard_none rfl) rfl _ rfl ((hF.other 1 rfl).trans S.v1)
  refine ⟨?_, ?_⟩
  · intro _a _w _hB hF _hd
    exact step_move (guard_none rfl) rfl _ rfl ((hF.other 5 rfl).trans S.v5)
  refine ⟨?_, ?_⟩
  · intro a _w _hB _hF hd
    have h21 : a.tmps.getD 21 undef = .slice (some ⟨b2, o2, none⟩) n e2 := hd.1 rfl
    have h22 : a.tmps.getD 22 undef = .int .i64 q := hd.2.1 rfl
    exact rf_index (guard_none rfl) rfl _ _ _ rfl Tryz.underlying38 4 (fun _ => by kernel_rfl) _ _ _ _ q _ h21 h22 rfl S.hq rfl
  refine ⟨?_, ?_⟩
  · intro a _w hB _hF hd
    have h23 : a.tmps.getD 23 undef = .pointer (some ⟨b2, o2 + q * 4, none⟩) := hd.1 rfl
    exact rf_loadS (guard_none rfl) rfl _ _ rfl _ _ h23 _ (rangeAt_keep S.x2 (by simp [itemL]) fun _ hp => hB.cell hp) Tryz.underlying61 rfl Tryz.sizeItem rfl
  refine ⟨?_, ?_⟩
  · intro a _w _hB _hF hd
    have h20 : a.tmps.getD 20 undef = .agg #[.int .i64 x.s, .int .i64 x.t, .int .i64 x.q, .int .i64 x.v] := hd.1 rfl
    have h24 : a.tmps.getD 24 undef = .agg #[.int .i64 x.s, .int .i64 x.t, .int .i64 x.q, .int .i64 x.v] := hd.2.1 rfl
    exact rf_neqI (guard_none rfl) rfl _ _ rfl x h20 h24 rfl
  trivial
set_option maxRecDepth 100000 in
theorem sit_any {Q : Exit → Act → World → Prop} {l : List Oper} (hl : opsOf 6 Tryz.f32 = l) (hend : ∀ w : World, Below w0.heap.size w0 w → Q .normal (putAll a0 [(17, .slice (some ⟨b1, o1, none⟩) n e1), (18, .int .i64 q), (19, .pointer (some ⟨b1, o1 + q * 4, none⟩)), (20, .agg #[.int .i64 x.s, .int .i64 x.t, .int .i64 x.q, .int .i64 x.v]), (21, .slice (some ⟨b2, o2, none⟩) n e2), (22, .int .i64 q), (23, .pointer (some ⟨b2, o2 + q * 4, none⟩)), (24, .agg #[.int .i64 x.s, .int .i64 x.t, .int .i64 x.q, .int .i64 x.v]), (25, .bool false)]) w) :
    (Code.region 6 l.toArray true).wp Tryz.prog Q a0 w0 := by
  subst hl
  refine region_facts2 (sitF x b1 o1 b2 o2 n e1 e2 q) sitD 26 S.size rfl (by kernel_rfl) (by kernel_rfl) (sitF_mono _ _ _ _ _ _ _ _ _) (sit_ok S) fun a w hB hF h => ?_
  have hv : valsAre a [(17, .slice (some ⟨b1, o1, none⟩) n e1), (18, .int .i64 q), (19, .pointer (some ⟨b1, o1 + q * 4, none⟩)), (20, .agg #[.int .i64 x.s, .int .i64 x.t, .int .i64 x.q, .int .i64 x.v]), (21, .slice (some ⟨b2, o2, none⟩) n e2), (22, .int .i64 q), (23, .pointer (some ⟨b2, o2 + q * 4, none⟩)), (24, .agg #[.int .i64 x.s, .int .i64 x.t, .int .i64 x.q, .int .i64 x.v]), (25, .bool false)] := by
    refine ⟨?_, ?_, ?_, ?_, ?_, ?_, ?_, ?_, ?_, trivial⟩
    · exact h 0 (some 17) rfl
    · exact h 1 (some 18) rfl
    · exact h 2 (some 19) rfl
    · exact h 3 (some 20) rfl
    · exact h 4 (some 21) rfl
    · exact h 5 (some 22) rfl
    · exact h 6 (some 23) rfl
    · exact h 7 (some 24) rfl
    · exact h 8 (some 25) rfl
  rw [frame_is hF _ hv (by rfl) (by rfl)]
  exact hend w hB
end
end Go.Proofs.YtbpaepkcchpmbaaGreat
namespace Go.Proofs.YtbpaepkcchpmbaaGreat
open Go.RowKit
set_option maxRecDepth 100000 in
set_option maxHeartbeats 400000 in
theorem num0_any (n : Int) (w : World) :
    Calls Tryz.prog 18 #[.int .i64 n] w fun e w' => e = .returned (.int .i64 n) ∧ w = w' := by
  go_enter Tryz.func18, Tryz.ntmps18
  go_wp2
  go_ret
  exact ⟨rfl, rfl⟩
set_option maxRecDepth 100000 in
set_option maxHeartbeats 2000000 in
theorem sameitems_any (A B : Option Addr) (n c d : Nat) (xs : List It) (w : World) (h1 : Items w A n xs) (h2 : Items w B n xs) (hn : n ≤ 17592186044416) :
    Calls Tryz.prog 32 #[.slice A n c, .slice B n d] w fun e w' => e = .returned (.bool true) ∧ Below w.heap.size w w' := by
  have H1 := Lib.hid h1; clear h1
  have H2 := Lib.hid h2; clear h2
  go_enter Tryz.func32, Tryz.ntmps32
  go_wp2_with fail
  go_loopw [5] (fun i wr => ∃ j : Nat, j ≤ n ∧ i = .int .i64 j ∧ Hid (Below w.heap.size w wr)) (fun i _ => n - (intOf i).toNat)
  case atStart => exact ⟨0, Nat.zero_le _, rfl, Below.refl _ _⟩
  case round =>
    obtain ⟨j, hj, rfl, HW⟩ := hrel
    by_cases hlt : j < n
    · obtain ⟨b1, o1, rfl, i1⟩ := (H1.out.below HW.out).2 (by omega)
      obtain ⟨b2, o2, rfl, i2⟩ := (H2.out.below HW.out).2 (by omega)
      have X1 := Lib.hid (i1 j hlt)
      have X2 := Lib.hid (i2 j hlt)
      clear i1 i2
      go_upto_region 6 with fail
      refine sit_any (x := nthI xs j) (b1 := b1) (o1 := o1) (b2 := b2) (o2 := o2) (n := n) (e1 := c) (e2 := d) (q := j) ⟨rfl, rfl, rfl, rfl, X1.out, X2.out, hlt⟩ (by kernel_rfl) ?_
      intro w9 hB9
      have HB9 := Lib.hid (HW.out.trans (hB9.mono HW.out.size))
      clear hB9 X1 X2 HW
      simp only [putAll, Act.put, List.setIfInBounds_toArray, List.set_cons_succ, List.set_cons_zero]
      go_wp2_with fail
      go_roundw
      case rel => exact ⟨j + 1, by omega, by go_num, HB9⟩
      case measure => simp [intOf]; omega
    · have hjn : j = n := by omega
      subst hjn
      go_wp2_with fail
      go_ret
      exact ⟨rfl, HW.out⟩
abbrev markIt : It := ⟨0, 0, 77777, 0⟩
end Go.Proofs.YtbpaepkcchpmbaaGreat
