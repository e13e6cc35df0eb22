/-
  The drawn region of items (written by gen/trreg.py).
  Walk: a part's items.
-/
import Derived.Test.YtjgjbhbpndjnnaaG25
import Derived.Test.YtjgjbhbpndjnnaaG15
import Derived.Test.YtjgjbhbpndjnnaaHeadK
namespace Go.Proofs.Ytjgjbhbpndjnnaa
open Go.RowKit

def titD : List (Option Tmp) := [some 8, some 9, some 10, some 11, some 12, some 13, some 14, some 15, some 16, some 17, some 18, some 19, some 1]
def titF (b : Nat) (v : It) (_av : Ac) (_hk : Nat) (p _q : Option Addr) (vo : Value) (base z : Nat) (_ys R : List It) : List Fact := [isV (.pointer (some ⟨b, 0, none⟩)), isV (.pointer (some ⟨b, 0, none⟩)), isV (.pointer (some ⟨b, 0, none⟩)), isV (.pointer p), isV (vo), itsB base R vo z, isV (.pointer (some ⟨b, 0, none⟩)), isV (.pointer (some ⟨b, 0, none⟩)), isV (.pointer (some ⟨b, 1, none⟩)), isV (.agg #[.int .i64 v.s, .int .i64 v.t, .int .i64 v.q, .int .i64 v.v]), itmV vo v]
theorem titF_mono (b : Nat) (v : It) (av : Ac) (hk : Nat) (p q : Option Addr) (vo : Value) (base z : Nat) (ys R : List It) : ∀ φ ∈ titF b v av hk p q vo base z ys R, Mono φ := by
  unfold titF
  repeat (first | exact monos_nil | (refine monos_cons (mono_isV _) ?_) | (refine monos_cons (itsB_mono _ _ _ _) ?_) | (refine monos_cons (itmV_mono _ _) ?_))
structure titS (b : Nat) (v : It) (av : Ac) (hk : Nat) (p q : Option Addr) (vo : Value) (base z : Nat) (ys R : List It) (a0 : Act) (w0 : World) : Prop where
  size : a0.tmps.size = 26
  v0 : a0.tmps.getD 0 undef = .pointer (some ⟨b, 0, none⟩)
  v1 : a0.tmps.getD 1 undef = vo
  pb : Has w0 b 110 (prtC p v q av hk)
  fpb : vo.ownBlock ≠ some b
  lo : ∀ k, vo.ownBlock = some k → k < w0.heap.size
  c1 : ∀ w, ButO (slB vo) w0 w → OwnIt w base vo ys → Calls Try.prog 69 #[.pointer p, vo] w fun e w1 => ∃ v1, e = .returned v1 ∧ OwnIt w1 base v1 R ∧ ButO (slB vo) w w1 ∧ ∀ k, v1.ownBlock = some k → vo.ownBlock = some k ∨ z ≤ k
  jb : ∀ w w1 : World, (fun w => OwnIt w base vo ys) w → Below w.heap.size w w1 → (fun w => OwnIt w base vo ys) w1
  j0 : (fun w => OwnIt w base vo ys) w0.drew
section
variable {b : Nat} {v : It} {av : Ac} {hk : Nat} {p q : Option Addr} {vo : Value} {base z : Nat} {ys R : List It} {a0 : Act} {w0 : World} (S : titS b v av hk p q vo base z ys R a0 w0)
include S
set_option maxRecDepth 100000 in
set_option maxHeartbeats 8000000 in
theorem tit_ok : AllOps (fun j o => ∀ (a : Act) (w : World) (b1 b2 : Bool), (j = 5 → b1 = false ∧ b2 = false) → (j = 1000 → b1 = true ∧ b2 = false) → OI vo (fun w => OwnIt w base vo ys) w0 b1 b2 w → FrD (titD.take 11) a0 a → needs titD (titF b v av hk p q vo base z ys R) a w o.after.toList → AskM Try.prog titD (factAt (titF b v av hk p q vo base z ys R) j) (ButO (slB vo)) (fun w w1 => w = w1) (OI vo (fun w => OwnIt w base vo ys) w0) 5 1000 j o a w) 0 ((opsOf 3 Try.f69).take 11) := by
  simp only [opsOf, Try.f69, opsAt, Option.bind, Option.or, Option.getD, reduceCtorEq, if_true, if_false, Nat.reduceEqDiff, List.take_succ_cons, List.take_zero]
  refine ⟨?_, ?_⟩
  · intro _a _w _b1 _b2 _h1 _h2 _hI hF _hd
    refine askM_d (by decide) (by decide) ?_
    exact step_move (guard_none rfl) rfl _ rfl ((hF.other 0 rfl).trans S.v0)
  refine ⟨?_, ?_⟩
  · intro a _w _b1 _b2 _h1 _h2 _hI _hF hd
    refine askM_d (by decide) (by decide) ?_
    have h8 : a.tmps.getD 8 undef = .pointer (some ⟨b, 0, none⟩) := hd.1 rfl
    exact rf_nilck (guard_none rfl) rfl _ rfl _ h8 rfl
  refine ⟨?_, ?_⟩
  · intro a _w _b1 _b2 _h1 _h2 _hI _hF hd
    refine askM_d (by decide) (by decide) ?_
    have h9 : a.tmps.getD 9 undef = .pointer (some ⟨b, 0, none⟩) := hd.1 rfl
    exact rf_faddr (guard_none rfl) rfl _ _ _ rfl _ _ 0 _ h9 (by omega) (fun _ _ => by kernel_rfl) rfl
  refine ⟨?_, ?_⟩
  · intro a _w _b1 _b2 _h1 _h2 hI _hF hd
    refine askM_d (by decide) (by decide) ?_
    have hB := hI.1
    have h10 : a.tmps.getD 10 undef = .pointer (some ⟨b, 0, none⟩) := hd.1 rfl
    exact rf_load1 (guard_none rfl) rfl _ _ rfl _ _ h10 (run_ldPart ((Has.cell (S.pb.butB hB S.fpb) 0).trans rfl)) rfl
  refine ⟨?_, ?_⟩
  · intro _a _w _b1 _b2 _h1 _h2 _hI hF _hd
    refine askM_d (by decide) (by decide) ?_
    exact step_move (guard_none rfl) rfl _ rfl ((hF.other 1 rfl).trans S.v1)
  refine ⟨?_, ?_⟩
  · intro a w _b1 _b2 h1 _h2 hI _hF hd
    obtain ⟨rfl, rfl⟩ := h1 rfl
    refine askM_1 rfl ?_
    have h11 : a.tmps.getD 11 undef = .pointer p := hd.1 rfl
    have h12 : a.tmps.getD 12 undef = vo := hd.2.1 rfl
    refine stepL_call (guard_none rfl) rfl _ _ (rf_call_run Try.func69 (by kernel_rfl) (by kernel_rfl) _ _ rfl) ?_
    simp only [List.map_toArray, List.map_cons, List.map_nil, Act.eval, h11, h12]
    exact (S.c1 w hI.1 (hI.2 rfl)).mono (by rintro e w1 ⟨v1, rfl, ho, hb, hs⟩; exact ⟨_, rfl, hb, ⟨hI.1.tr hb, fun h => by cases h⟩, v1, rfl, ho, hs⟩)
  refine ⟨?_, ?_⟩
  · intro _a _w _b1 _b2 _h1 _h2 _hI hF _hd
    refine askM_d (by decide) (by decide) ?_
    exact step_move (guard_none rfl) rfl _ rfl ((hF.other 0 rfl).trans S.v0)
  refine ⟨?_, ?_⟩
  · intro a _w _b1 _b2 _h1 _h2 _hI _hF hd
    refine askM_d (by decide) (by decide) ?_
    have h14 : a.tmps.getD 14 undef = .pointer (some ⟨b, 0, none⟩) := hd.1 rfl
    exact rf_nilck (guard_none rfl) rfl _ rfl _ h14 rfl
  refine ⟨?_, ?_⟩
  · intro a _w _b1 _b2 _h1 _h2 _hI _hF hd
    refine askM_d (by decide) (by decide) ?_
    have h15 : a.tmps.getD 15 undef = .pointer (some ⟨b, 0, none⟩) := hd.1 rfl
    exact rf_faddr (guard_none rfl) rfl _ _ _ rfl _ _ 1 _ h15 (by omega) (fun _ _ => by kernel_rfl) rfl
  refine ⟨?_, ?_⟩
  · intro a _w _b1 _b2 _h1 _h2 hI _hF hd
    refine askM_d (by decide) (by decide) ?_
    have hB := hI.1
    have h16 : a.tmps.getD 16 undef = .pointer (some ⟨b, 1, none⟩) := hd.1 rfl
    exact rf_loadItP (guard_none rfl) rfl _ rfl _ _ h16 v (prtC_item _ _ _ _ _ (S.pb.butB hB S.fpb)) rfl
  refine ⟨?_, ?_⟩
  · intro a _w _b1 _b2 _h1 _h2 hI _hF hd
    refine askM_d (by decide) (by decide) ?_
    have hB := hI.1
    have h17 : a.tmps.getD 17 undef = .agg #[.int .i64 v.s, .int .i64 v.t, .int .i64 v.q, .int .i64 v.v] := hd.1 rfl
    exact rf_itm (guard_none rfl) rfl _ rfl v h17 vo (fun k hk => Nat.lt_of_lt_of_le (S.lo k hk) hB.size) (fun _ _ h => h)
  trivial
set_option maxRecDepth 100000 in
theorem tit_any {Q : Exit → Act → World → Prop} {l : List Oper} (hl : opsOf 3 Try.f69 = l) (hend : ∀ (v13 : Value), ∀ (e18 : Nat), ∀ w : World, OI vo (fun w => OwnIt w base vo ys) w0 true false w → (OwnIt w base v13 R ∧ ∀ k, v13.ownBlock = some k → vo.ownBlock = some k ∨ z ≤ k) → (Has w e18 23 (itemL v).toArray ∧ vo.ownBlock ≠ some e18) → wpList Try.prog l.toArray Q (l.drop 11) (putAll a0 [(8, .pointer (some ⟨b, 0, none⟩)), (9, .pointer (some ⟨b, 0, none⟩)), (10, .pointer (some ⟨b, 0, none⟩)), (11, .pointer p), (12, vo), (13, v13), (14, .pointer (some ⟨b, 0, none⟩)), (15, .pointer (some ⟨b, 0, none⟩)), (16, .pointer (some ⟨b, 1, none⟩)), (17, .agg #[.int .i64 v.s, .int .i64 v.t, .int .i64 v.q, .int .i64 v.v]), (18, .slice (some ⟨e18, 0, none⟩) 1 1)]) w) :
    (Code.region 3 l.toArray true).wp Try.prog Q a0 w0 := by
  subst hl
  refine region_headM (ButO (slB vo)) (fun w w1 => w = w1) (OI vo (fun w => OwnIt w base vo ys) w0) 5 1000 (titF b v av hk p q vo base z ys R) titD 11 26 S.size rfl (by kernel_rfl) (by kernel_rfl) (by kernel_rfl) (fun w => ButO.refl _ w) (fun _ => rfl) (by omega) (by omega) (fun e => by
      have h : ((opsOf 3 Try.f69)[1000]?) = none := by kernel_rfl
      rw [h] at e
      cases e) (fun b1 b2 w w1 h hb => ⟨h.1.thenB hb, fun e => S.jb w w1 (h.2 e) hb⟩) ⟨⟨rfl, rfl, rfl, Nat.le_refl _, fun _ _ _ => rfl⟩, fun _ => S.j0⟩ (titF_mono _ _ _ _ _ _ _ _ _ _ _) (late_mono (l1 := [.pointer (some ⟨b, 0, none⟩), .pointer (some ⟨b, 0, none⟩), .pointer (some ⟨b, 0, none⟩), .pointer p, vo]) rfl _ (fun g hg => by
    simp only [List.mem_cons, List.not_mem_nil, or_false] at hg
    rcases hg with rfl | rfl | rfl | rfl | rfl
    · exact fun _ _ _ _ h => h
    · exact fun _ _ _ _ h => h
    · exact fun _ _ _ _ h => h
    · exact fun _ _ _ _ h => h
    · exact itmV_butB _ _)) (fun _ _ v w w1 e h => e ▸ h) (tit_ok S) fun a w hI hF h => ?_
  obtain ⟨v13, h13, p13⟩ : itsB base R vo z (a.tmps.getD 13 undef) w := h 5 (some 13) (by omega) rfl
  obtain ⟨e18, h18, p18⟩ : itmV vo v (a.tmps.getD 18 undef) w := h 10 (some 18) (by omega) rfl
  have hv : valsAre a [(8, .pointer (some ⟨b, 0, none⟩)), (9, .pointer (some ⟨b, 0, none⟩)), (10, .pointer (some ⟨b, 0, none⟩)), (11, .pointer p), (12, vo), (13, v13), (14, .pointer (some ⟨b, 0, none⟩)), (15, .pointer (some ⟨b, 0, none⟩)), (16, .pointer (some ⟨b, 1, none⟩)), (17, .agg #[.int .i64 v.s, .int .i64 v.t, .int .i64 v.q, .int .i64 v.v]), (18, .slice (some ⟨e18, 0, none⟩) 1 1)] := by
    refine ⟨?_, ?_, ?_, ?_, ?_, ?_, ?_, ?_, ?_, ?_, ?_, trivial⟩
    · exact h 0 (some 8) (by omega) rfl
    · exact h 1 (some 9) (by omega) rfl
    · exact h 2 (some 10) (by omega) rfl
    · exact h 3 (some 11) (by omega) rfl
    · exact h 4 (some 12) (by omega) rfl
    · exact h13
    · exact h 6 (some 14) (by omega) rfl
    · exact h 7 (some 15) (by omega) rfl
    · exact h 8 (some 16) (by omega) rfl
    · exact h 9 (some 17) (by omega) rfl
    · exact h18
  rw [frame_is hF _ hv (by rfl) (by rfl)]
  exact hend v13 e18 w hI p13 p18
end

end Go.Proofs.Ytjgjbhbpndjnnaa

namespace Go.Proofs.Ytjgjbhbpndjnnaa
open Go.RowKit

/-- The call hands out the row R, laid behind vo. -/
def ItsO (base : Nat) (vo : Value) (R : List It) (w : World) (e : Ending) (w' : World) : Prop :=
  ∃ v', e = .returned v' ∧ OwnIt w' base v' R ∧ ButO (slB vo) w w' ∧ SameB vo v' w

section
variable {P : Nat → Prop} {bs : List Int}
set_option maxRecDepth 100000 in
set_option maxHeartbeats 2000000 in
theorem titems_any (base z : Nat) (hP : ∀ k, P k → k < z) : ∀ (T : Tr) (w : World) (vo : Value) (ys : List It), T.At bs P w → z ≤ w.heap.size → OwnIt w base vo ys → base ≤ w.heap.size → (∀ k, P k → vo.ownBlock ≠ some k) → ys.length + T.row.length ≤ 8192 →
    Calls Try.prog 69 #[.pointer T.ptr, vo] w (ItsO base vo (ys ++ T.row) w) := by
  intro T
  induction T with
  | nil =>
    intro w vo ys _ _ ho _ _ _
    have HO := Lib.hid ho
    clear ho
    show Calls _ _ #[.pointer none, vo] w (ItsO base vo (ys ++ []) w)
    rw [List.append_nil]
    go_enter Try.func69, Try.ntmps69
    go_wp2_with fail
    go_ret
    exact ⟨vo, rfl, HO.out, ButO.refl _ _, fun k hk => .inl hk⟩
  | node b H l v r ih1 ih2 =>
    intro w vo ys hA hz ho hb hv hn
    have hn1 : ys.length + l.row.length ≤ 8192 := by simp only [Tr.row, List.length_append, List.length_cons] at hn; omega
    have HC1 : Hid (∀ w1, ButO (slB vo) w w1 → OwnIt w1 base vo ys → Calls Try.prog 69 #[.pointer l.ptr, vo] w1 fun e w2 => ∃ v1, e = .returned v1 ∧ OwnIt w2 base v1 (ys ++ l.row) ∧ ButO (slB vo) w1 w2 ∧ ∀ k, v1.ownBlock = some k → vo.ownBlock = some k ∨ w.heap.size ≤ k) := fun w1 h1 h2 =>
      (ih1 w1 vo ys (hA.butB h1 hv).2.2.2.2.1 (Nat.le_trans hz h1.size) h2 (Nat.le_trans hb h1.size) hv hn1).mono fun e w2 ⟨v1, e1, e2, e3, e4⟩ => ⟨v1, e1, e2, e3, fun k hk => (e4 k hk).imp id (fun h => by have := h1.size; omega)⟩
    have HC2 := Lib.hid (fun w2 v2 (h1 : ButO (slB vo) w w2) (hs : SameB vo v2 w) (h2 : OwnIt w2 base v2 (ys ++ l.row ++ [v])) => by
      have hv2 : ∀ k, P k → v2.ownBlock ≠ some k := fun k hk e => by
        rcases hs k e with h | h
        · exact hv k hk h
        · have := hP k hk; omega
      exact (ih2 w2 v2 (ys ++ l.row ++ [v]) (hA.butB h1 hv).2.2.2.2.2 (Nat.le_trans hz h1.size) h2 (Nat.le_trans hb h1.size) hv2 (by simp only [Tr.row, List.length_append, List.length_cons, List.length_nil] at hn ⊢; omega)))
    have HB3 := Lib.hid (fun w' (h1 : ButO (slB vo) w w') => (hA.butB h1 hv).2.2.1)
    have HFB := Lib.hid (hv b hA.1)
    have HO := Lib.hid ho
    have HLE := Lib.hid hb
    have HN := Lib.hid hn
    have e0 : (Tr.node b H l v r).ptr = some ⟨b, 0, none⟩ := rfl
    rw [e0]
    have er : ys ++ (Tr.node b H l v r).row = ys ++ l.row ++ [v] ++ r.row := by simp [Tr.row]
    rw [er]
    clear hA hz ho hb hv ih1 ih2 e0 er hn hn1
    go_enter Try.func69, Try.ntmps69
    go_upto_region 3 with fail
    refine tit_any (b := b) (v := v) (av := foldA bs (Tr.node b H l v r).row) (hk := H) (p := l.ptr) (q := r.ptr) (vo := vo) (base := base) (z := w.heap.size) (ys := ys) (R := ys ++ l.row) ⟨rfl, rfl, rfl, HB3.out _ (ButO.refl _ _), HFB.out, fun k hk => HO.out.ltT hk, fun w1 h1 h2 => HC1.out w1 h1 h2, fun _ _ h hb => h.belowT hb, HO.out⟩ (by kernel_rfl) ?_
    intro v13 e18 w9 hI hV hE
    have HI := Lib.hid hI.1
    have HV := Lib.hid hV
    have HE := Lib.hid hE
    clear hI hV hE HC1
    simp only [putAll, Act.put, List.setIfInBounds_toArray, List.set_cons_succ, List.set_cons_zero, List.drop_succ_cons, List.drop_zero]
    refine app_itemO rfl _ _ rfl (base := base) (g := e18) (v := v13) (xs := ys ++ l.row) (y := v) rfl HV.out.1 rfl HE.out.1 (by have := HN.out; simp only [Tr.row, List.length_append, List.length_cons] at this; simp only [List.length_append]; omega) (Nat.le_trans HLE.out HI.out.size) ?_
    intro v19 w10 ho10 hb10 hs10
    have hsv : SameB vo v13 w := HV.out.2
    have HS10 := Lib.hid (hsv.trans hs10 HI.out.size)
    have HB10 := Lib.hid (hsv.butO HI.out hb10)
    have HO10 := Lib.hid ho10
    have hc5 : w10.cell? ⟨b, 5, none⟩ = some (.pointer r.ptr) := (HB3.out _ HB10.out).cell 5
    clear hsv hs10 hb10 ho10 HI HV HE HO HFB HB3 HLE HN
    go_wp2_with (refine (HC2.out _ _ HB10.out HS10.out HO10.out).mono ?_; clear HC2; rintro e w11 ⟨v', rfl, k1, k2, k3⟩)
    go_ret
    exact ⟨v', rfl, k1, HS10.out.butO HB10.out k2, HS10.out.trans k3 HB10.out.size⟩
end

end Go.Proofs.Ytjgjbhbpndjnnaa
