import Derived.Test.YtbpaepkcchpmbaaGreatG38
import Derived.Test.YtbpaepkcchpmbaaGreatG24
import Derived.Test.YtbpaepkcchpmbaaGreatG37
import Derived.Test.YtbpaepkcchpmbaaGreatG18
import Derived.Deep.Cut
namespace Go.Proofs.YtbpaepkcchpmbaaGreat
open Go.RowKit
def frC (A : Option Addr) (n c : Nat) (late mark seq : Int) : Array Value := #[.int .i64 1800, .int .i64 1801, .slice A n c, .int .i64 late, .int .i64 mark, .int .i64 seq]
def CpP (w : World) (qs : List Qu) (n z b c : Nat) (rs : List Rq) : Prop := rs.map (·.q) = qs ∧ z ≤ b ∧ RowQ w b n c rs ∧ ∀ r ∈ rs, OwnI w z (.slice r.B r.m r.d) r.q.bs
theorem CpP.below {w w' : World} {qs : List Qu} {n z b c : Nat} {rs : List Rq} (h : CpP w qs n z b c rs) (hb : Below w.heap.size w w') : CpP w' qs n z b c rs := ⟨h.1, h.2.1, h.2.2.1.below hb, fun r hr => (h.2.2.2 r hr).below hb⟩
def cpF (qs : List Qu) (n z : Nat) : Fact := fun v w => ∃ b c rs, v = .slice (some ⟨b, 0, none⟩) n c ∧ CpP w qs n z b c rs
theorem cpF_mono (qs : List Qu) (n z : Nat) : Mono (cpF qs n z) := fun _ _ _ hb ⟨b, c, rs, e, h⟩ => ⟨b, c, rs, e, h.below hb⟩
def frF (qs : List Qu) (n z : Nat) (la : Int) : Fact := fun v w => ∃ b c rs, v = .agg (frC (some ⟨b, 0, none⟩) n c la (-4398046511104) 0) ∧ CpP w qs n z b c rs
theorem frF_mono (qs : List Qu) (n z : Nat) (la : Int) : Mono (frF qs n z la) := fun _ _ _ hb ⟨b, c, rs, e, h⟩ => ⟨b, c, rs, e, h.below hb⟩
theorem run_ldQs {g k : Nat} {A : Option Addr} {m c : Nat} {w : World} (h : w.cell? ⟨g, k, none⟩ = some (.slice A m c)) : (Instr.loadAt 22 (.pointer (some ⟨g, k, none⟩))).run Tryz.prog w = .ok (.slice A m c) w := by simp [go_sem, h, Instr.loadAt]
section
variable {D : List (Option Tmp)} {Φ : Fact} {o : Oper} {a : Act} {w : World}
theorem run_frn (A : Option Addr) (n c : Nat) (la : Int) (w : World) : (Instr.build 87 #[(0, .agg #[.int .i64 1800, .int .i64 1801]), (1, .slice A n c), (2, .int .i64 la), (3, .int .i64 (-4398046511104))]).run Tryz.prog w = .ok (.agg (frC A n c la (-4398046511104) 0)) w := by kernel_rfl
theorem rf_frn (hw : Region.wanted o (yieldD D a.tmps) = true) {t : Tmp} (hd : o.dst = some t) (x y z : Operand) (ho : o.op = .build 87 #[(0, x), (1, y), (2, z), (3, .const (.int .i64 (-4398046511104)))]) (A : Option Addr) (n c : Nat) (la : Int)
    (hx : a.eval x = .agg #[.int .i64 1800, .int .i64 1801]) (hy : a.eval y = .slice A n c) (hz : a.eval z = .int .i64 la) (h : Φ (.agg (frC A n c la (-4398046511104) 0)) w) : StepD Tryz.prog D Φ o a w := by
  refine step_val hw hd _ w ?_ (Below.refl _ _) h
  have hk : a.eval (.const (.int .i64 (-4398046511104))) = .int .i64 (-4398046511104) := rfl
  unfold execOp
  rw [ho]
  generalize a.eval = ev at hx hy hz hk ⊢
  simp only [List.map_toArray, List.map_cons, List.map_nil, hx, hy, hz, hk, Sem.run_bind, run_frn, Result.andThen_ok]
  rfl
end
def fnw3D : List (Option Tmp) := [some 12, some 13, some 14, some 15, some 16, some 17, some 18, none, some 5]
def fnw3F (p _g z n c : Nat) (A : Option Addr) (la _ro _se _so : Int) (qs : List Qu) : List Fact := [isV (.agg #[.int .i64 1800, .int .i64 1801]), isV (.pointer (some ⟨p, 0, none⟩)), isV (.slice A n c), cpF qs n z, isV (.pointer (some ⟨p, 1, none⟩)), isV (.int .i64 la), frF qs n z la]
theorem fnw3F_mono (p g z n c : Nat) (A : Option Addr) (la ro se so : Int) (qs : List Qu) : ∀ φ ∈ fnw3F p g z n c A la ro se so qs, Mono φ := by
  unfold fnw3F
  refine monos_cons (mono_isV _) ?_
  refine monos_cons (mono_isV _) ?_
  refine monos_cons (mono_isV _) ?_
  refine monos_cons (cpF_mono _ _ _) ?_
  refine monos_cons (mono_isV _) ?_
  refine monos_cons (mono_isV _) ?_
  refine monos_cons (frF_mono _ _ _ _) ?_
  exact monos_nil
structure fnw3S (p g z n c : Nat) (A : Option Addr) (la ro se so : Int) (qs : List Qu) (a0 : Act) (w0 : World) : Prop where
  size : a0.tmps.size = 19
  v2 : a0.tmps.getD 2 undef = .pointer (some ⟨p, 0, none⟩)
  v3 : a0.tmps.getD 3 undef = .pointer (some ⟨g, 0, none⟩)
  ez : z ≤ w0.heap.size
  bp : Has w0 p 24 #[.slice A n c, .int .i64 la, .int .i64 ro, .int .i64 se, .int .i64 so]
  bg : Has w0 g 85 #[.int .i64 1800, .int .i64 1801]
  cp : ∀ w, Below w0.heap.size w0 w → Calls Tryz.prog 67 #[.slice A n c] w fun e w' => ∃ b' c' rs, e = .returned (.slice (some ⟨b', 0, none⟩) n c') ∧ CpP w' qs n z b' c' rs ∧ Below w.heap.size w w'
section
variable {p g z n c : Nat} {A : Option Addr} {la ro se so : Int} {qs : List Qu} {a0 : Act} {w0 : World} (S : fnw3S p g z n c A la ro se so qs a0 w0)
include S
set_option maxRecDepth 100000 in
set_option maxHeartbeats 8000000 in
theorem fnw3_ok : AllOps (fun j o => ∀ (a : Act) (w : World), Below w0.heap.size w0 w → FrD (fnw3D.take 7) a0 a → needs fnw3D (fnw3F p g z n c A la ro se so qs) a w o.after.toList → StepD Tryz.prog fnw3D (factAt (fnw3F p g z n c A la ro se so qs) j) o a w) 0 ((opsOf 3 Tryz.f45).take 7) := by
  simp only [opsOf, Tryz.f45, opsAt, Option.bind, Option.or, Option.getD, reduceCtorEq, if_true, if_false]
  refine ⟨?_, ?_⟩
  · intro _a _w hB hF _hd
    exact rf_loadS (guard_none rfl) rfl _ _ rfl _ _ ((hF.other 3 rfl).trans S.v3) [.int .i64 1800, .int .i64 1801] (rf_range (S.bg.below hB S.bg.lt)) Tryz.underlying85 rfl (by kernel_rfl) rfl
  refine ⟨?_, ?_⟩
  · intro _a _w _hB hF _hd
    exact rf_faddr (guard_none rfl) rfl _ _ _ rfl _ _ 0 _ ((hF.other 2 rfl).trans S.v2) (by omega) (fun _ _ => by kernel_rfl) rfl
  refine ⟨?_, ?_⟩
  · intro a _w hB _hF hd
    have h13 : a.tmps.getD 13 undef = .pointer (some ⟨p, 0, none⟩) := hd.1 rfl
    exact rf_load1 (guard_none rfl) rfl _ _ rfl _ _ h13 (run_ldQs ((Has.cell (S.bp.below hB S.bp.lt) 0).trans rfl)) rfl
  refine ⟨?_, ?_⟩
  · intro a w hB _hF hd
    have h14 : a.tmps.getD 14 undef = .slice A n c := hd.1 rfl
    refine step_call (guard_none rfl) rfl _ _ (rf_call_run Tryz.func67 (by kernel_rfl) (by kernel_rfl) _ _ rfl) ?_
    simp only [List.map_toArray, List.map_cons, List.map_nil, Act.eval, h14]
    exact (S.cp w hB).mono (by rintro e w1 ⟨b, c1, rs, rfl, p1, hb⟩; exact ⟨_, rfl, hb, b, c1, rs, rfl, p1⟩)
  refine ⟨?_, ?_⟩
  · intro _a _w _hB hF _hd
    exact rf_faddr (guard_none rfl) rfl _ _ _ rfl _ _ 1 _ ((hF.other 2 rfl).trans S.v2) (by omega) (fun _ _ => by kernel_rfl) rfl
  refine ⟨?_, ?_⟩
  · intro a _w hB _hF hd
    have h16 : a.tmps.getD 16 undef = .pointer (some ⟨p, 1, none⟩) := hd.1 rfl
    exact rf_loadi (guard_none rfl) rfl _ rfl _ _ h16 _ ((Has.cell (S.bp.below hB S.bp.lt) 1).trans rfl) rfl
  refine ⟨?_, ?_⟩
  · intro a w _hB _hF hd
    have h12 : a.tmps.getD 12 undef = .agg #[.int .i64 1800, .int .i64 1801] := hd.1 rfl
    obtain ⟨bq15, cq15, rs15, h15, p15⟩ : cpF qs n z (a.tmps.getD 15 undef) w := hd.2.1 rfl
    have h17 : a.tmps.getD 17 undef = .int .i64 la := hd.2.2.1 rfl
    exact rf_frn (guard_none rfl) rfl _ _ _ rfl _ n _ la h12 h15 h17 ⟨_, _, _, rfl, p15⟩
  trivial
theorem fnw3_any {Q : Exit → Act → World → Prop} {l : List Oper} (hl : opsOf 3 Tryz.f45 = l) (hend : ∀ (bq15 : Nat) (cq15 : Nat) (rs15 : List Rq), ∀ (bf18 : Nat) (cf18 : Nat) (rf18 : List Rq), ∀ w : World, Below w0.heap.size w0 w → CpP w qs n z bq15 cq15 rs15 → CpP w qs n z bf18 cf18 rf18 → wpList Tryz.prog l.toArray Q (l.drop 7) (putAll a0 [(12, .agg #[.int .i64 1800, .int .i64 1801]), (13, .pointer (some ⟨p, 0, none⟩)), (14, .slice A n c), (15, .slice (some ⟨bq15, 0, none⟩) n cq15), (16, .pointer (some ⟨p, 1, none⟩)), (17, .int .i64 la), (18, .agg (frC (some ⟨bf18, 0, none⟩) n cf18 la (-4398046511104) 0))]) w) :
    (Code.region 3 l.toArray true).wp Tryz.prog Q a0 w0 := by
  subst hl
  refine region_head2 (fnw3F p g z n c A la ro se so qs) fnw3D 7 19 S.size rfl (by kernel_rfl) (by kernel_rfl) (by kernel_rfl) (fnw3F_mono _ _ _ _ _ _ _ _ _ _ _) (fnw3_ok S) fun a w hB hF h => ?_
  obtain ⟨bq15, cq15, rs15, h15, p15⟩ : cpF qs n z (a.tmps.getD 15 undef) w := h 3 (some 15) (by omega) rfl
  obtain ⟨bf18, cf18, rf18, h18, p18⟩ : frF qs n z la (a.tmps.getD 18 undef) w := h 6 (some 18) (by omega) rfl
  have hv : valsAre a [(12, .agg #[.int .i64 1800, .int .i64 1801]), (13, .pointer (some ⟨p, 0, none⟩)), (14, .slice A n c), (15, .slice (some ⟨bq15, 0, none⟩) n cq15), (16, .pointer (some ⟨p, 1, none⟩)), (17, .int .i64 la), (18, .agg (frC (some ⟨bf18, 0, none⟩) n cf18 la (-4398046511104) 0))] := by
    refine ⟨?_, ?_, ?_, ?_, ?_, ?_, ?_, trivial⟩
    · exact h 0 (some 12) (by omega) rfl
    · exact h 1 (some 13) (by omega) rfl
    · exact h 2 (some 14) (by omega) rfl
    · exact h15
    · exact h 4 (some 16) (by omega) rfl
    · exact h 5 (some 17) (by omega) rfl
    · exact h18
  rw [frame_is hF _ hv (by rfl) (by rfl)]
  exact hend bq15 cq15 rs15 bf18 cf18 rf18 w hB p15 p18
end
end Go.Proofs.YtbpaepkcchpmbaaGreat
namespace Go.Proofs.YtbpaepkcchpmbaaGreat
open Go.RowKit
set_option maxRecDepth 100000 in
set_option maxHeartbeats 1000000 in
theorem qfit_any (A : Option Addr) (n c : Nat) (qs : List Qu) (w : World) (hr : Qus w A n qs) (hn : n ≤ maxLen) :
    Calls Tryz.prog 97 #[.slice A n c] w fun e w' => e = .returned (.bool (fitQ qs)) ∧ Below w.heap.size w w' := by
  have HL := Lib.hid hr.1
  unfold maxLen at hn
  cases h1 : wi (n : Int) 1 8
  · have HV : Hid (fitQ qs = false) := by unfold fitQ; rw [HL.out, h1]; rfl
    clear hr
    go_enter Tryz.func97, Tryz.ntmps97
    go_wp2_with (go_at_call 75; refine (within_any _ _ _ _).mono ?_; rintro e w' ⟨rfl, rfl⟩)
    go_ret
    exact ⟨ret_bool HV.out.symm, Below.refl _ _⟩
  · have HV : Hid (fitQ qs = allQ qs) := by unfold fitQ; rw [HL.out, h1]; rfl
    have HR := Lib.hid hr; clear hr
    have HW0 : Hid (Below w.heap.size w w) := Below.refl _ _
    go_enter Tryz.func97, Tryz.ntmps97
    go_wp2_with (go_at_call 75; refine (within_any _ _ _ _).mono ?_; rintro e w' ⟨rfl, rfl⟩)
    clear h1
    go_loopw [11] (fun i wr => ∃ j : Nat, j ≤ n ∧ i = .int .i64 j ∧ Hid (∀ i, i < j → quB (nthQ qs i) = true) ∧ Hid (Below w.heap.size w wr)) (fun i _ => n - (intOf i).toNat)
    case atStart => exact ⟨0, Nat.zero_le _, rfl, fun i hi => by omega, HW0⟩
    case round =>
      clear HW0
      obtain ⟨j, hj, rfl, HS, HW⟩ := hrel
      by_cases hlt : j < n
      · obtain ⟨b, fo, rfl, hi⟩ := (HR.out.below HW.out).2 (by omega)
        obtain ⟨B, m, d, hx⟩ := hi j hlt
        have HX := Lib.hid hx; clear hx hi
        have HSZ : Hid (w.heap.size ≤ wr.heap.size) := HW.out.size
        go_upto_region 6 with (first | (refine load_qu rfl _ rfl b (fo + j * 6) rfl HX.out ?_) | (refine store_quN rfl _ _ rfl rfl rfl rfl ?_; intro w1 hb1 hs1 hh1; have HX1 := Lib.hid hh1; have HB1 := Lib.hid hb1; clear hs1 hb1 hh1))
        have HW1 : Hid (Below w.heap.size w w1) := HW.out.trans (HB1.out.mono HSZ.out)
        have hI1 : Ints w1 B m (nthQ qs j).bs := HX.out.2.1.below HB1.out
        have hm1 := HX.out.2.2
        go_wp2_with (refine load_quV rfl _ rfl wr.heap.size rfl HX1.out ?_)
        refine (may4_any (nthQ qs j).kind (nthQ qs j).agg (nthQ qs j).size (nthQ qs j).slide (nthQ qs j).rank B m d (nthQ qs j).bs w1 hI1 hm1).mono ?_
        rintro e w2 ⟨rfl, b2⟩
        have HW2 : Hid (Below w.heap.size w w2) := HW1.out.trans (b2.mono HW1.out.size)
        clear hI1 hm1 b2
        cases hq : mayQ (nthQ qs j).kind (nthQ qs j).agg (nthQ qs j).size (nthQ qs j).slide (nthQ qs j).bs (nthQ qs j).rank
        · go_wp2_with fail
          go_ret
          exact ⟨ret_bool (by rw [HV.out, allQ_no (by rw [HL.out]; exact hlt) hq]), HW2.out⟩
        · have HS2 : Hid (∀ i, i < j + 1 → quB (nthQ qs i) = true) := fun i hi => by rcases Nat.lt_succ_iff_lt_or_eq.1 hi with h | rfl <;> first | exact HS.out i h | exact hq
          clear HW1 HX1 HB1 HX HS HSZ hq
          go_wp2_with fail
          go_roundw
          case rel => exact ⟨j + 1, by omega, by go_num, HS2, HW2⟩
          case measure => simp [intOf]; omega
      · have hjn : j = n := by omega
        subst hjn
        go_wp2_with fail
        go_ret
        exact ⟨ret_bool (by rw [HV.out, allQ_yes (fun i hi => HS.out i (by rw [HL.out] at hi; exact hi))]), HW.out⟩
set_option maxRecDepth 100000 in
set_option maxHeartbeats 1000000 in
theorem amay_any (A : Option Addr) (n c : Nat) (qs : List Qu) (la ro se so : Int) (w : World) (hr : Qus w A n qs) (hn : n ≤ maxLen) :
    Calls Tryz.prog 66 #[.agg #[.slice A n c, .int .i64 la, .int .i64 ro, .int .i64 se, .int .i64 so]] w fun e w' => e = .returned (.bool (cfB qs la ro se so)) ∧ Below w.heap.size w w' := by
  have hbox : ∀ o, Below w.heap.size w (w.alloc o) := fun o => (Below.refl _ _).alloc (Nat.le_refl _) o
  have HBOX := Lib.hid hbox; clear hbox
  have HR := Lib.hid hr; clear hr
  cases h1 : limB la ro se so
  · have HV : Hid (cfB qs la ro se so = false) := by unfold cfB; rw [h1]; rfl
    unfold limB at h1
    cases k1 : wi la 0 1073741824
    · go_enter Tryz.func66, Tryz.ntmps66
      go_wp2_with (go_at_call 75; refine (within_any _ _ _ _).mono ?_; rintro e w' ⟨rfl, rfl⟩)
      go_ret
      exact ⟨ret_bool HV.out.symm, HBOX.out _⟩
    · cases k2 : wi ro 1 4096
      · go_enter Tryz.func66, Tryz.ntmps66
        go_wp2_with (go_at_call 75; refine (within_any _ _ _ _).mono ?_; rintro e w' ⟨rfl, rfl⟩)
        go_ret
        exact ⟨ret_bool HV.out.symm, HBOX.out _⟩
      · cases k3 : wi se 1 64
        · go_enter Tryz.func66, Tryz.ntmps66
          go_wp2_with (go_at_call 75; refine (within_any _ _ _ _).mono ?_; rintro e w' ⟨rfl, rfl⟩)
          go_ret
          exact ⟨ret_bool HV.out.symm, HBOX.out _⟩
        · have k4 : wi so 1 8 = false := by rw [k1, k2, k3] at h1; simpa using h1
          clear h1
          go_enter Tryz.func66, Tryz.ntmps66
          go_wp2_with (go_at_call 75; refine (within_any _ _ _ _).mono ?_; rintro e w' ⟨rfl, rfl⟩)
          go_ret
          exact ⟨ret_bool HV.out.symm, HBOX.out _⟩
  · have HV : Hid (cfB qs la ro se so = fitQ qs) := by unfold cfB; rw [h1]; rfl
    unfold limB at h1
    simp only [Bool.and_eq_true] at h1
    obtain ⟨k1, k2, k3, k4⟩ := h1
    go_enter Tryz.func66, Tryz.ntmps66
    go_wp2_with (go_at_call 75; refine (within_any _ _ _ _).mono ?_; rintro e w' ⟨rfl, rfl⟩)
    refine (qfit_any A n c qs _ (HR.out.below (HBOX.out _)) hn).mono ?_
    rintro e w1 ⟨rfl, b1⟩
    have HB1 : Hid (Below w.heap.size w w1) := (HBOX.out _).trans (b1.mono (by simp))
    clear b1
    go_wp2_with fail
    go_ret
    exact ⟨ret_bool HV.out.symm, HB1.out⟩
end Go.Proofs.YtbpaepkcchpmbaaGreat
namespace Go.Proofs.YtbpaepkcchpmbaaGreat
open Go.RowKit
theorem Tryz.sizeFrn : (Tryz.prog.info? 87).map (·.size) = some 6 := by kernel_rfl
def frZ : Array Value := #[.int .i64 0, .int .i64 0, .slice none 0 0, .int .i64 0, .int .i64 0, .int .i64 0]
theorem frC_one (A : Option Addr) (n c : Nat) (a b d : Int) : (frC A n c a b d).all Value.oneCell' = true := by simp [frC, Value.oneCell']
abbrev cfA (A : Option Addr) (n c : Nat) (la ro se so : Int) : Array Value := #[.slice A n c, .int .i64 la, .int .i64 ro, .int .i64 se, .int .i64 so]
set_option maxRecDepth 100000 in
theorem frn_boxes (w : World) (C E F : Array Value) : ∀ w1, w1 = ((w.alloc (.cells C 24)).alloc (.cells E 85)).alloc (.cells F 87) →
    Below w.heap.size w w1 ∧ w1.heap.size = w.heap.size + 3 ∧ Has w1 w.heap.size 24 C ∧ Has w1 (w.heap.size + 1) 85 E ∧ Has w1 (w.heap.size + 2) 87 F := by
  rintro w1 rfl
  have h1 := ((Has.made w 24 C).alloc (.cells E 85)).alloc (.cells F 87)
  have h2 := (Has.made (w.alloc (.cells C 24)) 85 E).alloc (.cells F 87)
  have h3 := Has.made ((w.alloc (.cells C 24)).alloc (.cells E 85)) 87 F
  have e2 : (w.alloc (.cells C 24)).heap.size = w.heap.size + 1 := by simp
  have e3 : ((w.alloc (.cells C 24)).alloc (.cells E 85)).heap.size = w.heap.size + 2 := by simp
  rw [e2] at h2
  rw [e3] at h3
  exact ⟨((((Below.refl _ w).alloc (Nat.le_refl _) _).alloc (by simp) _).alloc (by simp; omega) _), by simp, h1, h2, h3⟩
theorem below_put6 {w w2 : World} {g : Nat} (hb : Below w.heap.size w w2) (hg : w.heap.size ≤ g) (a b c d e f : Value) : Below w.heap.size w ((((((w2.setCell ⟨g, 0, none⟩ a).setCell ⟨g, 1, none⟩ b).setCell ⟨g, 2, none⟩ c).setCell ⟨g, 3, none⟩ d).setCell ⟨g, 4, none⟩ e).setCell ⟨g, 5, none⟩ f).drew :=
  ((((((hb.setCell hg a).setCell hg b).setCell hg c).setCell hg d).setCell hg e).setCell hg f).drew
section
variable {A : Option Addr} {n c : Nat} {qs : List Qu} {la ro se so : Int} {w : World}
set_option maxRecDepth 100000 in
set_option maxHeartbeats 1000000 in
theorem fnew_ok (hq : QusR w A n qs) (hm : cfB qs la ro se so = true) (hn : n ≤ 64) (h0 : 0 < n) :
    Calls Tryz.prog 45 #[.agg (cfA A n c la ro se so), .agg #[.int .i64 1800, .int .i64 1801]] w fun e w' => ∃ b c' rs, e = .returned (.tuple #[.agg (frC (some ⟨b, 0, none⟩) n c' la (-4398046511104) 0), .int .i64 0]) ∧ CpP w' qs n w.heap.size b c' rs ∧ Below w.heap.size w w' := by
  have HB0 := Lib.hid (frn_boxes w (cfA A n c la ro se so) #[.int .i64 1800, .int .i64 1801] frZ)
  have HQ := Lib.hid hq
  have HM : Hid (∀ w', Below w.heap.size w w' → Calls Tryz.prog 66 #[.agg #[.slice A n c, .int .i64 la, .int .i64 ro, .int .i64 se, .int .i64 so]] w' fun e w2 => e = .returned (.bool true) ∧ Below w'.heap.size w' w2) := fun w' hb => by
    rw [← hm]
    exact amay_any A n c qs la ro se so w' (hq.qus.below hb) (by unfold maxLen; omega)
  have HC : Hid (∀ w', Below w.heap.size w w' → Calls Tryz.prog 67 #[.slice A n c] w' fun e w2 => ∃ b' c' rs, e = .returned (.slice (some ⟨b', 0, none⟩) n c') ∧ CpP w2 qs n w.heap.size b' c' rs ∧ Below w'.heap.size w' w2) := fun w' hb =>
    (copied_any (hq.below hb) hn h0).mono fun e w2 ⟨b, c', rs, h1, h2, h3, h4, h5, h6⟩ => ⟨b, c', rs, h1, ⟨h2, Nat.le_trans hb.size h3, h4, fun r hr => (h5 r hr).mono hb.size⟩, h6⟩
  clear hq hm
  unfold cfA at HB0 ⊢
  unfold frZ at HB0
  go_enter Tryz.func45, Tryz.ntmps45
  go_upto_region 1 with fail
  obtain ⟨w1, hw1⟩ : ∃ w1, w1 = ((w.alloc (.cells #[.slice A n c, .int .i64 la, .int .i64 ro, .int .i64 se, .int .i64 so] 24)).alloc (.cells #[.int .i64 1800, .int .i64 1801] 85)).alloc (.cells #[.int .i64 0, .int .i64 0, .slice none 0 0, .int .i64 0, .int .i64 0, .int .i64 0] 87) := ⟨_, rfl⟩
  have HX := Lib.hid (HB0.out w1 hw1)
  show Code.wp Tryz.prog _ _ _ (((w.alloc (.cells #[.slice A n c, .int .i64 la, .int .i64 ro, .int .i64 se, .int .i64 so] 24)).alloc (.cells #[.int .i64 1800, .int .i64 1801] 85)).alloc (.cells #[.int .i64 0, .int .i64 0, .slice none 0 0, .int .i64 0, .int .i64 0, .int .i64 0] 87))
  rw [← hw1]
  clear hw1 HB0
  go_wp2_with (refine wpList_load_row rfl 24 _ rfl w.heap.size rfl 24 _ (0, 0) _ HX.out.2.2.1 Tryz.underlying24 rfl Tryz.csize ?_)
  refine (HM.out w1 HX.out.1).mono ?_
  rintro e w2 ⟨rfl, hb2⟩
  have HB2 := Lib.hid hb2
  clear hb2
  go_upto_region 3 with fail
  refine fnw3_any (p := w.heap.size) (g := w.heap.size + 1) (z := w.heap.size) (n := n) (c := c) (A := A) (la := la) (ro := ro) (se := se) (so := so) (qs := qs) ⟨rfl, rfl, rfl, by have := HB2.out.size; have := HX.out.2.1; omega, HX.out.2.2.1.below HB2.out HX.out.2.2.1.lt, HX.out.2.2.2.1.below HB2.out HX.out.2.2.2.1.lt, fun w' hb => HC.out w' (HX.out.1.trans ((HB2.out.trans (hb.mono HB2.out.size)).mono HX.out.1.size))⟩ (by kernel_rfl) ?_
  intro b15 c15 rs15 b18 c18 rs18 w3 hB3 p15 p18
  have HB3 : Hid (Below w.heap.size w w3) := HX.out.1.trans ((HB2.out.trans (hB3.mono HB2.out.size)).mono HX.out.1.size)
  have HR3 : Hid (Has w3 (w.heap.size + 2) 87 _) := (HX.out.2.2.2.2.below HB2.out HX.out.2.2.2.2.lt).below hB3 (by have := HX.out.2.1; have := HB2.out.size; omega)
  have HP := Lib.hid p18
  clear hB3 p15 p18
  simp only [putAll, Act.put, List.setIfInBounds_toArray, List.set_cons_succ, List.set_cons_zero, List.drop_succ_cons, List.drop_zero]
  refine wpList_store_row rfl 87 _ _ rfl (w.heap.size + 2) (frC (some ⟨b18, 0, none⟩) n c18 la (-4398046511104) 0) rfl rfl 87 _ HR3.out Tryz.sizeFrn rfl (frC_one _ _ _ _ _ _) ?_
  go_wp2_with fail
  refine bodyPost_ret (ret_row rfl _ _ _ 87 (frC (some ⟨b18, 0, none⟩) n c18 la (-4398046511104) 0) _ rfl (HR3.out.row _) Tryz.underlying87 rfl (by exact Tryz.sizeFrn)) rfl ?_
  have hq : ∀ r ∈ rs18, OwnI (w3.setRow (w.heap.size + 2) (frC (some ⟨b18, 0, none⟩) n c18 la (-4398046511104) 0)) w.heap.size (.slice r.B r.m r.d) r.q.bs := fun r hr => (HP.out.2.2.2 r hr).row HR3.out (by decide) _
  have hne : b18 ≠ w.heap.size + 2 := fun e => by
    obtain ⟨cur, hc⟩ := HP.out.2.2.1.has
    exact has_types (e ▸ hc) HR3.out (by decide)
  obtain ⟨q1, q2, q3, cur, q4, q5, q6⟩ := HP.out.2.2.1
  exact ⟨b18, c18, rs18, rfl, ⟨HP.out.1, HP.out.2.1, ⟨q1, q2, q3, cur, q4.rowFar hne _, q5, q6⟩, hq⟩, below_row HB3.out (by omega) _⟩
set_option maxRecDepth 100000 in
set_option maxHeartbeats 1000000 in
theorem fnew_no (hq : Qus w A n qs) (hl : n ≤ maxLen) (hm : cfB qs la ro se so = false) :
    Calls Tryz.prog 45 #[.agg (cfA A n c la ro se so), .agg #[.int .i64 1800, .int .i64 1801]] w fun e w' => e = .returned (.tuple #[.agg frZ, .int .i64 1800]) ∧ Below w.heap.size w w' := by
  have HB0 := Lib.hid (frn_boxes w (cfA A n c la ro se so) #[.int .i64 1800, .int .i64 1801] frZ)
  have HM : Hid (∀ w', Below w.heap.size w w' → Calls Tryz.prog 66 #[.agg #[.slice A n c, .int .i64 la, .int .i64 ro, .int .i64 se, .int .i64 so]] w' fun e w2 => e = .returned (.bool false) ∧ Below w'.heap.size w' w2) := fun w' hb => by
    rw [← hm]
    exact amay_any A n c qs la ro se so w' (hq.below hb) hl
  clear hq hm
  unfold cfA at HB0 ⊢
  unfold frZ at HB0 ⊢
  go_enter Tryz.func45, Tryz.ntmps45
  go_upto_region 1 with fail
  obtain ⟨w1, hw1⟩ : ∃ w1, w1 = ((w.alloc (.cells #[.slice A n c, .int .i64 la, .int .i64 ro, .int .i64 se, .int .i64 so] 24)).alloc (.cells #[.int .i64 1800, .int .i64 1801] 85)).alloc (.cells #[.int .i64 0, .int .i64 0, .slice none 0 0, .int .i64 0, .int .i64 0, .int .i64 0] 87) := ⟨_, rfl⟩
  have HX := Lib.hid (HB0.out w1 hw1)
  show Code.wp Tryz.prog _ _ _ (((w.alloc (.cells #[.slice A n c, .int .i64 la, .int .i64 ro, .int .i64 se, .int .i64 so] 24)).alloc (.cells #[.int .i64 1800, .int .i64 1801] 85)).alloc (.cells #[.int .i64 0, .int .i64 0, .slice none 0 0, .int .i64 0, .int .i64 0, .int .i64 0] 87))
  rw [← hw1]
  clear hw1 HB0
  go_wp2_with (refine wpList_load_row rfl 24 _ rfl w.heap.size rfl 24 _ (0, 0) _ HX.out.2.2.1 Tryz.underlying24 rfl Tryz.csize ?_)
  refine (HM.out w1 HX.out.1).mono ?_
  rintro e w2 ⟨rfl, hb2⟩
  have HB2 := Lib.hid (HX.out.1.trans (hb2.mono HX.out.1.size))
  have HR2 : Hid (Has w2 (w.heap.size + 2) 87 _) := HX.out.2.2.2.2.below hb2 HX.out.2.2.2.2.lt
  have k1 : ∀ k, (w2.drewN k).cell? ⟨w.heap.size + 1, 0, none⟩ = some (.int .i64 1800) := fun k => (((HX.out.2.2.2.1.below hb2 HX.out.2.2.2.1.lt).drewN k).cell 0).trans rfl
  have k0 : w2.cell? ⟨w.heap.size + 1, 0, none⟩ = some (.int .i64 1800) := k1 0
  have j0 : ∀ j v, j < 6 → v = (#[.int .i64 0, .int .i64 0, .slice none 0 0, .int .i64 0, .int .i64 0, .int .i64 0] : Array Value)[j]? → w2.cell? ⟨w.heap.size + 2, j, none⟩ = v := fun j v _ e => by rw [e]; exact HR2.out.cell j
  have m0 : ∀ j, w2.frozen? ⟨w.heap.size + 2, j, none⟩ = false := fun j => HR2.out.mark j
  clear hb2
  go_upto_region 2 with fail
  go_region
  go_wp2_with fail
  have HE : Hid (Below w.heap.size w ((((((w2.setCell ⟨w.heap.size + 2, 0, none⟩ (.int .i64 0)).setCell ⟨w.heap.size + 2, 1, none⟩ (.int .i64 0)).setCell ⟨w.heap.size + 2, 2, none⟩ (.slice none 0 0)).setCell ⟨w.heap.size + 2, 3, none⟩ (.int .i64 0)).setCell ⟨w.heap.size + 2, 4, none⟩ (.int .i64 0)).setCell ⟨w.heap.size + 2, 5, none⟩ (.int .i64 0)).drew) := below_put6 HB2.out (by omega) _ _ _ _ _ _
  have h6 := ((((((HR2.out.put 0 (.int .i64 0)).put 1 (.int .i64 0)).put 2 (.slice none 0 0)).put 3 (.int .i64 0)).put 4 (.int .i64 0)).put 5 (.int .i64 0)).drew
  refine bodyPost_ret (ret_row rfl _ _ (w.heap.size + 2) 87 frZ _ rfl h6 Tryz.underlying87 rfl (by exact Tryz.sizeFrn)) rfl ?_
  exact ⟨rfl, HE.out⟩
end
end Go.Proofs.YtbpaepkcchpmbaaGreat
