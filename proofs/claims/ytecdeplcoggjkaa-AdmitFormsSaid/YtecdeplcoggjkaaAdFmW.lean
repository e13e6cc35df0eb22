/-
  Walks: admit.Verdict, admit.May of what may not be, whatever May is asked of; AdmitForms.
-/
import Derived.Test.YtecdeplcoggjkaaAdSafeW
import Derived.Deep.DeepCutAuto
import Derived.Deep.CutBlock
import Derived.OpenShut
namespace Go.Proofs.Ytecdeplcoggjkaa
open Go.RowKit

set_option maxRecDepth 100000 in
set_option maxHeartbeats 2000000 in
theorem ver_badM (A : Option Addr) (n c : Nat) (M : Bool) (la ro se so le he kn : Int) (has : Bool) (kd os oe ti va : Int) (w : World) (hM : ∀ W, Below w.heap.size w W → Calls Try.prog 11 #[.agg #[.slice A n c, .int .i64 la, .int .i64 ro, .int .i64 se, .int .i64 so]] W fun e w' => e = .returned (.bool M) ∧ Below W.heap.size W w') (h : (M && (wi le (-4398046511104) 4398046511104 && (decide (0 ≤ he) && decide (0 ≤ kn)))) = false) :
    Calls Try.prog 8 #[.agg #[.slice A n c, .int .i64 la, .int .i64 ro, .int .i64 se, .int .i64 so], .int .i64 le, .int .i64 he, .int .i64 kn, .bool has, .agg #[.int .i64 kd, .int .i64 os, .int .i64 oe, .int .i64 ti, .int .i64 va]] w fun e w' => e = .returned (.tuple #[.int .i64 0, .int .i64 1400]) ∧ Below w.heap.size w w' := by
  have HM := Lib.hid hM; clear hM
  go_enter Try.func8, Try.ntmps8
  go_upto_region 1 with fail
  generalize hw0 : ((((((w.alloc (.cells #[.slice A n c, .int .i64 la, .int .i64 ro, .int .i64 se, .int .i64 so] 24)).alloc (.cells #[.int .i64 le] 3)).alloc (.cells #[.int .i64 he] 3)).alloc (.cells #[.int .i64 kn] 3)).alloc (.cells #[.bool has] 4)).alloc (.cells #[.int .i64 kd, .int .i64 os, .int .i64 oe, .int .i64 ti, .int .i64 va] 26)) = w1
  have HS : Hid (VeS w A n c la ro se so le he kn has kd os oe ti va w1) := by rw [← hw0]; exact VeS.made
  clear hw0
  have hcc := cells_cf HS.out.cf
  go_wp2_with fail
  refine (HM.out w1 HS.out.keep).mono ?_
  rintro e w2 ⟨rfl, b2⟩
  have HS2 := Lib.hid (HS.out.below b2)
  have hle : w2.cell? ⟨w.heap.size + 1, 0, none⟩ = some (.int .i64 le) := HS2.out.le.cell 0
  have hhe : w2.cell? ⟨w.heap.size + 1 + 1, 0, none⟩ = some (.int .i64 he) := HS2.out.he.cell 0
  have hkn : w2.cell? ⟨w.heap.size + 1 + 1 + 1, 0, none⟩ = some (.int .i64 kn) := HS2.out.kn.cell 0
  clear b2 HS hcc
  cases M
  · go_wp2_with fail
    go_ret2
    exact ⟨rfl, HS2.out.keep⟩
  · cases k2 : wi le (-4398046511104) 4398046511104
    · go_wp2_with (go_at_call 16; refine (within_any _ _ _ _).mono ?_; rintro e w' ⟨rfl, rfl⟩)
      go_ret2
      exact ⟨rfl, HS2.out.keep⟩
    · by_cases k3 : 0 ≤ he
      · have k4 : kn < 0 := by rw [k2, decide_eq_true k3] at h; simpa using h
        clear h
        go_wp2_with (go_at_call 16; refine (within_any _ _ _ _).mono ?_; rintro e w' ⟨rfl, rfl⟩)
        go_ret2
        exact ⟨rfl, HS2.out.keep⟩
      · clear h
        go_wp2_with (go_at_call 16; refine (within_any _ _ _ _).mono ?_; rintro e w' ⟨rfl, rfl⟩)
        go_ret2
        exact ⟨rfl, HS2.out.keep⟩

/-- admit.May of a config of too many queries, whatever they are. -/
theorem qfit_long (A : Option Addr) (n c : Nat) (w : World) (h : 8 < n) (hn : n ≤ 1000000) :
    Calls Try.prog 23 #[.slice A n c] w fun e w' => e = .returned (.bool false) ∧ w = w' := by
  have h1 : wi (n : Int) 1 8 = false := wi_false (by omega)
  go_enter Try.func23, Try.ntmps23
  go_wp2_with (go_at_call 16; refine (within_any _ _ _ _).mono ?_; rintro e w' ⟨rfl, rfl⟩)
  go_ret
  exact ⟨rfl, rfl⟩
set_option maxRecDepth 100000 in
theorem amay_long (A : Option Addr) (n c : Nat) (w : World) (h : 8 < n) (hn : n ≤ 1000000) :
    Calls Try.prog 11 #[.agg #[.slice A n c, .int .i64 5, .int .i64 3, .int .i64 2, .int .i64 1]] w fun e w' => e = .returned (.bool false) ∧ Below w.heap.size w w' := by
  have HB : Hid (∀ o, Below w.heap.size w (w.alloc o)) := fun o => (Below.refl _ _).alloc (Nat.le_refl _) o
  have k1 : wi 5 0 1073741824 = true := by decide
  have k2 : wi 3 1 4096 = true := by decide
  have k3 : wi 2 1 64 = true := by decide
  have k4 : wi 1 1 8 = true := by decide
  have Q := Lib.hid (fun W => qfit_long A n c W h hn)
  go_enter Try.func11, Try.ntmps11
  go_wp2_with (go_at_call 16; refine (within_any _ _ _ _).mono ?_; rintro e w' ⟨rfl, rfl⟩)
  refine (Q.out _).mono ?_
  rintro e w1 ⟨rfl, rfl⟩
  go_wp2_with fail
  go_ret
  exact ⟨rfl, HB.out _⟩

/-- What stands behind the switch: what admit.May answers of the config in its variable, and numbers. -/
def AfS (w : World) (b : Nat) (le he kn : Int) (r : Bool) (wx : World) : Prop :=
  ∃ (A : Option Addr) (n c : Nat) (la ro se so : Int), Has wx b 24 (cfC A n c la ro se so) ∧ Below w.heap.size w wx ∧
    (∀ W, Below wx.heap.size wx W → Calls Try.prog 11 #[.agg #[.slice A n c, .int .i64 la, .int .i64 ro, .int .i64 se, .int .i64 so]] W fun e w' => e = .returned (.bool (!r)) ∧ Below W.heap.size W w') ∧
    ((!r) && (wi le (-4398046511104) 4398046511104 && (decide (0 ≤ he) && decide (0 ≤ kn)))) = false
theorem af_one {w wx : World} {g b : Nat} {sz la ro se so le he kn : Int} {r : Bool} (h : CoS w g b sz la ro se so wx) (hm : cfB [quT sz] la ro se so = !r) (hv : ((!r) && (wi le (-4398046511104) 4398046511104 && (decide (0 ≤ he) && decide (0 ≤ kn)))) = false) : AfS w b le he kn r wx :=
  ⟨_, 1, 1, la, ro, se, so, h.box, h.keep, fun W hW => amay_lit g 1 sz la ro se so (!r) hm W (h.below hW).qu, hv⟩
theorem CoS.put {w : World} {g b : Nat} {sz la ro se so : Int} {wr : World} (h : CoS w g b sz la ro se so wr) (i : Nat) (v : Value) {la2 ro2 se2 so2 : Int}
    (e : (cfC (some ⟨g, 0, none⟩) 1 1 la ro se so).setIfInBounds i v = cfC (some ⟨g, 0, none⟩) 1 1 la2 ro2 se2 so2) : CoS w g b sz la2 ro2 se2 so2 (wr.setCell ⟨b, i, none⟩ v) :=
  ⟨e ▸ h.box.put i v, h.qu.putFar (fun k => h.far.2.2 k) _, h.keep.setCell h.far.2.1 _, h.far⟩
theorem cf_no {qs : List Qu} {la ro se so : Int} (h : la < 0 ∨ 1073741824 < la ∨ ro < 1 ∨ 4096 < ro ∨ se < 1 ∨ 64 < se ∨ so < 1 ∨ 8 < so) : cfB qs la ro se so = false := by
  unfold cfB
  rw [limB_no h, Bool.false_and]
theorem cf_size {sz la ro se so : Int} (h : sz < 1) : cfB [quT sz] la ro se so = false := by
  unfold cfB fitQ
  rw [allQ_one, show quB (quT sz) = false by unfold quB quT mayQ; simp only; rw [wi_false (show ¬ (1 ≤ sz ∧ sz ≤ 1073741824) by omega), Bool.false_and, Bool.and_false, Bool.and_false], Bool.and_false, Bool.and_false]
theorem bytesQu : ∃ i z, Try.prog.info? 42 = some i ∧ i.zero = some z ∧ i.bytes = 64 := by
  have h : (Try.prog.info? 42).map (fun i => (i.zero.isSome, i.bytes)) = some (true, 64) := by kernel_rfl
  cases hi : Try.prog.info? 42 with
  | none => rw [hi] at h; simp at h
  | some i =>
    rw [hi] at h
    simp only [Option.map_some, Option.some.injEq, Prod.mk.injEq] at h
    obtain ⟨z, hz⟩ := Option.isSome_iff_exists.1 h.1
    exact ⟨i, z, rfl, hz, h.2⟩
theorem make_qus (n : Int) (h0 : 0 ≤ n) (h1 : n ≤ 1000000) : ∃ M : World → Array Value, ∀ w : World, (Instr.makeSlice 22 (.int .i64 n) (.int .i64 n)).run Try.prog w = .ok (.slice (some ⟨w.heap.size, 0, none⟩) n.toNat n.toNat) (w.alloc (.cells (M w) 42)) := by
  obtain ⟨i, z, hi, hz, hb⟩ := bytesQu
  exact ⟨fun _ => _, fun w => run_make w 22 42 i z Try.underlying22 hi hz .i64 .i64 n n h0 (Int.le_refl _) (by rw [hb]; omega) (by omega)⟩

set_option maxRecDepth 100000 in
set_option maxHeartbeats 4000000 in
theorem aforms_any (a0 x : Int) (w : World) (_ : (Lit.int .i64 a0).wf = true) (_ : (Lit.int .i64 x).wf = true) :
    Calls Try.prog 4 #[.int .i64 a0, .int .i64 x] w fun e w' => e = .returned (.bool true) ∧ Below w.heap.size w w' := by
  obtain ⟨k, hk, hk0, hk1⟩ : ∃ k : Int, bits .and .i64 x 1023 = k ∧ 0 ≤ k ∧ k ≤ 1023 := ⟨_, mask1023 x, by omega, by omega⟩
  obtain ⟨d, hd⟩ : ∃ d : Int, 1 + k = d := ⟨_, rfl⟩
  have hd1 : 1 ≤ d := by omega
  have hd2 : d ≤ 1024 := by omega
  have hw0 : wrap64 (1 + k) = d := by rw [IntWalk.wrap64_in _ (by omega)]; exact hd
  go_enter Try.func4, Try.ntmps4
  go_wp2_with fail
  refine (aawake_any _).mono ?_
  rintro e w1 ⟨rfl, b1⟩
  have HB : Hid (Below w.heap.size w w1) := b1
  clear b1
  go_wp2_with fail
  refine (count_any 5 3 w1).mono ?_
  rintro e w2 ⟨g, rfl, g1, g2, g3⟩
  have HS := Lib.hid (CoS.made (la := 5) (ro := 3) g1 g2 g3)
  clear g1 g2 g3
  go_upto_block 0 with fail
  generalize w2.alloc (.cells #[.slice (some ⟨g, 0, none⟩) 1 1, .int .i64 5, .int .i64 3, .int .i64 2, .int .i64 1] 24) = w3 at HS ⊢
  generalize w2.heap.size = b at HS ⊢
  obtain ⟨q, hq, eq⟩ : ∃ q : Nat, q < 15 ∧ (IntKind.u64.wrap a0).tmod 15 = q := by
    have h : 0 ≤ IntKind.u64.wrap a0 := by simp [IntKind.wrap, IntKind.bits, IntKind.signed]; omega
    have e : (IntKind.u64.wrap a0).tmod 15 = IntKind.u64.wrap a0 % 15 := Int.tmod_eq_emod_of_nonneg h
    exact ⟨(IntKind.u64.wrap a0 % 15).toNat, by omega, by omega⟩
  rw [eq]
  clear eq
  have hw0 : wrap64 (1 - d) = 1 - d := IntWalk.wrap64_in _ (by omega)
  have hw1 : wrap64 (8 + d) = 8 + d := IntWalk.wrap64_in _ (by omega)
  have hw2 : wrap64 (-d) = -d := IntWalk.wrap64_in _ (by omega)
  have hw3 : wrap64 (1073741824 + d) = 1073741824 + d := IntWalk.wrap64_in _ (by omega)
  have hw4 : wrap64 (4096 + d) = 4096 + d := IntWalk.wrap64_in _ (by omega)
  have hw5 : wrap64 (64 + d) = 64 + d := IntWalk.wrap64_in _ (by omega)
  have hw6 : wrap64 (-4398046511104 - d) = -4398046511104 - d := IntWalk.wrap64_in _ (by omega)
  have hw7 : wrap64 (4398046511104 + d) = 4398046511104 + d := IntWalk.wrap64_in _ (by omega)
  obtain ⟨M, hmk⟩ := make_qus (8 + d) (by omega) (by omega)
  go_cut [7, 8, 9, 10] (fun s t u v wx => ∃ (le he kn : Int) (r : Bool), s = .int .i64 le ∧ t = .int .i64 he ∧ u = .int .i64 kn ∧ v = .bool r ∧ Hid (AfS w1 b le he kn r wx))
  case first =>
    have hcc := cells_cf HS.out.box
    have hcm : ∀ i, w3.frozen? ⟨b, i, none⟩ = false := fun i => HS.out.box.mark i
    have hqc : ∀ i, w3.cell? ⟨g, i, none⟩ = (#[.int .i64 0, .int .i64 0, .int .i64 10, .int .i64 0, .slice none 0 0, .int .i64 0] : Array Value)[i]? := fun i => HS.out.qu.cell i
    have hqm : ∀ i, w3.frozen? ⟨g, i, none⟩ = false := fun i => HS.out.qu.mark i
    have hcc2 : ∀ o i, (w3.alloc o).cell? ⟨b, i, none⟩ = (#[.slice (some ⟨g, 0, none⟩) 1 1, .int .i64 5, .int .i64 3, .int .i64 2, .int .i64 1] : Array Value)[i]? := fun o i => (HS.out.box.alloc o).cell i
    have hcm2 : ∀ o i, (w3.alloc o).frozen? ⟨b, i, none⟩ = false := fun o i => (HS.out.box.alloc o).mark i
    have hq5 : q = 0 ∨ q = 1 ∨ q = 2 ∨ q = 3 ∨ q = 4 ∨ q = 5 ∨ q = 6 ∨ q = 7 ∨ q = 8 ∨ q = 9 ∨ q = 10 ∨ q = 11 ∨ q = 12 ∨ q = 13 ∨ q = 14 := by omega
    clear hq
    rcases hq5 with rfl | rfl | rfl | rfl | rfl | rfl | rfl | rfl | rfl | rfl | rfl | rfl | rfl | rfl | rfl
    · have h0 : Hid (AfS w1 b 10 2 1 true (w3.setCell ⟨b, 0, none⟩ (.slice none 0 0))) := ⟨none, 0, 0, 5, 3, 2, 1, HS.out.box.put 0 _, HS.out.keep.setCell HS.out.far.2.1 _, fun W _ => amay_none 5 3 2 1 W, rfl⟩
      go_wp2_with fail
      go_meet
      case rel => exact ⟨_, _, _, _, rfl, rfl, rfl, rfl, h0⟩
    · have h0 : Hid (AfS w1 b 10 2 1 true (w3.setCell ⟨g, 2, none⟩ (.int .i64 (1 - d)))) := af_one (HS.out.size (1 - d)) (cf_size (by omega)) rfl
      go_wp2_with fail
      go_meet
      case rel => exact ⟨_, _, _, _, rfl, rfl, rfl, rfl, h0⟩
    · have h0 : Hid (AfS w1 b 10 2 1 true ((w3.alloc (.cells (M w3) 42)).setCell ⟨b, 0, none⟩ (.slice (some ⟨w3.heap.size, 0, none⟩) (8 + d).toNat (8 + d).toNat))) := ⟨_, (8 + d).toNat, (8 + d).toNat, 5, 3, 2, 1, (HS.out.box.alloc _).put 0 _, (HS.out.keep.alloc HS.out.keep.size _).setCell HS.out.far.2.1 _, fun W _ => amay_long _ _ _ W (by omega) (by omega), rfl⟩
      go_wp2_with fail
      go_meet
      case rel => exact ⟨_, _, _, _, rfl, rfl, rfl, rfl, h0⟩
    · have h0 : Hid (AfS w1 b 10 2 1 true (w3.setCell ⟨b, 1, none⟩ (.int .i64 (-d)))) := af_one (HS.out.put 1 (.int .i64 (-d)) (la2 := (-d)) (ro2 := 3) (se2 := 2) (so2 := 1) rfl) (cf_no (by omega)) rfl
      go_wp2_with fail
      go_meet
      case rel => exact ⟨_, _, _, _, rfl, rfl, rfl, rfl, h0⟩
    · have h0 : Hid (AfS w1 b 10 2 1 true (w3.setCell ⟨b, 1, none⟩ (.int .i64 (1073741824 + d)))) := af_one (HS.out.put 1 (.int .i64 (1073741824 + d)) (la2 := (1073741824 + d)) (ro2 := 3) (se2 := 2) (so2 := 1) rfl) (cf_no (by omega)) rfl
      go_wp2_with fail
      go_meet
      case rel => exact ⟨_, _, _, _, rfl, rfl, rfl, rfl, h0⟩
    · have h0 : Hid (AfS w1 b 10 2 1 true (w3.setCell ⟨b, 2, none⟩ (.int .i64 (1 - d)))) := af_one (HS.out.put 2 (.int .i64 (1 - d)) (la2 := 5) (ro2 := (1 - d)) (se2 := 2) (so2 := 1) rfl) (cf_no (by omega)) rfl
      go_wp2_with fail
      go_meet
      case rel => exact ⟨_, _, _, _, rfl, rfl, rfl, rfl, h0⟩
    · have h0 : Hid (AfS w1 b 10 2 1 true (w3.setCell ⟨b, 2, none⟩ (.int .i64 (4096 + d)))) := af_one (HS.out.put 2 (.int .i64 (4096 + d)) (la2 := 5) (ro2 := (4096 + d)) (se2 := 2) (so2 := 1) rfl) (cf_no (by omega)) rfl
      go_wp2_with fail
      go_meet
      case rel => exact ⟨_, _, _, _, rfl, rfl, rfl, rfl, h0⟩
    · have h0 : Hid (AfS w1 b 10 2 1 true (w3.setCell ⟨b, 3, none⟩ (.int .i64 (1 - d)))) := af_one (HS.out.put 3 (.int .i64 (1 - d)) (la2 := 5) (ro2 := 3) (se2 := (1 - d)) (so2 := 1) rfl) (cf_no (by omega)) rfl
      go_wp2_with fail
      go_meet
      case rel => exact ⟨_, _, _, _, rfl, rfl, rfl, rfl, h0⟩
    · have h0 : Hid (AfS w1 b 10 2 1 true (w3.setCell ⟨b, 3, none⟩ (.int .i64 (64 + d)))) := af_one (HS.out.put 3 (.int .i64 (64 + d)) (la2 := 5) (ro2 := 3) (se2 := (64 + d)) (so2 := 1) rfl) (cf_no (by omega)) rfl
      go_wp2_with fail
      go_meet
      case rel => exact ⟨_, _, _, _, rfl, rfl, rfl, rfl, h0⟩
    · have h0 : Hid (AfS w1 b 10 2 1 true (w3.setCell ⟨b, 4, none⟩ (.int .i64 (1 - d)))) := af_one (HS.out.put 4 (.int .i64 (1 - d)) (la2 := 5) (ro2 := 3) (se2 := 2) (so2 := (1 - d)) rfl) (cf_no (by omega)) rfl
      go_wp2_with fail
      go_meet
      case rel => exact ⟨_, _, _, _, rfl, rfl, rfl, rfl, h0⟩
    · have h0 : Hid (AfS w1 b 10 2 1 true (w3.setCell ⟨b, 4, none⟩ (.int .i64 (8 + d)))) := af_one (HS.out.put 4 (.int .i64 (8 + d)) (la2 := 5) (ro2 := 3) (se2 := 2) (so2 := (8 + d)) rfl) (cf_no (by omega)) rfl
      go_wp2_with fail
      go_meet
      case rel => exact ⟨_, _, _, _, rfl, rfl, rfl, rfl, h0⟩
    · have h0 : Hid (AfS w1 b (-4398046511104 - d) 2 1 false w3) := af_one HS.out (by decide) (by rw [wi_false (by omega), Bool.false_and]; rfl)
      go_wp2_with fail
      go_meet
      case rel => exact ⟨_, _, _, _, rfl, rfl, rfl, rfl, h0⟩
    · have h0 : Hid (AfS w1 b (4398046511104 + d) 2 1 false w3) := af_one HS.out (by decide) (by rw [wi_false (by omega), Bool.false_and]; rfl)
      go_wp2_with fail
      go_meet
      case rel => exact ⟨_, _, _, _, rfl, rfl, rfl, rfl, h0⟩
    · have h0 : Hid (AfS w1 b 10 (-d) 1 false w3) := af_one HS.out (by decide) (by rw [decide_eq_false (show ¬ 0 ≤ -d by omega), Bool.false_and, Bool.and_false]; rfl)
      go_wp2_with fail
      go_meet
      case rel => exact ⟨_, _, _, _, rfl, rfl, rfl, rfl, h0⟩
    · have h0 : Hid (AfS w1 b 10 2 (-d) false w3) := af_one HS.out (by decide) (by rw [decide_eq_false (show ¬ 0 ≤ -d by omega), Bool.and_false, Bool.and_false]; rfl)
      go_wp2_with fail
      go_meet
      case rel => exact ⟨_, _, _, _, rfl, rfl, rfl, rfl, h0⟩
  case rest =>
    clear HS hmk
    obtain ⟨le, he, kn, r, rfl, rfl, rfl, rfl, ⟨A, n, c, la, ro, se, so, hbox, hkeep, hmay, hv⟩⟩ := hcut
    have HX := Lib.hid hbox
    have HK := Lib.hid hkeep
    have HM := Lib.hid hmay
    have hcc := cells_cf hbox
    have HV := Lib.hid (ver_badM A n c (!r) la ro se so le he kn true 0 0 0 5 0 _ hmay hv)
    clear hbox hkeep hmay hv
    go_wp2_with fail
    refine (HV.out).mono ?_
    rintro e w5 ⟨rfl, b5⟩
    have hcc5 := cells_cf (HX.out.below b5 HX.out.lt)
    have HM5 := Lib.hid (HM.out w5 b5)
    have HK5 : Hid (Below w1.heap.size w1 w5) := HK.out.trans (b5.mono HK.out.size)
    clear b5 hcc HX HK HM HV
    go_wp2_with fail
    refine (HM5.out).mono ?_
    rintro e w6 ⟨rfl, b6⟩
    have HK6 : Hid (Below w1.heap.size w1 w6) := HK5.out.trans (b6.mono HK5.out.size)
    clear b6 hcc5 HM5 HK5
    go_wp2_with (go_at_call 10; refine (wnum_any _ _).mono ?_; rintro e w' ⟨rfl, rfl⟩)
    refine (count_any 5 3 w6).mono ?_
    rintro e w7 ⟨g7, rfl, _, q7, b7⟩
    have HK7 : Hid (Below w1.heap.size w1 w7) := HK6.out.trans (b7.mono HK6.out.size)
    have HL := Lib.hid (amay_lit g7 1 10 5 3 2 1 true (by decide) w7 q7)
    clear q7 b7 HK6
    go_wp2_with fail
    refine (HL.out).mono ?_
    rintro e w8 ⟨rfl, b8⟩
    have HK8 : Hid (Below w1.heap.size w1 w8) := HK7.out.trans (b8.mono HK7.out.size)
    clear b8 HK7 HL
    go_wp2_with fail
    go_ret
    exact ⟨rfl, HB.out.trans (HK8.out.mono HB.out.size)⟩

end Go.Proofs.Ytecdeplcoggjkaa
