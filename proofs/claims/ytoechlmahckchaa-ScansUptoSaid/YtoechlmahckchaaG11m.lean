/-
  Walks: the laws' helpers SameOps of like rows, CopyOps, SpoilOps.
  Single operations of the scan laws' drawn regions.
-/
import Derived.Test.YtoechlmahckchaaG11j
import Derived.Great.Walk
namespace Go.Proofs.Ytoechlmahckchaa
open Go.RowKit

set_option maxRecDepth 100000 in
set_option maxHeartbeats 2000000 in
theorem sameops_any (A B : Option Addr) (n c d : Nat) (xs : List Po) (w : World) (h1 : Ops w A n xs) (h2 : Ops w B n xs) (hn : n ≤ 17592186044416) :
    Calls Try.prog 15 #[.slice A n c, .slice B n d] w fun e w' => e = .returned (.bool true) ∧ Below w.heap.size w w' := by
  have H1 := Lib.hid h1; clear h1
  have H2 := Lib.hid h2; clear h2
  go_enter Try.func15, Try.ntmps15
  go_wp2_with fail
  go_loopw [5] (fun i wr => ∃ j : Nat, j ≤ n ∧ i = .int .i64 j ∧ Hid (Below w.heap.size w wr)) (fun i _ => n - (intOf i).toNat)
  case atStart => exact ⟨0, Nat.zero_le _, rfl, Below.refl _ _⟩
  case round =>
    obtain ⟨j, hj, rfl, HW⟩ := hrel
    by_cases hlt : j < n
    · obtain ⟨b1, o1, rfl, i1⟩ := (H1.out.below HW.out).2 (by omega)
      obtain ⟨b2, o2, rfl, i2⟩ := (H2.out.below HW.out).2 (by omega)
      have X1 := Lib.hid (i1 j hlt)
      have X2 := Lib.hid (i2 j hlt)
      clear i1 i2
      go_upto_region 6 with fail
      refine so6_any (x := nthO xs j) (b1 := b1) (o1 := o1) (b2 := b2) (o2 := o2) (n := n) (e1 := c) (e2 := d) (q := j) ⟨rfl, rfl, rfl, rfl, X1.out, X2.out, hlt⟩ (by kernel_rfl) ?_
      intro w9 hB9
      have HB9 := Lib.hid (HW.out.trans (hB9.mono HW.out.size))
      clear hB9 X1 X2 HW
      simp only [putAll, Act.put, List.setIfInBounds_toArray, List.set_cons_succ, List.set_cons_zero]
      go_wp2_with fail
      go_roundw
      case rel => exact ⟨j + 1, by omega, by go_num, HB9⟩
      case measure => simp [intOf]; omega
    · have hjn : j = n := by omega
      subst hjn
      go_wp2_with fail
      go_ret
      exact ⟨rfl, HW.out⟩

set_option maxRecDepth 100000 in
set_option maxHeartbeats 2000000 in
theorem copyops_any (A : Option Addr) (n c : Nat) (xs : List Po) (w : World) (hr : Ops w A n xs) (hn : n ≤ 3500000000000) (hnil : A = none → c = 0 ∧ n = 0) :
    Calls Try.prog 22 #[.slice A n c] w fun e w' => ∃ A' c', e = .returned (.slice A' n c') ∧ OwnO w' w.heap.size (.slice A' n c') xs ∧ Below w.heap.size w w' := by
  have hb : Below w.heap.size w (w.alloc (.cells #[] 49)) := (Below.refl _ _).alloc (Nat.le_refl _) _
  have HO := Lib.hid (And.intro (own_emptyO w (Nat.le_refl _)) (And.intro (hr.below hb) hb))
  have hsz : w.heap.size ≤ (w.alloc (.cells #[] 49)).heap.size := hb.size
  clear hr hb
  go_enter Try.func22, Try.ntmps22
  go_wp2_with (refine app_ops rfl _ _ rfl rfl HO.out.1 rfl HO.out.2.1 hnil (by omega) hsz (fun A2 c2 w2 h1 h2 _ => ?_); have HE := Lib.hid (And.intro h1 (And.intro h2 trivial)); clear h1 h2)
  go_ret
  have h1 := HE.out.1
  rw [List.nil_append, Nat.zero_add] at h1
  exact ⟨A2, c2, rfl, h1, grow_below (grow_trans (below_grow HO.out.2.2 none) HE.out.2.1 (fun kk hkk => .inr (HO.out.1.lt hkk).2))⟩

/-- A row of operations that may be written. -/
structure SpO (w : World) (g n : Nat) (wr : World) : Prop where
  cells : ∃ t cs, Has wr g t cs ∧ ∀ i, i < n → ∃ z, cs[i * 5 + 3]? = some (.int .i64 z)
  keep : w.grownBy wr (some g)
set_option maxRecDepth 100000 in
set_option maxHeartbeats 1000000 in
theorem spoilops_any (A : Option Addr) (n c : Nat) (xs : List Po) (base : Nat) (w : World) (ho : OwnO w base (.slice A n c) xs) (hn : n ≤ 17592186044416) :
    Calls Try.prog 18 #[.slice A n c] w fun e w' => e = .returned (.tuple #[]) ∧ w.grownBy w' (Value.slice A n c).ownBlock := by
  go_enter Try.func18, Try.ntmps18
  by_cases h0 : n = 0
  · subst h0
    go_wp2_with fail
    refine wp_loop_rounds 1 ?_; rw [rounds_succ]
    go_wp2_with fail
    exact Great.bodyPost_end0 rfl rfl ⟨rfl, grow_refl _ _⟩
  · have hS : ∃ g, A = some ⟨g, 0, none⟩ ∧ SpO w g n w := by
      have hop := ho.ops
      obtain ⟨b, o, e, hc⟩ := hop.at_ (by omega)
      rcases ho.2 with ⟨e1, h1⟩ | ⟨g, cap, cur, e1, hg, hh, hn1, hc1, hs1, _⟩
      · injection e1 with e2 e3 e4
        omega
      · injection e1 with e2 e3 e4
        subst e2
        refine ⟨g, rfl, ⟨49, cur, hh, fun i hi => ⟨(nthO xs i).ti, ?_⟩⟩, grow_refl _ _⟩
        injection e with e
        injection e with e5 e6
        subst e5 e6
        have := hc i hi 3 _ rfl
        rw [show 0 + i * 5 + 3 = i * 5 + 3 by omega] at this
        rw [← Has.cell (g := g) (w := w) hh (i * 5 + 3)]; exact this
    obtain ⟨g, rfl, hS⟩ := hS
    clear ho
    have HS := Lib.hid hS; clear hS
    go_wp2_with fail
    go_loopw [2] (fun i wr => ∃ j : Nat, j ≤ n ∧ i = .int .i64 j ∧ Hid (SpO w g n wr)) (fun i _ => n - (intOf i).toNat)
    case atStart => exact ⟨0, Nat.zero_le _, rfl, HS⟩
    case round =>
      clear HS
      obtain ⟨j, hj, rfl, HS⟩ := hrel
      by_cases hlt : j < n
      · obtain ⟨t, cs, hh, hz⟩ := HS.out.cells
        obtain ⟨z, hz1⟩ := hz j hlt
        have hcell : wr.cell? ⟨g, j * 5 + 3, none⟩ = some (.int .i64 z) := (hh.cell (j * 5 + 3)).trans hz1
        have hmark := hh.mark (j * 5 + 3)
        have hjn : (j : Int) < (n : Int) := by omega
        have HZ := Lib.hid hz; clear hz
        have HH := Lib.hid hh; clear hh
        have HZ1 := Lib.hid hz1; clear hz1
        go_wp2_with fail
        go_roundw
        case rel =>
          refine ⟨j + 1, by omega, by go_num, ⟨t, _, HH.out.put (j * 5 + 3) _, fun i hi => ?_⟩, grow_set HS.out.keep (.inl rfl) _ rfl _⟩
          by_cases e : j = i
          · subst e
            have hl : j * 5 + 3 < cs.size := (Array.getElem?_eq_some_iff.1 HZ1.out).1
            exact ⟨_, by rw [Array.getElem?_setIfInBounds_self_of_lt hl]⟩
          · obtain ⟨z2, hz2⟩ := HZ.out i hi
            exact ⟨z2, by rw [Array.getElem?_setIfInBounds_ne (by omega)]; exact hz2⟩
        case measure => simp [intOf]; omega
      · have hjn : j = n := by omega
        subst hjn
        go_wp2_with fail
        exact Great.bodyPost_end0 rfl rfl ⟨rfl, HS.out.keep⟩

end Go.Proofs.Ytoechlmahckchaa

namespace Go.Proofs.Ytoechlmahckchaa
open Go.RowKit

/-- A row of n operations that is written out. -/
def rowsF (n : Nat) (xs : List Po) : Fact := fun v w => ∃ h : Nat, v = .slice (some ⟨h, 0, none⟩) n n ∧ Ops w (some ⟨h, 0, none⟩) n xs
theorem rowsF_mono (n : Nat) (xs : List Po) : Mono (rowsF n xs) := fun _ _ _ hb ⟨h, e, hh⟩ => ⟨h, e, hh.below hb⟩
theorem ops_made (w : World) (xs : List Po) (hx : xs.length ≤ 1000) {cs : Array Value} (hc : cs.toList = xs.flatMap opL) : Ops (w.alloc (.cells cs 49)) (some ⟨w.heap.size, 0, none⟩) xs.length xs := (own_litO w (Nat.le_refl _) xs hx hc).ops
section
variable {D : List (Option Tmp)} {Φ : Fact} {o : Oper} {a : Act} {w : World}
theorem rf_eqS (hw : Region.wanted o (yieldD D a.tmps) = true) {t : Tmp} (hd : o.dst = some t) (x y : Operand) (ho : o.op = .binOp .eql 9 x y 9) (p : ByteArray) (hx : a.eval x = .string p) (hy : a.eval y = .string p) (h : Φ (.bool true) w) : StepD Try.prog D Φ o a w :=
  step_val hw hd _ w (by unfold execOp; rw [ho]; generalize a.eval = ev at hx hy ⊢; simp [hx, hy, go_sem]) (Below.refl _ _) h
theorem rf_neS (hw : Region.wanted o (yieldD D a.tmps) = true) {t : Tmp} (hd : o.dst = some t) (x y : Operand) (ho : o.op = .binOp .neq 9 x y 9) (p : ByteArray) (hx : a.eval x = .string p) (hy : a.eval y = .string p) (h : Φ (.bool false) w) : StepD Try.prog D Φ o a w :=
  step_val hw hd _ w (by unfold execOp; rw [ho]; generalize a.eval = ev at hx hy ⊢; simp [hx, hy, go_sem]) (Below.refl _ _) h
theorem rf_lenT (hw : Region.wanted o (yieldD D a.tmps) = true) {t : Tmp} (hd : o.dst = some t) (x : Operand) (ho : o.op = .call { callee := .builtin .len, args := #[x], argTypes := #[9] }) (p : ByteArray) (hx : a.eval x = .string p) (h : Φ (.int .i64 p.size) w) : StepD Try.prog D Φ o a w :=
  step_val hw hd _ w (by unfold execOp; rw [ho]; generalize a.eval = ev at hx ⊢; simp [hx, go_sem]) (Below.refl _ _) h
theorem rf_neP (hw : Region.wanted o (yieldD D a.tmps) = true) {t : Tmp} (hd : o.dst = some t) (x : Operand) (ho : o.op = .binOp .neq 23 x (.const (.pointer none)) 23) (g : Addr) (hx : a.eval x = .pointer (some g)) (h : Φ (.bool true) w) : StepD Try.prog D Φ o a w :=
  step_val hw hd _ w (by
    unfold execOp; rw [ho]
    have hk : a.eval (.const (.pointer none)) = .pointer none := rfl
    generalize a.eval = ev at hx hk ⊢
    simp [hx, hk, go_sem]) (Below.refl _ _) h
theorem rf_cutT (hw : Region.wanted o (yieldD D a.tmps) = true) {t : Tmp} (hd : o.dst = some t) (x y : Operand) (l : Int) (ho : o.op = .slice 9 x none (some y) none) (s : ByteArray) (hx : a.eval x = .string s) (hy : a.eval y = .int .i64 l) (h0 : 0 ≤ l) (h1 : l ≤ s.size) {v : Value} (hv : .string (s.extract 0 l.toNat) = v) (h : Φ v w) : StepD Try.prog D Φ o a w :=
  step_val hw hd v w (by subst hv; unfold execOp; rw [ho]; have e := run_slice_string_h (P := Try.prog) w 9 s Try.underlying9 .i64 l h0 h1; generalize a.eval = ev at hx hy ⊢; simp [hx, hy, e, go_sem]) (Below.refl _ _) h
theorem rf_cutF (hw : Region.wanted o (yieldD D a.tmps) = true) {t : Tmp} (hd : o.dst = some t) (x y : Operand) (l : Int) (ho : o.op = .slice 9 x (some y) none none) (s : ByteArray) (hx : a.eval x = .string s) (hy : a.eval y = .int .i64 l) (h0 : 0 ≤ l) (h1 : l ≤ s.size) {v : Value} (hv : .string (s.extract l.toNat s.size) = v) (h : Φ v w) : StepD Try.prog D Φ o a w :=
  step_val hw hd v w (by subst hv; unfold execOp; rw [ho]; have e := run_slice_string_l (P := Try.prog) w 9 s Try.underlying9 .i64 l h0 h1; generalize a.eval = ev at hx hy ⊢; simp [hx, hy, e, go_sem]) (Below.refl _ _) h
theorem rf_badO (hw : Region.wanted o (yieldD D a.tmps) = true) {t : Tmp} (hd : o.dst = some t) (y : Operand) (ho : o.op = .build 49 #[(0, .const (.int .i64 3)), (4, y)]) (k : Nat) (hy : a.eval y = .int .i64 k) (h : Φ (.agg #[.int .i64 (badP k).k, .int .i64 (badP k).so, .int .i64 (badP k).se, .int .i64 (badP k).ti, .int .i64 (badP k).va]) w) : StepD Try.prog D Φ o a w :=
  step_val hw hd _ w (by
    unfold execOp; rw [ho]
    have hk : a.eval (.const (.int .i64 3)) = .int .i64 3 := rfl
    generalize a.eval = ev at hy hk ⊢
    simp [hy, hk, go_sem, badP]) (Below.refl _ _) h
theorem rf_list1 (hw : Region.wanted o (yieldD D a.tmps) = true) {t : Tmp} (hd : o.dst = some t) (x : Operand) (ho : o.op = .buildSlice 34 1 #[(0, x)]) (y : Po) (hx : a.eval x = .agg #[.int .i64 y.k, .int .i64 y.so, .int .i64 y.se, .int .i64 y.ti, .int .i64 y.va])
    (h : ∀ v w', rowsF 1 [y] v w' → Φ v w') : StepD Try.prog D Φ o a w := by
  refine step_val hw hd _ (w.alloc (.cells (opC y) 49)) ?_ ((Below.refl _ _).alloc (Nat.le_refl _) _) (h (.slice (some ⟨w.heap.size, 0, none⟩) 1 1) _ ⟨_, rfl, ops_made w [y] (by simp) rfl⟩)
  unfold execOp
  rw [ho]
  simp only [List.map_toArray, List.map_cons, List.map_nil, hx]
  simp [go_sem, opC]
theorem rf_list2 (hw : Region.wanted o (yieldD D a.tmps) = true) {t : Tmp} (hd : o.dst = some t) (x x' : Operand) (ho : o.op = .buildSlice 34 2 #[(0, x), (1, x')]) (y y' : Po) (hx : a.eval x = .agg #[.int .i64 y.k, .int .i64 y.so, .int .i64 y.se, .int .i64 y.ti, .int .i64 y.va]) (hx' : a.eval x' = .agg #[.int .i64 y'.k, .int .i64 y'.so, .int .i64 y'.se, .int .i64 y'.ti, .int .i64 y'.va])
    (h : ∀ v w', rowsF 2 [y, y'] v w' → Φ v w') : StepD Try.prog D Φ o a w := by
  refine step_val hw hd _ (w.alloc (.cells #[.int .i64 y.k, .int .i64 y.so, .int .i64 y.se, .int .i64 y.ti, .int .i64 y.va, .int .i64 y'.k, .int .i64 y'.so, .int .i64 y'.se, .int .i64 y'.ti, .int .i64 y'.va] 49)) ?_ ((Below.refl _ _).alloc (Nat.le_refl _) _) (h (.slice (some ⟨w.heap.size, 0, none⟩) 2 2) _ ⟨_, rfl, ops_made w [y, y'] (by simp) rfl⟩)
  unfold execOp
  rw [ho]
  simp only [List.map_toArray, List.map_cons, List.map_nil, hx, hx']
  simp [go_sem]
end

end Go.Proofs.Ytoechlmahckchaa
