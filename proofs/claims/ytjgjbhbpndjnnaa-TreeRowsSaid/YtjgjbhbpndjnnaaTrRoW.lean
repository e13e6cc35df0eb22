/-
  Walk: TreeRows: items stand by time, then by number, in whatever row they came.
-/
import Derived.Test.YtjgjbhbpndjnnaaTrRoR
import Derived.Test.YtjgjbhbpndjnnaaG53
import Derived.Lib.MinMax
import Derived.IntWalk
namespace Go.Proofs.Ytjgjbhbpndjnnaa
open Go.RowKit

def roF (xs : List Int) (i : Nat) : It := ⟨1, nth xs i % 16, (i : Int) + 1, nth xs i / 64 % 64 - 30⟩
theorem maskR15 (x : Int) : bits .and .i64 x 15 = x % 16 := mask_of x 4 15 (by decide) (by decide)
theorem maskR63 (x : Int) : bits .and .i64 x 63 = x % 64 := mask_of x 6 63 (by decide) (by decide)
theorem roFam (xs : List Int) : Fam 1 (roF xs) := ⟨fun _ => rfl, fun _ => rfl, fun i hi => itemB_iff.2 (by simp only [roF]; omega)⟩
theorem placeR (x : Int) (k : Nat) : ∃ m : Nat, m ≤ k ∧ (IntKind.u64.wrap x).tmod ((k : Int) + 1) = (m : Int) := by
  have h1 : 0 ≤ IntKind.u64.wrap x := by rw [IntKind.wrap_u64]; omega
  have h2 := Int.tmod_nonneg ((k : Int) + 1) h1
  have h3 := Int.tmod_lt_of_pos (IntKind.u64.wrap x) (show (0 : Int) < (k : Int) + 1 by omega)
  obtain ⟨m, hm⟩ := Int.eq_ofNat_of_zero_le h2
  exact ⟨m, by omega, hm⟩
theorem rowsP {f : Nat → It} (F : Fam 1 f) {k : Nat} (hk : k ≤ 40) (m : Nat) :
    fitT [] (rowF f k) = true ∧ NewS [] (rowF f k) ∧ fitT [] ((rowF f k).drop m) = true ∧ NewS [] ((rowF f k).drop m) ∧ fitT (insAll [] ((rowF f k).drop m)) ((rowF f k).take m) = true ∧ NewS (insAll [] ((rowF f k).drop m)) ((rowF f k).take m) ∧
      insAll (insAll [] ((rowF f k).drop m)) ((rowF f k).take m) = insAll [] (rowF f k) ∧ StrS (insAll [] (rowF f k)) ∧ (insAll [] (rowF f k)).length = k := by
  have h0 : ItsT [0] (rowF f k) := F.its (by decide) (by omega)
  have hn := F.news k
  have hl := rowF_len f k
  generalize rowF f k = xs at h0 hn hl
  have hd : ItsT [0] (xs.drop m) := h0.sublist (List.drop_sublist _ _)
  have hnd : NewS [] (xs.drop m) := hn.sublist (List.drop_sublist _ _)
  have hit : ItsT [0] (insAll [] (xs.drop m)) := hd.perm (by simpa using insAll_perm [] (xs.drop m))
  have hp : (insAll [] (xs.drop m) ++ xs.take m).Perm xs := by
    have h1 : (insAll [] (xs.drop m)).Perm (xs.drop m) := by simpa using insAll_perm [] (xs.drop m)
    have h2 : (xs.drop m ++ xs.take m).Perm (xs.take m ++ xs.drop m) := List.perm_append_comm
    rw [List.take_append_drop] at h2
    exact (h1.append_right _).trans h2
  have hp2 : ∀ x, x ∈ xs.take m → ∀ y, y ∈ xs.drop m → ¬ (x.t = y.t ∧ x.q = y.q) := by
    have := hn.2
    rw [← List.take_append_drop m xs] at this
    exact (List.pairwise_append.1 this).2.2
  have hnn : NewS (insAll [] (xs.drop m)) (xs.take m) := ⟨fun x hx => twinB_no.2 fun y hy e => hp2 x hx y (insAll_mem.1 hy) ⟨e.1.symm, e.2.symm⟩, hn.2.sublist (List.take_sublist _ _)⟩
  refine ⟨(fitT_iff (ItsT.nil (by decide) (bs := [0]))).2 h0, hn, (fitT_iff (ItsT.nil (by decide) (bs := [0]))).2 hd, hnd, (fitT_iff hit).2 (h0.perm hp), hnn, ?_, insAll_str List.Pairwise.nil hn, by rw [insAll_len, hl]⟩
  refine StrS.eq (insAll_str (insAll_str List.Pairwise.nil hnd) hnn) (insAll_str List.Pairwise.nil hn) fun y => ?_
  rw [(insAll_perm _ _).mem_iff, hp.mem_iff, insAll_mem]
/-- Two that stand beside one another. -/
theorem rowsN {R : List It} (h : StrS R) {j : Nat} (h1 : 1 ≤ j) (h2 : j < R.length) : ¬ (nthI R j).t < (nthI R (j - 1)).t ∧ ((nthI R j).t = (nthI R (j - 1)).t → ¬ (nthI R j).q ≤ (nthI R (j - 1)).q) := by
  have e := List.pairwise_iff_getElem.1 h (j - 1) j (by omega) h2 (by omega)
  have n1 : nthI R j = R[j] := by unfold nthI; rw [List.getD_eq_getElem?_getD, List.getElem?_eq_getElem h2]; rfl
  have n2 : nthI R (j - 1) = R[j - 1] := by unfold nthI; rw [List.getD_eq_getElem?_getD, List.getElem?_eq_getElem (by omega)]; rfl
  rw [lt2_iff] at e
  rw [n1, n2]
  omega
set_option maxRecDepth 100000 in
/-- 'xs[u:]' of items, in the block of xs. -/
theorem cut_fromB {ops : Array Oper} {rest : List Oper} {op : Oper} {p : Act} {w : World} {Q : Exit → Act → World → Prop} (hgd : op.guard = none) (x y : Operand) (ho : op.op = .slice 52 x (some y) none none)
    {D : Option Addr} {n e u : Nat} {z : Int} {xs : List It} (hx : p.eval x = .slice D n e) (hy : p.eval y = .int .i64 z) (hz : z = (u : Int)) (hu : u ≤ n) (hn : n ≤ e) (hr : Items w D n xs)
    (h : ∀ D' m c, m = n - u → Items w D' m (xs.drop u) → (∀ ad', D' = some ad' → ∃ ad, D = some ad ∧ ad'.block = ad.block) → wpList Try.prog ops Q rest (p.put op.dst (.slice D' m c)) w) : wpList Try.prog ops Q (op :: rest) p w :=
  wpList_plain hgd fun _ hK => by
    subst hz
    have hs : (Instr.sliceAt 52 (.slice D n e) (some (.int .i64 (u : Int))) none none).run Try.prog w = .ok (.slice (if e = u then D else D.map (·.add (u * 4))) (n - u) (e - u)) w := by
      rw [run_sliceAt_slice w _ _ _ _ _ elem_it, run_slice_l w _ D n e elem_it .i64 (u : Int) (by omega) (by omega), size_itE]
      simp only [Result.andThen_ok, sliced, Int.toNat_natCast]
    have ha : Items w (if e = u then D else D.map (·.add (u * 4))) (n - u) (xs.drop u) := by
      by_cases hlt : u < n
      · obtain ⟨b, o, rfl, _⟩ := hr.2 (by omega)
        rw [if_neg (by omega)]
        have he : (Option.map (fun x => Addr.add x (u * 4)) (some (⟨b, o, none⟩ : Addr))) = some ⟨b, o + u * 4, none⟩ := by simp [Addr.add]
        rw [he]
        exact Items.drop hr hu
      · have : n - u = 0 := by omega
        rw [this, List.drop_of_length_le (by rw [hr.1]; omega)]
        exact Items.nil _ _
    unfold Oper.wp execOp
    simp only [ho, Option.map_some, Option.map_none, hx, hy, Sem.run_bind, hs, Result.andThen_ok]
    refine hK _ _ (h _ _ _ rfl ha fun ad' e0 => ?_)
    by_cases e1 : e = u
    · rw [if_pos e1] at e0; exact ⟨ad', e0, rfl⟩
    · rw [if_neg e1] at e0
      cases D with
      | none => cases e0
      | some a => injection e0 with e0; exact ⟨a, rfl, by rw [← e0]; obtain ⟨b, o, s⟩ := a; cases s <;> (simp only [Addr.add]; split <;> rfl)⟩
/-- An Insert into the one, the other stays. -/
theorem grow_off {w wr w' : World} {O P : Nat → Prop} {g : Nat} {bs : List Int} {R : List It} (l : LT w P g bs R wr) (h : ∀ k, O k → ¬ P k) : ∀ k, GrowT O wr w' k → ¬ P k := fun k hk hp => by
  rcases hk with hk | hk
  · exact h k hk hp
  · have := l.hi k hp; omega
/-- In the midst of the first loop. -/
def RoI (w3 : World) (f : Nat → It) (j : Nat) (V : Value) (wr : World) : Prop := OwnIt wr w3.heap.size V (rowF f j) ∧ Below w3.heap.size w3 wr
theorem RoI.lo {w3 wr : World} {f : Nat → It} {j n c g : Nat} {A : Option Addr} (h : RoI w3 f j (.slice A n c) wr) (hg : g < w3.heap.size) : ∀ ad, A = some ad → ad.block ≠ g := fun ad e => by
  have := (World.ownsRow.lt h.1 ad.block (by rw [e]; rfl)).1
  omega

set_option maxRecDepth 100000 in
set_option maxHeartbeats 2000000 in
theorem treerows_any (A : Option Addr) (n c : Nat) (xs : List Int) (x1 : Int) (w : World) (hI : Ints w A n xs) (_ : n ≤ maxLen) (_ : ∀ x ∈ xs, (Lit.int .i64 x).wf = true) (_ : (Lit.int .i64 x1).wf = true) :
    Calls Try.prog 8 #[.slice A n c, .int .i64 x1] w fun e w' => e = .returned (.bool true) ∧ Below w.heap.size w w' := by
  obtain ⟨f, hf⟩ : ∃ f, roF xs = f := ⟨_, rfl⟩
  obtain ⟨k, hmk, hkn, hk40⟩ : ∃ k : Nat, min (n : Int) 40 = (k : Int) ∧ k ≤ n ∧ k ≤ 40 := by
    by_cases h : (n : Int) ≤ 40
    · exact ⟨n, by omega, Nat.le_refl _, by omega⟩
    · exact ⟨40, by omega, by omega, Nat.le_refl _⟩
  have HF := Lib.hid hf
  have HFAM := Lib.hid (hf ▸ roFam xs)
  have HI := Lib.hid hI
  clear hI hf
  go_enter Try.func8, Try.ntmps8
  go_wp2_with fail
  refine (aw19_any w).mono ?_
  rintro e w1 ⟨rfl, b1⟩
  have B1 := Lib.hid (b1.alloc b1.size (.cells #[.int .i64 0] 3))
  clear b1
  go_wp2_with fail
  refine (tnew_ok (some ⟨w1.heap.size, 0, none⟩) 1 1 [0] _ (ints_of_has (Has.made _ _ _) rfl) (fun e => by cases e) (by decide)).mono ?_
  rintro e w2 ⟨g, rfl, hq, hb⟩
  have L1 := Lib.hid (LT.new B1.out hq hb)
  clear hq hb B1
  generalize (fun k => (w1.alloc (.cells #[.int .i64 0] 3)).heap.size ≤ k ∧ k < w2.heap.size) = O at L1
  have B2 := Lib.hid (L1.out.keep.alloc L1.out.keep.size (.cells #[.int .i64 0] 3))
  go_wp2_with fail
  refine (tnew_ok (some ⟨w2.heap.size, 0, none⟩) 1 1 [0] _ (ints_of_has (Has.made _ _ _) rfl) (fun e => by cases e) (by decide)).mono ?_
  rintro e w3 ⟨gu, rfl, hq, hb⟩
  have hal := (Below.refl w2.heap.size w2).alloc (Nat.le_refl _) (.cells #[.int .i64 0] 3)
  have L2x : ∃ P : Nat → Prop, LT w O g [0] [] w3 ∧ LT w P gu [0] [] w3 ∧ (∀ k, O k → ¬ P k) := ⟨_, L1.out.below (hal.trans (hb.mono (by simp))), LT.new B2.out hq hb, fun k hk hp => by have := L1.out.hi k hk; have := hp.1; simp at this; omega⟩
  obtain ⟨P, l2⟩ := L2x
  have L2 := Lib.hid l2
  clear l2 hal hq hb L1 B2
  go_wp2_with (go_at_call 16; refine (num0_any _ _).mono ?_; rintro e w' ⟨rfl, rfl⟩)
  have HS : Hid (RoI w3 f 0 (.slice none 0 0) w3) := ⟨OwnIt.nil _ _, Below.refl _ _⟩
  go_loopw [10, 11] (fun V i wr => ∃ (j : Nat) (B : Option Addr) (d : Nat), j ≤ k ∧ i = .int .i64 j ∧ V = .slice B j d ∧ Hid (RoI w3 f j (.slice B j d) wr)) (fun _ i _ => k - (intOf i).toNat)
  case atStart => exact ⟨0, none, 0, Nat.zero_le _, rfl, rfl, HS⟩
  case round =>
    clear HS
    obtain ⟨j, B, d, hjk, rfl, rfl, HS⟩ := hrel
    by_cases hlt : j < k
    · have hz1 : (j : Int) < (k : Int) := by omega
      have hIr := HI.out.below (L2.out.1.keep.trans (HS.out.2.mono L2.out.1.keep.size))
      obtain ⟨bb, o, rfl, hc⟩ := hIr.at_ (show j < n by omega)
      have HC := Lib.hid (hc j (show j < n by omega))
      have hfj : f j = ⟨1, nth xs j % 16, (j : Int) + 1, nth xs j / 64 % 64 - 30⟩ := by rw [← HF.out]; rfl
      have HFJ := Lib.hid hfj
      clear hfj hIr hc
      go_upto_region 12 with fail
      refine tr12_any (b := bb) (oo := o) (n := n) (c := c) (jj := j) (x := nth xs j) (t1 := nth xs j % 16) (sh := nth xs j / 64 % 64) (v1 := nth xs j / 64 % 64 - 30) (vo := .slice B j d) ⟨rfl, rfl, rfl, rfl, by omega, by omega, fun w' hb => (hb.cell (block_lt_of_cell HC.out)).trans HC.out, maskR15 _, maskR63 _, rfl, by omega⟩ (by kernel_rfl) (fun _ _ h => h) ?_
      intro e71 w5 hB5 hE
      have HX := Lib.hid (show Has w5 e71 23 (itemL (f j)).toArray from by rw [HFJ.out]; exact hE.1)
      have HO5 := Lib.hid (HS.out.1.below hB5)
      have HK5 := Lib.hid (HS.out.2.trans (hB5.mono HS.out.2.size))
      clear hB5 hE HC HFJ
      simp only [putAll, Act.put, List.setIfInBounds_toArray, List.set_cons_succ, List.set_cons_zero, List.drop_succ_cons, List.drop_zero]
      have HLEN := Lib.hid (rowF_len f j)
      have HSUC := Lib.hid (rowF_succ f j)
      go_wp2_with (at_builtin; refine app_its (v := .slice B j d) (ys := [f j]) rfl _ _ rfl rfl HO5.out rfl (items_has (xs := [f j]) HX.out rfl) (fun e => by cases e) HLEN.out (by have := hk40; show (j + 1) * 32 ≤ _; omega) HK5.out.size ?_; intro B6 m6 d6 w6 hm6 ho6 hg6 _; rw [← HSUC.out] at ho6; have HS6 : Hid (RoI w3 f (j + 1) (.slice B6 m6 d6) w6) := ⟨ho6, HK5.out.trans ((grow_below hg6 (fun b e => (World.ownsRow.lt HO5.out b e).1) HK5.out.size))⟩; clear ho6 hg6; have hm6 : m6 = j + 1 := hm6; subst hm6)
      go_roundw
      case rel => exact ⟨j + 1, B6, d6, by omega, by go_num, rfl, HS6⟩
      case measure => simp [intOf]; omega
    · obtain rfl : j = k := by omega
      obtain ⟨m, hmj, hmod⟩ := placeR x1 j
      have hw2 : wrap64 (m : Int) = (m : Int) := IntWalk.wrap64_in _ (by omega)
      obtain ⟨p1, p2, p3, p4, p5, p6, p7, p8, p9⟩ := rowsP HFAM.out hk40 m
      have hlen := rowF_len f j
      have hg1 := L2.out.1.g_in.2.2
      have hg2 := L2.out.2.1.g_in.2.2
      have HP7 := Lib.hid p7
      have HP8 := Lib.hid p8
      have HP9 := Lib.hid p9
      have HT := Lib.hid ((L2.out.1.below HS.out.2).insert (c := d) HS.out.1.items (HS.out.lo hg1) p1 p2)
      have HA := Lib.hid (show LT w P gu [0] [] wr ∧ (∀ k, O k → ¬ P k) ∧ OwnIt wr w3.heap.size (.slice B j d) (rowF f j) ∧ (∀ ad, B = some ad → w3.heap.size ≤ ad.block) ∧ j ≤ d from ⟨L2.out.2.1.below HS.out.2, L2.out.2.2, HS.out.1, fun ad e => (World.ownsRow.lt HS.out.1 ad.block (by rw [e]; rfl)).1, HS.out.1.cap.1⟩)
      have HLG := Lib.hid (L2.out.1.below HS.out.2).g_in
      clear L2 HS HI HF HFAM p1 p2 p7 p8 p9
      go_upto_region 14 with fail
      go_wp2_with fail
      refine HT.out.mono ?_
      rintro e w5 ⟨rfl, l, hbs⟩
      have A1x : ∃ O5 : Nat → Prop, LT w O5 g [0] (insAll [] (rowF f j)) w5 ∧ LT w P gu [0] [] w5 ∧ (∀ k, O5 k → ¬ P k) ∧ OwnIt w5 w3.heap.size (.slice B j d) (rowF f j) :=
        ⟨_, l, HA.out.1.butS hbs (fun h => HA.out.2.1 _ HLG.out.1 h) HLG.out.2.1, grow_off HA.out.1 HA.out.2.1, HA.out.2.2.1.butS hbs fun b e hm => by
          have := (World.ownsRow.lt HA.out.2.2.1 b e).1
          rw [List.mem_singleton] at hm
          omega⟩
      obtain ⟨O5, a1⟩ := A1x
      have A1 := Lib.hid a1
      clear a1 l hbs HT
      have hdd := HA.out.2.2.2.2
      go_wp2_with (refine cut_fromB rfl _ _ rfl (n := j) (u := m) (xs := rowF f j) rfl rfl rfl hmj hdd A1.out.2.2.2.items ?_; intro D' m' c' hm' hi' hbl'; subst hm')
      have HT2 := Lib.hid (A1.out.2.1.insert (c := c') hi' (fun ad e => by obtain ⟨ad2, e2, e3⟩ := hbl' ad e; have := HA.out.2.2.2.1 ad2 e2; omega) p3 p4)
      clear hi' hbl' p3 p4
      refine HT2.out.mono ?_
      rintro e w6 ⟨rfl, l, hbs⟩
      have A2x : ∃ P6 : Nat → Prop, LT w O5 g [0] (insAll [] (rowF f j)) w6 ∧ LT w P6 gu [0] (insAll [] ((rowF f j).drop m)) w6 ∧ (∀ k, O5 k → ¬ P6 k) ∧ OwnIt w6 w3.heap.size (.slice B j d) (rowF f j) :=
        ⟨_, A1.out.1.butS hbs (fun h => A1.out.2.2.1 _ h A1.out.2.1.g_in.1) A1.out.2.1.g_in.2.1, l, fun k hk hp => grow_off A1.out.1 (fun k hk hp => A1.out.2.2.1 k hp hk) k hp hk, A1.out.2.2.2.butS hbs fun b e hm => by
          have := (World.ownsRow.lt HA.out.2.2.1 b e).1
          rw [List.mem_singleton] at hm
          omega⟩
      obtain ⟨P6, a2⟩ := A2x
      have A2 := Lib.hid a2
      clear a2 l hbs HT2 A1
      have HT3 := Lib.hid (A2.out.2.1.insert (n := m) (c := d) (A2.out.2.2.2.items.take hmj) (fun ad e => by have := HA.out.2.2.2.1 ad e; omega) p5 p6)
      go_wp2_with (refine cut_toIt rfl _ _ rfl (u := m) rfl rfl rfl (Nat.le_trans hmj hdd) ?_)
      refine HT3.out.mono ?_
      rintro e w7 ⟨rfl, l, hbs⟩
      rw [HP7.out] at l
      have A3x : ∃ P7 : Nat → Prop, LT w O5 g [0] (insAll [] (rowF f j)) w7 ∧ LT w P7 gu [0] (insAll [] (rowF f j)) w7 := ⟨_, A2.out.1.butS hbs (fun h => A2.out.2.2.1 _ h A2.out.2.1.g_in.1) A2.out.2.1.g_in.2.1, l⟩
      obtain ⟨P7, a3⟩ := A3x
      have A3 := Lib.hid a3
      clear a3 l hbs HT3 A2 HA HLG HP7 p5 p6 hlen hg1 hg2 hdd hmj
      generalize insAll [] (rowF f j) = R at HP8 HP9 A3
      go_wp2_with fail
      refine A3.out.1.q.items.mono ?_
      rintro e w8 ⟨A8, c8, rfl, ho8, hb8⟩
      have A4 := Lib.hid (show LT w O5 g [0] R w8 ∧ LT w P7 gu [0] R w8 ∧ Items w8 A8 R.length R from ⟨A3.out.1.below hb8, A3.out.2.below hb8, ho8.items⟩)
      clear ho8 hb8 A3
      have HB0 : Hid (Below w8.heap.size w8 w8) := Below.refl _ _
      go_wp2_with fail
      go_loopw [17] (fun i wr => ∃ q : Nat, 1 ≤ q ∧ (q ≤ R.length ∨ q = 1) ∧ i = .int .i64 q ∧ Hid (Below w8.heap.size w8 wr)) (fun i _ => R.length - (intOf i).toNat)
      case atStart => exact ⟨1, Nat.le_refl _, .inr rfl, rfl, HB0⟩
      case round =>
        clear HB0
        obtain ⟨q, hq1, hqR, rfl, HB⟩ := hrel
        by_cases hq : q < R.length
        · have hz : (q : Int) < (R.length : Nat) := by omega
          have hqs : q < 10000 := by have := HP9.out; omega
          obtain ⟨s1, s2⟩ := rowsN HP8.out hq1 hq
          have hIr := A4.out.2.2.below HB.out
          obtain ⟨bb, o, rfl, hc⟩ := hIr.2 (by omega)
          have c1 : wr.cell? ⟨bb, o + q * 4 + 1, none⟩ = some (.int .i64 (nthI R q).t) := hc q hq 1 _ rfl
          have c2 : wr.cell? ⟨bb, o + q * 4 + 2, none⟩ = some (.int .i64 (nthI R q).q) := hc q hq 2 _ rfl
          have c3 : wr.cell? ⟨bb, o + (q - 1) * 4 + 1, none⟩ = some (.int .i64 (nthI R (q - 1)).t) := hc (q - 1) (by omega) 1 _ rfl
          have c4 : wr.cell? ⟨bb, o + (q - 1) * 4 + 2, none⟩ = some (.int .i64 (nthI R (q - 1)).q) := hc (q - 1) (by omega) 2 _ rfl
          have hc := Lib.hid (show _ ∧ _ ∧ _ ∧ _ from ⟨c1, c2, c3, c4⟩)
          clear hIr c1 c2 c3 c4
          go_upto_region 21 with fail
          by_cases he : (nthI R q).t = (nthI R (q - 1)).t
          · refine tr21e_any (b := bb) (oo := o) (n := R.length) (c := c8) (jj := q) (jp := q - 1) (ta := (nthI R q).t) (qa := (nthI R q).q) (tp := (nthI R (q - 1)).t) (qp := (nthI R (q - 1)).q) ⟨rfl, rfl, rfl, hq, by omega, by omega, hqs, fun w' hb => (hb.cell (block_lt_of_cell hc.out.1)).trans hc.out.1, fun w' hb => (hb.cell (block_lt_of_cell hc.out.2.2.1)).trans hc.out.2.2.1, fun w' hb => (hb.cell (block_lt_of_cell hc.out.2.1)).trans hc.out.2.1, fun w' hb => (hb.cell (block_lt_of_cell hc.out.2.2.2)).trans hc.out.2.2.2, decide_eq_false s1, decide_eq_true he, decide_eq_false (s2 he)⟩ (by kernel_rfl) ?_
            intro w9 hB9
            have HB9 := Lib.hid (HB.out.trans (hB9.mono HB.out.size))
            clear hB9 hc
            simp only [putAll, Act.put, List.setIfInBounds_toArray, List.set_cons_succ, List.set_cons_zero]
            go_wp2_with fail
            go_roundw
            case rel => exact ⟨q + 1, by omega, .inl (by omega), by go_num, HB9⟩
            case measure => simp [intOf]; omega
          · refine tr21n_any (b := bb) (oo := o) (n := R.length) (c := c8) (jj := q) (jp := q - 1) (ta := (nthI R q).t) (qa := (nthI R q).q) (tp := (nthI R (q - 1)).t) (qp := (nthI R (q - 1)).q) ⟨rfl, rfl, rfl, hq, by omega, by omega, hqs, fun w' hb => (hb.cell (block_lt_of_cell hc.out.1)).trans hc.out.1, fun w' hb => (hb.cell (block_lt_of_cell hc.out.2.2.1)).trans hc.out.2.2.1, decide_eq_false s1, decide_eq_false he⟩ (by kernel_rfl) ?_
            intro w9 hB9
            have HB9 := Lib.hid (HB.out.trans (hB9.mono HB.out.size))
            clear hB9 hc
            simp only [putAll, Act.put, List.setIfInBounds_toArray, List.set_cons_succ, List.set_cons_zero]
            go_wp2_with fail
            go_roundw
            case rel => exact ⟨q + 1, by omega, .inl (by omega), by go_num, HB9⟩
            case measure => simp [intOf]; omega
        · have A5 := Lib.hid (show LT w O5 g [0] R wr ∧ LT w P7 gu [0] R wr ∧ Items wr A8 R.length R from ⟨A4.out.1.below HB.out, A4.out.2.1.below HB.out, A4.out.2.2.below HB.out⟩)
          have hkR := HP9.out
          clear A4 HB HP8
          subst hkR
          go_upto_region 24 with fail
          have hal := (Below.refl wr.heap.size wr).alloc (Nat.le_refl _) (.cells #[.int .i64 3, .int .i64 12] 54)
          have A6 := Lib.hid (show LT w O5 g [0] R (wr.alloc (.cells #[.int .i64 3, .int .i64 12] 54)) ∧ LT w P7 gu [0] R (wr.alloc (.cells #[.int .i64 3, .int .i64 12] 54)) ∧ Items (wr.alloc (.cells #[.int .i64 3, .int .i64 12] 54)) A8 R.length R ∧ Has (wr.alloc (.cells #[.int .i64 3, .int .i64 12] 54)) wr.heap.size 54 #[.int .i64 3, .int .i64 12] from ⟨A5.out.1.below hal, A5.out.2.1.below hal, A5.out.2.2.below hal, Has.made _ _ _⟩)
          clear hal A5
          generalize wr.alloc _ = wp at A6 ⊢
          generalize wr.heap.size = sp at A6 ⊢
          have HVL := Lib.hid (show (foldA [0] (inS 3 12 R)).h.length ≤ maxLen by rw [foldA_len]; decide)
          refine tr24_any (g := g) (gu := gu) (sp := sp) (c := c8) (A := A8) (sa := 3) (sb := 12) (R := R) (V := foldA [0] (inS 3 12 R)) ⟨rfl, rfl, rfl, rfl, rfl, rfl, rfl, rfl, rfl, A6.out.2.2.2, A6.out.2.2.1, HVL.out, by omega, fun w' hb => (A6.out.2.1.below hb).q.items, fun w' hb => (A6.out.1.below hb).q.range 3 12, fun w' hb => (A6.out.2.1.below hb).q.range 3 12⟩ (by kernel_rfl) ?_
          intro A164 n164 c164 H170 H173 w11 hB _ _ _
          have KP := Lib.hid (A6.out.1.below hB).keep
          clear hB A6 HVL
          simp only [putAll, Act.put, List.setIfInBounds_toArray, List.set_cons_succ, List.set_cons_zero]
          go_wp2_with fail
          go_ret
          exact ⟨rfl, KP.out⟩

end Go.Proofs.Ytjgjbhbpndjnnaa
