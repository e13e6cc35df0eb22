/-
  The program's tree: Insert.
-/
import Derived.Test.YtjgjbhbpndjnnaaTrApi
import Derived.Test.YtjgjbhbpndjnnaaTrTwi
namespace Go.Proofs.Ytjgjbhbpndjnnaa
open Go.RowKit

/-- All of a row laid in, one by one. -/
def insAll (R xs : List It) : List It := xs.foldl (fun r x => insB lt2 x r) R
theorem insAll_snoc (R xs : List It) (x : It) : insAll R (xs ++ [x]) = insB lt2 x (insAll R xs) := by simp [insAll]
theorem insAll_perm (R xs : List It) : (insAll R xs).Perm (R ++ xs) := by
  have : ∀ (xs R : List It), (insAll R xs).Perm (R ++ xs) := by
    intro xs
    induction xs with
    | nil => intro R; simp [insAll]
    | cons x r ih =>
      intro R
      have h := ih (insB lt2 x R)
      have h2 : (insB lt2 x R ++ r).Perm (R ++ x :: r) := ((insB_perm lt2 x R).append_right r).trans List.perm_middle.symm
      exact h.trans h2
  exact this xs R
theorem NewS.left {R xs ys : List It} (h : NewS R (xs ++ ys)) : NewS R xs := ⟨fun x hx => h.1 x (List.mem_append_left _ hx), (List.pairwise_append.1 h.2).1⟩
/-- The next one stands alike with none. -/
theorem NewS.next {R xs : List It} {x : It} (h : NewS R (xs ++ [x])) : twinB (insAll R xs) x = false := twinB_no.2 fun y hy => by
  rcases List.mem_append.1 ((insAll_perm R xs).mem_iff.1 hy) with hy | hy
  · exact twinB_no.1 (h.1 x (by simp)) y hy
  · exact (List.pairwise_append.1 h.2).2.2 y hy x (by simp)
theorem insAll_str {R : List It} (hR : StrS R) : ∀ {xs : List It}, NewS R xs → StrS (insAll R xs) := by
  intro xs
  obtain ⟨k, hk⟩ : ∃ k, xs.length = k := ⟨_, rfl⟩
  induction k generalizing xs with
  | zero => intro _; rw [List.length_eq_zero_iff.1 hk]; exact hR
  | succ k ih =>
    intro h
    obtain ⟨ys, y, rfl⟩ : ∃ ys y, xs = ys ++ [y] := ⟨xs.dropLast, xs.getLast (by intro e; rw [e] at hk; simp at hk), (List.dropLast_concat_getLast _).symm⟩
    rw [insAll_snoc]
    exact insB_str (ih (by simpa using hk) h.left) h.next
theorem insAll_its {bs : List Int} {R xs : List It} (h : ItsT bs (R ++ xs)) : ItsT bs (insAll R xs) := h.perm (insAll_perm R xs)

/-- Items that lie apart from g stay when g alone turns. -/
theorem items_keepG {w w' : World} {g n : Nat} {C : Option Addr} {xs : List It} (h : Items w C n xs) (hC : ∀ ad, C = some ad → ad.block ≠ g) (hb : ButS [g] w w') : Items w' C n xs :=
  ⟨h.1, fun hn => by
    obtain ⟨b, o, rfl, hi⟩ := h.2 hn
    refine ⟨b, o, rfl, fun i hlt j v hv => ?_⟩
    have h1 := hi i hlt j v hv
    have hlb := block_lt_of_cell h1
    have : w'.heap[b]? = w.heap[b]? := hb.other b hlb (by simpa using hC _ rfl)
    rw [← h1]
    simp only [World.cell?, this]⟩
/-- What an insertion leaves. -/
def InO (O : Nat → Prop) (g : Nat) (bs : List Int) (R : List It) (w w' : World) : Prop := ButS [g] w w' ∧ PTr (GrowT O w w') g bs R w'
section
variable {O : Nat → Prop} {g n c : Nat} {C : Option Addr} {bs : List Int} {R xs : List It} {w : World}
set_option maxRecDepth 100000 in
set_option maxHeartbeats 1000000 in
theorem PTr.insert_form (h : PTr O g bs R w) (hI : Items w C n xs) (hn : n ≤ 17592186044416) (hf : ¬ ItsT bs (R ++ xs)) :
    Calls Try.prog 27 #[.pointer (some ⟨g, 0, none⟩), .slice C n c] w fun e w' => e = .returned (.int .i64 1900) ∧ Below w.heap.size w w' := by
  obtain ⟨T, A, m, d, h1, h2, rfl, h4, h5⟩ := h
  have hf2 : fitT T.row xs = false := Bool.eq_false_iff.2 fun e => hf ((fitT_iff h5).1 e)
  have HF := Lib.hid (tfit_any T h1 h2 h5 C n c xs hI hn)
  rw [hf2] at HF
  clear h1 h2 h4 h5 hf hf2 hI
  go_enter Try.func27, Try.ntmps27
  go_wp2_with (refine HF.out.mono ?_; clear HF; rintro e w1 ⟨rfl, hb⟩)
  go_ret
  exact ⟨rfl, hb⟩
set_option maxRecDepth 100000 in
set_option maxHeartbeats 1000000 in
theorem PTr.insert_twice (h : PTr O g bs R w) (hI : Items w C n xs) (hf : ItsT bs (R ++ xs)) (ht : ¬ NewS R xs) :
    Calls Try.prog 27 #[.pointer (some ⟨g, 0, none⟩), .slice C n c] w fun e w' => e = .returned (.int .i64 1901) ∧ Below w.heap.size w w' := by
  obtain ⟨T, A, m, d, h1, h2, rfl, h4, h5⟩ := h
  have hn : n ≤ 8192 := by have := hf.le; rw [List.length_append, hI.1] at this; omega
  have HF := Lib.hid (tfit_any T h1 h2 h5 C n c xs hI (by omega))
  rw [(fitT_iff h5).2 hf] at HF
  have HW := Lib.hid (fun w' (hb : Below w.heap.size w w') => ttwice_any (P := O) (bs := bs) T (h1.below hb) (h2.below hb) h4 C n c xs (hI.below hb) hn)
  rw [twiceT_yes ht] at HW
  clear h1 h2 h4 h5 hf ht hI
  go_enter Try.func27, Try.ntmps27
  go_wp2_with (first | (refine HF.out.mono ?_; clear HF; rintro e w1 ⟨rfl, hb⟩) | (refine (HW.out _ hb).mono ?_; clear HW; rintro e w2 ⟨rfl, hb2⟩))
  go_ret
  exact ⟨rfl, hb.trans (hb2.mono hb.size)⟩

/-- In the midst of the inserting. -/
def InS (O : Nat → Prop) (w : World) (g : Nat) (bs : List Int) (A : Option Addr) (m d : Nat) (R xs : List It) (j : Nat) (wr : World) : Prop :=
  ∃ T : Tr, TBd (fun k => O k ∨ w.heap.size ≤ k) wr g bs A m d T.ptr ∧ T.At bs (fun k => O k ∨ w.heap.size ≤ k) wr ∧ T.row = insAll R (xs.take j) ∧ ButS [g] w wr
set_option maxRecDepth 100000 in
set_option maxHeartbeats 2000000 in
theorem PTr.insert (h : PTr O g bs R w) (hI : Items w C n xs) (hC : ∀ ad, C = some ad → ad.block ≠ g) (hf : ItsT bs (R ++ xs)) (ht : NewS R xs) :
    Calls Try.prog 27 #[.pointer (some ⟨g, 0, none⟩), .slice C n c] w fun e w' => e = .returned (.int .i64 0) ∧ InO O g bs (insAll R xs) w w' := by
  obtain ⟨T, A, m, d, h1, h2, rfl, h4, h5⟩ := h
  have hn : n ≤ 8192 := by have := hf.le; rw [List.length_append, hI.1] at this; omega
  have HF := Lib.hid (tfit_any T h1 h2 h5 C n c xs hI (by omega))
  rw [(fitT_iff h5).2 hf] at HF
  have HW := Lib.hid (fun w' (hb : Below w.heap.size w w') => ttwice_any (P := O) (bs := bs) T (h1.below hb) (h2.below hb) h4 C n c xs (hI.below hb) hn)
  rw [twiceT_no ht] at HW
  have HS0 : Hid (∀ w', Below w.heap.size w w' → InS O w g bs A m d T.row xs 0 w') := fun w' hb =>
    ⟨T, (h1.mono fun _ _ h => .inl h).below hb, (h2.mono fun _ _ h => .inl h).below hb, rfl, below_butS hb [g]⟩
  have HI := Lib.hid (fun w' (hb : ButS [g] w w') => items_keepG hI hC hb)
  have HSTR := Lib.hid (show ∀ j, StrS (insAll T.row (xs.take j)) from fun j => insAll_str h4 (NewS.left (ys := xs.drop j) (by rw [List.take_append_drop]; exact ht)))
  have HFIT := Lib.hid (show ∀ j, j < n → ItsT bs (nthI xs j :: insAll T.row (xs.take j)) from fun j hj => by
    have hsn := take_snoc (ys := xs) (j := j) (by rw [hI.1]; exact hj)
    have h7 : ItsT bs (T.row ++ xs.take (j + 1)) := hf.sublist ((List.take_sublist _ _).append_left _)
    rw [hsn, ← List.append_assoc] at h7
    exact h7.perm ((List.Perm.cons _ (insAll_perm T.row (xs.take j))).trans (List.perm_append_singleton _ _).symm))
  have HEND := Lib.hid (show StrS (insAll T.row xs) ∧ ItsT bs (insAll T.row xs) from ⟨insAll_str h4 ht, insAll_its hf⟩)
  have HLX := Lib.hid hI.1
  clear h1 h2 h4 h5 hf ht hI hC
  generalize T.row = R at HF HW HS0 HSTR HFIT HEND ⊢
  clear T
  go_enter Try.func27, Try.ntmps27
  go_wp2_with (first | (refine HF.out.mono ?_; clear HF; rintro e w1 ⟨rfl, hb⟩) | (refine (HW.out _ hb).mono ?_; clear HW; rintro e w2 ⟨rfl, hb2⟩; have HS2 := Lib.hid (HS0.out w2 (hb.trans (hb2.mono hb.size))); clear HS0 hb hb2))
  go_loopw [18] (fun i wr => ∃ j : Nat, j ≤ n ∧ i = .int .i64 j ∧ Hid (InS O w g bs A m d R xs j wr)) (fun i _ => n - (intOf i).toNat)
  case atStart => exact ⟨0, Nat.zero_le _, rfl, HS2⟩
  case round =>
    clear HS2
    obtain ⟨j, hj, rfl, HR⟩ := hrel
    by_cases hlt : j < n
    · obtain ⟨T, t1, t2, t3, t4⟩ := HR.out
      obtain ⟨b, o, rfl, hi⟩ := (HI.out wr t4).2 (by omega)
      have hx := hi j hlt
      have hx0 : wr.cell? ⟨b, o + j * 4, none⟩ = some (.int .i64 (nthI xs j).s) := hx 0 _ rfl
      have hx1 : wr.cell? ⟨b, o + j * 4 + 1, none⟩ = some (.int .i64 (nthI xs j).t) := hx 1 _ rfl
      have hx2 : wr.cell? ⟨b, o + j * 4 + 2, none⟩ = some (.int .i64 (nthI xs j).q) := hx 2 _ rfl
      have hx3 : wr.cell? ⟨b, o + j * 4 + 3, none⟩ = some (.int .i64 (nthI xs j).v) := hx 3 _ rfl
      have hfit := HFIT.out j hlt
      have hstr := HSTR.out j
      have hal : ∀ q : Array Value, Below wr.heap.size wr (wr.alloc (.cells q 23)) := fun q => (Below.refl _ _).alloc (Nat.le_refl _) _
      have HINS : Hid (∀ (q : Array Value) w', Below wr.heap.size (wr.alloc (.cells q 23)) w' → Calls Try.prog 61 #[.pointer (some ⟨g, 0, none⟩), .pointer T.ptr, .agg #[.int .i64 (nthI xs j).s, .int .i64 (nthI xs j).t, .int .i64 (nthI xs j).q, .int .i64 (nthI xs j).v]] w' (TrO bs (fun k => O k ∨ w.heap.size ≤ k) (insAll R (xs.take (j + 1))) w')) := fun q w' hb => by
        have hbb := (hal q).trans hb
        have hb2 : w.heap.size ≤ w'.heap.size := by have := t4.size; have := hbb.size; omega
        rw [take_snoc (by rw [HLX.out]; exact hlt), insAll_snoc, ← t3]
        exact tins_any (nthI xs j) T w' (t1.below hbb) (t2.below hbb) (fun k hk => .inr (by omega)) (t3 ▸ hstr) (t3 ▸ hfit)
      have HT := Lib.hid (show TBd (fun k => O k ∨ w.heap.size ≤ k) wr g bs A m d T.ptr ∧ ButS [g] w wr ∧ ∀ q : Array Value, Below wr.heap.size wr (wr.alloc (.cells q 23)) from ⟨t1, t4, hal⟩)
      clear HR hi hx t1 t2 t3 t4 hfit hstr hal
      generalize T.ptr = tp at HINS HT
      clear T
      generalize nthI xs j = X at hx0 hx1 hx2 hx3 HINS
      go_upto_region 10 with fail
      refine tir_any (g := g) (y := wr.heap.size) (m := m) (d := d) (A := A) (root := tp) (x := X) (bs := bs) (P := fun k => O k ∨ w.heap.size ≤ k) (R1 := insAll R (xs.take (j + 1))) ⟨rfl, rfl, rfl, HT.out.1.st.alloc _, Has.made _ _ _, fun w' hb => HINS.out _ w' (hb.mono (by simp))⟩ (by kernel_rfl) ?_
      intro T29 w4 hB4 hT29
      have hk4 := (HT.out.2.2 #[.int .i64 X.s, .int .i64 X.t, .int .i64 X.q, .int .i64 X.v]).trans (hB4.mono (by simp))
      have K := Lib.hid (show TBd (fun k => O k ∨ w.heap.size ≤ k) w4 g bs A m d tp ∧ T29.At bs (fun k => O k ∨ w.heap.size ≤ k) w4 ∧ T29.row = insAll R (xs.take (j + 1)) ∧ ButS [g] w w4 from ⟨HT.out.1.below hk4, hT29.1, hT29.2, HT.out.2.1.trans (below_butS hk4 [g])⟩)
      have K2 := Lib.hid (show InS O w g bs A m d R xs (j + 1) (w4.setCell ⟨g, 1, none⟩ (.pointer T29.ptr)) from ⟨T29, K.out.1.putG _, Tr.At.putG K.out.1.st _ _ K.out.2.1, K.out.2.2.1, K.out.2.2.2.trans (setCell_butS1 _ _ _ _)⟩)
      have hc4 : w4.cell? ⟨g, 1, none⟩ = some (.pointer tp) := K.out.1.st.cell 1
      have hf4 : w4.frozen? ⟨g, 1, none⟩ = false := K.out.1.st.mark 1
      clear hB4 hT29 hk4 HINS HT K hx0 hx1 hx2 hx3
      simp only [putAll, Act.put, List.setIfInBounds_toArray, List.set_cons_succ, List.set_cons_zero, List.drop_succ_cons, List.drop_zero]
      go_wp2_with fail
      go_roundw
      case rel => exact ⟨j + 1, by omega, by go_num, K2⟩
      case measure => simp [intOf]; omega
    · have hjn : j = n := by omega
      subst hjn
      go_wp2_with fail
      go_ret
      obtain ⟨T, t1, t2, t3, t4⟩ := HR.out
      rw [List.take_of_length_le (by rw [HLX.out]; exact Nat.le_refl _)] at t3
      refine ⟨rfl, t4, T, A, m, d, t1.mono ?_, t2.mono ?_, t3, HEND.out.1, HEND.out.2⟩
      all_goals
        intro k hk hp
        rcases hp with hp | hp
        · exact .inl hp
        · exact .inr ⟨hp, hk⟩
end

end Go.Proofs.Ytjgjbhbpndjnnaa
