import Derived.Test.YtbpaepkcchpmbaaGreatG35
import Derived.Test.YtbpaepkcchpmbaaGreatG60
namespace Go.Proofs.YtbpaepkcchpmbaaGreat
open Go.RowKit
structure FrC (cs : Array Value) (A : Option Addr) (n c : Nat) (late mark seq : Int) : Prop where
  f0 : cs[0]? = some (.int .i64 1800)
  f1 : cs[1]? = some (.int .i64 1801)
  f2 : cs[2]? = some (.slice A n c)
  f3 : cs[3]? = some (.int .i64 late)
  f4 : cs[4]? = some (.int .i64 mark)
  f5 : cs[5]? = some (.int .i64 seq)
section
variable {g n c : Nat} {t : TypeId} {cs : Array Value} {A : Option Addr} {late mark seq : Int} {w : World}
set_option maxRecDepth 100000 in
set_option maxHeartbeats 400000 in
theorem fline_any (hw : Has w g t cs) (h : FrC cs A n c late mark seq) : Calls Tryz.prog 76 #[.pointer (some ⟨g, 0, none⟩)] w fun e w' => e = .returned (.int .i64 (lineN mark late)) ∧ ∃ k, w' = w.drewN k := by
  have c3 : ∀ k, (w.drewN k).cell? ⟨g, 3, none⟩ = some (.int .i64 late) := fun k => ((hw.drewN k).cell 3).trans h.f3
  have c4 : ∀ k, (w.drewN k).cell? ⟨g, 4, none⟩ = some (.int .i64 mark) := fun k => ((hw.drewN k).cell 4).trans h.f4
  have c30 := c3 0
  have c40 := c4 0
  change w.cell? _ = _ at c30
  change w.cell? _ = _ at c40
  have HL : ∀ W, Calls Tryz.prog 106 #[.int .i64 mark, .int .i64 late] W fun e w' => e = .returned (.int .i64 (lineN mark late)) ∧ w' = W := fun W => (line_any mark late W).mono fun e w2 h => ⟨h.1, h.2.symm⟩
  clear hw h
  generalize lineN mark late = N at HL ⊢
  go_enter Tryz.func76, Tryz.ntmps76
  go_wp2
  go_quiet (first | (go_at_call 106; exact (HL _).mono fun e w2 h => ⟨h.1, _, h.2⟩))
  go_wp2
  go_ret
  exact ⟨rfl, _, rfl⟩
set_option maxRecDepth 100000 in
set_option maxHeartbeats 400000 in
theorem flate_any (hw : Has w g t cs) (h : FrC cs A n c late mark seq) (x : It) : Calls Tryz.prog 104 #[.pointer (some ⟨g, 0, none⟩), .agg #[.int .i64 x.s, .int .i64 x.t, .int .i64 x.q, .int .i64 x.v]] w fun e w' => e = .returned (.bool (decide (x.t < lineN mark late))) ∧ Below w.heap.size w w' := by
  have hw1 : Has (w.alloc (.cells #[.int .i64 x.s, .int .i64 x.t, .int .i64 x.q, .int .i64 x.v] 61)) g t cs := hw.alloc _
  have HL : ∀ k, Calls Tryz.prog 76 #[.pointer (some ⟨g, 0, none⟩)] ((w.alloc (.cells #[.int .i64 x.s, .int .i64 x.t, .int .i64 x.q, .int .i64 x.v] 61)).drewN k) fun e w' => e = .returned (.int .i64 (lineN mark late)) ∧ ∃ n, w' = (w.alloc (.cells #[.int .i64 x.s, .int .i64 x.t, .int .i64 x.q, .int .i64 x.v] 61)).drewN n := fun k => (fline_any (hw1.drewN k) h).mono fun e w2 ⟨h1, m, h2⟩ => ⟨h1, k + m, by rw [h2, World.drewN_drewN]⟩
  clear hw hw1 h
  generalize lineN mark late = N at HL ⊢
  go_enter Tryz.func104, Tryz.ntmps104
  go_wp2
  go_quiet (first | (go_at_call 76; exact HL _))
  go_wp2
  go_ret
  exact ⟨rfl, below_drewN ((Below.refl _ w).alloc (Nat.le_refl _) _) _⟩
set_option maxRecDepth 100000 in
set_option maxHeartbeats 400000 in
theorem fqueries_any (hw : Has w g t cs) (h : FrC cs A n c late mark seq) : Calls Tryz.prog 125 #[.pointer (some ⟨g, 0, none⟩)] w fun e w' => e = .returned (.slice A n c) ∧ w' = w := by
  have c2 : w.cell? ⟨g, 2, none⟩ = some (.slice A n c) := (hw.cell 2).trans h.f2
  clear hw h
  go_enter Tryz.func125, Tryz.ntmps125
  go_wp2
  go_ret
  exact ⟨rfl, rfl⟩
end
end Go.Proofs.YtbpaepkcchpmbaaGreat
namespace Go.Proofs.YtbpaepkcchpmbaaGreat
open Go.RowKit
def upS (seq : Int) : List It → Bool
  | [] => true
  | x :: r => itemB x && decide (seq < x.q) && upS x.q r
def topS (seq : Int) : List It → Int
  | [] => seq
  | x :: r => topS x.q r
theorem upS_app (seq : Int) (xs ys : List It) : upS seq (xs ++ ys) = (upS seq xs && upS (topS seq xs) ys) := by
  induction xs generalizing seq with
  | nil => simp [upS, topS]
  | cons x r ih => simp [upS, topS, ih, Bool.and_assoc]
theorem topS_app (seq : Int) (xs ys : List It) : topS seq (xs ++ ys) = topS (topS seq xs) ys := by
  induction xs generalizing seq with
  | nil => rfl
  | cons x r ih => simp [topS, ih]
theorem take_on {xs : List It} {j : Nat} (h : j < xs.length) : xs.take (j + 1) = xs.take j ++ [nthI xs j] := by
  rw [List.take_succ_eq_append_getElem h, show nthI xs j = xs[j] by simp [nthI, h]]
theorem topS_on (seq : Int) {xs : List It} {j : Nat} (h : j < xs.length) : topS seq (xs.take (j + 1)) = (nthI xs j).q := by rw [take_on h, topS_app]; rfl
theorem upS_at {seq : Int} {xs : List It} (h : upS seq xs = true) {j : Nat} (hj : j < xs.length) : itemB (nthI xs j) = true ∧ topS seq (xs.take j) < (nthI xs j).q := by
  have e : xs = xs.take (j + 1) ++ xs.drop (j + 1) := (List.take_append_drop _ _).symm
  rw [e, upS_app, take_on hj, upS_app] at h
  simp only [Bool.and_eq_true, upS, decide_eq_true_eq] at h
  exact ⟨h.1.2.1.1, h.1.2.1.2⟩
theorem upS_not {seq : Int} {xs : List It} (h : upS seq xs = false) : ∃ q, q < xs.length ∧ upS seq (xs.take q) = true ∧ (itemB (nthI xs q) = false ∨ (itemB (nthI xs q) = true ∧ ¬ topS seq (xs.take q) < (nthI xs q).q)) := by
  induction xs generalizing seq with
  | nil => simp [upS] at h
  | cons x r ih =>
    cases hb : itemB x with
    | false => exact ⟨0, by simp, rfl, .inl hb⟩
    | true =>
      by_cases hs : seq < x.q
      · have : upS x.q r = false := by simpa [upS, hb, hs] using h
        obtain ⟨q, h1, h2, h3⟩ := ih this
        refine ⟨q + 1, by simpa using h1, ?_, ?_⟩
        · rw [List.take_succ_cons]; simp [upS, hb, hs, h2]
        · rw [List.take_succ_cons]; simpa [nthI, topS] using h3
      · exact ⟨0, by simp, rfl, .inr ⟨hb, by simpa [topS, nthI] using hs⟩⟩
section
variable {g n c : Nat} {t : TypeId} {cs : Array Value} {A : Option Addr} {late mark seq : Int} {w : World}
set_option maxRecDepth 100000 in
set_option maxHeartbeats 400000 in
theorem fadv_no (hw : Has w g t cs) (h : FrC cs A n c late mark seq) (m : Int) (hm : wi m mark 4398046511104 = false) : Calls Tryz.prog 56 #[.pointer (some ⟨g, 0, none⟩), .int .i64 m] w fun e w' => e = .returned (.int .i64 1800) ∧ w' = w := by
  have c0 : w.cell? ⟨g, 0, none⟩ = some (.int .i64 1800) := (hw.cell 0).trans h.f0
  have c4 : w.cell? ⟨g, 4, none⟩ = some (.int .i64 mark) := (hw.cell 4).trans h.f4
  have HW : ∀ W, Calls Tryz.prog 75 #[.int .i64 m, .int .i64 mark, .int .i64 4398046511104] W fun e w' => e = .returned (.bool false) ∧ w' = W := fun W => hm ▸ (within_any _ _ _ W).mono fun e w2 h => ⟨h.1, h.2.symm⟩
  clear hw h hm
  go_enter Tryz.func56, Tryz.ntmps56
  go_wp2_with (go_at_call 75; refine (HW _).mono ?_; rintro e w' ⟨rfl, rfl⟩)
  go_ret
  exact ⟨rfl, rfl⟩
set_option maxRecDepth 100000 in
set_option maxHeartbeats 400000 in
theorem fadv_ok (hw : Has w g t cs) (h : FrC cs A n c late mark seq) (m : Int) (hm : wi m mark 4398046511104 = true) : Calls Tryz.prog 56 #[.pointer (some ⟨g, 0, none⟩), .int .i64 m] w fun e w' => e = .returned (.int .i64 0) ∧ w' = w.setCell ⟨g, 4, none⟩ (.int .i64 m) := by
  have c4 : w.cell? ⟨g, 4, none⟩ = some (.int .i64 mark) := (hw.cell 4).trans h.f4
  have f4 : w.frozen? ⟨g, 4, none⟩ = false := hw.mark _
  have HW : ∀ W, Calls Tryz.prog 75 #[.int .i64 m, .int .i64 mark, .int .i64 4398046511104] W fun e w' => e = .returned (.bool true) ∧ w' = W := fun W => hm ▸ (within_any _ _ _ W).mono fun e w2 h => ⟨h.1, h.2.symm⟩
  clear hw h hm
  go_enter Tryz.func56, Tryz.ntmps56
  go_wp2_with (go_at_call 75; refine (HW _).mono ?_; rintro e w' ⟨rfl, rfl⟩)
  go_ret
  exact ⟨rfl, rfl⟩
set_option maxRecDepth 100000 in
set_option maxHeartbeats 400000 in
theorem fadm_many (hw : Has w g t cs) (h : FrC cs A n c late mark seq) (held : Int) (hh : 0 ≤ held ∧ held ≤ 8192) (X : Option Addr) (m cx : Nat) (hm : 8192 - held < m) : Calls Tryz.prog 70 #[.pointer (some ⟨g, 0, none⟩), .int .i64 held, .slice X m cx] w fun e w' => e = .returned (.int .i64 1800) ∧ w' = w := by
  have c0 : w.cell? ⟨g, 0, none⟩ = some (.int .i64 1800) := (hw.cell 0).trans h.f0
  have e1 : IntKind.i64.wrap (8192 - held) = 8192 - held := IntWalk.i64_in _ (by omega)
  clear hw h
  go_enter Tryz.func70, Tryz.ntmps70
  go_wp2_with fail
  go_ret
  exact ⟨rfl, rfl⟩
set_option maxRecDepth 100000 in
set_option maxHeartbeats 1000000 in
theorem fadm_form (hw : Has w g t cs) (h : FrC cs A n c late mark seq) (held : Int) (hh : 0 ≤ held ∧ held ≤ 8192) (X : Option Addr) (m cx : Nat) (xs : List It) (hx : Items w X m xs) (hm : (m : Int) ≤ 8192 - held) (hu : upS seq xs = false) : Calls Tryz.prog 70 #[.pointer (some ⟨g, 0, none⟩), .int .i64 held, .slice X m cx] w fun e w' => e = .returned (.int .i64 1800) ∧ Below w.heap.size w w' := by
  have e1 : IntKind.i64.wrap (8192 - held) = 8192 - held := IntWalk.i64_in _ (by omega)
  have hcell := hw.cell
  have c5 : w.cell? ⟨g, 5, none⟩ = some (.int .i64 seq) := (hw.cell 5).trans h.f5
  have C0 : Hid (∀ w', Below w.heap.size w w' → w'.cell? ⟨g, 0, none⟩ = some (.int .i64 1800)) := fun w' hb => ((hw.below hb hw.lt).cell 0).trans h.f0
  have HX := Lib.hid hx
  obtain ⟨q, hq1, hq2, hq3⟩ := upS_not hu
  rw [hx.1] at hq1
  have HL : Hid (xs.length = m) := hx.1
  have HU : Hid (∀ j, j < q → itemB (nthI xs j) = true ∧ topS seq (xs.take j) < (nthI xs j).q) := fun j hj => by
    have := upS_at hq2 (j := j) (by rw [List.length_take, hx.1]; omega)
    rw [List.take_take, Nat.min_eq_left (by omega)] at this
    have e : nthI (xs.take q) j = nthI xs j := nthI_take xs hj
    rw [e] at this
    exact this
  have HQ := Lib.hid hq3
  clear hx hw h hu hq2 hq3 hcell
  go_enter Tryz.func70, Tryz.ntmps70
  go_wp2_with fail
  go_loopw [7, 26] (fun sq i wr => ∃ j : Nat, j ≤ q ∧ i = .int .i64 j ∧ sq = .int .i64 (topS seq (xs.take j)) ∧ Hid (Below w.heap.size w wr)) (fun _ i _ => m - (intOf i).toNat)
  case atStart => exact ⟨0, Nat.zero_le _, rfl, rfl, Below.refl _ _⟩
  case round =>
    obtain ⟨j, hj, rfl, rfl, HW⟩ := hrel
    obtain ⟨b, o, rfl, hi⟩ := (HX.out.below HW.out).2 (by omega)
    have HI0 := Lib.hid (hi j (by omega))
    have d0 := C0.out _ HW.out
    clear hi
    have HAL : Hid (∀ o, Below wr.heap.size wr (wr.alloc o)) := fun o => (Below.refl _ _).alloc (Nat.le_refl _) o
    have hjm : (j : Int) < m := by omega
    cases hbx : itemB (nthI xs j) with
    | false =>
      have HI : Hid (∀ w', Calls Tryz.prog 102 #[itV (nthI xs j)] w' fun e w2 => e = .returned (.bool false) ∧ Below w'.heap.size w' w2) := fun w' => by rw [← hbx]; exact item_any _ _
      clear hbx
      generalize nthI xs j = x at HI0 HI
      go_wp2_with (first | (refine load_item rfl _ rfl b (o + j * 4) (by simp [go_sem]) HI0.out ?_) | (refine store_hasIt rfl _ _ rfl wr.heap.size (z := x) rfl rfl (Has.made _ _ _) rfl ?_; rw [World.setRow_alloc_new]) | (refine load_hasIt rfl _ rfl wr.heap.size rfl (Has.made _ _ _) ?_))
      refine (HI.out _).mono ?_
      rintro e w2 ⟨rfl, hb2⟩
      have HW2 := Lib.hid (HW.out.trans (((HAL.out _).trans (hb2.mono (by simp))).mono HW.out.size))
      have d2 := C0.out _ HW2.out
      clear hb2
      go_wp2_with fail
      go_ret
      exact ⟨rfl, HW2.out⟩
    | true =>
      have HI : Hid (∀ w', Calls Tryz.prog 102 #[itV (nthI xs j)] w' fun e w2 => e = .returned (.bool true) ∧ Below w'.heap.size w' w2) := fun w' => by rw [← hbx]; exact item_any _ _
      by_cases hjq : j < q
      · have hlt := (HU.out j hjq).2
        have HT : Hid (topS seq (xs.take (j + 1)) = (nthI xs j).q) := topS_on seq (by rw [HL.out]; omega)
        clear hbx
        generalize nthI xs j = x at HI0 HI hlt HT
        generalize topS seq (xs.take j) = sq at hlt ⊢
        go_wp2_with (first | (refine load_item rfl _ rfl b (o + j * 4) (by simp [go_sem]) HI0.out ?_) | (refine store_hasIt rfl _ _ rfl wr.heap.size (z := x) rfl rfl (Has.made _ _ _) rfl ?_; rw [World.setRow_alloc_new]) | (refine load_hasIt rfl _ rfl wr.heap.size rfl (Has.made _ _ _) ?_))
        refine (HI.out _).mono ?_
        rintro e w2 ⟨rfl, hb2⟩
        have HW2 := Lib.hid (HW.out.trans (((HAL.out _).trans (hb2.mono (by simp))).mono HW.out.size))
        have k2 : w2.cell? ⟨wr.heap.size, 2, none⟩ = some (.int .i64 x.q) := (((Has.made wr 61 (itA x)).below hb2 (by simp)).cell 2).trans rfl
        clear hb2
        have hlt2 : ¬ x.q ≤ sq := by omega
        go_wp2_with fail
        go_roundw
        case rel => exact ⟨j + 1, by omega, by go_num, by rw [HT.out], HW2⟩
        case measure => simp [intOf]; omega
      · have hjq2 : j = q := by omega
        subst hjq2
        have hle : (nthI xs j).q ≤ topS seq (xs.take j) := by
          rcases HQ.out with h | h
          · rw [h] at hbx; cases hbx
          · omega
        clear hbx
        generalize nthI xs j = x at HI0 HI hle
        generalize topS seq (xs.take j) = sq at hle ⊢
        go_wp2_with (first | (refine load_item rfl _ rfl b (o + j * 4) (by simp [go_sem]) HI0.out ?_) | (refine store_hasIt rfl _ _ rfl wr.heap.size (z := x) rfl rfl (Has.made _ _ _) rfl ?_; rw [World.setRow_alloc_new]) | (refine load_hasIt rfl _ rfl wr.heap.size rfl (Has.made _ _ _) ?_))
        refine (HI.out _).mono ?_
        rintro e w2 ⟨rfl, hb2⟩
        have HW2 := Lib.hid (HW.out.trans (((HAL.out _).trans (hb2.mono (by simp))).mono HW.out.size))
        have k2 : w2.cell? ⟨wr.heap.size, 2, none⟩ = some (.int .i64 x.q) := (((Has.made wr 61 (itA x)).below hb2 (by simp)).cell 2).trans rfl
        have d2 := C0.out _ HW2.out
        clear hb2
        go_wp2_with fail
        go_ret
        exact ⟨rfl, HW2.out⟩
end
end Go.Proofs.YtbpaepkcchpmbaaGreat
