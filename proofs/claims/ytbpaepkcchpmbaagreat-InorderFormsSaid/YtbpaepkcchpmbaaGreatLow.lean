import Derived.Test.YtbpaepkcchpmbaaGreatG7
import Derived.Test.YtbpaepkcchpmbaaGreatG0
import Derived.Lib.LazyBuf
namespace Go.Proofs.YtbpaepkcchpmbaaGreat
open Go.RowKit
def outC (v : Int) (o : Bool) (A : Option Addr) (n c : Nat) : Array Value := #[.int .i64 v, .bool o, .slice A n c]
theorem outC_one (v : Int) (o : Bool) (A : Option Addr) (n c : Nat) : (outC v o A n c).all (·.oneCell') = true := by simp [outC, Value.oneCell']
theorem Tryz.sizeOut : (Tryz.prog.info? 69).map (·.size) = some 3 := by kernel_rfl
theorem Tryz.sizeQuery : (Tryz.prog.info? 59).map (·.size) = some 6 := by kernel_rfl
def askB (q : Qu) (a : Ac) : Bool := wi q.rank 0 1000 && (accB a q.bs && (decide (0 < a.n) && (decide (q.agg ≠ 7) || decide (0 < q.bs.length))))
set_option maxRecDepth 100000 in
set_option maxHeartbeats 2000000 in
theorem ask_any (q : Qu) (B : Option Addr) (m d : Nat) (a : Ac) (A : Option Addr) (k c : Nat) (w : World) (hbs : Ints w B m q.bs) (hm : m ≤ maxLen) (ha : Ints w A k a.h) (hk : k ≤ maxLen) :
    Calls Tryz.prog 222 #[.agg #[.int .i64 q.kind, .int .i64 q.agg, .int .i64 q.size, .int .i64 q.slide, .slice B m d, .int .i64 q.rank], .agg #[.int .i64 a.n, .int .i64 a.s, .int .i64 a.mn, .int .i64 a.mx, .int .i64 a.f.s, .int .i64 a.f.t, .int .i64 a.f.q, .int .i64 a.f.v, .int .i64 a.l.s, .int .i64 a.l.t, .int .i64 a.l.q, .int .i64 a.l.v, .slice A k c]] w
      fun e w' => e = .returned (.bool (askB q a)) ∧ Below w.heap.size w w' := by
  have HLB := Lib.hid hbs.1
  unfold maxLen at hm
  have hbox : ∀ o o', Below w.heap.size w ((w.alloc o).alloc o') := fun o o' => below_alloc ((Below.refl _ _).alloc (Nat.le_refl _) o) (Nat.le_refl _) o'
  have HBOX := Lib.hid hbox; clear hbox
  cases h1 : wi q.rank 0 1000
  · go_enter Tryz.func222, Tryz.ntmps222
    go_wp2_with (go_at_call 75; refine (within_any _ _ _ _).mono ?_; rintro e w' ⟨rfl, rfl⟩)
    go_ret
    exact ⟨ret_bool (by simp [askB, h1]), HBOX.out _ _⟩
  · have H1 := Lib.hid h1
    go_enter Tryz.func222, Tryz.ntmps222
    go_wp2_with fail
    refine (within_any _ _ _ _).mono ?_
    rintro e w1 ⟨rfl, rfl⟩
    go_wp2_with fail
    refine (may_any a A k c B m d q.bs _ (ha.below (HBOX.out _ _)) (hbs.below (HBOX.out _ _)) hk (by unfold maxLen; exact hm)).mono ?_
    rintro e w2 ⟨rfl, hb2⟩
    have hB2 : Below w.heap.size w w2 := (HBOX.out _ _).trans (hb2.mono (by simp; omega))
    have hc2 : ∀ b o, b < w.heap.size + 2 → w2.cell? ⟨b, o, none⟩ = _ := fun b o h => oldCells hb2 (Nat.le_refl _) b o (by simpa using h)
    clear hb2
    cases h2 : accB a q.bs
    · go_wp2
      go_ret
      exact ⟨ret_bool (by simp [askB, h2]), hB2⟩
    · have H2 := Lib.hid h2; clear h2
      by_cases h3 : 0 < a.n
      · by_cases h4 : q.agg = 7
        · have h4' : (q.agg != 7) = false := by simp [h4]
          have H4 := Lib.hid h4; clear h4
          go_wp2
          go_ret
          exact ⟨ret_bool (by simp [askB, H1.out, H2.out, H4.out, h3, HLB.out]), hB2⟩
        · have h4' : (q.agg != 7) = true := by simp [h4]
          have H4 := Lib.hid h4; clear h4
          go_wp2
          go_ret
          exact ⟨ret_bool (by simp [askB, H1.out, H2.out, H4.out, h3]), hB2⟩
      · go_wp2
        go_ret
        exact ⟨ret_bool (by simp [askB, show ¬ 0 < a.n by omega]), hB2⟩
def TellOut (v : Int) (o : Bool) (hs : List Int) (w : World) (e : Ending) (w' : World) : Prop :=
  ∃ A n c, e = .returned (.agg (outC v o A n c)) ∧ Ints w' A n hs ∧ n ≤ c ∧ c ≤ maxLen ∧ OwnI w' w.heap.size (.slice A n c) hs ∧ Below w.heap.size w w'
set_option maxRecDepth 100000 in
set_option maxHeartbeats 2000000 in
theorem tell_count (q : Qu) (B : Option Addr) (m d : Nat) (a : Ac) (A : Option Addr) (k c : Nat) (w : World) :
    Calls Tryz.prog 237 #[.agg (quC q B m d), .agg #[.int .i64 a.n, .int .i64 a.s, .int .i64 a.mn, .int .i64 a.mx, .int .i64 a.f.s, .int .i64 a.f.t, .int .i64 a.f.q, .int .i64 a.f.v, .int .i64 a.l.s, .int .i64 a.l.t, .int .i64 a.l.q, .int .i64 a.l.v, .slice A k c]] w (TellOut a.n false [] w) := by
  go_enter Tryz.func237, Tryz.ntmps237
  go_wp2
  refine bodyPost_ret (ret_row1 rfl _ _ _ 69 (outC a.n false none 0 0) _ rfl (has3 _ _ _ _ _) Tryz.underlying69 rfl (by exact Tryz.sizeOut)) rfl ?_
  exact ⟨none, 0, 0, rfl, Ints.nil, Nat.le_refl _, Nat.zero_le _, OwnI.nil _ _, below3 _ _ _ _⟩
set_option maxRecDepth 100000 in
set_option maxHeartbeats 2000000 in
theorem tell_min (q : Qu) (B : Option Addr) (m d : Nat) (a : Ac) (A : Option Addr) (k c : Nat) (w : World) :
    Calls Tryz.prog 239 #[.agg (quC q B m d), .agg #[.int .i64 a.n, .int .i64 a.s, .int .i64 a.mn, .int .i64 a.mx, .int .i64 a.f.s, .int .i64 a.f.t, .int .i64 a.f.q, .int .i64 a.f.v, .int .i64 a.l.s, .int .i64 a.l.t, .int .i64 a.l.q, .int .i64 a.l.v, .slice A k c]] w (TellOut a.mn false [] w) := by
  go_enter Tryz.func239, Tryz.ntmps239
  go_wp2
  refine bodyPost_ret (ret_row1 rfl _ _ _ 69 (outC a.mn false none 0 0) _ rfl (has3 _ _ _ _ _) Tryz.underlying69 rfl (by exact Tryz.sizeOut)) rfl ?_
  exact ⟨none, 0, 0, rfl, Ints.nil, Nat.le_refl _, Nat.zero_le _, OwnI.nil _ _, below3 _ _ _ _⟩
set_option maxRecDepth 100000 in
set_option maxHeartbeats 2000000 in
theorem tell_max (q : Qu) (B : Option Addr) (m d : Nat) (a : Ac) (A : Option Addr) (k c : Nat) (w : World) :
    Calls Tryz.prog 240 #[.agg (quC q B m d), .agg #[.int .i64 a.n, .int .i64 a.s, .int .i64 a.mn, .int .i64 a.mx, .int .i64 a.f.s, .int .i64 a.f.t, .int .i64 a.f.q, .int .i64 a.f.v, .int .i64 a.l.s, .int .i64 a.l.t, .int .i64 a.l.q, .int .i64 a.l.v, .slice A k c]] w (TellOut a.mx false [] w) := by
  go_enter Tryz.func240, Tryz.ntmps240
  go_wp2
  refine bodyPost_ret (ret_row1 rfl _ _ _ 69 (outC a.mx false none 0 0) _ rfl (has3 _ _ _ _ _) Tryz.underlying69 rfl (by exact Tryz.sizeOut)) rfl ?_
  exact ⟨none, 0, 0, rfl, Ints.nil, Nat.le_refl _, Nat.zero_le _, OwnI.nil _ _, below3 _ _ _ _⟩
set_option maxRecDepth 100000 in
set_option maxHeartbeats 2000000 in
theorem tell_first (q : Qu) (B : Option Addr) (m d : Nat) (a : Ac) (A : Option Addr) (k c : Nat) (w : World) :
    Calls Tryz.prog 241 #[.agg (quC q B m d), .agg #[.int .i64 a.n, .int .i64 a.s, .int .i64 a.mn, .int .i64 a.mx, .int .i64 a.f.s, .int .i64 a.f.t, .int .i64 a.f.q, .int .i64 a.f.v, .int .i64 a.l.s, .int .i64 a.l.t, .int .i64 a.l.q, .int .i64 a.l.v, .slice A k c]] w (TellOut a.f.v false [] w) := by
  go_enter Tryz.func241, Tryz.ntmps241
  go_wp2
  refine bodyPost_ret (ret_row1 rfl _ _ _ 69 (outC a.f.v false none 0 0) _ rfl (has3 _ _ _ _ _) Tryz.underlying69 rfl (by exact Tryz.sizeOut)) rfl ?_
  exact ⟨none, 0, 0, rfl, Ints.nil, Nat.le_refl _, Nat.zero_le _, OwnI.nil _ _, below3 _ _ _ _⟩
set_option maxRecDepth 100000 in
set_option maxHeartbeats 2000000 in
theorem tell_last (q : Qu) (B : Option Addr) (m d : Nat) (a : Ac) (A : Option Addr) (k c : Nat) (w : World) :
    Calls Tryz.prog 242 #[.agg (quC q B m d), .agg #[.int .i64 a.n, .int .i64 a.s, .int .i64 a.mn, .int .i64 a.mx, .int .i64 a.f.s, .int .i64 a.f.t, .int .i64 a.f.q, .int .i64 a.f.v, .int .i64 a.l.s, .int .i64 a.l.t, .int .i64 a.l.q, .int .i64 a.l.v, .slice A k c]] w (TellOut a.l.v false [] w) := by
  go_enter Tryz.func242, Tryz.ntmps242
  go_wp2
  refine bodyPost_ret (ret_row1 rfl _ _ _ 69 (outC a.l.v false none 0 0) _ rfl (has3 _ _ _ _ _) Tryz.underlying69 rfl (by exact Tryz.sizeOut)) rfl ?_
  exact ⟨none, 0, 0, rfl, Ints.nil, Nat.le_refl _, Nat.zero_le _, OwnI.nil _ _, below3 _ _ _ _⟩
set_option maxRecDepth 100000 in
set_option maxHeartbeats 2000000 in
theorem clone_any (A : Option Addr) (n c : Nat) (xs : List Int) (w : World) (hr : Ints w A n xs) (hn : 0 < n) (hn2 : n ≤ 8192) :
    Calls Tryz.prog 99 #[.slice A n c] w fun e w' => ∃ A' c', e = .returned (.slice A' n c') ∧ Ints w' A' n xs ∧ n ≤ c' ∧ c' ≤ maxLen ∧ OwnI w' w.heap.size (.slice A' n c') xs ∧ Below w.heap.size w w' := by
  obtain ⟨b, o, rfl, hc⟩ := hr.at_ hn
  have HL := Lib.hid hr.1
  have hnil : ∀ W, (binOp .eql 57 (.slice (some ⟨b, o, none⟩) n c) (.slice none 0 0)).run Tryz.prog W = .ok (.bool false) W := fun W => Lib.run_eql_slice_nil (w := W) (h := Tryz.underlying57) ..
  go_enter Tryz.func99, Tryz.ntmps99
  go_wp2_with (refine app_ints rfl _ _ rfl rfl (own_empty w) rfl (hr.below ((Below.refl _ _).alloc (Nat.le_refl _) _)) hn hn2 (by simp) ?_; intro A2 c2 wn hwn hbn)
  have hB : Below w.heap.size w wn := ((Below.refl _ _).alloc (Nat.le_refl _) _).trans hbn
  obtain ⟨_, _, e3, h3, h4, _⟩ := hwn.form
  injection e3 with e4 e5 e6
  subst e4 e6
  go_ret
  exact ⟨A2, _, rfl, hwn.ints, by rw [e5]; exact h3, h4, hwn, hB⟩
set_option maxRecDepth 100000 in
set_option maxHeartbeats 2000000 in
theorem tell_hist (q : Qu) (B : Option Addr) (m d : Nat) (a : Ac) (A : Option Addr) (k c : Nat) (w : World) (ha : Ints w A k a.h) (hk : 0 < k) (hk2 : k ≤ 8192) :
    Calls Tryz.prog 243 #[.agg (quC q B m d), .agg #[.int .i64 a.n, .int .i64 a.s, .int .i64 a.mn, .int .i64 a.mx, .int .i64 a.f.s, .int .i64 a.f.t, .int .i64 a.f.q, .int .i64 a.f.v, .int .i64 a.l.s, .int .i64 a.l.t, .int .i64 a.l.q, .int .i64 a.l.v, .slice A k c]] w (TellOut 0 false a.h w) := by
  go_enter Tryz.func243, Tryz.ntmps243
  go_wp2_with fail
  refine (clone_any A k c a.h _ (ha.below (below3 _ _ _ _)) hk hk2).mono ?_
  rintro e w1 ⟨A1, c1, rfl, h1, h2, h3, h4, hb1⟩
  have hB1 := (below3 w _ _ _).trans (hb1.mono (by simp; omega))
  have H4 : Has w1 (w.heap.size + 1 + 1) 69 (outC 0 false none 0 0) := has_below (has3 w _ _ _ _) hb1
  go_wp2_with (refine wpList_store_row rfl 69 _ _ rfl (w.heap.size + 1 + 1) (outC 0 false A1 k c1) rfl rfl 69 _ H4 Tryz.sizeOut rfl (outC_one _ _ _ _ _) ?_)
  refine bodyPost_ret (ret_row1 rfl _ _ _ 69 (outC 0 false A1 k c1) _ rfl (H4.row _) Tryz.underlying69 rfl (by exact Tryz.sizeOut)) rfl ?_
  exact ⟨A1, k, c1, rfl, h1.row (fun ad e => by have := h4.new ad e; simp at this; omega) _, h2, h3, (h4.rowL (by simp <;> omega) _).mono (by simp <;> omega), below_row hB1 (by omega) _⟩
set_option maxRecDepth 100000 in
set_option maxHeartbeats 2000000 in
theorem tell_sum (q : Qu) (B : Option Addr) (m d : Nat) (a : Ac) (A : Option Addr) (k c : Nat) (w : World) :
    Calls Tryz.prog 238 #[.agg (quC q B m d), .agg #[.int .i64 a.n, .int .i64 a.s, .int .i64 a.mn, .int .i64 a.mx, .int .i64 a.f.s, .int .i64 a.f.t, .int .i64 a.f.q, .int .i64 a.f.v, .int .i64 a.l.s, .int .i64 a.l.t, .int .i64 a.l.q, .int .i64 a.l.v, .slice A k c]] w (TellOut (if wi a.s (-1125899906842624) 1125899906842624 then a.s else 0) (!wi a.s (-1125899906842624) 1125899906842624) [] w) := by
  cases h1 : wi a.s (-1125899906842624) 1125899906842624
  · go_enter Tryz.func238, Tryz.ntmps238
    go_wp2_with (go_at_call 75; refine (within_any _ _ _ _).mono ?_; rintro e w' ⟨rfl, rfl⟩)
    refine bodyPost_ret (ret_row1 rfl _ _ _ 69 (outC 0 true none 0 0) _ rfl (has3 _ _ _ _ _) Tryz.underlying69 rfl (by exact Tryz.sizeOut)) rfl ?_
    exact ⟨none, 0, 0, rfl, Ints.nil, Nat.le_refl _, Nat.zero_le _, OwnI.nil _ _, below3 _ _ _ _⟩
  · go_enter Tryz.func238, Tryz.ntmps238
    go_wp2_with (go_at_call 75; refine (within_any _ _ _ _).mono ?_; rintro e w' ⟨rfl, rfl⟩)
    refine bodyPost_ret (ret_row1 rfl _ _ _ 69 (outC a.s false none 0 0) _ rfl (has3 _ _ _ _ _) Tryz.underlying69 rfl (by exact Tryz.sizeOut)) rfl ?_
    exact ⟨none, 0, 0, rfl, Ints.nil, Nat.le_refl _, Nat.zero_le _, OwnI.nil _ _, below3 _ _ _ _⟩
def place (r n : Int) : Int := max 1 ((r * n + 999) / 1000)
set_option maxRecDepth 100000 in
set_option maxHeartbeats 1000000 in
theorem place_any (r n : Int) (w : World) (h1 : 0 ≤ r ∧ r ≤ 1000) (h2 : 0 ≤ n ∧ n ≤ 8192) :
    Calls Tryz.prog 251 #[.int .i64 r, .int .i64 n] w fun e w' => e = .returned (.int .i64 (place r n)) ∧ w = w' := by
  have p1 : 0 ≤ r * n := Int.mul_nonneg h1.1 h2.1
  have p2 : r * n ≤ 8192000 := by
    have := Int.mul_le_mul h1.2 h2.2 h2.1 (by decide : (0 : Int) ≤ 1000)
    omega
  obtain ⟨p, hp⟩ : ∃ p, r * n = p := ⟨_, rfl⟩
  rw [hp] at p1 p2
  unfold place
  rw [hp]
  go_enter Tryz.func251, Tryz.ntmps251
  go_wp2
  all_goals go_ret
  all_goals first
    | exact ⟨ret_int (show (p + 1000 - 1) / 1000 = _ by omega), rfl⟩
    | exact ⟨ret_int (show (1 : Int) = _ by omega), rfl⟩
def rankGo (bs hs : List Int) (p mx : Int) : Nat → Nat → Int
  | 0, _ => mx
  | f + 1, j => if p ≤ isum (hs.take (j + 1)) then nth bs j else rankGo bs hs p mx f (j + 1)
def rankV (bs hs : List Int) (p mx : Int) : Int := rankGo bs hs p mx bs.length 0
theorem rankGo_yes {bs hs : List Int} {p mx : Int} {f j : Nat} (h : p ≤ isum (hs.take (j + 1))) : rankGo bs hs p mx (f + 1) j = nth bs j := by simp [rankGo, h]
theorem rankGo_no {bs hs : List Int} {p mx : Int} {f j : Nat} (h : ¬ p ≤ isum (hs.take (j + 1))) : rankGo bs hs p mx (f + 1) j = rankGo bs hs p mx f (j + 1) := by simp [rankGo, h]
structure RankW (w : World) (qc ac : Array Value) (wr : World) : Prop where
  hasQ : Has wr w.heap.size 59 qc
  hasA : Has wr (w.heap.size + 1) 144 ac
  hasO : Has wr (w.heap.size + 1 + 1) 69 (outC 0 false none 0 0)
  keep : Below w.heap.size w wr
theorem rankW_new (w : World) (qc ac : Array Value) : RankW w qc ac (((w.alloc (.cells qc 59)).alloc (.cells ac 144)).alloc (.cells (outC 0 false none 0 0) 69)) :=
  ⟨(Has.alloc (heap_alloc2_old w _ _) _), (Has.alloc (heap_alloc2_new w _ _) _), has3 _ _ _ _ _, below3 _ _ _ _⟩
set_option maxRecDepth 100000 in
set_option maxHeartbeats 2000000 in
theorem tell_rank (q : Qu) (B : Option Addr) (m d : Nat) (a : Ac) (A : Option Addr) (k c : Nat) (w : World) (hbs : Ints w B m q.bs) (ha : Ints w A k a.h) (hm : m ≤ 8) (hk : k = m + 1) (h1 : 0 ≤ q.rank ∧ q.rank ≤ 1000) (h2 : 0 ≤ a.n ∧ a.n ≤ 8192)
    (h3 : ∀ i, i < k → 0 ≤ nth a.h i ∧ nth a.h i ≤ 8192) :
    Calls Tryz.prog 244 #[.agg #[.int .i64 q.kind, .int .i64 q.agg, .int .i64 q.size, .int .i64 q.slide, .slice B m d, .int .i64 q.rank], .agg #[.int .i64 a.n, .int .i64 a.s, .int .i64 a.mn, .int .i64 a.mx, .int .i64 a.f.s, .int .i64 a.f.t, .int .i64 a.f.q, .int .i64 a.f.v, .int .i64 a.l.s, .int .i64 a.l.t, .int .i64 a.l.q, .int .i64 a.l.v, .slice A k c]] w (TellOut (rankV q.bs a.h (place q.rank a.n) a.mx) false [] w) := by
  subst hk
  have HLB := Lib.hid hbs.1
  have HLA := Lib.hid ha.1
  have HBS := Lib.hid hbs
  have HAH := Lib.hid ha
  have H3 := Lib.hid h3; clear h3
  obtain ⟨P, hP⟩ : ∃ P, place q.rank a.n = P := ⟨_, rfl⟩
  have HP : Hid (∀ W, Calls Tryz.prog 251 #[.int .i64 q.rank, .int .i64 a.n] W fun e w' => e = .returned (.int .i64 P) ∧ W = w') := fun W => hP ▸ place_any q.rank a.n W h1 h2
  rw [hP]
  have HV : Hid (rankV q.bs a.h P a.mx = rankGo q.bs a.h P a.mx (m - 0) 0) := by unfold rankV; rw [HLB.out]; rfl
  generalize rankV q.bs a.h P a.mx = V at HV ⊢
  clear hbs ha hP
  go_enter Tryz.func244, Tryz.ntmps244
  go_wp2_with (go_at_call 251; refine (HP.out _).mono ?_; rintro e w' ⟨rfl, rfl⟩)
  go_loopw [6, 17] (fun s i wr => ∃ (j : Nat) (S : Int), j ≤ m ∧ i = .int .i64 j ∧ s = .int .i64 S ∧ 0 ≤ S ∧ S ≤ 8192 * j ∧ Hid (isum (a.h.take j) = S) ∧ Hid (V = rankGo q.bs a.h P a.mx (m - j) j) ∧ Hid (RankW w (quC q B m d) (accC a A (m + 1) c) wr)) (fun _ i _ => m - (intOf i).toNat)
  case atStart => exact ⟨0, 0, Nat.zero_le _, rfl, rfl, by omega, by omega, rfl, HV, Lib.hid (rankW_new w (quC q B m d) (accC a A (m + 1) c))⟩
  case round =>
    clear HV
    obtain ⟨j, S, hj, rfl, rfl, hS0, hS1, HS, HV, HW⟩ := hrel
    by_cases hlt : j < m
    · obtain ⟨b1, o1, rfl, hc1⟩ := HBS.out.at_ (k := 0) (by omega)
      obtain ⟨b2, o2, rfl, hc2⟩ := HAH.out.at_ (k := 0) (by omega)
      have cb : wr.cell? ⟨b1, o1 + j, none⟩ = _ := (HW.out.keep.cell (block_lt_of_cell (hc1 j hlt))).trans (hc1 j hlt)
      have ca : wr.cell? ⟨b2, o2 + j, none⟩ = _ := (HW.out.keep.cell (block_lt_of_cell (hc2 j (by omega)))).trans (hc2 j (by omega))
      have c12 : wr.cell? ⟨w.heap.size + 1, 12, none⟩ = some (.slice (some ⟨b2, o2, none⟩) (m + 1) c) := HW.out.hasA.cell 12
      have hjk : (j : Int) < (m : Int) + 1 := by omega
      obtain ⟨r1, r2⟩ := H3.out j (by omega)
      have hST : Hid (isum (a.h.take (j + 1)) = S + nth a.h j) := by rw [Hid, isum_take_succ (by rw [HLA.out]; omega), HS.out]
      have hmj : m - j = (m - (j + 1)) + 1 := by omega
      have HMJ := Lib.hid hmj
      clear hc1 hc2 hmj
      by_cases hge : P ≤ S + nth a.h j
      · have hE : Hid (V = nth q.bs j) := by rw [Hid, HV.out, HMJ.out, rankGo_yes (by rw [hST.out]; exact hge)]
        go_wp2_with (refine wpList_store_row rfl 69 _ _ rfl (w.heap.size + 1 + 1) (outC (nth q.bs j) false none 0 0) rfl rfl 69 _ HW.out.hasO Tryz.sizeOut rfl (outC_one _ _ _ _ _) ?_)
        refine bodyPost_ret (ret_row1 rfl _ _ _ 69 (outC (nth q.bs j) false none 0 0) _ rfl (HW.out.hasO.row _) Tryz.underlying69 rfl (by exact Tryz.sizeOut)) rfl ?_
        exact ⟨none, 0, 0, by rw [hE.out], Ints.nil, Nat.le_refl _, Nat.zero_le _, OwnI.nil _ _, below_row HW.out.keep (by omega) _⟩
      · have hE : Hid (V = rankGo q.bs a.h P a.mx (m - (j + 1)) (j + 1)) := by rw [Hid, HV.out, HMJ.out, rankGo_no (by rw [hST.out]; exact hge)]
        go_wp2
        go_roundw
        case rel => exact ⟨j + 1, S + nth a.h j, by omega, by go_num, rfl, by omega, by omega, hST, hE, HW⟩
        case measure => simp [intOf]; omega
    · have hjm : j = m := by omega
      subst hjm
      have hE : Hid (V = a.mx) := by rw [Hid, HV.out, Nat.sub_self]; rfl
      have c3 : wr.cell? ⟨w.heap.size + 1, 3, none⟩ = some (.int .i64 a.mx) := HW.out.hasA.cell 3
      go_wp2_with (refine wpList_store_row rfl 69 _ _ rfl (w.heap.size + 1 + 1) (outC a.mx false none 0 0) rfl rfl 69 _ HW.out.hasO Tryz.sizeOut rfl (outC_one _ _ _ _ _) ?_)
      refine bodyPost_ret (ret_row1 rfl _ _ _ 69 (outC a.mx false none 0 0) _ rfl (HW.out.hasO.row _) Tryz.underlying69 rfl (by exact Tryz.sizeOut)) rfl ?_
      exact ⟨none, 0, 0, by rw [hE.out], Ints.nil, Nat.le_refl _, Nat.zero_le _, OwnI.nil _ _, below_row HW.out.keep (by omega) _⟩
end Go.Proofs.YtbpaepkcchpmbaaGreat
