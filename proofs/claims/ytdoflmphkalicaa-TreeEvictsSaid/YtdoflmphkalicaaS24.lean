/-
  Plain: items whose numbers rise, laid in one by one. No program here.
  Walk: TreeEvicts: what is below goes, the rest stays as it was.
-/
import Derived.Test.YtdoflmphkalicaaS21
import Derived.Test.YtdoflmphkalicaaS23
import Derived.Test.YtdoflmphkalicaaS22
import Derived.IntWalk
namespace Go.Proofs.Ytdoflmphkalicaa

/-- Items of one series, numbered from one on. -/
structure Fam (σ : Int) (f : Nat → It) : Prop where
  s : ∀ i, (f i).s = σ
  q : ∀ i : Nat, (f i).q = (i : Int) + 1
  ok : ∀ i, i < 64 → itemB (f i) = true
def rowF (f : Nat → It) (n : Nat) : List It := (List.range n).map f
section
variable {σ : Int} {f : Nat → It} {n j : Nat} {bs : List Int} {R xs : List It}
theorem rowF_succ (f : Nat → It) (n : Nat) : rowF f (n + 1) = rowF f n ++ [f n] := by simp [rowF, List.range_succ]
theorem rowF_len (f : Nat → It) (n : Nat) : (rowF f n).length = n := by simp [rowF]
theorem rowF_mem {y : It} (h : y ∈ rowF f n) : ∃ i, i < n ∧ y = f i := by
  obtain ⟨i, hi, rfl⟩ := List.mem_map.1 h
  exact ⟨i, by simpa using hi, rfl⟩
theorem rowF_in {i : Nat} (h : i < n) : f i ∈ rowF f n := List.mem_map.2 ⟨i, by simpa using h, rfl⟩
theorem Fam.its (F : Fam σ f) (hb : boundsB bs = true) (hn : n ≤ 64) : ItsT bs (rowF f n) :=
  ⟨hb, fun x hx => by obtain ⟨i, hi, rfl⟩ := rowF_mem hx; exact F.ok i (by omega), fun x hx y hy => by
    obtain ⟨i, _, rfl⟩ := rowF_mem hx
    obtain ⟨k, _, rfl⟩ := rowF_mem hy
    rw [F.s, F.s], by rw [rowF_len]; omega⟩
/-- The next one may stand with some of those ahead. -/
theorem Fam.fit (F : Fam σ f) (hb : boundsB bs = true) (hj : j < 64) (hR : ∀ y, y ∈ R → y ∈ rowF f j) (hl : R.length ≤ j) : fitT R [f j] = true := by
  have h1 : ItsT bs (rowF f (j + 1)) := F.its hb (by omega)
  have hR2 : ItsT bs R := h1.sub (fun y hy => by rw [rowF_succ]; exact List.mem_append_left _ (hR y hy)) (by rw [rowF_len]; omega)
  refine (fitT_iff hR2).2 (h1.sub (fun y hy => ?_) (by rw [rowF_len, List.length_append, List.length_singleton]; omega))
  rw [rowF_succ]
  rcases List.mem_append.1 hy with hy | hy
  · exact List.mem_append_left _ (hR y hy)
  · exact List.mem_append_right _ hy
theorem Fam.new (F : Fam σ f) (hR : ∀ y, y ∈ R → y ∈ rowF f j) : NewS R [f j] :=
  ⟨fun x hx => by
    simp only [List.mem_singleton] at hx
    subst hx
    refine twinB_no.2 fun y hy h => ?_
    obtain ⟨i, hi, rfl⟩ := rowF_mem (hR y hy)
    have := h.2
    rw [F.q, F.q] at this
    omega, List.pairwise_singleton _ _⟩
theorem Fam.news (F : Fam σ f) (n : Nat) : NewS [] (rowF f n) :=
  ⟨fun _ _ => rfl, by
    refine List.pairwise_map.2 (List.Pairwise.imp ?_ List.pairwise_lt_range)
    intro a b hab e
    have := e.2
    rw [F.q, F.q] at this
    omega⟩
theorem NewS.sublist {xs ys : List It} (h : NewS R ys) (hs : xs.Sublist ys) : NewS R xs := ⟨fun x hx => h.1 x (hs.subset hx), h.2.sublist hs⟩
theorem insAll_mem {y : It} : y ∈ insAll [] xs ↔ y ∈ xs := by rw [(insAll_perm [] xs).mem_iff, List.nil_append]
theorem insAll_len (xs : List It) : (insAll [] xs).length = xs.length := by rw [(insAll_perm [] xs).length_eq, List.nil_append]
theorem stay_snoc (b : Int) (xs : List It) (x : It) : stay b (xs ++ [x]) = if x.t < b then stay b xs else stay b xs ++ [x] := by
  unfold stay
  rw [List.filter_append]
  split
  · next h => simp; omega
  · next h => simp; omega
theorem stay_mem {b : Int} {y : It} : y ∈ stay b xs ↔ y ∈ xs ∧ ¬ y.t < b := by simp [stay, List.mem_filter]
/-- What stays of all, laid in, is what stays, laid in. -/
theorem stay_all_in (b : Int) (h : NewS [] xs) : stay b (insAll [] xs) = insAll [] (stay b xs) := by
  refine StrS.eq ((insAll_str List.Pairwise.nil h).filter _) (insAll_str List.Pairwise.nil (h.sublist List.filter_sublist)) fun y => ?_
  show y ∈ stay b (insAll [] xs) ↔ _
  rw [stay_mem, insAll_mem, insAll_mem, stay_mem]
/-- A span, cut. -/
theorem inS_cut {a m b : Int} (hs : StrS R) (h1 : a ≤ m) (h2 : m ≤ b) : inS a b R = inS a m R ++ inS m b R := by
  refine StrS.eq (hs.filter _) (List.pairwise_append.2 ⟨hs.filter _, hs.filter _, fun x hx y hy => ?_⟩) fun y => ?_
  · have e1 := (List.mem_filter.1 hx).2
    have e2 := (List.mem_filter.1 hy).2
    rw [decide_eq_true_eq] at e1 e2
    rw [lt2_iff]
    omega
  · unfold inS
    rw [List.mem_append, List.mem_filter, List.mem_filter, List.mem_filter, decide_eq_true_eq, decide_eq_true_eq, decide_eq_true_eq]
    constructor
    · rintro ⟨h, h3⟩
      by_cases h4 : y.t < m
      · exact .inl ⟨h, by omega⟩
      · exact .inr ⟨h, by omega⟩
    · rintro (⟨h, h3⟩ | ⟨h, h3⟩)
      · exact ⟨h, by omega⟩
      · exact ⟨h, by omega⟩
theorem inS_none {a b : Int} (h : b ≤ a) : inS a b R = [] := List.filter_eq_nil_iff.2 fun y _ => by simp; omega
end

end Go.Proofs.Ytdoflmphkalicaa

namespace Go.Proofs.Ytdoflmphkalicaa
open Go.RowKit

def evF (xs : List Int) (i : Nat) : It := ⟨1, nth xs i % 64, (i : Int) + 1, nth xs i / 64 % 64⟩
theorem mask63 (x : Int) : bits .and .i64 x 63 = x % 64 := mask_of x 6 63 (by decide) (by decide)
theorem mask15 (x : Int) : bits .and .i64 x 15 = x % 16 := mask_of x 4 15 (by decide) (by decide)
theorem evFam (xs : List Int) : Fam 1 (evF xs) := ⟨fun _ => rfl, fun _ => rfl, fun i hi => itemB_iff.2 (by simp only [evF]; omega)⟩
/-- Two trees beside one another: all, and what stays. -/
def EvS (w : World) (g gu : Nat) (b : Int) (f : Nat → It) (j k : Nat) (wr : World) : Prop :=
  ∃ O P, LT w O g [] (insAll [] (rowF f j)) wr ∧ LT w P gu [] (insAll [] (stay b (rowF f k))) wr ∧ ∀ k, O k → ¬ P k
/-- An Insert into the one, the other stays. -/
theorem grow_apart {w wr w' : World} {O P : Nat → Prop} {g : Nat} {bs : List Int} {R : List It} (l : LT w P g bs R wr) (h : ∀ k, O k → ¬ P k) : ∀ k, GrowT O wr w' k → ¬ P k := fun k hk hp => by
  rcases hk with hk | hk
  · exact h k hk hp
  · have := l.hi k hp; omega

set_option maxRecDepth 100000 in
set_option maxHeartbeats 8000000 in
theorem treeevicts_any (A : Option Addr) (n c : Nat) (xs : List Int) (x1 x2 : Int) (w : World) (hI : Ints w A n xs) (_ : n ≤ maxLen) (_ : ∀ x ∈ xs, (Lit.int .i64 x).wf = true) (_ : (Lit.int .i64 x1).wf = true) (_ : (Lit.int .i64 x2).wf = true) :
    Calls Try.prog 6 #[.slice A n c, .int .i64 x1, .int .i64 x2] w fun e w' => e = .returned (.bool true) ∧ Below w.heap.size w w' := by
  obtain ⟨f, hf⟩ : ∃ f, evF xs = f := ⟨_, rfl⟩
  have HF := Lib.hid hf
  have HFAM := Lib.hid (hf ▸ evFam xs)
  obtain ⟨b, hbm, hb0, hb1⟩ : ∃ b : Int, bits .and .i64 x1 63 = b ∧ 0 ≤ b ∧ b ≤ 63 := ⟨_, mask63 x1, by omega, by omega⟩
  obtain ⟨s, hsm, hs0, hs1⟩ : ∃ s : Int, bits .and .i64 x2 15 = s ∧ 0 ≤ s ∧ s ≤ 15 := ⟨_, mask15 x2, by omega, by omega⟩
  have hbs : wrap64 (b + s) = b + s := IntWalk.wrap64_in _ (by omega)
  have HI := Lib.hid hI
  clear hI hf
  go_enter Try.func6, Try.ntmps6
  go_wp2_with fail
  refine (aw19_any w).mono ?_
  rintro e w1 ⟨rfl, b1⟩
  have B1 := Lib.hid b1
  clear b1
  go_wp2_with fail
  refine (tnew_ok none 0 0 [] w1 Ints.nil (fun _ => rfl) rfl).mono ?_
  rintro e w2 ⟨g, rfl, hq, hb⟩
  have L1 := Lib.hid (LT.new B1.out hq hb)
  clear hq hb B1
  generalize (fun k => w1.heap.size ≤ k ∧ k < w2.heap.size) = O1 at L1
  go_wp2_with fail
  refine (tnew_ok none 0 0 [] w2 Ints.nil (fun _ => rfl) rfl).mono ?_
  rintro e w3 ⟨gu, rfl, hq, hb⟩
  have HS : Hid (EvS w g gu b f 0 0 w3) := ⟨_, _, L1.out.below hb, LT.new L1.out.keep hq hb, fun k hk hp => by have := L1.out.hi k hk; omega⟩
  clear hq hb L1
  go_wp2_with (go_at_call 12; refine (num0_any _ _).mono ?_; rintro e w' ⟨rfl, rfl⟩)
  go_loopw [13, 12] (fun i k wr => ∃ j q : Nat, j ≤ n ∧ j ≤ 40 ∧ i = .int .i64 j ∧ k = .int .i64 q ∧ Hid (q + (stay b (rowF f j)).length = j) ∧ Hid (EvS w g gu b f j j wr)) (fun i _ _ => 41 - (intOf i).toNat)
  case atStart => exact ⟨0, 0, Nat.zero_le _, by omega, rfl, rfl, rfl, HS⟩
  case round =>
    clear HS
    obtain ⟨j, q, hjn, hj40, rfl, rfl, HQ, HS⟩ := hrel
    have hq40 : q ≤ 40 := by have := HQ.out; omega
    by_cases hgo : j < n ∧ j < 40
    · obtain ⟨hlt, hlt40⟩ := hgo
      have hz1 : (j : Int) < (n : Int) := by omega
      have hz2 : (j : Int) < 40 := by omega
      obtain ⟨O, P, l1, l2, hd⟩ := HS.out
      have HL1 := Lib.hid l1
      have HL2 := Lib.hid l2
      have HD := Lib.hid hd
      have hIr := HI.out.below l1.keep
      obtain ⟨bb, o, rfl, hc⟩ := hIr.at_ hlt
      have HC := Lib.hid (hc j hlt)
      have hfj : f j = ⟨1, nth xs j % 64, (j : Int) + 1, nth xs j / 64 % 64⟩ := by rw [← HF.out]; rfl
      have HFJ := Lib.hid hfj
      clear hfj hIr hc l1 l2 hd HS
      go_upto_region 12 with fail
      refine te12_any (b := bb) (oo := o) (n := n) (c := c) (jj := j) (z := wr.heap.size) (x := nth xs j) (t1 := nth xs j % 64) (sh := nth xs j / 64 % 64) ⟨rfl, rfl, rfl, Nat.le_refl _, hlt, by omega, fun w' hb => (hb.cell (block_lt_of_cell HC.out)).trans HC.out, mask63 _, mask63 _⟩ (by kernel_rfl) ?_
      intro y14 w4 hB4 hY
      have HX := Lib.hid (show Has (w4.setRow y14 #[.int .i64 (f j).s, .int .i64 (f j).t, .int .i64 (f j).q, .int .i64 (f j).v]) y14 47 #[.int .i64 (f j).s, .int .i64 (f j).t, .int .i64 (f j).q, .int .i64 (f j).v] ∧ Below wr.heap.size wr (w4.setRow y14 #[.int .i64 (f j).s, .int .i64 (f j).t, .int .i64 (f j).q, .int .i64 (f j).v]) from ⟨hY.1.row _, below_row hB4 hY.2 _⟩)
      have HY := Lib.hid hY.1
      clear hB4 hY
      simp only [putAll, Act.put, List.setIfInBounds_toArray, List.set_cons_succ, List.set_cons_zero, List.drop_succ_cons, List.drop_zero]
      refine store_hasIt rfl _ _ rfl y14 (z := f j) rfl (by rw [HFJ.out]; rfl) HY.out rfl ?_
      rw [show itA (f j) = #[.int .i64 (f j).s, .int .i64 (f j).t, .int .i64 (f j).q, .int .i64 (f j).v] from rfl]
      generalize w4.setRow y14 _ = w5 at HX ⊢
      have HM1 := Lib.hid (show ∀ y, y ∈ insAll [] (rowF f j) → y ∈ rowF f j from fun y hy => insAll_mem.1 hy)
      have HM2 := Lib.hid (show ∀ y, y ∈ insAll [] (stay b (rowF f j)) → y ∈ rowF f j from fun y hy => (stay_mem.1 (insAll_mem.1 hy)).1)
      have hg1 := HL1.out.g_in
      have L5 := Lib.hid (show LT w O g [] (insAll [] (rowF f j)) w5 ∧ LT w P gu [] (insAll [] (stay b (rowF f j))) w5 ∧ y14 ≠ g from ⟨HL1.out.below HX.out.2, HL2.out.below HX.out.2, fun e => by
        have h1 := HL1.out.below HX.out.2
        exact h1.apart HX.out.1 e⟩)
      have HX5 := Lib.hid HX.out.1
      have HT := Lib.hid (show ∀ t, t = (f j).t → t = (f j).t from fun _ h => h)
      clear HY HC HX HL1 HL2 hg1 HT
      have HXJ := Lib.hid (show ∃ X, X = f j from ⟨_, rfl⟩)
      clear HXJ
      have HFIT1 := Lib.hid (HFAM.out.fit (bs := []) rfl (show j < 64 by omega) HM1.out (by rw [insAll_len, rowF_len]; exact Nat.le_refl _))
      have HFIT2 := Lib.hid (HFAM.out.fit (bs := []) rfl (show j < 64 by omega) HM2.out (by rw [insAll_len]; exact Nat.le_trans (List.length_filter_le _ _) (by rw [rowF_len]; exact Nat.le_refl _)))
      have HNEW1 := Lib.hid (HFAM.out.new HM1.out)
      have HNEW2 := Lib.hid (HFAM.out.new HM2.out)
      have HR1 := Lib.hid (show insAll (insAll [] (rowF f j)) [f j] = insAll [] (rowF f (j + 1)) by rw [rowF_succ, insAll_snoc]; rfl)
      have HR2 := Lib.hid (show insAll (insAll [] (stay b (rowF f j))) [f j] = insAll [] (stay b (rowF f j) ++ [f j]) by rw [insAll_snoc]; rfl)
      have HST := Lib.hid (show stay b (rowF f (j + 1)) = if (f j).t < b then stay b (rowF f j) else stay b (rowF f j) ++ [f j] by rw [rowF_succ, stay_snoc])
      clear HM1 HM2
      generalize hX : f j = X at HX5 HFIT1 HFIT2 HNEW1 HNEW2 HR1 HR2 HST ⊢
      clear hX HFJ
      have hx0 : w5.cell? ⟨y14, 0, none⟩ = some (.int .i64 X.s) := HX5.out.cell 0
      have hx1 : w5.cell? ⟨y14, 1, none⟩ = some (.int .i64 X.t) := HX5.out.cell 1
      have hx2 : w5.cell? ⟨y14, 2, none⟩ = some (.int .i64 X.q) := HX5.out.cell 2
      have hx3 : w5.cell? ⟨y14, 3, none⟩ = some (.int .i64 X.v) := HX5.out.cell 3
      go_wp2_with fail
      clear hx0 hx1 hx2 hx3
      have hal := (Below.refl w5.heap.size w5).alloc (Nat.le_refl _) (.cells #[.int .i64 X.s, .int .i64 X.t, .int .i64 X.q, .int .i64 X.v] 47)
      have hh := Has.made w5 47 #[.int .i64 X.s, .int .i64 X.t, .int .i64 X.q, .int .i64 X.v]
      have la := L5.out.1.below hal
      refine (la.insert (n := 1) (c := 1) (xs := [X]) (items_has (xs := [X]) hh rfl) (fun ad e => by injection e with e; rw [← e]; exact la.apart hh) HFIT1.out HNEW1.out).mono ?_
      rintro e w6 ⟨rfl, l, hbs6⟩
      rw [HR1.out] at l
      have L6x : ∃ O6 : Nat → Prop, LT w O6 g [] (insAll [] (rowF f (j + 1))) w6 ∧ LT w P gu [] (insAll [] (stay b (rowF f j))) w6 ∧ (∀ k, O6 k → ¬ P k) ∧ Has w6 y14 47 #[.int .i64 X.s, .int .i64 X.t, .int .i64 X.q, .int .i64 X.v] :=
        ⟨_, l, (L5.out.2.1.below hal).butS hbs6 (fun h => HD.out _ la.g_in.1 h) la.g_in.2.1, grow_apart (L5.out.2.1.below hal) HD.out, butS_new hbs6 (HX5.out.below hal HX5.out.lt) (by simpa using L5.out.2.2)⟩
      obtain ⟨O6, l6⟩ := L6x
      have L6 := Lib.hid l6
      clear l6 l hbs6 la hh hal L5 HX5 HFIT1 HNEW1 HR1 HD
      have hx0 : w6.cell? ⟨y14, 0, none⟩ = some (.int .i64 X.s) := L6.out.2.2.2.cell 0
      have hx1 : w6.cell? ⟨y14, 1, none⟩ = some (.int .i64 X.t) := L6.out.2.2.2.cell 1
      have hx2 : w6.cell? ⟨y14, 2, none⟩ = some (.int .i64 X.q) := L6.out.2.2.2.cell 2
      have hx3 : w6.cell? ⟨y14, 3, none⟩ = some (.int .i64 X.v) := L6.out.2.2.2.cell 3
      by_cases hxb : X.t < b
      · rw [if_pos hxb] at HST
        have hR : Hid (EvS w g gu b f (j + 1) (j + 1) w6) := ⟨O6, P, L6.out.1, HST.out ▸ L6.out.2.1, L6.out.2.2.1⟩
        have hQ : Hid ((q + 1) + (stay b (rowF f (j + 1))).length = j + 1) := by
          show (q + 1) + (stay b (rowF f (j + 1))).length = j + 1
          rw [HST.out]; have := HQ.out; omega
        clear HFIT2 HNEW2 HR2 HST L6 HQ
        go_wp2_with (go_at_call 12; refine (num0_any _ _).mono ?_; rintro e w' ⟨rfl, rfl⟩)
        go_roundw
        case rel => exact ⟨j + 1, q + 1, by omega, by omega, by go_num, by go_num, hQ, hR⟩
        case measure => simp [intOf]; omega
      · rw [if_neg hxb] at HST
        go_wp2_with (go_at_call 12; refine (num0_any _ _).mono ?_; rintro e w' ⟨rfl, rfl⟩)
        clear hx0 hx1 hx2 hx3
        have hal := (Below.refl w6.heap.size w6).alloc (Nat.le_refl _) (.cells #[.int .i64 X.s, .int .i64 X.t, .int .i64 X.q, .int .i64 X.v] 47)
        have hh := Has.made w6 47 #[.int .i64 X.s, .int .i64 X.t, .int .i64 X.q, .int .i64 X.v]
        have la := L6.out.2.1.below hal
        refine (la.insert (n := 1) (c := 1) (xs := [X]) (items_has (xs := [X]) hh rfl) (fun ad e => by injection e with e; rw [← e]; exact la.apart hh) HFIT2.out HNEW2.out).mono ?_
        rintro e w7 ⟨rfl, l, hbs7⟩
        rw [HR2.out, ← HST.out] at l
        have hR : Hid (EvS w g gu b f (j + 1) (j + 1) w7) := ⟨O6, _, (L6.out.1.below hal).butS hbs7 (fun h => L6.out.2.2.1 _ h la.g_in.1) la.g_in.2.1, l, fun k hk hp => grow_apart (L6.out.1.below hal) (fun k hk hp => L6.out.2.2.1 k hp hk) k hp hk⟩
        have hQ : Hid (q + (stay b (rowF f (j + 1))).length = j + 1) := by
          show q + (stay b (rowF f (j + 1))).length = j + 1
          rw [HST.out, List.length_append, List.length_singleton]; have := HQ.out; omega
        clear l hbs7 la hh hal L6 HFIT2 HNEW2 HR2 HST HQ
        go_wp2_with (go_at_call 12; refine (num0_any _ _).mono ?_; rintro e w' ⟨rfl, rfl⟩)
        go_roundw
        case rel => exact ⟨j + 1, q, by omega, by omega, by go_num, rfl, hQ, hR⟩
        case measure => simp [intOf]; omega
    · have HJ : Hid (j = n ∨ j = 40) := by show j = n ∨ j = 40; omega
      obtain ⟨O, P, l1, l2, hd⟩ := HS.out
      have hnew := HFAM.out.news j
      have hSR := stay_all_in b hnew
      have hlR : (insAll [] (rowF f j)).length = j := by rw [insAll_len, rowF_len]
      have hlS : q + (insAll [] (stay b (rowF f j))).length = j := by rw [insAll_len]; exact HQ.out
      have HL1 := Lib.hid l1
      have HL2 := Lib.hid l2
      have HD := Lib.hid hd
      have HSR := Lib.hid hSR
      have HLR := Lib.hid hlR
      have HLS := Lib.hid hlS
      have HSS := Lib.hid (show stay b (insAll [] (stay b (rowF f j))) = insAll [] (stay b (rowF f j)) by
        rw [← hSR]
        exact stay_all fun x hx => by have := (stay_mem.1 hx).2; omega)
      have HIN := Lib.hid (show inS (b + s) 64 (insAll [] (stay b (rowF f j))) = inS (b + s) 64 (insAll [] (rowF f j)) by
        rw [← hSR]
        unfold inS stay
        rw [List.filter_filter]
        refine List.filter_congr fun x _ => ?_
        by_cases h : b + s ≤ x.t ∧ x.t < 64
        · rw [decide_eq_true h, decide_eq_true (by omega)]; rfl
        · rw [decide_eq_false h]; rfl)
      clear l1 l2 hd HS hnew hSR hlR hlS HQ HI HF HFAM
      generalize insAll [] (rowF f j) = R at HL1 HSR HLR HIN
      generalize insAll [] (stay b (rowF f j)) = S at HL2 HSR HLS HSS HIN
      by_cases hz1 : (j : Int) < (n : Int)
      · have hz2 : ¬ ((j : Int) < 40) := by have := HJ.out; omega
        clear HJ
        go_upto_region 22 with fail
        have hal := (Below.refl wr.heap.size wr).alloc (Nat.le_refl _) (.cells #[.int .i64 (b + s), .int .i64 64] 38)
        have A1 := Lib.hid (show LT w O g [] R (wr.alloc (.cells #[.int .i64 (b + s), .int .i64 64] 38)) ∧ LT w P gu [] S (wr.alloc (.cells #[.int .i64 (b + s), .int .i64 64] 38)) ∧ Has (wr.alloc (.cells #[.int .i64 (b + s), .int .i64 64] 38)) wr.heap.size 38 #[.int .i64 (b + s), .int .i64 64] ∧ g < wr.heap.size from ⟨HL1.out.below hal, HL2.out.below hal, Has.made _ _ _, HL1.out.g_in.2.2⟩)
        clear hal HL1 HL2
        generalize wr.alloc _ = wq at A1 ⊢
        generalize wr.heap.size = sp at A1 ⊢
        have hs0 : wq.cell? ⟨sp, 0, none⟩ = some (.int .i64 (b + s)) := A1.out.2.2.1.cell 0
        have hs1 : wq.cell? ⟨sp, 1, none⟩ = some (.int .i64 64) := A1.out.2.2.1.cell 1
        have HRG := Lib.hid (A1.out.1.q.range (b + s) 64)
        have HVL := Lib.hid (show (foldA [] (inS (b + s) 64 R)).h.length ≤ maxLen by rw [foldA_len]; decide)
        have HVS := Lib.hid (show foldA [] (inS (b + s) 64 S) = foldA [] (inS (b + s) 64 R) by rw [HIN.out])
        generalize foldA [] (inS (b + s) 64 R) = V at HRG HVL HVS
        clear HIN
        go_upto_region 23 with (first | (refine HRG.out.mono ?_; clear HRG; rintro e w8 ⟨H0, _, rfl, hh, hb⟩; have A2 := Lib.hid (show LT w O g [] R w8 ∧ LT w P gu [] S w8 ∧ Has w8 sp 38 #[.int .i64 (b + s), .int .i64 64] ∧ Has w8 H0 3 (ints V.h) ∧ g < sp ∧ sp < w8.heap.size from ⟨A1.out.1.below hb, A1.out.2.1.below hb, A1.out.2.2.1.below hb A1.out.2.2.1.lt, hh, by have := A1.out.2.2.2; omega, Nat.lt_of_lt_of_le A1.out.2.2.1.lt hb.size⟩); clear hh hb A1 hs0 hs1) | (refine store_made rfl _ _ rfl rfl rfl rfl ?_))
        have hal := (Below.refl w8.heap.size w8).alloc (Nat.le_refl _) (.cells (accC V (some ⟨H0, 0, none⟩) V.h.length V.h.length) 49)
        have A3 := Lib.hid (show LT w O g [] R (w8.alloc (.cells (accC V (some ⟨H0, 0, none⟩) V.h.length V.h.length) 49)) ∧ LT w P gu [] S (w8.alloc (.cells (accC V (some ⟨H0, 0, none⟩) V.h.length V.h.length) 49)) ∧ Has (w8.alloc (.cells (accC V (some ⟨H0, 0, none⟩) V.h.length V.h.length) 49)) sp 38 #[.int .i64 (b + s), .int .i64 64] ∧ Has (w8.alloc (.cells (accC V (some ⟨H0, 0, none⟩) V.h.length V.h.length) 49)) H0 3 (ints V.h) ∧ Has (w8.alloc (.cells (accC V (some ⟨H0, 0, none⟩) V.h.length V.h.length) 49)) w8.heap.size 49 (accC V (some ⟨H0, 0, none⟩) V.h.length V.h.length) from ⟨A2.out.1.below hal, A2.out.2.1.below hal, A2.out.2.2.1.alloc _, A2.out.2.2.2.1.alloc _, Has.made _ _ _⟩)
        clear hal A2
        generalize w8.alloc _ = w9 at A3 ⊢
        generalize w8.heap.size = ac at A3 ⊢
        have HNE := Lib.hid (show sp ≠ g ∧ H0 ≠ g ∧ ac ≠ g from by
          obtain ⟨_, _, _, _, t1, _⟩ := A3.out.1.q
          exact ⟨fun e => has_types (e ▸ A3.out.2.2.1) t1.st (by decide), fun e => has_types (e ▸ A3.out.2.2.2.1) t1.st (by decide), fun e => has_types (e ▸ A3.out.2.2.2.2) t1.st (by decide)⟩)
        go_wp2_with fail
        refine (A3.out.1.evict b).mono ?_
        rintro e w10 ⟨rfl, l, hb⟩
        rw [HSR.out] at l ⊢
        have e10 : ((R.length : Nat) : Int) - ((S.length : Nat) : Int) = (q : Int) := by have := HLR.out; have := HLS.out; omega
        rw [e10]
        have A4x : ∃ O2 : Nat → Prop, LT w O2 g [] S w10 ∧ LT w P gu [] S w10 ∧ Has w10 sp 38 #[.int .i64 (b + s), .int .i64 64] ∧ Has w10 H0 3 (ints V.h) ∧ Has w10 ac 49 (accC V (some ⟨H0, 0, none⟩) V.h.length V.h.length) :=
          ⟨_, l, A3.out.2.1.butS hb (fun h => HD.out _ A3.out.1.g_in.1 h) A3.out.1.g_in.2.1, butS_new hb A3.out.2.2.1 (by simpa using HNE.out.1), butS_new hb A3.out.2.2.2.1 (by simpa using HNE.out.2.1), butS_new hb A3.out.2.2.2.2 (by simpa using HNE.out.2.2)⟩
        obtain ⟨O2, a4⟩ := A4x
        have A4 := Lib.hid a4
        have HS8 := Lib.hid (show S.length ≤ 17592186044416 by have := HLS.out; omega)
        clear a4 l hb e10 A3 HNE HSR HLR HLS HD
        go_upto_region 24 with fail
        refine te24_any (g := g) (gu := gu) (sp := sp) (ac := ac) (H0 := H0) (sa := b + s) (sb := 64) (u := b) (k := q) (R := S) (V := V) ⟨rfl, rfl, rfl, rfl, rfl, rfl, rfl, rfl, A4.out.2.2.1, A4.out.2.2.2.2, A4.out.2.2.2.1, HVL.out, HS8.out, fun w' hb => (A4.out.1.below hb).q.items, fun w' hb => (A4.out.2.1.below hb).q.items, fun w' hb => HVS.out ▸ (A4.out.1.below hb).q.range (b + s) 64, fun w' hb => HVS.out ▸ (A4.out.2.1.below hb).q.range (b + s) 64⟩ (by kernel_rfl) (fun _ _ h => h) ?_
        intro A108 n108 c108 A110 n110 c110 H116 H123 w11 hB _ _ _ _
        have A5 := Lib.hid (A4.out.1.below hB)
        clear hB A4 HVL HVS HS8
        simp only [putAll, Act.put, List.setIfInBounds_toArray, List.set_cons_succ, List.set_cons_zero, List.drop_succ_cons, List.drop_zero]
        go_wp2_with fail
        refine (A5.out.evict b).mono ?_
        rintro e w12 ⟨rfl, l, _⟩
        rw [HSS.out]
        have e12 : ((S.length : Nat) : Int) - ((S.length : Nat) : Int) = 0 := by omega
        rw [e12]
        have KP := Lib.hid l.keep
        clear l A5 HSS e12
        go_wp2_with fail
        go_ret
        exact ⟨rfl, KP.out⟩
      · clear HJ
        go_upto_region 22 with fail
        have hal := (Below.refl wr.heap.size wr).alloc (Nat.le_refl _) (.cells #[.int .i64 (b + s), .int .i64 64] 38)
        have A1 := Lib.hid (show LT w O g [] R (wr.alloc (.cells #[.int .i64 (b + s), .int .i64 64] 38)) ∧ LT w P gu [] S (wr.alloc (.cells #[.int .i64 (b + s), .int .i64 64] 38)) ∧ Has (wr.alloc (.cells #[.int .i64 (b + s), .int .i64 64] 38)) wr.heap.size 38 #[.int .i64 (b + s), .int .i64 64] ∧ g < wr.heap.size from ⟨HL1.out.below hal, HL2.out.below hal, Has.made _ _ _, HL1.out.g_in.2.2⟩)
        clear hal HL1 HL2
        generalize wr.alloc _ = wq at A1 ⊢
        generalize wr.heap.size = sp at A1 ⊢
        have hs0 : wq.cell? ⟨sp, 0, none⟩ = some (.int .i64 (b + s)) := A1.out.2.2.1.cell 0
        have hs1 : wq.cell? ⟨sp, 1, none⟩ = some (.int .i64 64) := A1.out.2.2.1.cell 1
        have HRG := Lib.hid (A1.out.1.q.range (b + s) 64)
        have HVL := Lib.hid (show (foldA [] (inS (b + s) 64 R)).h.length ≤ maxLen by rw [foldA_len]; decide)
        have HVS := Lib.hid (show foldA [] (inS (b + s) 64 S) = foldA [] (inS (b + s) 64 R) by rw [HIN.out])
        generalize foldA [] (inS (b + s) 64 R) = V at HRG HVL HVS
        clear HIN
        go_upto_region 23 with (first | (refine HRG.out.mono ?_; clear HRG; rintro e w8 ⟨H0, _, rfl, hh, hb⟩; have A2 := Lib.hid (show LT w O g [] R w8 ∧ LT w P gu [] S w8 ∧ Has w8 sp 38 #[.int .i64 (b + s), .int .i64 64] ∧ Has w8 H0 3 (ints V.h) ∧ g < sp ∧ sp < w8.heap.size from ⟨A1.out.1.below hb, A1.out.2.1.below hb, A1.out.2.2.1.below hb A1.out.2.2.1.lt, hh, by have := A1.out.2.2.2; omega, Nat.lt_of_lt_of_le A1.out.2.2.1.lt hb.size⟩); clear hh hb A1 hs0 hs1) | (refine store_made rfl _ _ rfl rfl rfl rfl ?_))
        have hal := (Below.refl w8.heap.size w8).alloc (Nat.le_refl _) (.cells (accC V (some ⟨H0, 0, none⟩) V.h.length V.h.length) 49)
        have A3 := Lib.hid (show LT w O g [] R (w8.alloc (.cells (accC V (some ⟨H0, 0, none⟩) V.h.length V.h.length) 49)) ∧ LT w P gu [] S (w8.alloc (.cells (accC V (some ⟨H0, 0, none⟩) V.h.length V.h.length) 49)) ∧ Has (w8.alloc (.cells (accC V (some ⟨H0, 0, none⟩) V.h.length V.h.length) 49)) sp 38 #[.int .i64 (b + s), .int .i64 64] ∧ Has (w8.alloc (.cells (accC V (some ⟨H0, 0, none⟩) V.h.length V.h.length) 49)) H0 3 (ints V.h) ∧ Has (w8.alloc (.cells (accC V (some ⟨H0, 0, none⟩) V.h.length V.h.length) 49)) w8.heap.size 49 (accC V (some ⟨H0, 0, none⟩) V.h.length V.h.length) from ⟨A2.out.1.below hal, A2.out.2.1.below hal, A2.out.2.2.1.alloc _, A2.out.2.2.2.1.alloc _, Has.made _ _ _⟩)
        clear hal A2
        generalize w8.alloc _ = w9 at A3 ⊢
        generalize w8.heap.size = ac at A3 ⊢
        have HNE := Lib.hid (show sp ≠ g ∧ H0 ≠ g ∧ ac ≠ g from by
          obtain ⟨_, _, _, _, t1, _⟩ := A3.out.1.q
          exact ⟨fun e => has_types (e ▸ A3.out.2.2.1) t1.st (by decide), fun e => has_types (e ▸ A3.out.2.2.2.1) t1.st (by decide), fun e => has_types (e ▸ A3.out.2.2.2.2) t1.st (by decide)⟩)
        go_wp2_with fail
        refine (A3.out.1.evict b).mono ?_
        rintro e w10 ⟨rfl, l, hb⟩
        rw [HSR.out] at l ⊢
        have e10 : ((R.length : Nat) : Int) - ((S.length : Nat) : Int) = (q : Int) := by have := HLR.out; have := HLS.out; omega
        rw [e10]
        have A4x : ∃ O2 : Nat → Prop, LT w O2 g [] S w10 ∧ LT w P gu [] S w10 ∧ Has w10 sp 38 #[.int .i64 (b + s), .int .i64 64] ∧ Has w10 H0 3 (ints V.h) ∧ Has w10 ac 49 (accC V (some ⟨H0, 0, none⟩) V.h.length V.h.length) :=
          ⟨_, l, A3.out.2.1.butS hb (fun h => HD.out _ A3.out.1.g_in.1 h) A3.out.1.g_in.2.1, butS_new hb A3.out.2.2.1 (by simpa using HNE.out.1), butS_new hb A3.out.2.2.2.1 (by simpa using HNE.out.2.1), butS_new hb A3.out.2.2.2.2 (by simpa using HNE.out.2.2)⟩
        obtain ⟨O2, a4⟩ := A4x
        have A4 := Lib.hid a4
        have HS8 := Lib.hid (show S.length ≤ 17592186044416 by have := HLS.out; omega)
        clear a4 l hb e10 A3 HNE HSR HLR HLS HD
        go_upto_region 24 with fail
        refine te24_any (g := g) (gu := gu) (sp := sp) (ac := ac) (H0 := H0) (sa := b + s) (sb := 64) (u := b) (k := q) (R := S) (V := V) ⟨rfl, rfl, rfl, rfl, rfl, rfl, rfl, rfl, A4.out.2.2.1, A4.out.2.2.2.2, A4.out.2.2.2.1, HVL.out, HS8.out, fun w' hb => (A4.out.1.below hb).q.items, fun w' hb => (A4.out.2.1.below hb).q.items, fun w' hb => HVS.out ▸ (A4.out.1.below hb).q.range (b + s) 64, fun w' hb => HVS.out ▸ (A4.out.2.1.below hb).q.range (b + s) 64⟩ (by kernel_rfl) (fun _ _ h => h) ?_
        intro A108 n108 c108 A110 n110 c110 H116 H123 w11 hB _ _ _ _
        have A5 := Lib.hid (A4.out.1.below hB)
        clear hB A4 HVL HVS HS8
        simp only [putAll, Act.put, List.setIfInBounds_toArray, List.set_cons_succ, List.set_cons_zero, List.drop_succ_cons, List.drop_zero]
        go_wp2_with fail
        refine (A5.out.evict b).mono ?_
        rintro e w12 ⟨rfl, l, _⟩
        rw [HSS.out]
        have e12 : ((S.length : Nat) : Int) - ((S.length : Nat) : Int) = 0 := by omega
        rw [e12]
        have KP := Lib.hid l.keep
        clear l A5 HSS e12
        go_wp2_with fail
        go_ret
        exact ⟨rfl, KP.out⟩

end Go.Proofs.Ytdoflmphkalicaa
