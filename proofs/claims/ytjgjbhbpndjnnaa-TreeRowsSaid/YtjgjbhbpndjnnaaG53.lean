/-
  Plain: items whose numbers rise, laid in one by one. No program here.
  Walk: the laws' awake.
-/
import Derived.Test.YtjgjbhbpndjnnaaTrAdd
import Derived.Test.YtjgjbhbpndjnnaaG49
import Derived.Test.YtjgjbhbpndjnnaaG50
namespace Go.Proofs.Ytjgjbhbpndjnnaa

/-- Items of one series, numbered from one on. -/
structure Fam (σ : Int) (f : Nat → It) : Prop where
  s : ∀ i, (f i).s = σ
  q : ∀ i : Nat, (f i).q = (i : Int) + 1
  ok : ∀ i, i < 64 → itemB (f i) = true
def rowF (f : Nat → It) (n : Nat) : List It := (List.range n).map f
section
variable {σ : Int} {f : Nat → It} {n j : Nat} {bs : List Int} {R xs : List It}
theorem rowF_succ (f : Nat → It) (n : Nat) : rowF f (n + 1) = rowF f n ++ [f n] := by simp [rowF, List.range_succ]
theorem rowF_len (f : Nat → It) (n : Nat) : (rowF f n).length = n := by simp [rowF]
theorem rowF_mem {y : It} (h : y ∈ rowF f n) : ∃ i, i < n ∧ y = f i := by
  obtain ⟨i, hi, rfl⟩ := List.mem_map.1 h
  exact ⟨i, by simpa using hi, rfl⟩
theorem rowF_in {i : Nat} (h : i < n) : f i ∈ rowF f n := List.mem_map.2 ⟨i, by simpa using h, rfl⟩
theorem Fam.its (F : Fam σ f) (hb : boundsB bs = true) (hn : n ≤ 64) : ItsT bs (rowF f n) :=
  ⟨hb, fun x hx => by obtain ⟨i, hi, rfl⟩ := rowF_mem hx; exact F.ok i (by omega), fun x hx y hy => by
    obtain ⟨i, _, rfl⟩ := rowF_mem hx
    obtain ⟨k, _, rfl⟩ := rowF_mem hy
    rw [F.s, F.s], by rw [rowF_len]; omega⟩
/-- The next one may stand with some of those ahead. -/
theorem Fam.fit (F : Fam σ f) (hb : boundsB bs = true) (hj : j < 64) (hR : ∀ y, y ∈ R → y ∈ rowF f j) (hl : R.length ≤ j) : fitT R [f j] = true := by
  have h1 : ItsT bs (rowF f (j + 1)) := F.its hb (by omega)
  have hR2 : ItsT bs R := h1.sub (fun y hy => by rw [rowF_succ]; exact List.mem_append_left _ (hR y hy)) (by rw [rowF_len]; omega)
  refine (fitT_iff hR2).2 (h1.sub (fun y hy => ?_) (by rw [rowF_len, List.length_append, List.length_singleton]; omega))
  rw [rowF_succ]
  rcases List.mem_append.1 hy with hy | hy
  · exact List.mem_append_left _ (hR y hy)
  · exact List.mem_append_right _ hy
theorem Fam.new (F : Fam σ f) (hR : ∀ y, y ∈ R → y ∈ rowF f j) : NewS R [f j] :=
  ⟨fun x hx => by
    simp only [List.mem_singleton] at hx
    subst hx
    refine twinB_no.2 fun y hy h => ?_
    obtain ⟨i, hi, rfl⟩ := rowF_mem (hR y hy)
    have := h.2
    rw [F.q, F.q] at this
    omega, List.pairwise_singleton _ _⟩
theorem Fam.news (F : Fam σ f) (n : Nat) : NewS [] (rowF f n) :=
  ⟨fun _ _ => rfl, by
    refine List.pairwise_map.2 (List.Pairwise.imp ?_ List.pairwise_lt_range)
    intro a b hab e
    have := e.2
    rw [F.q, F.q] at this
    omega⟩
theorem NewS.sublist {xs ys : List It} (h : NewS R ys) (hs : xs.Sublist ys) : NewS R xs := ⟨fun x hx => h.1 x (hs.subset hx), h.2.sublist hs⟩
theorem insAll_mem {y : It} : y ∈ insAll [] xs ↔ y ∈ xs := by rw [(insAll_perm [] xs).mem_iff, List.nil_append]
theorem insAll_len (xs : List It) : (insAll [] xs).length = xs.length := by rw [(insAll_perm [] xs).length_eq, List.nil_append]
theorem stay_snoc (b : Int) (xs : List It) (x : It) : stay b (xs ++ [x]) = if x.t < b then stay b xs else stay b xs ++ [x] := by
  unfold stay
  rw [List.filter_append]
  split
  · next h => simp; omega
  · next h => simp; omega
theorem stay_mem {b : Int} {y : It} : y ∈ stay b xs ↔ y ∈ xs ∧ ¬ y.t < b := by simp [stay, List.mem_filter]
/-- What stays of all, laid in, is what stays, laid in. -/
theorem stay_all_in (b : Int) (h : NewS [] xs) : stay b (insAll [] xs) = insAll [] (stay b xs) := by
  refine StrS.eq ((insAll_str List.Pairwise.nil h).filter _) (insAll_str List.Pairwise.nil (h.sublist List.filter_sublist)) fun y => ?_
  show y ∈ stay b (insAll [] xs) ↔ _
  rw [stay_mem, insAll_mem, insAll_mem, stay_mem]
/-- A span, cut. -/
theorem inS_cut {a m b : Int} (hs : StrS R) (h1 : a ≤ m) (h2 : m ≤ b) : inS a b R = inS a m R ++ inS m b R := by
  refine StrS.eq (hs.filter _) (List.pairwise_append.2 ⟨hs.filter _, hs.filter _, fun x hx y hy => ?_⟩) fun y => ?_
  · have e1 := (List.mem_filter.1 hx).2
    have e2 := (List.mem_filter.1 hy).2
    rw [decide_eq_true_eq] at e1 e2
    rw [lt2_iff]
    omega
  · unfold inS
    rw [List.mem_append, List.mem_filter, List.mem_filter, List.mem_filter, decide_eq_true_eq, decide_eq_true_eq, decide_eq_true_eq]
    constructor
    · rintro ⟨h, h3⟩
      by_cases h4 : y.t < m
      · exact .inl ⟨h, by omega⟩
      · exact .inr ⟨h, by omega⟩
    · rintro (⟨h, h3⟩ | ⟨h, h3⟩)
      · exact ⟨h, by omega⟩
      · exact ⟨h, by omega⟩
theorem inS_none {a b : Int} (h : b ≤ a) : inS a b R = [] := List.filter_eq_nil_iff.2 fun y _ => by simp; omega
end

end Go.Proofs.Ytjgjbhbpndjnnaa

namespace Go.Proofs.Ytjgjbhbpndjnnaa
open Go.RowKit

def aw1 : List It := [⟨0, 5, 1, 2⟩, ⟨0, 3, 2, 4⟩, ⟨0, 5, 3, 8⟩]
def aw2 : List It := [⟨0, 9, 4, 1⟩, ⟨0, 5, 3, 1⟩]
def aw3 : List It := [⟨1, 9, 4, 1⟩]
def aw4 : List It := [⟨0, 3, 2, 4⟩, ⟨0, 5, 1, 2⟩, ⟨0, 5, 3, 8⟩]
def aw5 : List It := [⟨0, 5, 1, 2⟩, ⟨0, 5, 3, 8⟩]
theorem aw_new1 : NewS [] aw1 := ⟨by decide, by decide⟩
theorem aw_row : insAll [] aw1 = aw4 := rfl
theorem aw_new2 : ¬ NewS aw4 aw2 := fun h => by have := h.1 ⟨0, 5, 3, 1⟩ (by simp [aw2]); revert this; decide
theorem aw_stay : stay 5 aw4 = aw5 := rfl
theorem aw_in1 : (foldA [] (inS 3 5 aw4)).n = 1 ∧ (foldA [] (inS 3 5 aw4)).s = 4 := by decide
theorem aw_in2 : (foldA [] (inS 5 6 aw4)).n = 2 ∧ (foldA [] (inS 5 6 aw4)).s = 10 := by decide
theorem butS_new {w w' : World} {gs : List Nat} {g : Nat} {t : TypeId} {cs : Array Value} (hb : ButS gs w w') (h : Has w g t cs) (hg : g ∉ gs) : Has w' g t cs := (hb.other g h.lt hg).trans h

set_option maxRecDepth 100000 in
set_option maxHeartbeats 4000000 in
theorem aw19_any (w : World) : Calls Try.prog 25 #[] w fun e w' => e = .returned (.bool true) ∧ Below w.heap.size w w' := by
  go_enter Try.func25, Try.ntmps25
  go_wp2_with fail
  refine (tnew_ok none 0 0 [] w Ints.nil (fun _ => rfl) rfl).mono ?_
  rintro e w1 ⟨g, rfl, hq, hb⟩
  have L1 := Lib.hid (LT.new (Below.refl _ w) hq hb)
  clear hq hb
  generalize (fun k => w.heap.size ≤ k ∧ k < w1.heap.size) = O1 at L1
  go_wp2_with fail
  refine (tnew_no _ 2 2 [2, 1] _ (ints_of_has (Has.made _ _ _) rfl) (by unfold maxLen; omega) rfl).mono ?_
  rintro e w2 ⟨rfl, hb⟩
  have L2 := Lib.hid ((L1.out.below ((Below.refl _ _).alloc (Nat.le_refl _) _)).below hb)
  clear hb L1
  go_wp2_with (go_at_call 16; refine (num0_any _ _).mono ?_; rintro e w' ⟨rfl, rfl⟩)
  refine (item19_any _ _ _ _ _).mono ?_
  rintro e w3 ⟨rfl, hb⟩
  have L3 := Lib.hid (L2.out.below hb)
  clear hb L2
  go_wp2_with fail
  refine (item19_any _ _ _ _ _).mono ?_
  rintro e w4 ⟨rfl, hb⟩
  have L4 := Lib.hid (L3.out.below hb)
  clear hb L3
  go_wp2_with fail
  refine (item19_any _ _ _ _ _).mono ?_
  rintro e w5 ⟨rfl, hb⟩
  have L5 := Lib.hid (L4.out.below hb)
  clear hb L4
  go_wp2_with fail
  have L6 := Lib.hid (L5.out.below ((Below.refl _ _).alloc (Nat.le_refl _) (.cells #[.int .i64 0, .int .i64 5, .int .i64 1, .int .i64 2, .int .i64 0, .int .i64 3, .int .i64 2, .int .i64 4, .int .i64 0, .int .i64 5, .int .i64 3, .int .i64 8] 23)))
  have hh := Has.made w5 23 #[.int .i64 0, .int .i64 5, .int .i64 1, .int .i64 2, .int .i64 0, .int .i64 3, .int .i64 2, .int .i64 4, .int .i64 0, .int .i64 5, .int .i64 3, .int .i64 8]
  refine (L6.out.insert (n := 3) (c := 3) (xs := aw1) (items_has (xs := aw1) hh rfl) (fun ad e => by injection e with e; rw [← e]; exact L6.out.apart hh) rfl aw_new1).mono ?_
  rintro e w7 ⟨rfl, l, _⟩
  rw [aw_row] at l
  have L7 := Lib.hid l
  clear l L6 hh L5
  generalize GrowT _ _ _ = O7 at L7
  go_wp2_with fail
  refine (item19_any _ _ _ _ _).mono ?_
  rintro e w8 ⟨rfl, hb⟩
  have L8 := Lib.hid (L7.out.below hb)
  clear hb L7
  go_wp2_with fail
  refine (item19_any _ _ _ _ _).mono ?_
  rintro e w9 ⟨rfl, hb⟩
  have L9 := Lib.hid (L8.out.below hb)
  clear hb L8
  go_wp2_with fail
  have L10 := Lib.hid (L9.out.below ((Below.refl _ _).alloc (Nat.le_refl _) (.cells #[.int .i64 0, .int .i64 9, .int .i64 4, .int .i64 1, .int .i64 0, .int .i64 5, .int .i64 3, .int .i64 1] 23)))
  have hh := Has.made w9 23 #[.int .i64 0, .int .i64 9, .int .i64 4, .int .i64 1, .int .i64 0, .int .i64 5, .int .i64 3, .int .i64 1]
  refine (L10.out.insert_twice (n := 2) (c := 2) (xs := aw2) (items_has (xs := aw2) hh rfl) rfl aw_new2).mono ?_
  rintro e w11 ⟨rfl, l, _⟩
  have L11 := Lib.hid l
  clear l L10 hh L9
  go_wp2_with fail
  refine (item19_any _ _ _ _ _).mono ?_
  rintro e w12 ⟨rfl, hb⟩
  have L12 := Lib.hid (L11.out.below hb)
  clear hb L11
  go_wp2_with fail
  have L13 := Lib.hid (L12.out.below ((Below.refl _ _).alloc (Nat.le_refl _) (.cells #[.int .i64 1, .int .i64 9, .int .i64 4, .int .i64 1] 23)))
  have hh := Has.made w12 23 #[.int .i64 1, .int .i64 9, .int .i64 4, .int .i64 1]
  refine (L13.out.insert_form (n := 1) (c := 1) (xs := aw3) (items_has (xs := aw3) hh rfl) (by omega) rfl).mono ?_
  rintro e w14 ⟨rfl, l, _⟩
  have L14 := Lib.hid l
  clear l L13 hh L12
  go_wp2_with fail
  refine (L14.out.q.range 3 5).mono ?_
  rintro e w15 ⟨H1, _, rfl, hh1, hb⟩
  have L15 := Lib.hid (L14.out.below hb)
  clear hb L14 hh1
  have E1 := Lib.hid aw_in1
  generalize foldA [] (inS 3 5 aw4) = V1 at E1
  go_wp2_with fail
  refine (L15.out.q.range 5 6).mono ?_
  rintro e w16 ⟨H2, _, rfl, hh2, hb⟩
  have L16 := Lib.hid (L15.out.below hb)
  clear hb L15 hh2
  have E2 := Lib.hid aw_in2
  generalize foldA [] (inS 5 6 aw4) = V2 at E2
  go_upto_region 9 with (first | (refine store_has rfl _ _ rfl w16.heap.size (ac := V1) (A := some ⟨H1, 0, none⟩) (k := V1.h.length) (c := V1.h.length) rfl rfl ((Has.made _ _ _).alloc _) rfl ?_) | (refine store_has rfl _ _ rfl (w16.heap.size + 1) (ac := V2) (A := some ⟨H2, 0, none⟩) (k := V2.h.length) (c := V2.h.length) rfl rfl ((made2 _ _ _ _).rowFar (by omega) _) rfl ?_))
  have X1 : ∀ (o o' : Array Value) (c1 c2 : Array Value), Has ((((w16.alloc (.cells o 29)).alloc (.cells o' 29)).setRow w16.heap.size c1).setRow (w16.heap.size + 1) c2) w16.heap.size 29 c1 ∧ Has ((((w16.alloc (.cells o 29)).alloc (.cells o' 29)).setRow w16.heap.size c1).setRow (w16.heap.size + 1) c2) (w16.heap.size + 1) 29 c2 ∧ Below w16.heap.size w16 ((((w16.alloc (.cells o 29)).alloc (.cells o' 29)).setRow w16.heap.size c1).setRow (w16.heap.size + 1) c2) := fun o o' c1 c2 =>
    ⟨(((Has.made _ _ _).alloc _).row _).rowFar (by omega) _, ((made2 _ _ _ _).rowFar (by omega) _).row _, below_row (below_row (below_alloc ((Below.refl _ _).alloc (Nat.le_refl _) _) (Nat.le_refl _) _) (Nat.le_refl _) _) (by omega) _⟩
  obtain ⟨x1, x2, x3⟩ := X1 #[.int .i64 0, .int .i64 0, .int .i64 0, .int .i64 0, .int .i64 0, .int .i64 0, .int .i64 0, .int .i64 0, .int .i64 0, .int .i64 0, .int .i64 0, .int .i64 0, .slice none 0 0] #[.int .i64 0, .int .i64 0, .int .i64 0, .int .i64 0, .int .i64 0, .int .i64 0, .int .i64 0, .int .i64 0, .int .i64 0, .int .i64 0, .int .i64 0, .int .i64 0, .slice none 0 0] (accC V1 (some ⟨H1, 0, none⟩) V1.h.length V1.h.length) (accC V2 (some ⟨H2, 0, none⟩) V2.h.length V2.h.length)
  clear X1
  generalize World.setRow _ (w16.heap.size + 1) _ = w17 at x1 x2 x3 ⊢
  have L17 := Lib.hid (L16.out.below x3)
  have HG := Lib.hid (show g < w16.heap.size from L16.out.g_in.2.2)
  have K1 := Lib.hid x1
  have K2 := Lib.hid x2
  clear x1 x2 x3 L16
  go_wp2_with fail
  refine (L17.out.evict 5).mono ?_
  rintro e w18 ⟨rfl, l, hb⟩
  rw [aw_stay] at l ⊢
  have L18 := Lib.hid l
  have hg := HG.out
  have hc0 : w18.cell? ⟨w16.heap.size, 0, none⟩ = some (.int .i64 1) := by rw [(butS_new hb K1.out (by simp; omega)).cell, accC_0, E1.out.1]
  have hc1 : w18.cell? ⟨w16.heap.size, 1, none⟩ = some (.int .i64 4) := by rw [(butS_new hb K1.out (by simp; omega)).cell, accC_1, E1.out.2]
  have hc2 : w18.cell? ⟨w16.heap.size + 1, 0, none⟩ = some (.int .i64 2) := by rw [(butS_new hb K2.out (by simp; omega)).cell, accC_0, E2.out.1]
  have hc3 : w18.cell? ⟨w16.heap.size + 1, 1, none⟩ = some (.int .i64 10) := by rw [(butS_new hb K2.out (by simp; omega)).cell, accC_1, E2.out.2]
  have e9 : ((aw4.length : Nat) : Int) - ((aw5.length : Nat) : Int) = 1 := by decide
  rw [e9]
  clear l hb L17 K1 K2 HG hg e9 E1 E2
  generalize GrowT _ _ _ = O18 at L18
  go_wp2_with (go_at_call 16; refine (num0_any _ _).mono ?_; rintro e w' ⟨rfl, rfl⟩)
  refine L18.out.q.items.mono ?_
  rintro e w19 ⟨A9, c9, rfl, ho, hb⟩
  have L19 := Lib.hid (L18.out.below hb)
  have HI := Lib.hid ho.items
  clear ho hb L18 hc0 hc1 hc2 hc3
  go_wp2_with fail
  refine (item19_any _ _ _ _ _).mono ?_
  rintro e w20 ⟨rfl, hb⟩
  have L20 := Lib.hid (L19.out.below hb)
  have HI2 := Lib.hid (HI.out.below hb)
  clear hb L19 HI
  go_wp2_with fail
  refine (item19_any _ _ _ _ _).mono ?_
  rintro e w21 ⟨rfl, hb⟩
  have L21 := Lib.hid (L20.out.below hb)
  have HI3 := Lib.hid (HI2.out.below hb)
  clear hb L20 HI2
  go_wp2_with fail
  have hal := (Below.refl w21.heap.size w21).alloc (Nat.le_refl _) (.cells #[.int .i64 0, .int .i64 5, .int .i64 1, .int .i64 2, .int .i64 0, .int .i64 5, .int .i64 3, .int .i64 8] 23)
  have hh := Has.made w21 23 #[.int .i64 0, .int .i64 5, .int .i64 1, .int .i64 2, .int .i64 0, .int .i64 5, .int .i64 3, .int .i64 8]
  refine (sameitems_any _ _ 2 _ _ aw5 _ (HI3.out.below hal) (items_has (xs := aw5) hh rfl) (by omega)).mono ?_
  rintro e w22 ⟨rfl, hb⟩
  have L22 := Lib.hid (L21.out.below (hal.trans (hb.mono hal.size)))
  clear hal hh hb L21 HI3
  go_wp2_with fail
  go_ret
  exact ⟨rfl, L22.out.keep⟩

end Go.Proofs.Ytjgjbhbpndjnnaa
