/-
  Plain facts: rows sorted by time, like ones in the row in which they came: what a rotation, a swap, a merge leaves. No program here.
  Walks: slices.swapRangeCmpFunc, slices.rotateCmpFunc at items.
-/
import Derived.Test.YtgdeaddfkcokpaaPure
import Derived.Sort.LotA
import Derived.Sort.WalkA
import Derived.Test.YtgdeaddfkcokpaaLeaf
import Derived.Shelf.SlSortCmp.KitK
import Derived.Sort.WalkB2
import Derived.Sort.WalkB12
import Derived.Deep.LoopGhost
namespace Go.Proofs.Ytgdeaddfkcokpaa
open Go.Sort

instance : Inhabited It := ⟨⟨0, 0, 0, 0⟩⟩
def ltT (x y : It) : Bool := decide (x.t < y.t)
def key (t : Int) (d : Array It) : List It := d.toList.filter fun x => decide (x.t = t)
def Srt (a b : Nat) (d : Array It) : Prop := ∀ i j, a ≤ i → i ≤ j → j < b → (d[i]!).t ≤ (d[j]!).t
/-- e is d turned within a .. b, like ones in their row. -/
structure Mrg (a b : Nat) (d e : Array It) : Prop where
  size : e.size = d.size
  keys : ∀ t, key t e = key t d
  out : ∀ k, (k < a ∨ b ≤ k) → e[k]! = d[k]!
  inn : ∀ i, a ≤ i → i < b → ∃ j, a ≤ j ∧ j < b ∧ e[i]! = d[j]!
theorem Mrg.refl (a b : Nat) (d : Array It) : Mrg a b d d := ⟨rfl, fun _ => rfl, fun _ _ => rfl, fun i h1 h2 => ⟨i, h1, h2, rfl⟩⟩
theorem Mrg.trans {a b : Nat} {d e f : Array It} (h : Mrg a b d e) (g : Mrg a b e f) : Mrg a b d f :=
  ⟨g.size.trans h.size, fun t => (g.keys t).trans (h.keys t), fun k hk => (g.out k hk).trans (h.out k hk), fun i h1 h2 => by
    obtain ⟨j, j1, j2, e1⟩ := g.inn i h1 h2
    obtain ⟨l, l1, l2, e2⟩ := h.inn j j1 j2
    exact ⟨l, l1, l2, e1.trans e2⟩⟩
theorem Mrg.wide {a b a' b' : Nat} {d e : Array It} (h : Mrg a b d e) (h1 : a' ≤ a) (h2 : b ≤ b') : Mrg a' b' d e :=
  ⟨h.size, h.keys, fun k hk => h.out k (by omega), fun i i1 i2 => by
    by_cases hi : a ≤ i ∧ i < b
    · obtain ⟨j, j1, j2, e1⟩ := h.inn i hi.1 hi.2
      exact ⟨j, by omega, by omega, e1⟩
    · exact ⟨i, i1, i2, h.out i (by omega)⟩⟩
theorem Srt.out {a b p q : Nat} {d e : Array It} (h : Srt p q d) (m : Mrg a b d e) (hd : q ≤ a ∨ b ≤ p) : Srt p q e := fun i j h1 h2 h3 => by
  rw [m.out i (by omega), m.out j (by omega)]
  exact h i j h1 h2 h3
theorem Srt.none {a b : Nat} {d : Array It} (h : b ≤ a + 1) : Srt a b d := fun i j h1 h2 h3 => by
  rw [show i = j by omega]; exact Int.le_refl _
theorem Srt.sub {a b p q : Nat} {d : Array It} (h : Srt a b d) (h1 : a ≤ p) (h2 : q ≤ b) : Srt p q d := fun i j e1 e2 e3 => h i j (by omega) e2 (by omega)
theorem idx {d : Array It} {x y : Nat} (h : x = y) : d[x]! = d[y]! := by rw [h]

/-! Rotations. -/
structure IsRot (a m b : Nat) (d e : Array It) : Prop where
  size : e.size = d.size
  at_ : ∀ k, k < d.size → e[k]! = if a ≤ k ∧ k < a + (b - m) then d[k - a + m]! else if a + (b - m) ≤ k ∧ k < b then d[k - (b - m)]! else d[k]!
theorem list_of (d : Array It) : d.toList = (List.range' 0 d.size).map fun k => d[k]! := by
  refine List.ext_getElem (by simp) fun i h1 h2 => ?_
  have h3 : i < d.size := by simpa using h1
  simp [h3]
theorem map_move {f g : Nat → It} {s s' : Nat} (n : Nat) (h : ∀ i, i < n → g (s + i) = f (s' + i)) : (List.range' s n).map g = (List.range' s' n).map f := by
  refine List.ext_getElem (by simp) fun i h1 h2 => ?_
  have h3 : i < n := by simpa using h1
  simp [h i h3]
theorem range_cut (a b c : Nat) (h1 : a ≤ b) (h2 : b ≤ c) : List.range' a (c - a) = List.range' a (b - a) ++ List.range' b (c - b) := by
  have := List.range'_append_1 (s := a) (m := b - a) (n := c - b)
  rw [show a + (b - a) = b by omega, show b - a + (c - b) = c - a by omega] at this
  exact this.symm
theorem out_get {d : Array It} {k : Nat} (h : d.size ≤ k) : d[k]! = (default : It) := by
  simp [getElem!_def, Array.getElem?_eq_none h]
theorem rot_mrg {a m b : Nat} {d e : Array It} (h : IsRot a m b d e) (h1 : a ≤ m) (h2 : m ≤ b) (h3 : b ≤ d.size) (hap : ∀ i j, a ≤ i → i < m → m ≤ j → j < b → (d[j]!).t < (d[i]!).t) : Mrg a b d e := by
  refine ⟨h.size, fun t => ?_, fun k hk => ?_, fun i i1 i2 => ?_⟩
  · unfold key
    rw [list_of e, list_of d, h.size]
    have c1 := range_cut 0 a d.size (by omega) (by omega)
    have c2 := range_cut a m d.size (by omega) (by omega)
    have c3 := range_cut m b d.size (by omega) (by omega)
    have c4 := range_cut a (a + (b - m)) d.size (by omega) (by omega)
    have c5 := range_cut (a + (b - m)) b d.size (by omega) (by omega)
    simp only [Nat.sub_zero] at c1
    have E : (List.range' 0 d.size).map (fun k => e[k]!) = (List.range' 0 a).map (fun k => d[k]!) ++ ((List.range' m (b - m)).map (fun k => d[k]!) ++ ((List.range' a (m - a)).map (fun k => d[k]!) ++ (List.range' b (d.size - b)).map (fun k => d[k]!))) := by
      rw [c1, c4, c5, List.map_append, List.map_append, List.map_append]
      congr 1
      · exact map_move a fun i hi => by rw [h.at_ _ (by omega), if_neg (by omega), if_neg (by omega)]
      · congr 1
        · rw [show a + (b - m) - a = b - m by omega]
          exact map_move (b - m) fun i hi => by rw [h.at_ _ (by omega), if_pos (by omega)]; exact idx (by omega)
        · congr 1
          · rw [show b - (a + (b - m)) = m - a by omega]
            exact map_move (m - a) fun i hi => by rw [h.at_ _ (by omega), if_neg (by omega), if_pos (by omega)]; exact idx (by omega)
          · exact map_move (d.size - b) fun i hi => by rw [h.at_ _ (by omega), if_neg (by omega), if_neg (by omega)]
    have D : (List.range' 0 d.size).map (fun k => d[k]!) = (List.range' 0 a).map (fun k => d[k]!) ++ ((List.range' a (m - a)).map (fun k => d[k]!) ++ ((List.range' m (b - m)).map (fun k => d[k]!) ++ (List.range' b (d.size - b)).map (fun k => d[k]!))) := by
      rw [c1, c2, c3, List.map_append, List.map_append, List.map_append]
    rw [E, D]
    simp only [List.filter_append]
    congr 1
    rw [← List.append_assoc, ← List.append_assoc]
    congr 1
    by_cases hu : ∃ i, a ≤ i ∧ i < m ∧ (d[i]!).t = t
    · obtain ⟨i, i1, i2, i3⟩ := hu
      have e1 : ((List.range' m (b - m)).map (fun k => d[k]!)).filter (fun x => decide (x.t = t)) = [] := by
        rw [List.filter_eq_nil_iff]
        intro x hx
        obtain ⟨j, hj, rfl⟩ := List.mem_map.1 hx
        have hj := List.mem_range'_1.1 hj
        have := hap i j i1 i2 hj.1 (by omega)
        simp only [decide_eq_true_eq]
        omega
      rw [e1]; simp
    · have e1 : ((List.range' a (m - a)).map (fun k => d[k]!)).filter (fun x => decide (x.t = t)) = [] := by
        rw [List.filter_eq_nil_iff]
        intro x hx
        obtain ⟨j, hj, rfl⟩ := List.mem_map.1 hx
        have hj := List.mem_range'_1.1 hj
        simp only [decide_eq_true_eq]
        exact fun h => hu ⟨j, hj.1, by omega, h⟩
      rw [e1]; simp
  · by_cases hs : k < d.size
    · rw [h.at_ k hs, if_neg (by omega), if_neg (by omega)]
    · rw [out_get (by rw [h.size]; omega), out_get (by omega)]
  · rw [h.at_ i (by omega)]
    split
    · exact ⟨_, by omega, by omega, rfl⟩
    · rw [if_pos (by omega)]
      exact ⟨_, by omega, by omega, rfl⟩
theorem rot_none_left {a b : Nat} (d : Array It) : IsRot a a b d d := ⟨rfl, fun k hk => by
  split
  · exact idx (by omega)
  · split
    · omega
    · rfl⟩
theorem rot_none_right {a m : Nat} (d : Array It) : IsRot a m m d d := ⟨rfl, fun k hk => by
  split
  · omega
  · split
    · exact idx (by omega)
    · rfl⟩
theorem swp_at (d : Array It) {i j : Nat} (hi : i < d.size) (hj : j < d.size) (hij : i ≠ j) (k : Nat) : (swp d i j)[k]! = if k = i then d[j]! else if k = j then d[i]! else d[k]! := by
  split
  · rename_i h; subst h; exact swp_left d _ _ hi hij
  · split
    · rename_i h; subst h; exact swp_right d _ _ hj
    · exact swp_other d _ _ _ (by assumption) (by assumption)
/-- One step of moving an element behind others. -/
theorem rot_right {a k : Nat} {d e : Array It} (h : IsRot a (a + 1) (k + 1) d e) (h1 : a ≤ k) (h2 : k + 1 < d.size) : IsRot a (a + 1) (k + 2) d (swp e k (k + 1)) :=
  ⟨by rw [size_swp, h.size], fun x hx => by
    have hs := h.size
    rw [swp_at e (by omega) (by omega) (by omega), h.at_ k (by omega), h.at_ (k + 1) (by omega), h.at_ x (by omega)]
    (repeat' split) <;> first | omega | exact idx (by omega)⟩
/-- One step of moving an element ahead of others. -/
theorem rot_left {k m : Nat} {d e : Array It} (h : IsRot (k + 1) m (m + 1) d e) (h1 : k + 1 ≤ m) (h2 : m < d.size) : IsRot k m (m + 1) d (swp e (k + 1) k) :=
  ⟨by rw [size_swp, h.size], fun x hx => by
    have hs := h.size
    rw [swp_at e (by omega) (by omega) (by omega), h.at_ k (by omega), h.at_ (k + 1) (by omega), h.at_ x (by omega)]
    (repeat' split) <;> first | omega | exact idx (by omega)⟩

/-! Ranges swapped. -/
structure SwapR (a b n : Nat) (d e : Array It) : Prop where
  size : e.size = d.size
  at_ : ∀ k, k < d.size → e[k]! = if a ≤ k ∧ k < a + n then d[k - a + b]! else if b ≤ k ∧ k < b + n then d[k - b + a]! else d[k]!
theorem SwapR.zero (a b : Nat) (d : Array It) : SwapR a b 0 d d := ⟨rfl, fun k hk => by rw [if_neg (by omega), if_neg (by omega)]⟩
theorem SwapR.succ {a b n : Nat} {d e : Array It} (h : SwapR a b n d e) (h1 : a + n < b) (h2 : b + n < d.size) : SwapR a b (n + 1) d (swp e (a + n) (b + n)) :=
  ⟨by rw [size_swp, h.size], fun x hx => by
    have hs := h.size
    rw [swp_at e (by omega) (by omega) (by omega), h.at_ (a + n) (by omega), h.at_ (b + n) (by omega), h.at_ x (by omega)]
    (repeat' split) <;> first | omega | exact idx (by omega)⟩
theorem rot_more {i j m : Nat} {D D' e : Array It} (hs : SwapR (m - i) m j D D') (hi : i ≤ m) (hj : m + j ≤ D.size) (hij : j ≤ i) (h : IsRot (m - (i - j)) m (m + j) D' e) : IsRot (m - i) m (m + j) D e :=
  ⟨h.size.trans hs.size, fun k hk => by
    have h0 := hs.size
    rw [h.at_ k (by omega)]
    split
    · rw [hs.at_ _ (by omega)]
      (repeat' split) <;> first | omega | exact idx (by omega)
    · split
      · rw [hs.at_ _ (by omega)]
        (repeat' split) <;> first | omega | exact idx (by omega)
      · rw [hs.at_ _ (by omega)]
        (repeat' split) <;> first | omega | exact idx (by omega)⟩
theorem rot_less {i j m : Nat} {D D' e : Array It} (hs : SwapR (m - i) (m + j - i) i D D') (hi : i ≤ m) (hj : m + j ≤ D.size) (hij : i ≤ j) (h : IsRot (m - i) m (m + (j - i)) D' e) : IsRot (m - i) m (m + j) D e :=
  ⟨h.size.trans hs.size, fun k hk => by
    have h0 := hs.size
    rw [h.at_ k (by omega)]
    split
    · rw [hs.at_ _ (by omega)]
      (repeat' split) <;> first | omega | exact idx (by omega)
    · split
      · rw [hs.at_ _ (by omega)]
        (repeat' split) <;> first | omega | exact idx (by omega)
      · rw [hs.at_ _ (by omega)]
        (repeat' split) <;> first | omega | exact idx (by omega)⟩
theorem rot_even {i m : Nat} {D e : Array It} (hs : SwapR (m - i) m i D e) (hi : i ≤ m) : IsRot (m - i) m (m + i) D e :=
  ⟨hs.size, fun k hk => by
    rw [hs.at_ _ (by omega)]
    (repeat' split) <;> first | omega | exact idx (by omega)⟩

/-! Insertion. -/
theorem swoT : SWO ltT where
  irrefl x := by simp [ltT]
  trans x y z h1 h2 := by simp [ltT] at *; omega
  ntrans x y z h1 h2 := by simp [ltT] at *; omega
theorem swap_rot {j : Nat} {d : Array It} (h : j + 1 < d.size) : IsRot j (j + 1) (j + 2) d (swp d (j + 1) j) :=
  ⟨size_swp _ _ _, fun x hx => by
    rw [swp_at d (by omega) (by omega) (by omega)]
    (repeat' split) <;> first | omega | exact idx (by omega)⟩
theorem inner_mrg (a : Nat) : ∀ (j : Nat) (d : Array It), j < d.size → Mrg a (j + 1) d (insInner ltT a j d) := by
  intro j
  induction j with
  | zero => intro d _; rw [insInner]; exact Mrg.refl _ _ _
  | succ j ih =>
    intro d hj
    rw [insInner]
    split
    · rename_i hc
      simp only [gt_iff_lt, Bool.and_eq_true, decide_eq_true_eq, ltT] at hc
      have m1 : Mrg a (j + 2) d (swp d (j + 1) j) := (rot_mrg (swap_rot hj) (by omega) (by omega) (by omega) fun i k i1 i2 k1 k2 => by
        rw [show i = j by omega, show k = j + 1 by omega]; exact hc.2).wide (by omega) (by omega)
      exact m1.trans ((ih _ (by rw [size_swp]; omega)).wide (by omega) (by omega))
    · exact Mrg.refl _ _ _
theorem outer_mrg (a b : Nat) : ∀ (k i : Nat) (d : Array It), b - i = k → b ≤ d.size → Mrg a b d (insOuter ltT a b i d) := by
  intro k
  induction k with
  | zero => intro i d hk _; rw [insOuter_stop _ _ _ _ _ (by omega)]; exact Mrg.refl _ _ _
  | succ k ih =>
    intro i d hk hb
    rw [insOuter_go _ _ _ _ _ (by omega)]
    have m1 := (inner_mrg a i d (by omega)).wide (Nat.le_refl a) (show i + 1 ≤ b by omega)
    exact m1.trans (ih (i + 1) _ (by omega) (by rw [m1.size]; exact hb))
theorem ins_mrg {a b : Nat} {d : Array It} (hab : a ≤ b) (hb : b ≤ d.size) : Mrg a b d (insertionSort ltT d a b) ∧ Srt a b (insertionSort ltT d a b) := by
  refine ⟨outer_mrg a b _ _ d rfl hb, fun i j h1 h2 h3 => ?_⟩
  rcases Nat.lt_or_ge i j with h4 | h4
  · have := (insertionSort_holds swoT d a b hab hb).2 i j h1 h4 h3
    simp only [ltT, decide_eq_false_iff_not] at this
    omega
  · rw [show i = j by omega]; exact Int.le_refl _

/-! Merges. -/
theorem sym_left {a i b : Nat} {d e : Array It} (hs : Srt (a + 1) b d) (h1 : a + 1 ≤ i) (h2 : i ≤ b) (hb : b ≤ d.size) (f1 : i = a + 1 ∨ (d[i - 1]!).t < (d[a]!).t) (f2 : i = b ∨ (d[a]!).t ≤ (d[i]!).t) (h : IsRot a (a + 1) i d e) : Mrg a b d e ∧ Srt a b e := by
  have lo : ∀ k, a + 1 ≤ k → k < i → (d[k]!).t < (d[a]!).t := fun k k1 k2 => by have := hs k (i - 1) k1 (by omega) (by omega); omega
  have hi : ∀ k, i ≤ k → k < b → (d[a]!).t ≤ (d[k]!).t := fun k k1 k2 => by have := hs i k (by omega) k1 k2; omega
  refine ⟨(rot_mrg h (by omega) h1 (by omega) fun x y x1 x2 y1 y2 => by rw [show x = a by omega]; exact lo y y1 y2).wide (Nat.le_refl _) h2, fun x y x1 x2 x3 => ?_⟩
  rw [h.at_ x (by omega), h.at_ y (by omega)]
  by_cases y1 : y < i - 1
  · rw [if_pos (by omega), if_pos (by omega)]
    exact hs _ _ (by omega) (by omega) (by omega)
  · by_cases y2 : y = i - 1
    · subst y2
      rw [if_neg (c := a ≤ i - 1 ∧ _) (by omega), if_pos (c := a + (i - (a + 1)) ≤ i - 1 ∧ _) (by omega), show i - 1 - (i - (a + 1)) = a by omega]
      by_cases x4 : x < i - 1
      · rw [if_pos (by omega)]
        exact Int.le_of_lt (lo _ (by omega) (by omega))
      · rw [if_neg (by omega), if_pos (by omega), show x - (i - (a + 1)) = a by omega]
        exact Int.le_refl _
    · rw [if_neg (c := a ≤ y ∧ _) (by omega), if_neg (c := a + (i - (a + 1)) ≤ y ∧ _) (by omega)]
      by_cases x4 : x < i - 1
      · rw [if_pos (by omega)]
        exact hs _ _ (by omega) (by omega) (by omega)
      · by_cases x5 : x = i - 1
        · rw [if_neg (by omega), if_pos (by omega), show x - (i - (a + 1)) = a by omega]
          exact hi y (by omega) x3
        · rw [if_neg (by omega), if_neg (by omega)]
          exact hs _ _ (by omega) (by omega) (by omega)
theorem sym_right {a i m : Nat} {d e : Array It} (hs : Srt a m d) (h1 : a ≤ i) (h2 : i ≤ m) (hb : m < d.size) (f1 : i = a ∨ (d[i - 1]!).t ≤ (d[m]!).t) (f2 : i = m ∨ (d[m]!).t < (d[i]!).t) (h : IsRot i m (m + 1) d e) : Mrg a (m + 1) d e ∧ Srt a (m + 1) e := by
  have lo : ∀ k, a ≤ k → k < i → (d[k]!).t ≤ (d[m]!).t := fun k k1 k2 => by have := hs k (i - 1) k1 (by omega) (by omega); omega
  have hi : ∀ k, i ≤ k → k < m → (d[m]!).t < (d[k]!).t := fun k k1 k2 => by have := hs i k (by omega) k1 k2; omega
  refine ⟨(rot_mrg h h2 (by omega) (by omega) fun x y x1 x2 y1 y2 => by rw [show y = m by omega]; exact hi x x1 x2).wide h1 (Nat.le_refl _), fun x y x1 x2 x3 => ?_⟩
  rw [h.at_ x (by omega), h.at_ y (by omega)]
  by_cases y1 : y < i
  · rw [if_neg (by omega), if_neg (by omega), if_neg (by omega), if_neg (by omega)]
    exact hs _ _ (by omega) (by omega) (by omega)
  · by_cases y2 : y = i
    · subst y2
      rw [if_pos (c := y ≤ y ∧ _) (by omega), show y - y + m = m by omega]
      by_cases x4 : x < y
      · rw [if_neg (by omega), if_neg (by omega)]
        exact lo _ (by omega) x4
      · rw [if_pos (by omega), show x - y + m = m by omega]
        exact Int.le_refl _
    · rw [if_neg (c := i ≤ y ∧ _) (by omega), if_pos (c := i + (m + 1 - m) ≤ y ∧ _) (by omega)]
      by_cases x4 : x < i
      · rw [if_neg (by omega), if_neg (by omega)]
        exact hs _ _ (by omega) (by omega) (by omega)
      · by_cases x5 : x = i
        · rw [if_pos (by omega), show x - i + m = m by omega]
          exact Int.le_of_lt (hi _ (by omega) (by omega))
        · rw [if_neg (by omega), if_pos (by omega)]
          exact hs _ _ (by omega) (by omega) (by omega)
/-- Behind a rotation: both halves hold two sorted parts, and no one of the first stands behind one of the second. -/
structure Halves (a s mid e' b : Nat) (d e : Array It) : Prop where
  mrg : Mrg a b d e
  s1 : Srt a s e
  s2 : Srt s mid e
  s3 : Srt mid e' e
  s4 : Srt e' b e
  le : ∀ i j, a ≤ i → i < mid → mid ≤ j → j < b → (e[i]!).t ≤ (e[j]!).t
theorem sym_mid {a m b mid s e' : Nat} {d e : Array It} (hl : Srt a m d) (hr : Srt m b d) (hb : b ≤ d.size) (h1 : a ≤ s) (h2 : s ≤ m) (h3 : m ≤ e') (h4 : e' ≤ b) (h5 : s + e' = mid + m)
    (f1 : s = a ∨ e' = b ∨ (d[s - 1]!).t ≤ (d[e']!).t) (f2 : s = m ∨ e' = m ∨ (d[e' - 1]!).t < (d[s]!).t) (h : IsRot s m e' d e) : Halves a s mid e' b d e := by
  have hap : ∀ i j, s ≤ i → i < m → m ≤ j → j < e' → (d[j]!).t < (d[i]!).t := fun i j i1 i2 j1 j2 => by
    have g1 := hr j (e' - 1) j1 (by omega) (by omega)
    have g2 := hl s i h1 i1 i2
    omega
  have k1 : ∀ k, a ≤ k → k < s → e[k]! = d[k]! := fun k e1 e2 => by rw [h.at_ k (by omega), if_neg (by omega), if_neg (by omega)]
  have k2 : ∀ k, s ≤ k → k < mid → e[k]! = d[k - s + m]! := fun k e1 e2 => by rw [h.at_ k (by omega), if_pos (by omega)]
  have k3 : ∀ k, mid ≤ k → k < e' → e[k]! = d[k - (e' - m)]! := fun k e1 e2 => by rw [h.at_ k (by omega), if_neg (by omega), if_pos (by omega)]
  have k4 : ∀ k, e' ≤ k → k < b → e[k]! = d[k]! := fun k e1 e2 => by rw [h.at_ k (by omega), if_neg (by omega), if_neg (by omega)]
  refine ⟨(rot_mrg h h2 h3 (by omega) hap).wide h1 h4, fun i j e1 e2 e3 => ?_, fun i j e1 e2 e3 => ?_, fun i j e1 e2 e3 => ?_, fun i j e1 e2 e3 => ?_, fun i j e1 e2 e3 e4 => ?_⟩
  · rw [k1 i (by omega) (by omega), k1 j (by omega) (by omega)]; exact hl _ _ (by omega) (by omega) (by omega)
  · rw [k2 i (by omega) (by omega), k2 j (by omega) (by omega)]; exact hr _ _ (by omega) (by omega) (by omega)
  · rw [k3 i (by omega) (by omega), k3 j (by omega) (by omega)]; exact hl _ _ (by omega) (by omega) (by omega)
  · rw [k4 i (by omega) (by omega), k4 j (by omega) (by omega)]; exact hr _ _ (by omega) (by omega) (by omega)
  · by_cases i1 : i < s
    · rw [k1 i (by omega) i1]
      by_cases j1 : j < e'
      · rw [k3 j e3 j1]; exact hl _ _ (by omega) (by omega) (by omega)
      · rw [k4 j (by omega) e4]
        have g1 := hl i (s - 1) (by omega) (by omega) (by omega)
        have g2 := hr e' j (by omega) (by omega) (by omega)
        omega
    · rw [k2 i (by omega) e2]
      by_cases j1 : j < e'
      · rw [k3 j e3 j1]
        exact Int.le_of_lt (hap _ _ (by omega) (by omega) (by omega) (by omega))
      · rw [k4 j (by omega) e4]; exact hr _ _ (by omega) (by omega) (by omega)
theorem Halves.end_ {a s mid e' b : Nat} {d e f g : Array It} (h : Halves a s mid e' b d e) (h1 : a ≤ mid) (h2 : mid ≤ b) (m1 : Mrg a mid e f) (r1 : Srt a mid f) (m2 : Mrg mid b f g) (r2 : Srt mid b g) : Mrg a b d g ∧ Srt a b g := by
  refine ⟨h.mrg.trans ((m1.wide (Nat.le_refl _) h2).trans (m2.wide h1 (Nat.le_refl _))), fun i j e1 e2 e3 => ?_⟩
  by_cases j1 : j < mid
  · rw [m2.out i (by omega), m2.out j (by omega)]; exact r1 i j e1 e2 j1
  · by_cases i1 : i < mid
    · rw [m2.out i (by omega)]
      obtain ⟨k, k1, k2, k3⟩ := m1.inn i e1 i1
      obtain ⟨l, l1, l2, l3⟩ := m2.inn j (by omega) e3
      rw [k3, l3, m1.out l (by omega)]
      exact h.le k l k1 k2 l1 l2
    · exact r2 i j (by omega) e2 e3

/-! Blocks. -/
def Ch (s n a : Nat) (d : Array It) : Prop := ∀ c, Srt (a + c * s) (min (a + c * s + s) n) d
def Done (s a : Nat) (d : Array It) : Prop := ∃ c, a = c * s ∧ ∀ q, q < c → Srt (q * s) (q * s + s) d
theorem Done.zero (s : Nat) (d : Array It) : Done s 0 d := ⟨0, by simp, fun q h => by omega⟩
theorem Done.step {s a : Nat} {d e : Array It} (h : Done s a d) (m : Mrg a (a + s) d e) (r : Srt a (a + s) e) : Done s (a + s) e := by
  obtain ⟨c, rfl, hc⟩ := h
  refine ⟨c + 1, by rw [Nat.succ_mul], fun q hq => ?_⟩
  by_cases h1 : q = c
  · rw [h1]; exact r
  · have := Nat.mul_le_mul_right s (show q + 1 ≤ c by omega)
    rw [Nat.succ_mul] at this
    exact (hc q (by omega)).out m (by omega)
theorem Done.end_ {s a n : Nat} {d e : Array It} (h : Done s a d) (h1 : a ≤ n) (h2 : n < a + s) (m : Mrg a n d e) (r : Srt a n e) : Ch s n 0 e := by
  obtain ⟨c, rfl, hc⟩ := h
  intro q
  rw [Nat.zero_add]
  by_cases q1 : q < c
  · have := Nat.mul_le_mul_right s (show q + 1 ≤ c by omega)
    rw [Nat.succ_mul] at this
    exact ((hc q q1).out m (by omega)).sub (Nat.le_refl _) (by omega)
  · by_cases q2 : q = c
    · rw [q2]; exact r.sub (Nat.le_refl _) (by omega)
    · have := Nat.mul_le_mul_right s (show c + 1 ≤ q by omega)
      rw [Nat.succ_mul] at this
      exact Srt.none (by omega)
theorem Ch.head {s n a : Nat} {d : Array It} (h : Ch s n a d) : Srt a (min (a + s) n) d := by have := h 0; simpa using this
theorem Ch.tail {s n a : Nat} {d : Array It} (h : Ch s n a d) : Ch s n (a + s) d := fun c => by
  have := h (c + 1)
  rw [Nat.succ_mul] at this
  rwa [show a + (c * s + s) = a + s + c * s by omega] at this
theorem Ch.out {s n a b p : Nat} {d e : Array It} (h : Ch s n a d) (m : Mrg p b d e) (hb : b ≤ a) : Ch s n a e := fun c => (h c).out m (by omega)

end Go.Proofs.Ytgdeaddfkcokpaa

namespace Go.Proofs.Ytgdeaddfkcokpaa
open Go.Shelf Go.RowKit Go.Lib Go.Sort

/-- An item's four cells. -/
def encIt (x : It) : List Value := [.int .i64 x.s, .int .i64 x.t, .int .i64 x.q, .int .i64 x.v]
theorem item_agg : ∀ w, (isAgg 23).run Try.prog w = .ok true w := fun _ => by kernel_rfl
theorem item_size : ∀ w, (Go.sizeOf 23).run Try.prog w = .ok 4 w := fun _ => by kernel_rfl
theorem mixed_ : Try.prog.follows .mixedOrders = true := by kernel_rfl

set_option maxHeartbeats 2000000 in
set_option maxRecDepth 100000 in
theorem swapRange_any (g : Nat) (cb : Array Value) (blk off cap a b n : Nat) (d0 d : Array It) (w0 w : World)
    (R : RowK encIt 4 w0 blk off d0) (hs : d0.size = d.size) (S : SWK encIt 4 w0 blk off d w) (hab : a + n ≤ b) (hb : b + n ≤ d.size) (hsz : d.size < 4611686018427387904) :
    Calls Try.prog 81 #[.slice (some ⟨blk, off, none⟩) d.size cap, .int .i64 a, .int .i64 b, .int .i64 n, .func (.func g) #[] cb] w fun e w' => e = .returned (.tuple #[]) ∧ ∃ e, SwapR a b n d e ∧ SWK encIt 4 w0 blk off e w' := by
  have mixed := mixed_
  have aE := item_agg
  have zE := item_size
  obtain ⟨k, hk4⟩ : ∃ k, k = 4 := ⟨4, rfl⟩
  rw [← hk4] at zE R S ⊢
  have S0 : Aside (SWK encIt k w0 blk off d w) := S
  clear S hk4
  go_enter Try.func81, Try.ntmps81
  go_wp2
  go_loopg [10] n (fun kx s wr => ∃ (i : Nat) (dk : Array It), s = .int .i64 i ∧ i ≤ n ∧ n - i ≤ kx ∧ dk.size = d.size ∧ Aside (SWK encIt k w0 blk off dk wr) ∧ Hid (SwapR a b i d dk))
  case atStart => exact ⟨0, d, rfl, Nat.zero_le _, by omega, rfl, S0, SwapR.zero a b d⟩
  case round =>
    clear S0
    obtain ⟨i, dk, rfl, hi, hkx, hds, S1, HS⟩ := hrel
    by_cases hlt : i < n
    · have hltz : (i : Int) < (n : Int) := by omega
      go_wp2_with fail
      have ea : ((a : Int) + (i : Int)).toNat = a + i := by omega
      have pa : (0 : Int) ≤ (a : Int) + (i : Int) := by omega
      have ba : (a : Int) + (i : Int) < (d.size : Int) := by omega
      have ra : IntKind.i64.wrap ((a : Int) + (i : Int)) = (a : Int) + (i : Int) := by rw [IntKind.wrap_i64]; omega
      have ec : ((b : Int) + (i : Int)).toNat = b + i := by omega
      have pc : (0 : Int) ≤ (b : Int) + (i : Int) := by omega
      have bc : (b : Int) + (i : Int) < (d.size : Int) := by omega
      have rc : IntKind.i64.wrap ((b : Int) + (i : Int)) = (b : Int) + (i : Int) := by rw [IntKind.wrap_i64]; omega
      have S2 : Aside (SWK encIt k w0 blk off (swp dk (a + i) (b + i)) ((wr.drew.setCells blk (off + (a + i) * k) (encIt dk[b + i]!)).setCells blk (off + (b + i) * k) (encIt dk[a + i]!))) := S1.out.swapped R (a + i) (b + i) (by omega) (by omega)
      have la := S1.out.ld1 R (by omega) Try.prog (a + i) (by omega)
      have lb := S1.out.ld1 R (by omega) Try.prog (b + i) (by omega)
      have sa := S1.out.st1 R (by omega) Try.prog (a + i) (by omega) dk[b + i]!
      have sb := S1.out.st2 R (by omega) Try.prog (a + i) (b + i) (by omega) (by omega) dk[b + i]! dk[a + i]!
      have na : (encIt dk[a + i]!).length = k := R.hk _
      have nb : (encIt dk[b + i]!).length = k := R.hk _
      generalize encIt dk[a + i]! = cI at S2 la sb na
      generalize encIt dk[b + i]! = cJ at S2 lb sa sb nb
      clear S1
      go_wp2_with fail
      go_big_region_o
      clear la lb sa sb
      generalize (wr.drew.setCells blk (off + (a + i) * k) cJ).setCells blk (off + (b + i) * k) cI = w2 at S2 ⊢
      go_wp2
      go_roundg (n - (i + 1))
      case measure => omega
      case rel =>
        exact ⟨i + 1, swp dk (a + i) (b + i), by simp, by omega, Nat.le_refl _, by rw [size_swp]; exact hds, S2, HS.out.succ (by omega) (by omega)⟩
    · have hltz : ¬ (i : Int) < (n : Int) := by omega
      have hin : i = n := by omega
      go_wp2
      go_end0
      refine ⟨rfl, dk, ?_, S1.out⟩
      have := HS.out
      rwa [hin] at this

set_option maxHeartbeats 2000000 in
set_option maxRecDepth 100000 in
theorem rotate_any (g : Nat) (cb : Array Value) (blk off cap a m b : Nat) (d0 d : Array It) (w0 w : World)
    (R : RowK encIt 4 w0 blk off d0) (hs : d0.size = d.size) (S : SWK encIt 4 w0 blk off d w) (h1 : a < m) (h2 : m < b) (hb : b ≤ d.size) (hsz : d.size < 4611686018427387904) :
    Calls Try.prog 80 #[.slice (some ⟨blk, off, none⟩) d.size cap, .int .i64 a, .int .i64 m, .int .i64 b, .func (.func g) #[] cb] w fun e w' => e = .returned (.tuple #[]) ∧ ∃ e, IsRot a m b d e ∧ SWK encIt 4 w0 blk off e w' := by
  have S0 : Aside (SWK encIt 4 w0 blk off d w) := S
  have RR : Aside (RowK encIt 4 w0 blk off d0) := R
  clear S R
  go_enter Try.func80, Try.ntmps80
  go_wp2
  go_loopg [10, 11] (b - a) (fun kx s t wr => ∃ (i j : Nat) (dk : Array It), s = .int .i64 i ∧ t = .int .i64 j ∧ 0 < i ∧ 0 < j ∧ i ≤ m ∧ m + j ≤ d.size ∧ i + j ≤ kx ∧ dk.size = d.size ∧ Aside (SWK encIt 4 w0 blk off dk wr) ∧ Hid (∀ e, IsRot (m - i) m (m + j) dk e → IsRot a m b d e))
  case atStart => exact ⟨m - a, b - m, d, by congr 1; omega, by congr 1; omega, by omega, by omega, by omega, by omega, by omega, rfl, S0, fun e he => by
    rwa [show m - (m - a) = a by omega, show m + (b - m) = b by omega] at he⟩
  case round =>
    clear S0
    obtain ⟨i, j, dk, rfl, rfl, hi, hj, him, hmj, hkx, hds, S1, HR⟩ := hrel
    by_cases hne : i = j
    · have hq : ((i : Int) != (j : Int)) = false := by simp [hne]
      have hmi : m + i ≤ d.size := by omega
      have HE : Hid (i = j) := hne
      clear hne
      have hcon := swapRange_any g cb blk off cap (m - i) m i d0 dk w0 wr RR.out (by omega) S1.out (by omega) (by omega) (by omega)
      rw [show ((m - i : Nat) : Int) = (m : Int) - (i : Int) by omega, hds] at hcon
      go_wp2_with (go_at_call 81; refine hcon.mono ?_; rintro e w' ⟨rfl, e1, hr1, hs1⟩)
      go_end0
      refine ⟨rfl, e1, HR.out e1 ?_, hs1⟩
      rw [← HE.out]
      exact rot_even hr1 him
    · have hq : ((i : Int) != (j : Int)) = true := by simp; omega
      by_cases hij : j < i
      · have hijz : (j : Int) < (i : Int) := by omega
        have hcon := swapRange_any g cb blk off cap (m - i) m j d0 dk w0 wr RR.out (by omega) S1.out (by omega) (by omega) (by omega)
        rw [show ((m - i : Nat) : Int) = (m : Int) - (i : Int) by omega, hds] at hcon
        go_wp2_with (go_at_call 81; refine hcon.mono ?_; rintro e w' ⟨rfl, e1, hr1, hs1⟩)
        go_roundg (i - j + j)
        case measure => omega
        case rel =>
          refine ⟨i - j, j, e1, by congr 1; omega, rfl, by omega, hj, by omega, hmj, by omega, by rw [hr1.size]; exact hds, hs1, fun e he => HR.out e (rot_more hr1 him (by omega) (by omega) he)⟩
      · have hijz : ¬ (j : Int) < (i : Int) := by omega
        have hcon := swapRange_any g cb blk off cap (m - i) (m + j - i) i d0 dk w0 wr RR.out (by omega) S1.out (by omega) (by omega) (by omega)
        rw [show ((m - i : Nat) : Int) = (m : Int) - (i : Int) by omega, show ((m + j - i : Nat) : Int) = (m : Int) + (j : Int) - (i : Int) by omega, hds] at hcon
        go_wp2_with (go_at_call 81; refine hcon.mono ?_; rintro e w' ⟨rfl, e1, hr1, hs1⟩)
        go_roundg (i + (j - i))
        case measure => omega
        case rel =>
          refine ⟨i, j - i, e1, rfl, by congr 1; omega, hi, by omega, him, by omega, by omega, by rw [hr1.size]; exact hds, hs1, fun e he => HR.out e (rot_less hr1 him (by omega) (by omega) he)⟩

end Go.Proofs.Ytgdeaddfkcokpaa
