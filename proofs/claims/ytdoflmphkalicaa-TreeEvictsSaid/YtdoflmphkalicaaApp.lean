/-
  A row of aggregates that the call itself appends to.
-/
import Derived.Test.YtdoflmphkalicaaLaw0
import Derived.OwnWalk
namespace Go.Proofs.Ytdoflmphkalicaa
open Go.RowKit

/-- The cells of a row: each aggregate with the block of its buckets. -/
def rowC (ps : List (Ac × Nat)) : List Value := ps.flatMap fun p => (accC p.1 (some ⟨p.2, 0, none⟩) p.1.h.length p.1.h.length).toList
theorem rowC_len (ps : List (Ac × Nat)) : (rowC ps).length = ps.length * 13 := by
  induction ps with
  | nil => rfl
  | cons p r ih =>
    have e : rowC (p :: r) = (accC p.1 (some ⟨p.2, 0, none⟩) p.1.h.length p.1.h.length).toList ++ rowC r := rfl
    rw [e, List.length_append, ih, accC_len, List.length_cons]; omega
theorem rowC_snoc (ps : List (Ac × Nat)) (p : Ac × Nat) : rowC (ps ++ [p]) = rowC ps ++ (accC p.1 (some ⟨p.2, 0, none⟩) p.1.h.length p.1.h.length).toList := by
  simp [rowC]
theorem rowC_at (ps : List (Ac × Nat)) {i j : Nat} (hi : i < ps.length) (hj : j < 13) : (rowC ps)[i * 13 + j]? = (accC (ps[i]).1 (some ⟨(ps[i]).2, 0, none⟩) (ps[i]).1.h.length (ps[i]).1.h.length).toList[j]? := by
  induction ps generalizing i with
  | nil => simp at hi
  | cons p r ih =>
    have e : rowC (p :: r) = (accC p.1 (some ⟨p.2, 0, none⟩) p.1.h.length p.1.h.length).toList ++ rowC r := rfl
    rw [e]
    cases i with
    | zero => rw [List.getElem?_append_left (by rw [accC_len]; omega)]; simp
    | succ i =>
      rw [List.getElem?_append_right (by rw [accC_len]; omega), accC_len, show (i + 1) * 13 + j - 13 = i * 13 + j by omega, ih (by simpa using hi)]
      simp
/-- v is a row that the call owns, from block base on, with these aggregates. -/
structure Own (w : World) (base : Nat) (v : Value) (ps : List (Ac × Nat)) : Prop where
  row : w.ownsRow base 49 13 v ps.length (rowC ps)
  hist : ∀ p, p ∈ ps → Has w p.2 3 (ints p.1.h)
theorem Own.nil (w : World) (base : Nat) : Own w base (.slice none 0 0) [] := ⟨World.ownsRow_nil _ _ _ _, fun p hp => by cases hp⟩
theorem Own.below {w w' : World} {base : Nat} {v : Value} {ps : List (Ac × Nat)} (h : Own w base v ps) (hb : Below w.heap.size w w') : Own w' base v ps :=
  ⟨h.row.kept (row := none) ⟨hb.os, hb.tape, hb.output, hb.size, fun k hk _ => hb.block k hk⟩ (by
    cases e : v.ownBlock with
    | none => exact .inl rfl
    | some k => exact .inr (by simp)), fun p hp => has_below (h.hist p hp) hb⟩
/-- Its shape: a slice value. -/
theorem Own.form {w : World} {base : Nat} {v : Value} {ps : List (Ac × Nat)} (h : Own w base v ps) : ∃ A c, v = .slice A ps.length c ∧ (∀ ad, A = some ad → base ≤ ad.block) := by
  rcases h.row.2 with ⟨e, h0⟩ | ⟨g, cap, cur, e, hg, _⟩
  · exact ⟨none, 0, by rw [e, h0], fun ad h => by cases h⟩
  · exact ⟨some ⟨g, 0, none⟩, cap, e, fun ad h => by injection h with h; subst h; exact hg⟩
theorem Own.accs {w : World} {base : Nat} {A : Option Addr} {n c : Nat} {ps : List (Ac × Nat)} (h : Own w base (.slice A n c) ps) (hl : ∀ p, p ∈ ps → p.1.h.length ≤ maxLen) : Accs w A n (ps.map (·.1)) := by
  rcases h.row.2 with ⟨e, h0⟩ | ⟨g, cap, cur, e, hg, hh, hn, hc, hs, ht⟩
  · injection e with e1 e2 e3
    have : ps = [] := List.eq_nil_of_length_eq_zero h0
    subst this; subst e1; subst e2
    exact Accs.nil _ _
  · injection e with e1 e2 e3
    subst e1; subst e2; subst e3
    refine ⟨by simp, fun hpos => ⟨g, 0, rfl, fun i hi => ?_⟩⟩
    have hp : ps[i] ∈ ps := List.getElem_mem hi
    have en : nthA (ps.map (·.1)) i = (ps[i]).1 := by simp [nthA, hi]
    refine ⟨some ⟨(ps[i]).2, 0, none⟩, (ps[i]).1.h.length, (ps[i]).1.h.length, ?_, ?_, Nat.le_refl _, hl _ hp⟩
    · rw [en]
      intro j v hv
      have hj : j < 13 := by have := (List.getElem?_eq_some_iff.1 hv).1; rwa [accC_len] at this
      rw [show 0 + i * 13 + j = i * 13 + j by omega, h.row.cellAt _ (by omega), rowC_at _ hi hj]
      exact hv
    · rw [en]
      exact ints_of_has (h.hist _ hp) rfl

theorem Try.infoAcc : (Try.prog.info? 49).map (fun i => (i.zero, i.size, i.bytes)) = some (some (.agg (accC zeroAc none 0 0)), 13, 120) := by kernel_rfl

/-- 's = append(s, a)' in a walk, a laid into a new row of one first. -/
theorem app_acc {ops : Array Oper} {rest : List Oper} {op : Oper} {p : Act} {w : World} {Q : Exit → Act → World → Prop} (hgd : op.guard = none) (s x : Operand)
    (ho : op.op = .call { callee := .builtin .append, args := #[s, x], argTypes := #[65, 65] })
    {base g y : Nat} {v : Value} {ps : List (Ac × Nat)} {a : Ac} (hs : p.eval s = v) (hown : Own w base v ps) (hx : p.eval x = .slice (some ⟨g, 0, none⟩) 1 1) (hg : Has w g 49 (accC a (some ⟨y, 0, none⟩) a.h.length a.h.length)) (hh : Has w y 3 (ints a.h))
    (hn : ps.length ≤ 8192) (hbase : base ≤ w.heap.size)
    (h : ∀ v' w', Own w' base v' (ps ++ [(a, y)]) → Below base w w' → wpList Try.prog ops Q rest (p.put op.dst v') w') : wpList Try.prog ops Q (op :: rest) p w := by
  obtain ⟨i0, hi, hz, hs0, hy0⟩ := info_parts Try.infoAcc
  refine wpList_append_own w hgd s x 65 ho base 49 i0 _ 13 120 Try.underlying65 hi hz hs0 hy0 rfl (by omega) v ps.length (rowC ps) hs hown.row ⟨g, 0, none⟩ 1 1 (accC a (some ⟨y, 0, none⟩) a.h.length a.h.length).toList hx rfl
    (fun j u hu => ?_) (fun u hu => ?_) (by unfold maxLen; omega) (by omega) hbase (fun v' w' h1 h2 _ => ?_)
  · rw [Addr.add_mid, hg.cell]
    simpa using hu
  · have := accC_one a (some ⟨y, 0, none⟩) a.h.length a.h.length
    rw [Array.all_eq_true_iff_forall_mem] at this
    exact this u (by simpa using hu)
  · have hne : ∀ z xs, Has w z 3 xs → some z ≠ v.ownBlock := fun z xs hz e => by
      rcases hown.row.2 with ⟨ev, _⟩ | ⟨g', cap, cur, ev, _, hh', _⟩
      · rw [ev] at e; cases e
      · rw [ev] at e
        injection e with e
        have h2 : Has w z 49 cur := by rw [e]; exact hh'
        exact has_types hz h2 (by decide)
    refine h v' w' ⟨by rw [rowC_snoc, List.length_append]; exact h1, fun q hq => ?_⟩ ⟨h2.os, h2.tape, h2.output, h2.size, fun k hk => h2.block k (by omega) (fun e => ?_)⟩
    · rcases List.mem_append.1 hq with hq | hq
      · exact (h2.block _ (hown.hist q hq).lt (hne _ _ (hown.hist q hq))).trans (hown.hist q hq)
      · obtain rfl : q = (a, y) := by simpa using hq
        exact (h2.block _ hh.lt (hne _ _ hh)).trans hh
    · have := hown.row.lt k e.symm
      omega

theorem below_cells {B : Nat} {a : World} {g : Nat} (hg : B ≤ g) (cs : List Value) : ∀ (o : Nat) (w : World), Below B a w → Below B a (w.setCells g o cs) := by
  induction cs with
  | nil => exact fun _ _ h => h
  | cons v r ih => exact fun o _ h => ih (o + 1) _ (h.setCell hg v)
theorem accC_some (a : Ac) (A : Option Addr) (k c : Nat) {t : Nat} (ht : t < 13) : ((accC a A k c)[t]?).isSome = true := by
  rw [Array.getElem?_eq_getElem (show t < (accC a A k c).size from ht)]; rfl
theorem four_cells (a : Ac) (A : Option Addr) (k c : Nat) {j t : Nat} (hj : j < 4) (ht : t < 13) : (accC a A k c ++ accC a A k c ++ accC a A k c ++ accC a A k c)[j * 13 + t]? = (accC a A k c)[t]? := by
  have hs : (accC a A k c).size = 13 := rfl
  generalize accC a A k c = X at hs ⊢
  have hss : (X ++ X).size = 26 := by rw [Array.size_append, hs]
  have hsss : (X ++ X ++ X).size = 39 := by rw [Array.size_append, hss, hs]
  have h4 : j = 0 ∨ j = 1 ∨ j = 2 ∨ j = 3 := by omega
  rcases h4 with rfl | rfl | rfl | rfl
  · rw [Array.getElem?_append_left (by omega), Array.getElem?_append_left (by omega), Array.getElem?_append_left (by omega)]; simp
  · rw [Array.getElem?_append_left (by omega), Array.getElem?_append_left (by omega), Array.getElem?_append_right (by omega), hs, show 1 * 13 + t - 13 = t by omega]
  · rw [Array.getElem?_append_left (by omega), Array.getElem?_append_right (by omega), hss, show 2 * 13 + t - 26 = t by omega]
  · rw [Array.getElem?_append_right (by omega), hsss, show 3 * 13 + t - 39 = t by omega]
theorem four_at (a b : Ac) {i j : Nat} (hi : i < 4) (hj : j < 4) : nthA ([a, a, a, a].set i b) j = if i = j then b else a := by
  have h4 : j = 0 ∨ j = 1 ∨ j = 2 ∨ j = 3 := by omega
  have h5 : i = 0 ∨ i = 1 ∨ i = 2 ∨ i = 3 := by omega
  rcases h4 with rfl | rfl | rfl | rfl <;> rcases h5 with rfl | rfl | rfl | rfl <;> rfl

/-- Four aggregates in a new row, all a, the one at place i then set to b. -/
theorem accs_four {w : World} {g i : Nat} {a b : Ac} {A B : Option Addr} {k c l d : Nat} (h : Has w g 49 (accC a A k c ++ accC a A k c ++ accC a A k c ++ accC a A k c)) (hi : i < 4)
    (ha : ∀ w', Below g w w' → Ints w' A k a.h) (hb : ∀ w', Below g w w' → Ints w' B l b.h) (h1 : k ≤ c ∧ c ≤ maxLen) (h2 : l ≤ d ∧ d ≤ maxLen) :
    Accs (w.setCells g (i * 13) (accC b B l d).toList) (some ⟨g, 0, none⟩) 4 ([a, a, a, a].set i b) := by
  have hbel : Below g w (w.setCells g (i * 13) (accC b B l d).toList) := below_cells (Nat.le_refl _) _ _ _ (Below.refl _ _)
  have hcell : ∀ j t, j < 4 → t < 13 → w.cell? ⟨g, j * 13 + t, none⟩ = (accC a A k c)[t]? := fun j t hj ht => by rw [h.cell, four_cells a A k c hj ht]
  refine ⟨by simp, fun _ => ⟨g, 0, rfl, fun j hj => ?_⟩⟩
  rw [four_at a b hi hj]
  by_cases e : i = j
  · subst e
    rw [if_pos rfl]
    refine ⟨B, l, d, fun t v hv => ?_, hb _ hbel, h2⟩
    have ht : t < 13 := by have := (List.getElem?_eq_some_iff.1 hv).1; rwa [accC_len] at this
    have h0 := World.cell?_setCells_in g (accC b B l d).toList (i * 13) w (fun t ht => by
      rw [accC_len] at ht
      rw [hcell i t hi ht]
      exact accC_some _ _ _ _ ht) t (by rw [accC_len]; exact ht)
    rw [show 0 + i * 13 + t = i * 13 + t by omega, h0, ← hv, List.getElem?_eq_getElem]
  · rw [if_neg e]
    refine ⟨A, k, c, fun t v hv => ?_, ha _ hbel, h1⟩
    have ht : t < 13 := by have := (List.getElem?_eq_some_iff.1 hv).1; rwa [accC_len] at this
    rw [show 0 + j * 13 + t = j * 13 + t by omega, World.cell?_setCells_out g _ _ _ _ (fun _ _ => by rw [accC_len]; simp only; omega), hcell j t hj ht]
    simpa using hv
theorem there_row {w : World} {g n : Nat} {t : TypeId} {cs : Array Value} (h : Has w g t cs) {o : Nat} (hn : o + n ≤ cs.size) : w.there g o n := fun j hj => ⟨by rw [h.cell]; simp; omega, h.mark _⟩

end Go.Proofs.Ytdoflmphkalicaa
