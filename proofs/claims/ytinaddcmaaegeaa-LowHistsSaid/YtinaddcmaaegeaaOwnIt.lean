/-
  A row of items that the call itself appends to; what is known of items in rising stamps.
-/
import Derived.Test.YtinaddcmaaegeaaLow2
namespace Go.Proofs.Ytinaddcmaaegeaa
open Go.RowKit

theorem Try.infoItem : (Try.prog.info? 23).map (fun i => (i.zero, i.size, i.bytes)) = some (some (.agg #[.int .i64 0, .int .i64 0, .int .i64 0, .int .i64 0]), 4, 32) := by kernel_rfl
theorem flat_len (xs : List It) : (xs.flatMap itemL).length = xs.length * 4 := by
  induction xs with
  | nil => rfl
  | cons y r ih => rw [List.flatMap_cons, List.length_append, ih, List.length_cons]; simp [itemL]; omega
theorem flat_at (ys : List It) : ∀ i, i < ys.length → ∀ j v, (itemL (nthI ys i))[j]? = some v → (ys.flatMap itemL)[i * 4 + j]? = some v := by
  induction ys with
  | nil => intro i hi; simp at hi
  | cons y r ih =>
    intro i hi j v hv
    have hl : (itemL y).length = 4 := rfl
    rw [List.flatMap_cons]
    cases i with
    | zero =>
      have hy : nthI (y :: r) 0 = y := rfl
      rw [hy] at hv
      have hj : j < 4 := by have := (List.getElem?_eq_some_iff.1 hv).1; rwa [hl] at this
      rw [List.getElem?_append_left (by rw [hl]; omega)]
      simpa using hv
    | succ i =>
      have hy : nthI (y :: r) (i + 1) = nthI r i := by simp [nthI]
      rw [hy] at hv
      rw [List.getElem?_append_right (by rw [hl]; omega), hl, show (i + 1) * 4 + j - 4 = i * 4 + j by omega]
      exact ih i (by simpa using hi) j v hv
/-- v is a row of items that the call owns, from block base on. -/
def OwnIt (w : World) (base : Nat) (v : Value) (xs : List It) : Prop := w.ownsRow base 23 4 v xs.length (xs.flatMap itemL)
theorem OwnIt.nil (w : World) (base : Nat) : OwnIt w base (.slice none 0 0) [] := World.ownsRow_nil _ _ _ _
theorem OwnIt.form {w : World} {base : Nat} {v : Value} {xs : List It} (h : OwnIt w base v xs) : ∃ A c, v = .slice A xs.length c ∧ (∀ ad, A = some ad → base ≤ ad.block) := by
  rcases h.2 with ⟨e, h0⟩ | ⟨g, cap, cur, e, hg, _, hc1, hc2, _⟩
  · exact ⟨none, 0, by rw [e, h0], fun ad h => by cases h⟩
  · exact ⟨some ⟨g, 0, none⟩, cap, e, fun ad h => by injection h with h; subst h; exact hg⟩
theorem OwnIt.items {w : World} {base : Nat} {A : Option Addr} {n c : Nat} {xs : List It} (h : OwnIt w base (.slice A n c) xs) : Items w A n xs := by
  rcases h.2 with ⟨e, h0⟩ | ⟨g, cap, cur, e, hg, hh, hn, hc, hs, ht⟩
  · injection e with e1 e2 e3
    subst e2
    exact ⟨h0, fun h => absurd h (by omega)⟩
  · injection e with e1 e2 e3
    subst e1; subst e2; subst e3
    refine ⟨rfl, fun hpos => ⟨g, 0, rfl, fun i hi j v hv => ?_⟩⟩
    have hl : (itemL (nthI xs i)).length = 4 := rfl
    have hj : j < 4 := by have := (List.getElem?_eq_some_iff.1 hv).1; rwa [hl] at this
    rw [show 0 + i * 4 + j = i * 4 + j by omega, World.ownsRow.cellAt h _ (by omega)]
    exact flat_at xs i hi j v hv
theorem OwnIt.below {w w' : World} {base : Nat} {v : Value} {xs : List It} (h : OwnIt w base v xs) (hb : Below w.heap.size w w') : OwnIt w' base v xs :=
  World.ownsRow.kept h (row := none) ⟨hb.os, hb.tape, hb.output, hb.size, fun k hk _ => hb.block k hk⟩ (by
    cases e : v.ownBlock with
    | none => exact .inl rfl
    | some k => exact .inr (by simp))
/-- 's = append(s, y)' in a walk, y laid into a new row of one first. -/
theorem app_item {ops : Array Oper} {rest : List Oper} {op : Oper} {p : Act} {w : World} {Q : Exit → Act → World → Prop} (hgd : op.guard = none) (s x : Operand)
    (ho : op.op = .call { callee := .builtin .append, args := #[s, x], argTypes := #[63, 63] })
    {base g : Nat} {v : Value} {xs : List It} {y : It} (hs : p.eval s = v) (hown : OwnIt w base v xs) (hx : p.eval x = .slice (some ⟨g, 0, none⟩) 1 1) (hg : Has w g 23 (itemL y).toArray)
    (hn : xs.length ≤ 8192) (hbase : base ≤ w.heap.size)
    (h : ∀ A c w', OwnIt w' base (.slice A (xs.length + 1) c) (xs ++ [y]) → Below base w w' → wpList Try.prog ops Q rest (p.put op.dst (.slice A (xs.length + 1) c)) w') : wpList Try.prog ops Q (op :: rest) p w := by
  obtain ⟨i0, hi, hz, hs0, hy0⟩ := info_parts Try.infoItem
  refine wpList_append_own w hgd s x 63 ho base 23 i0 _ 4 32 Try.underlying63 hi hz hs0 hy0 rfl (by omega) v xs.length (xs.flatMap itemL) hs hown ⟨g, 0, none⟩ 1 1 (itemL y) hx rfl
    (fun j u hu => ?_) (fun u hu => ?_) (by unfold maxLen; omega) (by omega) hbase (fun v' w' h1 h2 _ => ?_)
  · rw [Addr.add_mid, hg.cell, Nat.zero_add]
    simpa using hu
  · simp only [itemL, List.mem_cons, List.not_mem_nil, or_false] at hu
    rcases hu with rfl | rfl | rfl | rfl <;> rfl
  · have h3 : OwnIt w' base v' (xs ++ [y]) := by unfold OwnIt; simpa [List.flatMap_append] using h1
    obtain ⟨A, c, rfl, _⟩ := h3.form
    have e : (xs ++ [y]).length = xs.length + 1 := by simp
    rw [e] at h3 ⊢
    refine h A c w' h3 ⟨h2.os, h2.tape, h2.output, h2.size, fun k hk => h2.block k (by omega) (fun e => ?_)⟩
    have := World.ownsRow.lt hown k e.symm
    omega

/-! What LowPlain folds. -/
def vOf (x : Int) : Int := x % 1024 - 500
def plainX (vs : List Int) (m : Nat) : List It := (List.range m).map fun (i : Nat) => ⟨0, (i : Int) / 2, (i : Int) + 1, vOf (nth vs i)⟩
theorem plain_len (vs : List Int) (m : Nat) : (plainX vs m).length = m := by simp [plainX]
theorem plain_at (vs : List Int) {m i : Nat} (h : i < m) : nthI (plainX vs m) i = ⟨0, (i : Int) / 2, (i : Int) + 1, vOf (nth vs i)⟩ := by
  simp [nthI, plainX, List.getElem?_range h]
theorem plain_succ (vs : List Int) (j : Nat) : plainX vs j ++ [⟨0, (j : Int) / 2, (j : Int) + 1, vOf (nth vs j)⟩] = plainX vs (j + 1) := by simp [plainX, List.range_succ]
theorem vOf_bd (x : Int) : -500 ≤ vOf x ∧ vOf x ≤ 523 := by unfold vOf; omega
theorem plain_ok (vs : List Int) {m : Nat} (hm : m ≤ 30) : ∀ i, i < m → itemB (nthI (plainX vs m) i) = true := fun i hi => by
  rw [plain_at vs hi]
  have := vOf_bd (nth vs i)
  exact itemB_iff.2 (by simp only; omega)
structure PlainK (vs : List Int) (j : Nat) (a : Ac) : Prop where
  n : a.n = j
  s0 : -500 * (j : Int) ≤ a.s
  s1 : a.s ≤ 523 * (j : Int)
  mn : -500 ≤ a.mn ∧ a.mn ≤ 523
  mx : -500 ≤ a.mx ∧ a.mx ≤ 523
  f : a.f = ⟨0, 0, 1, vOf (nth vs 0)⟩
  l : a.l = ⟨0, ((j - 1 : Nat) : Int) / 2, ((j - 1 : Nat) : Int) + 1, vOf (nth vs (j - 1))⟩
  h : a.h = [(j : Int)]
  lo : (j : Int) * a.mn ≤ a.s
  hi : a.s ≤ (j : Int) * a.mx
  fv : a.mn ≤ vOf (nth vs 0) ∧ vOf (nth vs 0) ≤ a.mx
  lv : a.mn ≤ vOf (nth vs (j - 1)) ∧ vOf (nth vs (j - 1)) ≤ a.mx
theorem plain_known (vs : List Int) {m : Nat} : ∀ j, 0 < j → j ≤ m → PlainK vs j (foldTo [] (plainX vs m) j) := by
  intro j
  induction j with
  | zero => intro h; omega
  | succ j ih =>
    intro _ hj
    have hv := vOf_bd (nth vs j)
    have hx := plain_at vs (m := m) (i := j) (by omega)
    rw [foldTo_succ [] _ (by rw [plain_len]; omega), hx]
    by_cases h0 : j = 0
    · subst h0
      rw [foldTo_zero, add_start _ _ (one_hlen _ _)]
      exact ⟨rfl, by simp only [oneAc]; omega, by simp only [oneAc]; omega, by simp only [oneAc]; omega, by simp only [oneAc]; omega, rfl, rfl, rfl, by simp only [oneAc]; omega, by simp only [oneAc]; omega, by simp only [oneAc]; omega, ⟨Int.le_refl _, Int.le_refl _⟩⟩
    · obtain ⟨k1, k2, k3, k4, k5, k6, k7, k8, k9, k10, k11, k12⟩ := ih (by omega) (by omega)
      have hn : ¬ (foldTo [] (plainX vs m) j).n = 0 := by rw [k1]; omega
      have hb1 : beforeB ⟨0, (j : Int) / 2, (j : Int) + 1, vOf (nth vs j)⟩ (foldTo [] (plainX vs m) j).f = false := by rw [k6]; exact decide_eq_false (by simp only; omega)
      have hb2 : beforeB ⟨0, (j : Int) / 2, (j : Int) + 1, vOf (nth vs j)⟩ (foldTo [] (plainX vs m) j).l = false := by rw [k7]; exact decide_eq_false (by simp only; omega)
      have hj0 : (0 : Int) ≤ j := by omega
      have hc : ((j + 1 : Nat) : Int) = (j : Int) + 1 := by omega
      obtain ⟨v, hv2⟩ : ∃ v, vOf (nth vs j) = v := ⟨_, rfl⟩
      rw [hv2] at hv hb1 hb2 ⊢
      generalize foldTo [] (plainX vs m) j = o at k1 k2 k3 k4 k5 k6 k7 k8 k9 k10 k11 k12 hn hb1 hb2 ⊢
      have q1 : (j : Int) * min o.mn v ≤ (j : Int) * o.mn := Int.mul_le_mul_of_nonneg_left (by omega) hj0
      have q2 : (j : Int) * o.mx ≤ (j : Int) * max o.mx v := Int.mul_le_mul_of_nonneg_left (by omega) hj0
      have q3 : ((j : Int) + 1) * min o.mn v = (j : Int) * min o.mn v + min o.mn v := by rw [Int.add_mul, Int.one_mul]
      have q4 : ((j : Int) + 1) * max o.mx v = (j : Int) * max o.mx v + max o.mx v := by rw [Int.add_mul, Int.one_mul]
      refine ⟨?_, ?_, ?_, ?_, ?_, ?_, ?_, ?_, ?_, ?_, ?_, ?_⟩
      · simp only [addAc, oneAc, k1]; omega
      · simp only [addAc, oneAc]; omega
      · simp only [addAc, oneAc]; omega
      · simp only [addAc, oneAc, hn, if_false]; omega
      · simp only [addAc, oneAc, hn, if_false]; omega
      · simp only [addAc, oneAc, hn, if_false, pick, hb1]; exact k6
      · simp only [addAc, oneAc, hn, if_false, pick, hb2, Nat.add_sub_cancel, hv2]; rfl
      · simp [addAc, oneAc, k8, nth, bkt, List.range_succ]
      · simp only [addAc, oneAc, hn, if_false]; rw [hc, q3]; omega
      · simp only [addAc, oneAc, hn, if_false]; rw [hc, q4]; omega
      · simp only [addAc, oneAc, hn, if_false]; omega
      · simp only [addAc, oneAc, hn, if_false, Nat.add_sub_cancel, hv2]; omega
theorem plain_ask (vs : List Int) {m : Nat} (h0 : 0 < m) (hm : m ≤ 30) (q : Qu) (hq : q.bs = [] ∧ q.rank = 0 ∧ q.agg ≠ 7) {a : Ac} (k : PlainK vs m a) : askB q a = true := by
  obtain ⟨k1, k2, k3, k4, k5, k6, k7, k8, k9, k10, k11, k12⟩ := k
  have hn : ¬ a.n = 0 := by rw [k1]; omega
  have hv0 := vOf_bd (nth vs 0)
  have hv1 := vOf_bd (nth vs (m - 1))
  have hi : itemB a.f = true := by rw [k6]; exact itemB_iff.2 (by simp only; omega)
  have hj : itemB a.l = true := by rw [k7]; exact itemB_iff.2 (by simp only; omega)
  have e1 : wi a.n 0 8192 = true := wi_mk (by rw [k1]; omega)
  have e2 : histB a 1 = true := decide_eq_true ⟨by rw [k8]; rfl, fun i hi => by
    rw [k8] at hi ⊢
    obtain rfl : i = 0 := by simpa using hi
    rw [nth_cons_zero]; omega, by rw [k8, k1]; simp [isum]⟩
  have e3 : endsB a = true := decide_eq_true ⟨hi, hj, by rw [k6, k7], by rw [k6, k7]; exact decide_eq_false (by simp only; omega)⟩
  have e4 : valsB a = true := decide_eq_true (by rw [k6, k7, k1]; simp only; omega)
  have e5 : accB a [] = true := by
    unfold accB fitB
    rw [show boundsB [] = true by decide]
    have hl : (([] : List Int).length : Int) + 1 = 1 := rfl
    rw [hl, e1, e2, if_neg hn, e3, e4]
    rfl
  obtain ⟨q1, q2, q3⟩ := hq
  have e6 : wi q.rank 0 1000 = true := by rw [q2]; decide
  have e7 : decide (0 < a.n) = true := decide_eq_true (by rw [k1]; omega)
  have e8 : decide (q.agg ≠ 7) = true := decide_eq_true q3
  unfold askB
  rw [q1, e5, e6, e7, e8]
  rfl

end Go.Proofs.Ytinaddcmaaegeaa
