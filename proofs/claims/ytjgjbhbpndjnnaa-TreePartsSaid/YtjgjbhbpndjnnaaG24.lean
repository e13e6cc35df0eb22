/-
  A row of aggregates that the call itself appends to.
  A tree in memory: its parts, each made once and never turned; which blocks it lies in.
-/
import Derived.Test.YtjgjbhbpndjnnaaG9
import Derived.OwnWalk
import Derived.Test.YtjgjbhbpndjnnaaG18
import Derived.Test.YtjgjbhbpndjnnaaG23
import Derived.Test.YtjgjbhbpndjnnaaG10
namespace Go.Proofs.Ytjgjbhbpndjnnaa
open Go.RowKit

/-- The cells of a row: each aggregate with the block of its buckets. -/
def rowC (ps : List (Ac × Nat)) : List Value := ps.flatMap fun p => (accC p.1 (some ⟨p.2, 0, none⟩) p.1.h.length p.1.h.length).toList
theorem rowC_len (ps : List (Ac × Nat)) : (rowC ps).length = ps.length * 13 := by
  induction ps with
  | nil => rfl
  | cons p r ih =>
    have e : rowC (p :: r) = (accC p.1 (some ⟨p.2, 0, none⟩) p.1.h.length p.1.h.length).toList ++ rowC r := rfl
    rw [e, List.length_append, ih, accC_len, List.length_cons]; omega
theorem rowC_snoc (ps : List (Ac × Nat)) (p : Ac × Nat) : rowC (ps ++ [p]) = rowC ps ++ (accC p.1 (some ⟨p.2, 0, none⟩) p.1.h.length p.1.h.length).toList := by
  simp [rowC]
theorem rowC_at (ps : List (Ac × Nat)) {i j : Nat} (hi : i < ps.length) (hj : j < 13) : (rowC ps)[i * 13 + j]? = (accC (ps[i]).1 (some ⟨(ps[i]).2, 0, none⟩) (ps[i]).1.h.length (ps[i]).1.h.length).toList[j]? := by
  induction ps generalizing i with
  | nil => simp at hi
  | cons p r ih =>
    have e : rowC (p :: r) = (accC p.1 (some ⟨p.2, 0, none⟩) p.1.h.length p.1.h.length).toList ++ rowC r := rfl
    rw [e]
    cases i with
    | zero => rw [List.getElem?_append_left (by rw [accC_len]; omega)]; simp
    | succ i =>
      rw [List.getElem?_append_right (by rw [accC_len]; omega), accC_len, show (i + 1) * 13 + j - 13 = i * 13 + j by omega, ih (by simpa using hi)]
      simp
/-- v is a row that the call owns, from block base on, with these aggregates. -/
structure Own (w : World) (base : Nat) (v : Value) (ps : List (Ac × Nat)) : Prop where
  row : w.ownsRow base 29 13 v ps.length (rowC ps)
  hist : ∀ p, p ∈ ps → Has w p.2 3 (ints p.1.h)
theorem Own.nil (w : World) (base : Nat) : Own w base (.slice none 0 0) [] := ⟨World.ownsRow_nil _ _ _ _, fun p hp => by cases hp⟩
theorem Own.below {w w' : World} {base : Nat} {v : Value} {ps : List (Ac × Nat)} (h : Own w base v ps) (hb : Below w.heap.size w w') : Own w' base v ps :=
  ⟨h.row.kept (row := none) ⟨hb.os, hb.tape, hb.output, hb.size, fun k hk _ => hb.block k hk⟩ (by
    cases e : v.ownBlock with
    | none => exact .inl rfl
    | some k => exact .inr (by simp)), fun p hp => has_below (h.hist p hp) hb⟩
/-- Its shape: a slice value. -/
theorem Own.form {w : World} {base : Nat} {v : Value} {ps : List (Ac × Nat)} (h : Own w base v ps) : ∃ A c, v = .slice A ps.length c ∧ (∀ ad, A = some ad → base ≤ ad.block) := by
  rcases h.row.2 with ⟨e, h0⟩ | ⟨g, cap, cur, e, hg, _⟩
  · exact ⟨none, 0, by rw [e, h0], fun ad h => by cases h⟩
  · exact ⟨some ⟨g, 0, none⟩, cap, e, fun ad h => by injection h with h; subst h; exact hg⟩
theorem Own.accs {w : World} {base : Nat} {A : Option Addr} {n c : Nat} {ps : List (Ac × Nat)} (h : Own w base (.slice A n c) ps) (hl : ∀ p, p ∈ ps → p.1.h.length ≤ maxLen) : Accs w A n (ps.map (·.1)) := by
  rcases h.row.2 with ⟨e, h0⟩ | ⟨g, cap, cur, e, hg, hh, hn, hc, hs, ht⟩
  · injection e with e1 e2 e3
    have : ps = [] := List.eq_nil_of_length_eq_zero h0
    subst this; subst e1; subst e2
    exact Accs.nil _ _
  · injection e with e1 e2 e3
    subst e1; subst e2; subst e3
    refine ⟨by simp, fun hpos => ⟨g, 0, rfl, fun i hi => ?_⟩⟩
    have hp : ps[i] ∈ ps := List.getElem_mem hi
    have en : nthA (ps.map (·.1)) i = (ps[i]).1 := by simp [nthA, hi]
    refine ⟨some ⟨(ps[i]).2, 0, none⟩, (ps[i]).1.h.length, (ps[i]).1.h.length, ?_, ?_, Nat.le_refl _, hl _ hp⟩
    · rw [en]
      intro j v hv
      have hj : j < 13 := by have := (List.getElem?_eq_some_iff.1 hv).1; rwa [accC_len] at this
      rw [show 0 + i * 13 + j = i * 13 + j by omega, h.row.cellAt _ (by omega), rowC_at _ hi hj]
      exact hv
    · rw [en]
      exact ints_of_has (h.hist _ hp) rfl

theorem Try.infoAcc : (Try.prog.info? 29).map (fun i => (i.zero, i.size, i.bytes)) = some (some (.agg (accC zeroAc none 0 0)), 13, 120) := by kernel_rfl

/-- 's = append(s, a)' in a walk, a laid into a new row of one first. -/
theorem app_acc {ops : Array Oper} {rest : List Oper} {op : Oper} {p : Act} {w : World} {Q : Exit → Act → World → Prop} (hgd : op.guard = none) (s x : Operand)
    (ho : op.op = .call { callee := .builtin .append, args := #[s, x], argTypes := #[24, 24] })
    {base g y : Nat} {v : Value} {ps : List (Ac × Nat)} {a : Ac} (hs : p.eval s = v) (hown : Own w base v ps) (hx : p.eval x = .slice (some ⟨g, 0, none⟩) 1 1) (hg : Has w g 29 (accC a (some ⟨y, 0, none⟩) a.h.length a.h.length)) (hh : Has w y 3 (ints a.h))
    (hn : ps.length ≤ 8192) (hbase : base ≤ w.heap.size)
    (h : ∀ v' w', Own w' base v' (ps ++ [(a, y)]) → Below base w w' → wpList Try.prog ops Q rest (p.put op.dst v') w') : wpList Try.prog ops Q (op :: rest) p w := by
  obtain ⟨i0, hi, hz, hs0, hy0⟩ := info_parts Try.infoAcc
  refine wpList_append_own w hgd s x 24 ho base 29 i0 _ 13 120 Try.underlying24 hi hz hs0 hy0 rfl (by omega) v ps.length (rowC ps) hs hown.row ⟨g, 0, none⟩ 1 1 (accC a (some ⟨y, 0, none⟩) a.h.length a.h.length).toList hx rfl
    (fun j u hu => ?_) (fun u hu => ?_) (by unfold maxLen; omega) (by omega) hbase (fun v' w' h1 h2 _ => ?_)
  · rw [Addr.add_mid, hg.cell]
    simpa using hu
  · have := accC_one a (some ⟨y, 0, none⟩) a.h.length a.h.length
    rw [Array.all_eq_true_iff_forall_mem] at this
    exact this u (by simpa using hu)
  · have hne : ∀ z xs, Has w z 3 xs → some z ≠ v.ownBlock := fun z xs hz e => by
      rcases hown.row.2 with ⟨ev, _⟩ | ⟨g', cap, cur, ev, _, hh', _⟩
      · rw [ev] at e; cases e
      · rw [ev] at e
        injection e with e
        have h2 : Has w z 29 cur := by rw [e]; exact hh'
        exact has_types hz h2 (by decide)
    refine h v' w' ⟨by rw [rowC_snoc, List.length_append]; exact h1, fun q hq => ?_⟩ ⟨h2.os, h2.tape, h2.output, h2.size, fun k hk => h2.block k (by omega) (fun e => ?_)⟩
    · rcases List.mem_append.1 hq with hq | hq
      · exact (h2.block _ (hown.hist q hq).lt (hne _ _ (hown.hist q hq))).trans (hown.hist q hq)
      · obtain rfl : q = (a, y) := by simpa using hq
        exact (h2.block _ hh.lt (hne _ _ hh)).trans hh
    · have := hown.row.lt k e.symm
      omega

theorem below_cells {B : Nat} {a : World} {g : Nat} (hg : B ≤ g) (cs : List Value) : ∀ (o : Nat) (w : World), Below B a w → Below B a (w.setCells g o cs) := by
  induction cs with
  | nil => exact fun _ _ h => h
  | cons v r ih => exact fun o _ h => ih (o + 1) _ (h.setCell hg v)
theorem accC_some (a : Ac) (A : Option Addr) (k c : Nat) {t : Nat} (ht : t < 13) : ((accC a A k c)[t]?).isSome = true := by
  rw [Array.getElem?_eq_getElem (show t < (accC a A k c).size from ht)]; rfl
theorem four_cells (a : Ac) (A : Option Addr) (k c : Nat) {j t : Nat} (hj : j < 4) (ht : t < 13) : (accC a A k c ++ accC a A k c ++ accC a A k c ++ accC a A k c)[j * 13 + t]? = (accC a A k c)[t]? := by
  have hs : (accC a A k c).size = 13 := rfl
  generalize accC a A k c = X at hs ⊢
  have hss : (X ++ X).size = 26 := by rw [Array.size_append, hs]
  have hsss : (X ++ X ++ X).size = 39 := by rw [Array.size_append, hss, hs]
  have h4 : j = 0 ∨ j = 1 ∨ j = 2 ∨ j = 3 := by omega
  rcases h4 with rfl | rfl | rfl | rfl
  · rw [Array.getElem?_append_left (by omega), Array.getElem?_append_left (by omega), Array.getElem?_append_left (by omega)]; simp
  · rw [Array.getElem?_append_left (by omega), Array.getElem?_append_left (by omega), Array.getElem?_append_right (by omega), hs, show 1 * 13 + t - 13 = t by omega]
  · rw [Array.getElem?_append_left (by omega), Array.getElem?_append_right (by omega), hss, show 2 * 13 + t - 26 = t by omega]
  · rw [Array.getElem?_append_right (by omega), hsss, show 3 * 13 + t - 39 = t by omega]
theorem four_at (a b : Ac) {i j : Nat} (hi : i < 4) (hj : j < 4) : nthA ([a, a, a, a].set i b) j = if i = j then b else a := by
  have h4 : j = 0 ∨ j = 1 ∨ j = 2 ∨ j = 3 := by omega
  have h5 : i = 0 ∨ i = 1 ∨ i = 2 ∨ i = 3 := by omega
  rcases h4 with rfl | rfl | rfl | rfl <;> rcases h5 with rfl | rfl | rfl | rfl <;> rfl

/-- Four aggregates in a new row, all a, the one at place i then set to b. -/
theorem accs_four {w : World} {g i : Nat} {a b : Ac} {A B : Option Addr} {k c l d : Nat} (h : Has w g 29 (accC a A k c ++ accC a A k c ++ accC a A k c ++ accC a A k c)) (hi : i < 4)
    (ha : ∀ w', Below g w w' → Ints w' A k a.h) (hb : ∀ w', Below g w w' → Ints w' B l b.h) (h1 : k ≤ c ∧ c ≤ maxLen) (h2 : l ≤ d ∧ d ≤ maxLen) :
    Accs (w.setCells g (i * 13) (accC b B l d).toList) (some ⟨g, 0, none⟩) 4 ([a, a, a, a].set i b) := by
  have hbel : Below g w (w.setCells g (i * 13) (accC b B l d).toList) := below_cells (Nat.le_refl _) _ _ _ (Below.refl _ _)
  have hcell : ∀ j t, j < 4 → t < 13 → w.cell? ⟨g, j * 13 + t, none⟩ = (accC a A k c)[t]? := fun j t hj ht => by rw [h.cell, four_cells a A k c hj ht]
  refine ⟨by simp, fun _ => ⟨g, 0, rfl, fun j hj => ?_⟩⟩
  rw [four_at a b hi hj]
  by_cases e : i = j
  · subst e
    rw [if_pos rfl]
    refine ⟨B, l, d, fun t v hv => ?_, hb _ hbel, h2⟩
    have ht : t < 13 := by have := (List.getElem?_eq_some_iff.1 hv).1; rwa [accC_len] at this
    have h0 := World.cell?_setCells_in g (accC b B l d).toList (i * 13) w (fun t ht => by
      rw [accC_len] at ht
      rw [hcell i t hi ht]
      exact accC_some _ _ _ _ ht) t (by rw [accC_len]; exact ht)
    rw [show 0 + i * 13 + t = i * 13 + t by omega, h0, ← hv, List.getElem?_eq_getElem]
  · rw [if_neg e]
    refine ⟨A, k, c, fun t v hv => ?_, ha _ hbel, h1⟩
    have ht : t < 13 := by have := (List.getElem?_eq_some_iff.1 hv).1; rwa [accC_len] at this
    rw [show 0 + j * 13 + t = j * 13 + t by omega, World.cell?_setCells_out g _ _ _ _ (fun _ _ => by rw [accC_len]; simp only; omega), hcell j t hj ht]
    simpa using hv
theorem there_row {w : World} {g n : Nat} {t : TypeId} {cs : Array Value} (h : Has w g t cs) {o : Nat} (hn : o + n ≤ cs.size) : w.there g o n := fun j hj => ⟨by rw [h.cell]; simp; omega, h.mark _⟩

end Go.Proofs.Ytjgjbhbpndjnnaa

namespace Go.Proofs.Ytjgjbhbpndjnnaa
open Go.RowKit

abbrev PT : TypeId := 110
abbrev TT : TypeId := 88
/-- A part's cells: the part ahead, the item, the part behind, what is known of all. -/
def prtC (p : Option Addr) (x : It) (q : Option Addr) (a : Ac) (H : Nat) : Array Value := #[.pointer p, .int .i64 x.s, .int .i64 x.t, .int .i64 x.q, .int .i64 x.v, .pointer q, .int .i64 a.n, .int .i64 a.s, .int .i64 a.mn, .int .i64 a.mx, .int .i64 a.f.s, .int .i64 a.f.t, .int .i64 a.f.q, .int .i64 a.f.v, .int .i64 a.l.s, .int .i64 a.l.t, .int .i64 a.l.q, .int .i64 a.l.v, .slice (some ⟨H, 0, none⟩) a.h.length a.h.length]
section
variable (p q : Option Addr) (x : It) (a : Ac) (H : Nat)
@[go_sem] theorem prtC_0 : (prtC p x q a H)[0]? = some (.pointer p) := rfl
@[go_sem] theorem prtC_1 : (prtC p x q a H)[1]? = some (.int .i64 x.s) := rfl
@[go_sem] theorem prtC_2 : (prtC p x q a H)[2]? = some (.int .i64 x.t) := rfl
@[go_sem] theorem prtC_3 : (prtC p x q a H)[3]? = some (.int .i64 x.q) := rfl
@[go_sem] theorem prtC_4 : (prtC p x q a H)[4]? = some (.int .i64 x.v) := rfl
@[go_sem] theorem prtC_5 : (prtC p x q a H)[5]? = some (.pointer q) := rfl
@[go_sem] theorem prtC_6 : (prtC p x q a H)[6]? = some (.int .i64 a.n) := rfl
@[go_sem] theorem prtC_11 : (prtC p x q a H)[11]? = some (.int .i64 a.f.t) := rfl
@[go_sem] theorem prtC_15 : (prtC p x q a H)[15]? = some (.int .i64 a.l.t) := rfl
theorem prtC_acc {w : World} {b : Nat} {t : TypeId} (h : Has w b t (prtC p x q a H)) : w.rangeAt b 6 (accC a (some ⟨H, 0, none⟩) a.h.length a.h.length).toList := fun j v hv => by
  rw [h.cell]
  have hj : j < 13 := by have := (List.getElem?_eq_some_iff.1 hv).1; rwa [accC_len] at this
  obtain rfl | rfl | rfl | rfl | rfl | rfl | rfl | rfl | rfl | rfl | rfl | rfl | rfl : j = 0 ∨ j = 1 ∨ j = 2 ∨ j = 3 ∨ j = 4 ∨ j = 5 ∨ j = 6 ∨ j = 7 ∨ j = 8 ∨ j = 9 ∨ j = 10 ∨ j = 11 ∨ j = 12 := by omega
  all_goals (rw [← hv]; rfl)
theorem prtC_item {w : World} {b : Nat} {t : TypeId} (h : Has w b t (prtC p x q a H)) : w.rangeAt b 1 (itemL x) := fun j v hv => by
  rw [h.cell]
  have hj : j < 4 := (List.getElem?_eq_some_iff.1 hv).1
  obtain rfl | rfl | rfl | rfl : j = 0 ∨ j = 1 ∨ j = 2 ∨ j = 3 := by omega
  all_goals (rw [← hv]; rfl)
end
def Tr.ptr : Tr → Option Addr
  | .nil => none
  | .node b _ _ _ _ => some ⟨b, 0, none⟩
/-- The tree lies so, in blocks out of P. -/
def Tr.At (bs : List Int) (P : Nat → Prop) (w : World) : Tr → Prop
  | .nil => True
  | .node b H l x r => P b ∧ P H ∧ Has w b PT (prtC l.ptr x r.ptr (foldA bs (Tr.node b H l x r).row) H) ∧ Has w H 3 (ints (foldA bs (Tr.node b H l x r).row).h) ∧ l.At bs P w ∧ r.At bs P w
section
variable {bs : List Int} {P P' : Nat → Prop} {w w' : World}
theorem Tr.At.same {t : Tr} (h : t.At bs P w) (hk : ∀ k, k < w.heap.size → P k → w'.heap[k]? = w.heap[k]?) : t.At bs P w' := by
  induction t with
  | nil => trivial
  | node b H l x r il ir =>
    obtain ⟨h1, h2, h3, h4, h5, h6⟩ := h
    exact ⟨h1, h2, (hk b h3.lt h1).trans h3, (hk H h4.lt h2).trans h4, il h5, ir h6⟩
theorem Tr.At.mono {t : Tr} (h : t.At bs P w) (hk : ∀ k, k < w.heap.size → P k → P' k) : t.At bs P' w := by
  induction t with
  | nil => trivial
  | node b H l x r il ir =>
    obtain ⟨h1, h2, h3, h4, h5, h6⟩ := h
    exact ⟨hk b h3.lt h1, hk H h4.lt h2, h3, h4, il h5, ir h6⟩
theorem Tr.At.below {t : Tr} (h : t.At bs P w) (hb : Below w.heap.size w w') : t.At bs P w' := h.same fun k hk _ => hb.block k hk
/-- What is fixed of a tree while it is worked on: its bounds. -/
structure TBd (P : Nat → Prop) (w : World) (g : Nat) (bs : List Int) (A : Option Addr) (m d : Nat) (root : Option Addr) : Prop where
  st : Has w g TT #[.slice A m d, .pointer root]
  bd : OwnI w 0 (.slice A m d) bs
  inG : P g
  inD : ∀ k, (Value.slice A m d).ownBlock = some k → P k
theorem ownI_same {base : Nat} {v : Value} {xs : List Int} (h : OwnI w base v xs) (hk : ∀ k, k < w.heap.size → v.ownBlock = some k → w'.heap[k]? = w.heap[k]?) : OwnI w' base v xs := by
  rcases h.2 with ⟨rfl, h0⟩ | ⟨g, cap, cur, rfl, hg, hh, h1, h2, h3, h4⟩
  · exact ⟨h.1, .inl ⟨rfl, h0⟩⟩
  · exact ⟨h.1, .inr ⟨g, cap, cur, rfl, hg, (hk g (Has.lt (w := w) hh) rfl).trans hh, h1, h2, h3, h4⟩⟩
variable {g m d : Nat} {A root : Option Addr}
theorem TBd.same (h : TBd P w g bs A m d root) (hk : ∀ k, k < w.heap.size → P k → w'.heap[k]? = w.heap[k]?) : TBd P w' g bs A m d root :=
  ⟨(hk g h.st.lt h.inG).trans h.st, ownI_same h.bd fun k hl e => hk k hl (h.inD k e), h.inG, h.inD⟩
theorem TBd.below (h : TBd P w g bs A m d root) (hb : Below w.heap.size w w') : TBd P w' g bs A m d root := h.same fun k hk _ => hb.block k hk
theorem TBd.ints (h : TBd P w g bs A m d root) : Ints w A m bs := OwnI.ints h.bd
end

/-! Loads of a part's and a tree's cells. -/
theorem run_ldPart {g k : Nat} {p : Option Addr} {w : World} (h : w.cell? ⟨g, k, none⟩ = some (.pointer p)) : (Instr.loadAt 86 (.pointer (some ⟨g, k, none⟩))).run Try.prog w = .ok (.pointer p) w := by simp [go_sem, h, Instr.loadAt]
theorem run_ldBd {g k : Nat} {A : Option Addr} {m c : Nat} {w : World} (h : w.cell? ⟨g, k, none⟩ = some (.slice A m c)) : (Instr.loadAt 25 (.pointer (some ⟨g, k, none⟩))).run Try.prog w = .ok (.slice A m c) w := by simp [go_sem, h, Instr.loadAt]

/-- The call hands out a tree of this row. -/
def TrO (bs : List Int) (P : Nat → Prop) (R : List It) (w : World) (e : Ending) (w' : World) : Prop :=
  ∃ T : Tr, e = .returned (.pointer T.ptr) ∧ T.At bs P w' ∧ T.row = R ∧ Below w.heap.size w w'
/-- The slot holds a tree of this row. -/
def trV (bs : List Int) (P : Nat → Prop) (R : List It) : Fact := fun v w => ∃ T : Tr, v = .pointer T.ptr ∧ T.At bs P w ∧ T.row = R
theorem trV_mono (bs : List Int) (P : Nat → Prop) (R : List It) : Mono (trV bs P R) := fun _ _ _ hb ⟨T, h1, h2, h3⟩ => ⟨T, h1, h2.below hb, h3⟩

/-! Counts, weights. -/
set_option maxHeartbeats 400000 in
theorem tcount_any (bs : List Int) (P : Nat → Prop) (t : Tr) (w : World) (h : t.At bs P w) :
    Calls Try.prog 67 #[.pointer t.ptr] w fun e w' => e = .returned (.int .i64 (t.row.length : Nat)) ∧ w = w' := by
  cases t with
  | nil =>
    unfold Tr.ptr Tr.row
    go_enter Try.func67, Try.ntmps67
    go_wp2_with fail
    go_ret
    exact ⟨rfl, rfl⟩
  | node b H l x r =>
    obtain ⟨_, _, h3, _⟩ := h
    have hc : w.cell? ⟨b, 6, none⟩ = some (.int .i64 ((Tr.node b H l x r).row.length : Nat)) := by
      rw [h3.cell, prtC_6, foldA_n]
    clear h3
    generalize (Tr.node b H l x r).row = R at hc ⊢
    unfold Tr.ptr
    go_enter Try.func67, Try.ntmps67
    go_wp2_with fail
    go_ret
    exact ⟨rfl, rfl⟩
set_option maxHeartbeats 400000 in
theorem tweight_any (bs : List Int) (P : Nat → Prop) (t : Tr) (w : World) (h : t.At bs P w) (hn : t.row.length ≤ 8192) :
    Calls Try.prog 100 #[.pointer t.ptr] w fun e w' => e = .returned (.int .i64 ((t.row.length : Nat) + 1)) ∧ w = w' := by
  have HC := Lib.hid (tcount_any bs P t w h)
  clear h
  generalize t.row.length = n at HC hn ⊢
  generalize t.ptr = p at HC ⊢
  have h1 : (0 : Int) ≤ (n : Nat) ∧ ((n : Nat) : Int) ≤ 8192 := by omega
  go_enter Try.func100, Try.ntmps100
  go_wp2_with (go_at_call 67; refine HC.out.mono ?_; rintro e w2 ⟨rfl, rfl⟩)
  go_ret
  exact ⟨rfl, rfl⟩
set_option maxHeartbeats 400000 in
theorem theavy_any (bs : List Int) (P : Nat → Prop) (s t : Tr) (w : World) (hs : s.At bs P w) (ht : t.At bs P w) (hn : s.row.length ≤ 8192) (hm : t.row.length ≤ 8192) :
    Calls Try.prog 93 #[.pointer s.ptr, .pointer t.ptr] w fun e w' => e = .returned (.bool (decide (3 * (t.row.length + 1) < s.row.length + 1))) ∧ w = w' := by
  have HC := Lib.hid (tweight_any bs P s w hs hn)
  have HD := Lib.hid (tweight_any bs P t w ht hm)
  clear hs ht
  generalize s.row.length = n at HC hn ⊢
  generalize t.row.length = m at HD hm ⊢
  generalize s.ptr = p at HC ⊢
  generalize t.ptr = q at HD ⊢
  have h1 : (0 : Int) ≤ (n : Nat) ∧ ((n : Nat) : Int) ≤ 8192 := by omega
  have h2 : (0 : Int) ≤ (m : Nat) ∧ ((m : Nat) : Int) ≤ 8192 := by omega
  have HE := Lib.hid (show decide (3 * ((m : Nat) + 1 : Int) < (n : Nat) + 1) = decide (3 * (m + 1) < n + 1) by
    by_cases h : 3 * (m + 1) < n + 1
    · rw [decide_eq_true h, decide_eq_true (by omega)]
    · rw [decide_eq_false h, decide_eq_false (by omega)])
  go_enter Try.func93, Try.ntmps93
  go_upto_region 1 with fail
  go_wp2_with (first | (refine HC.out.mono ?_; clear HC; rintro e w2 ⟨rfl, rfl⟩) | (refine HD.out.mono ?_; clear HD; rintro e w2 ⟨rfl, rfl⟩))
  go_ret
  exact ⟨by rw [HE.out]; rfl, rfl⟩

end Go.Proofs.Ytjgjbhbpndjnnaa
