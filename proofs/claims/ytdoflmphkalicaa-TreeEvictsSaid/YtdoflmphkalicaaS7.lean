/-
  A tree in memory: its parts, each made once and never turned; which blocks it lies in.
  Single operations of the tree's drawn regions.
  A row of aggregates, as a call hands it out.
-/
import Derived.Test.YtdoflmphkalicaaS5
import Derived.Test.YtdoflmphkalicaaS3
import Derived.Test.YtdoflmphkalicaaItApp
import Derived.Test.YtdoflmphkalicaaOwnI
import Derived.Test.YtdoflmphkalicaaApp
import Derived.Test.YtdoflmphkalicaaS8
namespace Go.Proofs.Ytdoflmphkalicaa
open Go.RowKit

abbrev PT : TypeId := 107
abbrev TT : TypeId := 77
/-- A part's cells: the part ahead, the item, the part behind, what is known of all. -/
def prtC (p : Option Addr) (x : It) (q : Option Addr) (a : Ac) (H : Nat) : Array Value := #[.pointer p, .int .i64 x.s, .int .i64 x.t, .int .i64 x.q, .int .i64 x.v, .pointer q, .int .i64 a.n, .int .i64 a.s, .int .i64 a.mn, .int .i64 a.mx, .int .i64 a.f.s, .int .i64 a.f.t, .int .i64 a.f.q, .int .i64 a.f.v, .int .i64 a.l.s, .int .i64 a.l.t, .int .i64 a.l.q, .int .i64 a.l.v, .slice (some ⟨H, 0, none⟩) a.h.length a.h.length]
section
variable (p q : Option Addr) (x : It) (a : Ac) (H : Nat)
@[go_sem] theorem prtC_0 : (prtC p x q a H)[0]? = some (.pointer p) := rfl
@[go_sem] theorem prtC_1 : (prtC p x q a H)[1]? = some (.int .i64 x.s) := rfl
@[go_sem] theorem prtC_2 : (prtC p x q a H)[2]? = some (.int .i64 x.t) := rfl
@[go_sem] theorem prtC_3 : (prtC p x q a H)[3]? = some (.int .i64 x.q) := rfl
@[go_sem] theorem prtC_4 : (prtC p x q a H)[4]? = some (.int .i64 x.v) := rfl
@[go_sem] theorem prtC_5 : (prtC p x q a H)[5]? = some (.pointer q) := rfl
@[go_sem] theorem prtC_6 : (prtC p x q a H)[6]? = some (.int .i64 a.n) := rfl
@[go_sem] theorem prtC_11 : (prtC p x q a H)[11]? = some (.int .i64 a.f.t) := rfl
@[go_sem] theorem prtC_15 : (prtC p x q a H)[15]? = some (.int .i64 a.l.t) := rfl
theorem prtC_acc {w : World} {b : Nat} {t : TypeId} (h : Has w b t (prtC p x q a H)) : w.rangeAt b 6 (accC a (some ⟨H, 0, none⟩) a.h.length a.h.length).toList := fun j v hv => by
  rw [h.cell]
  have hj : j < 13 := by have := (List.getElem?_eq_some_iff.1 hv).1; rwa [accC_len] at this
  obtain rfl | rfl | rfl | rfl | rfl | rfl | rfl | rfl | rfl | rfl | rfl | rfl | rfl : j = 0 ∨ j = 1 ∨ j = 2 ∨ j = 3 ∨ j = 4 ∨ j = 5 ∨ j = 6 ∨ j = 7 ∨ j = 8 ∨ j = 9 ∨ j = 10 ∨ j = 11 ∨ j = 12 := by omega
  all_goals (rw [← hv]; rfl)
theorem prtC_item {w : World} {b : Nat} {t : TypeId} (h : Has w b t (prtC p x q a H)) : w.rangeAt b 1 (itemL x) := fun j v hv => by
  rw [h.cell]
  have hj : j < 4 := (List.getElem?_eq_some_iff.1 hv).1
  obtain rfl | rfl | rfl | rfl : j = 0 ∨ j = 1 ∨ j = 2 ∨ j = 3 := by omega
  all_goals (rw [← hv]; rfl)
end
def Tr.ptr : Tr → Option Addr
  | .nil => none
  | .node b _ _ _ _ => some ⟨b, 0, none⟩
/-- The tree lies so, in blocks out of P. -/
def Tr.At (bs : List Int) (P : Nat → Prop) (w : World) : Tr → Prop
  | .nil => True
  | .node b H l x r => P b ∧ P H ∧ Has w b PT (prtC l.ptr x r.ptr (foldA bs (Tr.node b H l x r).row) H) ∧ Has w H 3 (ints (foldA bs (Tr.node b H l x r).row).h) ∧ l.At bs P w ∧ r.At bs P w
section
variable {bs : List Int} {P P' : Nat → Prop} {w w' : World}
theorem Tr.At.same {t : Tr} (h : t.At bs P w) (hk : ∀ k, k < w.heap.size → P k → w'.heap[k]? = w.heap[k]?) : t.At bs P w' := by
  induction t with
  | nil => trivial
  | node b H l x r il ir =>
    obtain ⟨h1, h2, h3, h4, h5, h6⟩ := h
    exact ⟨h1, h2, (hk b h3.lt h1).trans h3, (hk H h4.lt h2).trans h4, il h5, ir h6⟩
theorem Tr.At.mono {t : Tr} (h : t.At bs P w) (hk : ∀ k, k < w.heap.size → P k → P' k) : t.At bs P' w := by
  induction t with
  | nil => trivial
  | node b H l x r il ir =>
    obtain ⟨h1, h2, h3, h4, h5, h6⟩ := h
    exact ⟨hk b h3.lt h1, hk H h4.lt h2, h3, h4, il h5, ir h6⟩
theorem Tr.At.below {t : Tr} (h : t.At bs P w) (hb : Below w.heap.size w w') : t.At bs P w' := h.same fun k hk _ => hb.block k hk
/-- What is fixed of a tree while it is worked on: its bounds. -/
structure TBd (P : Nat → Prop) (w : World) (g : Nat) (bs : List Int) (A : Option Addr) (m d : Nat) (root : Option Addr) : Prop where
  st : Has w g TT #[.slice A m d, .pointer root]
  bd : OwnI w 0 (.slice A m d) bs
  inG : P g
  inD : ∀ k, (Value.slice A m d).ownBlock = some k → P k
theorem ownI_same {base : Nat} {v : Value} {xs : List Int} (h : OwnI w base v xs) (hk : ∀ k, k < w.heap.size → v.ownBlock = some k → w'.heap[k]? = w.heap[k]?) : OwnI w' base v xs := by
  rcases h.2 with ⟨rfl, h0⟩ | ⟨g, cap, cur, rfl, hg, hh, h1, h2, h3, h4⟩
  · exact ⟨h.1, .inl ⟨rfl, h0⟩⟩
  · exact ⟨h.1, .inr ⟨g, cap, cur, rfl, hg, (hk g (Has.lt (w := w) hh) rfl).trans hh, h1, h2, h3, h4⟩⟩
variable {g m d : Nat} {A root : Option Addr}
theorem TBd.same (h : TBd P w g bs A m d root) (hk : ∀ k, k < w.heap.size → P k → w'.heap[k]? = w.heap[k]?) : TBd P w' g bs A m d root :=
  ⟨(hk g h.st.lt h.inG).trans h.st, ownI_same h.bd fun k hl e => hk k hl (h.inD k e), h.inG, h.inD⟩
theorem TBd.below (h : TBd P w g bs A m d root) (hb : Below w.heap.size w w') : TBd P w' g bs A m d root := h.same fun k hk _ => hb.block k hk
theorem TBd.ints (h : TBd P w g bs A m d root) : Ints w A m bs := OwnI.ints h.bd
end

/-! Loads of a part's and a tree's cells. -/
theorem run_ldPart {g k : Nat} {p : Option Addr} {w : World} (h : w.cell? ⟨g, k, none⟩ = some (.pointer p)) : (Instr.loadAt 75 (.pointer (some ⟨g, k, none⟩))).run Try.prog w = .ok (.pointer p) w := by simp [go_sem, h, Instr.loadAt]
theorem run_ldBd {g k : Nat} {A : Option Addr} {m c : Nat} {w : World} (h : w.cell? ⟨g, k, none⟩ = some (.slice A m c)) : (Instr.loadAt 22 (.pointer (some ⟨g, k, none⟩))).run Try.prog w = .ok (.slice A m c) w := by simp [go_sem, h, Instr.loadAt]

/-- The call hands out a tree of this row. -/
def TrO (bs : List Int) (P : Nat → Prop) (R : List It) (w : World) (e : Ending) (w' : World) : Prop :=
  ∃ T : Tr, e = .returned (.pointer T.ptr) ∧ T.At bs P w' ∧ T.row = R ∧ Below w.heap.size w w'
/-- The slot holds a tree of this row. -/
def trV (bs : List Int) (P : Nat → Prop) (R : List It) : Fact := fun v w => ∃ T : Tr, v = .pointer T.ptr ∧ T.At bs P w ∧ T.row = R
theorem trV_mono (bs : List Int) (P : Nat → Prop) (R : List It) : Mono (trV bs P R) := fun _ _ _ hb ⟨T, h1, h2, h3⟩ => ⟨T, h1, h2.below hb, h3⟩

/-! Counts, weights. -/
set_option maxHeartbeats 400000 in
theorem tcount_any (bs : List Int) (P : Nat → Prop) (t : Tr) (w : World) (h : t.At bs P w) :
    Calls Try.prog 53 #[.pointer t.ptr] w fun e w' => e = .returned (.int .i64 (t.row.length : Nat)) ∧ w = w' := by
  cases t with
  | nil =>
    unfold Tr.ptr Tr.row
    go_enter Try.func53, Try.ntmps53
    go_wp2_with fail
    go_ret
    exact ⟨rfl, rfl⟩
  | node b H l x r =>
    obtain ⟨_, _, h3, _⟩ := h
    have hc : w.cell? ⟨b, 6, none⟩ = some (.int .i64 ((Tr.node b H l x r).row.length : Nat)) := by
      rw [h3.cell, prtC_6, foldA_n]
    clear h3
    generalize (Tr.node b H l x r).row = R at hc ⊢
    unfold Tr.ptr
    go_enter Try.func53, Try.ntmps53
    go_wp2_with fail
    go_ret
    exact ⟨rfl, rfl⟩
set_option maxHeartbeats 400000 in
theorem tweight_any (bs : List Int) (P : Nat → Prop) (t : Tr) (w : World) (h : t.At bs P w) (hn : t.row.length ≤ 8192) :
    Calls Try.prog 100 #[.pointer t.ptr] w fun e w' => e = .returned (.int .i64 ((t.row.length : Nat) + 1)) ∧ w = w' := by
  have HC := Lib.hid (tcount_any bs P t w h)
  clear h
  generalize t.row.length = n at HC hn ⊢
  generalize t.ptr = p at HC ⊢
  have h1 : (0 : Int) ≤ (n : Nat) ∧ ((n : Nat) : Int) ≤ 8192 := by omega
  go_enter Try.func100, Try.ntmps100
  go_wp2_with (go_at_call 53; refine HC.out.mono ?_; rintro e w2 ⟨rfl, rfl⟩)
  go_ret
  exact ⟨rfl, rfl⟩
set_option maxHeartbeats 400000 in
theorem theavy_any (bs : List Int) (P : Nat → Prop) (s t : Tr) (w : World) (hs : s.At bs P w) (ht : t.At bs P w) (hn : s.row.length ≤ 8192) (hm : t.row.length ≤ 8192) :
    Calls Try.prog 91 #[.pointer s.ptr, .pointer t.ptr] w fun e w' => e = .returned (.bool (decide (3 * (t.row.length + 1) < s.row.length + 1))) ∧ w = w' := by
  have HC := Lib.hid (tweight_any bs P s w hs hn)
  have HD := Lib.hid (tweight_any bs P t w ht hm)
  clear hs ht
  generalize s.row.length = n at HC hn ⊢
  generalize t.row.length = m at HD hm ⊢
  generalize s.ptr = p at HC ⊢
  generalize t.ptr = q at HD ⊢
  have h1 : (0 : Int) ≤ (n : Nat) ∧ ((n : Nat) : Int) ≤ 8192 := by omega
  have h2 : (0 : Int) ≤ (m : Nat) ∧ ((m : Nat) : Int) ≤ 8192 := by omega
  have HE := Lib.hid (show decide (3 * ((m : Nat) + 1 : Int) < (n : Nat) + 1) = decide (3 * (m + 1) < n + 1) by
    by_cases h : 3 * (m + 1) < n + 1
    · rw [decide_eq_true h, decide_eq_true (by omega)]
    · rw [decide_eq_false h, decide_eq_false (by omega)])
  go_enter Try.func91, Try.ntmps91
  go_upto_region 1 with fail
  go_wp2_with (first | (refine HC.out.mono ?_; clear HC; rintro e w2 ⟨rfl, rfl⟩) | (refine HD.out.mono ?_; clear HD; rintro e w2 ⟨rfl, rfl⟩))
  go_ret
  exact ⟨by rw [HE.out]; rfl, rfl⟩

end Go.Proofs.Ytdoflmphkalicaa

namespace Go.Proofs.Ytdoflmphkalicaa
open Go.RowKit

/-- An aggregate, its buckets from block z on. -/
def tAcc (z : Nat) (V : Ac) : Fact := fun v w => ∃ H, v = .agg (accC V (some ⟨H, 0, none⟩) V.h.length V.h.length) ∧ Has w H 3 (ints V.h) ∧ z ≤ H
theorem tAcc_mono (z : Nat) (V : Ac) : Mono (tAcc z V) := fun _ _ _ hb ⟨e, he, h, h2⟩ => ⟨e, he, h.below hb h.lt, h2⟩
def tTup (z : Nat) (V : Ac) : Fact := fun v w => ∃ H, v = .tuple #[.agg (accC V (some ⟨H, 0, none⟩) V.h.length V.h.length), .int .i64 0] ∧ Has w H 3 (ints V.h) ∧ z ≤ H
theorem tTup_mono (z : Nat) (V : Ac) : Mono (tTup z V) := fun _ _ _ hb ⟨e, he, h, h2⟩ => ⟨e, he, h.below hb h.lt, h2⟩
def tNew (B : Nat) : Fact := fun v w => ∃ y, v = .pointer (some ⟨y, 0, none⟩) ∧ Has w y 49 (accC zeroAc none 0 0) ∧ B ≤ y
theorem tNew_mono (B : Nat) : Mono (tNew B) := fun _ _ _ hb ⟨e, he, h, h2⟩ => ⟨e, he, h.below hb h.lt, h2⟩
/-- A part as it is built. -/
def tPrt (z : Nat) (p : Option Addr) (x : It) (q : Option Addr) (V : Ac) : Fact := fun v w => ∃ H, v = .agg (prtC p x q V H) ∧ Has w H 3 (ints V.h) ∧ z ≤ H
theorem tPrt_mono (z : Nat) (p : Option Addr) (x : It) (q : Option Addr) (V : Ac) : Mono (tPrt z p x q V) := fun _ _ _ hb ⟨e, he, h, h2⟩ => ⟨e, he, h.below hb h.lt, h2⟩
theorem runNewT (w : World) : (Instr.alloc 49 true (.tuple #[])).run Try.prog w = .ok (.pointer (some ⟨w.heap.size, 0, none⟩)) (w.alloc (.cells (accC zeroAc none 0 0) 49)) := by kernel_rfl
theorem run_prt (p q : Option Addr) (x : It) (V : Ac) (H : Nat) (w : World) : (Instr.build PT #[(0, .pointer p), (1, .agg #[.int .i64 x.s, .int .i64 x.t, .int .i64 x.q, .int .i64 x.v]), (2, .pointer q), (3, .agg (accC V (some ⟨H, 0, none⟩) V.h.length V.h.length))]).run Try.prog w = .ok (.agg (prtC p x q V H)) w := by kernel_rfl
theorem run_boxPrt (p q : Option Addr) (x : It) (V : Ac) (H : Nat) (w : World) : (Instr.box PT (.agg (prtC p x q V H))).run Try.prog w = .ok (.pointer (some ⟨w.heap.size, 0, none⟩)) (w.alloc (.cells (prtC p x q V H) PT)) := by kernel_rfl
section
variable {D : List (Option Tmp)} {Φ : Fact} {o : Oper} {a : Act} {w : World}
theorem sizeItemP : (Try.prog.info? 47).map (·.size) = some 4 := by kernel_rfl
/-- The load of an item out of a part. -/
theorem rf_loadItP (hw : Region.wanted o (yieldD D a.tmps) = true) {t : Tmp} (hd : o.dst = some t) (x : Operand) (ho : o.op = .load 47 x) (g k : Nat) (hx : a.eval x = .pointer (some ⟨g, k, none⟩)) (y : It) (hc : w.rangeAt g k (itemL y)) (h : Φ (.agg #[.int .i64 y.s, .int .i64 y.t, .int .i64 y.q, .int .i64 y.v]) w) : StepD Try.prog D Φ o a w :=
  rf_loadS hw hd 47 x ho g k hx (itemL y) hc Try.underlying47 rfl sizeItemP h
theorem rf_newT (hw : Region.wanted o (yieldD D a.tmps) = true) {t : Tmp} (hd : o.dst = some t) (ho : o.op = .alloc 49) {B : Nat} (hB : B ≤ w.heap.size) (h : ∀ v w', tNew B v w' → Φ v w') : StepD Try.prog D Φ o a w := by
  refine step_val hw hd _ (w.alloc (.cells (accC zeroAc none 0 0) 49)) ?_ ((Below.refl _ _).alloc (Nat.le_refl _) _) (h _ _ ⟨_, rfl, Has.made _ _ _, hB⟩)
  unfold execOp
  rw [ho]
  simp only [Sem.run_bind, runNewT, Result.andThen_ok]
  rfl
theorem rf_prt (hw : Region.wanted o (yieldD D a.tmps) = true) {t : Tmp} (hd : o.dst = some t) (x0 x1 x2 x3 : Operand) (ho : o.op = .build PT #[(0, x0), (1, x1), (2, x2), (3, x3)]) (p q : Option Addr) (x : It) (V : Ac) (H : Nat)
    (h0 : a.eval x0 = .pointer p) (h1 : a.eval x1 = .agg #[.int .i64 x.s, .int .i64 x.t, .int .i64 x.q, .int .i64 x.v]) (h2 : a.eval x2 = .pointer q) (h3 : a.eval x3 = .agg (accC V (some ⟨H, 0, none⟩) V.h.length V.h.length)) (hT : Has w H 3 (ints V.h)) {z : Nat} (hz : z ≤ H)
    (h : ∀ v w', tPrt z p x q V v w' → Φ v w') : StepD Try.prog D Φ o a w := by
  refine step_val hw hd (.agg (prtC p x q V H)) w ?_ (Below.refl _ _) (h _ _ ⟨H, rfl, hT, hz⟩)
  unfold execOp
  rw [ho]
  generalize a.eval = ev at h0 h1 h2 h3 ⊢
  simp only [List.map_toArray, List.map_cons, List.map_nil, h0, h1, h2, h3, Sem.run_bind, run_prt, Result.andThen_ok]
  rfl
/-- A part laid in a block of its own. -/
theorem rf_boxPrt (hw : Region.wanted o (yieldD D a.tmps) = true) {t : Tmp} (hd : o.dst = some t) (x0 : Operand) (ho : o.op = .box PT x0) (bs : List Int) (P : Nat → Prop) (L R : Tr) (x : It) (V : Ac) (H z : Nat)
    (h0 : a.eval x0 = .agg (prtC L.ptr x R.ptr V H)) (hV : V = foldA bs (L.row ++ x :: R.row)) (hT : Has w H 3 (ints V.h)) (hz : z ≤ H) (hw0 : z ≤ w.heap.size) (hP : ∀ k, z ≤ k → P k) (hL : L.At bs P w) (hR : R.At bs P w)
    (h : ∀ v w', trV bs P (L.row ++ x :: R.row) v w' → Φ v w') : StepD Try.prog D Φ o a w := by
  subst hV
  have hb := (Below.refl w.heap.size w).alloc (Nat.le_refl _) (.cells (prtC L.ptr x R.ptr (foldA bs (L.row ++ x :: R.row)) H) PT)
  refine step_val hw hd _ (w.alloc (.cells (prtC L.ptr x R.ptr (foldA bs (L.row ++ x :: R.row)) H) PT)) ?_ hb
    (h _ _ ⟨.node w.heap.size H L x R, rfl, ⟨hP _ hw0, hP _ hz, Has.made _ _ _, hT.alloc _, hL.below hb, hR.below hb⟩, rfl⟩)
  unfold execOp
  rw [ho]
  generalize a.eval = ev at h0 ⊢
  simp only [h0, Sem.run_bind, run_boxPrt, Result.andThen_ok]
  rfl
end

end Go.Proofs.Ytdoflmphkalicaa

namespace Go.Proofs.Ytdoflmphkalicaa
open Go.RowKit

def rowX (xs : List Ac) : Fact := fun v w => ∃ A n c, v = .slice A n c ∧ Accs w A n xs
theorem rowX_mono (xs : List Ac) : Mono (rowX xs) := fun _ _ _ hb ⟨A, n, c, h1, h2⟩ => ⟨A, n, c, h1, h2.below hb⟩

end Go.Proofs.Ytdoflmphkalicaa
