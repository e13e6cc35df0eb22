/-
  Plain functions: what the layer of aggregates reckons (items, bounds, buckets, aggregates), as functions on integers and lists. No program here.
  A query, as its parts. No program here.
  Words for memory: a slice of integers that reads as a list; what a call that makes memory keeps. No program here.
  A region whose operations may come up in more than one order, where none writes what was there before: one fact for each operation on what it leaves in its slot, each shown out of the facts on the operations that it waits for. No program here.
-/
import Derived.WalkKit
import Derived.Below
import Derived.Deep.Draws
import Derived.Laws.Rows
import Derived.Laws.Tables
import Derived.Laws.MakeOwn
import Derived.Laws.Entries
import Derived.Laws.OwnMore
import Derived.Orders
namespace Go.Proofs.YtbpaepkcchpmbaaGreat
open Go.RowKit

structure It where
  s : Int
  t : Int
  q : Int
  v : Int

structure Ac where
  n : Int
  s : Int
  mn : Int
  mx : Int
  f : It
  l : It
  h : List Int

def zeroIt : It := ⟨0, 0, 0, 0⟩
/-- The item at a place. -/
def nthI (xs : List It) (i : Nat) : It := xs.getD i zeroIt
/-- The number at a place. (A name of its own: the walk's simp does not look into it.) -/
def nth (xs : List Int) (k : Nat) : Int := xs.getD k 0
def wi (n lo hi : Int) : Bool := decide (lo ≤ n ∧ n ≤ hi)
def cmpI (a b : Int) : Int := if a < b then -1 else if b < a then 1 else 0
def cmpT (x y : It) : Int := if cmpI x.t y.t = 0 then cmpI x.q y.q else cmpI x.t y.t
def itemB (x : It) : Bool := wi x.s 0 1048575 && (wi x.t (-1099511627776) 1099511627776 && (wi x.q 1 1073741823 && wi x.v (-1099511627776) 1099511627776))

theorem wi_true {n lo hi : Int} (h : wi n lo hi = true) : lo ≤ n ∧ n ≤ hi := of_decide_eq_true h
theorem wi_mk {n lo hi : Int} (h : lo ≤ n ∧ n ≤ hi) : wi n lo hi = true := decide_eq_true h
theorem wi_false {n lo hi : Int} (h : ¬ (lo ≤ n ∧ n ≤ hi)) : wi n lo hi = false := decide_eq_false h


def inV (v : Int) : Bool := wi v (-1099511627776) 1099511627776
/-- Bounds that may be. -/
def boundsB (bs : List Int) : Bool := decide (bs.length ≤ 8 ∧ (∀ i, i < bs.length → inV (nth bs i) = true) ∧ ∀ i, i < bs.length - 1 → nth bs i < nth bs (i + 1))
theorem boundsB_true {bs : List Int} (h : boundsB bs = true) : bs.length ≤ 8 ∧ (∀ i, i < bs.length → inV (nth bs i) = true) ∧ ∀ i, i < bs.length - 1 → nth bs i < nth bs (i + 1) := of_decide_eq_true h
theorem boundsB_mk {bs : List Int} (h : bs.length ≤ 8 ∧ (∀ i, i < bs.length → inV (nth bs i) = true) ∧ ∀ i, i < bs.length - 1 → nth bs i < nth bs (i + 1)) : boundsB bs = true := decide_eq_true h
theorem boundsB_false {bs : List Int} (h : ¬ (bs.length ≤ 8 ∧ (∀ i, i < bs.length → inV (nth bs i) = true) ∧ ∀ i, i < bs.length - 1 → nth bs i < nth bs (i + 1))) : boundsB bs = false := decide_eq_false h

/-- The bucket into which a value falls. -/
def bkt : List Int → Int → Nat
  | [], _ => 0
  | b :: r, v => if b < v then bkt r v + 1 else 0
theorem nth_cons_zero (b : Int) (r : List Int) : nth (b :: r) 0 = b := rfl
theorem nth_cons_succ (b : Int) (r : List Int) (k : Nat) : nth (b :: r) (k + 1) = nth r k := by simp [nth]
theorem bkt_le (bs : List Int) (v : Int) : bkt bs v ≤ bs.length := by
  induction bs with
  | nil => simp [bkt]
  | cons b r ih => simp only [bkt, List.length_cons]; split <;> omega
theorem bkt_eq {bs : List Int} {v : Int} {k : Nat} (hk : k ≤ bs.length) (h1 : ∀ i, i < k → nth bs i < v) (h2 : k < bs.length → v ≤ nth bs k) : bkt bs v = k := by
  induction bs generalizing k with
  | nil => simp only [List.length_nil] at hk; simp only [bkt]; omega
  | cons b r ih =>
    cases k with
    | zero =>
      have := h2 (by simp)
      rw [nth_cons_zero] at this
      simp only [bkt]
      rw [if_neg (by omega)]
    | succ k =>
      have h0 := h1 0 (by omega)
      rw [nth_cons_zero] at h0
      simp only [bkt]
      rw [if_pos h0, ih (by simpa using hk) (fun i hi => by have := h1 (i + 1) (by omega); rwa [nth_cons_succ] at this) (fun h => by have := h2 (by simpa using h); rwa [nth_cons_succ] at this)]
/-- Rising from place to place: rising throughout. -/
theorem rising_of {bs : List Int} (h : ∀ i, i < bs.length - 1 → nth bs i < nth bs (i + 1)) : ∀ i j, i < j → j < bs.length → nth bs i < nth bs j := by
  intro i j hij hj
  induction j with
  | zero => omega
  | succ j ih =>
    have h1 := h j (by omega)
    rcases Nat.lt_succ_iff_lt_or_eq.1 hij with h2 | h2
    · have := ih h2 (by omega); omega
    · subst h2; exact h1

end Go.Proofs.YtbpaepkcchpmbaaGreat

namespace Go.Proofs.YtbpaepkcchpmbaaGreat
open Go.RowKit

/-- A query. -/
structure Qu where
  kind : Int
  agg : Int
  size : Int
  slide : Int
  bs : List Int
  rank : Int
def quC (q : Qu) (B : Option Addr) (m d : Nat) : Array Value := #[.int .i64 q.kind, .int .i64 q.agg, .int .i64 q.size, .int .i64 q.slide, .slice B m d, .int .i64 q.rank]

end Go.Proofs.YtbpaepkcchpmbaaGreat

namespace Go.Proofs.YtbpaepkcchpmbaaGreat
open Go.RowKit

/-- The slice value '.slice A n _' reads as the numbers xs. -/
def Ints (w : World) (A : Option Addr) (n : Nat) (xs : List Int) : Prop :=
  xs.length = n ∧ (0 < n → ∃ b o : Nat, A = some ⟨b, o, none⟩ ∧ ∀ k, k < n → w.cell? ⟨b, o + k, none⟩ = some (.int .i64 (nth xs k)))

section
variable {w w' : World} {n : Nat} {A : Option Addr} {xs : List Int}
theorem Ints.at_ (h : Ints w A n xs) {k : Nat} (hk : k < n) : ∃ b o : Nat, A = some ⟨b, o, none⟩ ∧ ∀ k, k < n → w.cell? ⟨b, o + k, none⟩ = some (.int .i64 (nth xs k)) := h.2 (by omega)
theorem Ints.keep (h : Ints w A n xs) (hk : ∀ p : Addr, p.block < w.heap.size → w'.cell? p = w.cell? p) : Ints w' A n xs :=
  ⟨h.1, fun hn => by
    obtain ⟨b, o, e, hc⟩ := h.2 hn
    refine ⟨b, o, e, fun k hk' => ?_⟩
    rw [hk _ (block_lt_of_cell (hc k hk'))]
    exact hc k hk'⟩
theorem Ints.below (h : Ints w A n xs) (hb : Below w.heap.size w w') : Ints w' A n xs := h.keep fun _ hp => hb.cell hp
theorem Ints.drew (h : Ints w A n xs) : Ints w.drew A n xs := h
theorem Ints.drewN (h : Ints w A n xs) (k : Nat) : Ints (w.drewN k) A n xs := h
theorem Ints.nil : Ints w A 0 [] := ⟨rfl, fun h => absurd h (by omega)⟩
end

theorem below_drewN {B : Nat} {a w : World} (h : Below B a w) (n : Nat) : Below B a (w.drewN n) := ⟨h.os, h.tape, h.output, h.size, h.block⟩

/-- What a call that only made memory left of the cells that were there, as a rule for the walk. -/
theorem oldCells {W w1 : World} (hb : Below W.heap.size W w1) {s : Nat} (hs : s ≤ W.heap.size) : ∀ b o, b < s → w1.cell? ⟨b, o, none⟩ = W.cell? ⟨b, o, none⟩ :=
  fun b _ h => hb.cell (show b < W.heap.size by omega)
theorem oldMarks {W w1 : World} (hb : Below W.heap.size W w1) {s : Nat} (hs : s ≤ W.heap.size) : ∀ b o, b < s → w1.frozen? ⟨b, o, none⟩ = W.frozen? ⟨b, o, none⟩ :=
  fun b _ h => hb.frozen (show b < W.heap.size by omega)

/-- Block g holds just these cells, and may be written. -/
def Has (w : World) (g : Nat) (t : TypeId) (cs : Array Value) : Prop := w.heap[g]? = some (.cells cs t (0, 0))
section
variable {w w' : World} {g : Nat} {t : TypeId} {cs : Array Value}
theorem Has.lt (h : Has w g t cs) : g < w.heap.size := by
  unfold Has at h
  by_cases hlt : g < w.heap.size
  · exact hlt
  · rw [Array.getElem?_eq_none (by omega)] at h; cases h
theorem Has.cell (h : Has w g t cs) (i : Nat) : w.cell? ⟨g, i, none⟩ = cs[i]? := cell_of_row w g i cs t (0, 0) h
theorem Has.mark (h : Has w g t cs) (i : Nat) : w.frozen? ⟨g, i, none⟩ = false := frozen_of_row w g i cs t h
theorem Has.made (w : World) (t : TypeId) (cs : Array Value) : Has (w.alloc (.cells cs t)) w.heap.size t cs := heap_alloc_new w _
theorem Has.alloc (h : Has w g t cs) (o : Obj) : Has (w.alloc o) g t cs := (Below.heap_alloc w o g h.lt).trans h
theorem Has.drew (h : Has w g t cs) : Has w.drew g t cs := h
theorem Has.drewN (h : Has w g t cs) (n : Nat) : Has (w.drewN n) g t cs := h
theorem Has.below (h : Has w g t cs) {B : Nat} (hb : Below B w w') (hB : g < B) : Has w' g t cs := (hb.block g hB).trans h
theorem Has.put (h : Has w g t cs) (i : Nat) (v : Value) : Has (w.setCell ⟨g, i, none⟩ v) g t (cs.setIfInBounds i v) := heap_setCell_same w g i cs t v h
theorem Has.putFar (h : Has w g t cs) {p : Addr} (hp : g ≠ p.block) (v : Value) : Has (w.setCell p v) g t cs := (heap_setCell_other w p g v hp).trans h
theorem Has.row (h : Has w g t cs) (cs' : Array Value) : Has (w.setRow g cs') g t cs' := setRow_heap w g cs cs' t _ h
theorem Has.rowFar (h : Has w g t cs) {g' : Nat} (hg : g ≠ g') (cs' : Array Value) : Has (w.setRow g' cs') g t cs := (setRow_other w g' g cs' hg).trans h
end
theorem has_types {w : World} {g : Nat} {t t' : TypeId} {cs cs' : Array Value} (h : Has w g t cs) (h' : Has w g t' cs') (hne : t ≠ t') : False := by
  unfold Has at h h'
  rw [h] at h'
  simp only [Option.some.injEq, Obj.cells.injEq] at h'
  exact hne h'.2.1
theorem below_row {B : Nat} {a w : World} (h : Below B a w) {g : Nat} (hg : B ≤ g) (cs : Array Value) : Below B a (w.setRow g cs) :=
  h.trans ⟨rfl, rfl, rfl, by simp, fun k hk => setRow_other w g k cs (by omega)⟩
theorem below_alloc {B : Nat} {a w : World} (h : Below B a w) (hB : B ≤ a.heap.size) (o : Obj) : Below B a (w.alloc o) := h.alloc (Nat.le_trans hB h.size) o

/-- A struct and a number that are handed out: the struct out of its cell. -/
theorem ret_row {P : Program} {fn : Func} {p u : Tmp} {ty : TypeId} (h : fn.results = #[.cell p ty, .tmp u]) (tmps : Array Value) (w : World) (g : Nat) (t : TypeId) (cs : Array Value) (d : TypeDesc)
    (hp : tmps.getD p undef = .pointer (some ⟨g, 0, none⟩)) (hg : Has w g t cs) (hu : P.underlying ty = some d) (hd : (match d with | .struct _ | .array _ _ => true | _ => false) = true) (hi : (P.info? ty).map (·.size) = some cs.size) :
    (results fn tmps).run P w = .ok (.tuple #[.agg cs, tmps.getD u undef]) w := by
  have hp' : tmps[p]?.getD undef = .pointer (some ⟨g, 0, none⟩) := by simpa using hp
  simp [results, h, hp', asAddr, run_loadVar_row w g t ty cs (0, 0) d hg hu hd hi]

/-- So many zeros, as cells. (A plain name: the walk does not look into it.) -/
def zeros (n : Nat) : Array Value := (List.replicate n (Value.int .i64 0)).toArray
/-- Numbers, as cells. -/
def ints (xs : List Int) : Array Value := (xs.map (Value.int .i64)).toArray
theorem size_zeros (n : Nat) : (zeros n).size = n := by simp [zeros]
theorem size_ints (xs : List Int) : (ints xs).size = xs.length := by simp [ints]
theorem ints_get (xs : List Int) {k : Nat} (h : k < xs.length) : (ints xs)[k]? = some (.int .i64 (nth xs k)) := by
  simp [ints, nth, List.getElem?_eq_getElem h]
theorem madeCells_zeros (n : Nat) : madeCells #[Value.int .i64 0] n = zeros n := by
  apply Array.toList_inj.1
  rw [toList_madeCells_one]
  simp [zeros]
theorem zeros_ints (n : Nat) : zeros n = ints (List.replicate n 0) := by simp [zeros, ints]
theorem ints_set (xs : List Int) (k : Nat) (v : Int) : (ints xs).setIfInBounds k (.int .i64 v) = ints (xs.set k v) := by
  simp [ints, List.map_set]

/-- 'make([]int, n + 1)' for a length n. -/
theorem make_ints {P : Program} (t e : TypeId) (i : TypeInfo) (ht : P.underlying t = some (.slice e)) (hi : P.info? e = some i) (hz : i.zero = some (.int .i64 0)) (hs : i.size = 1) (hb : i.bytes = 8)
    (n : Nat) (hn : n ≤ 17592186044416) (w : World) :
    (Instr.makeSlice t (.int .i64 ((n : Int) + 1)) (.int .i64 ((n : Int) + 1))).run P w = .ok (.slice (some ⟨w.heap.size, 0, none⟩) (n + 1) (n + 1)) (w.alloc (.cells (zeros (n + 1)) e)) := by
  have hr := run_make (P := P) w t e i (.int .i64 0) ht hi hz .i64 .i64 ((n : Int) + 1) ((n : Int) + 1) (by omega) (by omega) (by rw [hb]; omega) (by omega)
  have e1 : ((n : Int) + 1).toNat = n + 1 := by omega
  simp only [e1, hs, Nat.mul_one] at hr
  have e2 : (Value.int IntKind.i64 0).cells = #[Value.int .i64 0] := rfl
  rw [e2, madeCells_zeros] at hr
  exact hr

end Go.Proofs.YtbpaepkcchpmbaaGreat

namespace Go.Proofs.YtbpaepkcchpmbaaGreat
open Go.RowKit

/-- What an operation has left in its slot. -/
def slotOf (a : Act) (d : Option Tmp) : Value := match d with | some t => a.tmps.getD t undef | none => undef

/-- The frame a is a0 but for the slots of these operations. -/
structure Fr (ops : Array Oper) (a0 a : Act) : Prop where
  defers : a.defers = a0.defers
  size : a.tmps.size = a0.tmps.size
  other : ∀ s, (∀ (j : Nat) (o : Oper), ops[j]? = some o → o.dst ≠ some s) → a.tmps.getD s undef = a0.tmps.getD s undef

theorem slot_put_same (a : Act) {t : Tmp} (v : Value) (h : t < a.tmps.size) : slotOf (a.put (some t) v) (some t) = v := by
  simp [slotOf, Act.put, h]
theorem slot_put_far (a : Act) {d d' : Option Tmp} (v : Value) (h : ∀ t, d' = some t → d ≠ some t) : slotOf (a.put d v) d' = slotOf a d' := by
  cases d with
  | none => rfl
  | some t =>
    cases d' with
    | none => rfl
    | some t' =>
      have hne : t ≠ t' := fun e => h t' rfl (by rw [e])
      simp [slotOf, Act.put, hne]

theorem count_set (l : List Bool) : ∀ i : Nat, l[i]? = some false → ((l.set i true).filter (fun b => !b)).length < (l.filter (fun b => !b)).length := by
  induction l with
  | nil => intro i h; simp at h
  | cons b r ih =>
    intro i h
    cases i with
    | zero =>
      have hb : b = false := by simpa using h
      subst hb
      simp
    | succ i =>
      have := ih i (by simpa using h)
      simp only [List.set_cons_succ, List.filter_cons]
      split <;> simp <;> exact this

/-- One operation, out of what it waits for: a value of its kind, in a world in which nothing that was there has turned. -/
def StepOk (P : Program) (ops : Array Oper) (Q : Exit → Act → World → Prop) (Φ : Nat → Value → World → Prop) (j : Nat) (o : Oper) (a : Act) (w : World) : Prop :=
  if Region.wanted o (yielded ops a.tmps) = true then o.wp P a w (fun a' w' => ∃ v, a' = a.put o.dst v ∧ (o.dst = none → v = undef) ∧ Below w.heap.size w w' ∧ Φ j v w') Q else Φ j undef w

section
variable {P : Program} {ops : Array Oper} {Q : Exit → Act → World → Prop} {a0 : Act} {w0 : World} {Φ : Nat → Value → World → Prop}

theorem any_inv (hback : ∀ (j : Nat) (o : Oper), ops[j]? = some o → ∀ e ∈ o.after, e.on < j)
    (hdst : ∀ (i j : Nat) (oi oj : Oper) (t : Tmp), ops[i]? = some oi → ops[j]? = some oj → oi.dst = some t → oj.dst = some t → i = j)
    (hsz : ∀ (j : Nat) (o : Oper) (t : Tmp), ops[j]? = some o → o.dst = some t → t < a0.tmps.size)
    (mono : ∀ (j : Nat) (v : Value) (w w' : World), Below w.heap.size w w' → Φ j v w → Φ j v w')
    (hstep : ∀ (j : Nat) (o : Oper), ops[j]? = some o → ∀ (a : Act) (w : World), Below w0.heap.size w0 w → Fr ops a0 a → (∀ e ∈ o.after, Region.binds .any e = true → ∀ (oe : Oper), ops[e.on]? = some oe → Φ e.on (slotOf a oe.dst) w) → StepOk P ops Q Φ j o a w)
    (hend : ∀ (a : Act) (w : World), Below w0.heap.size w0 w → Fr ops a0 a → (∀ (j : Nat) (o : Oper), ops[j]? = some o → Φ j (slotOf a o.dst) w) → Q .normal a w) :
    ∀ (fuel : Nat) (listed : Array Bool) (a : Act) (w : World), listed.size = ops.size → Below w0.heap.size w0 w → Fr ops a0 a →
      (∀ (j : Nat) (o : Oper), ops[j]? = some o → listed.getD j false = true → Φ j (slotOf a o.dst) w) →
      (listed.toList.filter (fun b => !b)).length ≤ fuel → wpAny P .any ops Q fuel listed a w := by
  have hall : ∀ (listed : Array Bool), listed.size = ops.size → Region.ready .any ops listed = [] → ∀ (j : Nat) (o : Oper), ops[j]? = some o → listed.getD j false = true := by
    intro listed hl hr j
    induction j using Nat.strongRecOn with
    | _ j ih =>
      intro o ho
      by_cases hf : listed.getD j true = false
      · have : j ∈ Region.ready .any ops listed := mem_ready.2 ⟨hf, o, ho, fun e he _ => by
          have hlt := hback j o ho e he
          have hj : j < ops.size := (Array.getElem?_eq_some_iff.1 ho).1
          exact ih e.on hlt ops[e.on] (Array.getElem?_eq_getElem (by omega))⟩
        rw [hr] at this
        cases this
      · have hj : j < listed.size := by rw [hl]; exact (Array.getElem?_eq_some_iff.1 ho).1
        simpa [Array.getD, hj] using hf
  intro fuel
  induction fuel with
  | zero =>
    intro listed a w hl hB hF hfacts hcount
    have hr : Region.ready .any ops listed = [] := by
      apply List.eq_nil_iff_forall_not_mem.2
      intro j hj
      obtain ⟨h0, o, ho, _⟩ := mem_ready.1 hj
      have hjl : j < listed.size := by rw [hl]; exact (Array.getElem?_eq_some_iff.1 ho).1
      have hm : listed[j] = false := by simpa [Array.getD, hjl] using h0
      have : false ∈ listed.toList.filter (fun b => !b) := List.mem_filter.2 ⟨by rw [← hm]; simp, rfl⟩
      have hpos := List.length_pos_of_mem this
      omega
    exact ⟨hr, hend a w hB hF fun j o ho => hfacts j o ho (hall listed hl hr j o ho)⟩
  | succ fuel ih =>
    intro listed a w hl hB hF hfacts hcount
    refine ⟨fun hr => hend a w hB hF fun j o ho => hfacts j o ho (hall listed hl hr j o ho), fun i hi => ?_⟩
    obtain ⟨h0, o, ho, hdeps⟩ := mem_ready.1 hi
    have hil : i < listed.size := by rw [hl]; exact (Array.getElem?_eq_some_iff.1 ho).1
    have hm : listed[i] = false := by simpa [Array.getD, hil] using h0
    have hst := hstep i o ho a w hB hF fun e he hb oe hoe => hfacts e.on oe hoe (hdeps e he hb)
    -- what holds behind the operation
    have next : ∀ v w', (o.dst = none → v = undef) → Below w.heap.size w w' → Φ i v w' → wpAny P .any ops Q fuel (listed.setIfInBounds i true) (a.put o.dst v) w' := by
      intro v w' hv hb hΦ
      refine ih _ _ _ (by simpa using hl) (hB.trans (hb.mono hB.size)) ⟨?_, ?_, ?_⟩ ?_ ?_
      · cases hd : o.dst <;> simpa [Act.put] using hF.defers
      · cases hd : o.dst <;> simpa [Act.put] using hF.size
      · intro s hs
        rw [← hF.other s hs]
        cases hd : o.dst with
        | none => rfl
        | some t =>
          have hne : t ≠ s := fun e => hs i o ho (by rw [hd, e])
          simp [Act.put, hne]
      · intro j oj hoj hlj
        by_cases e : i = j
        · subst e
          obtain rfl : o = oj := by rw [ho] at hoj; exact Option.some.inj hoj
          cases hd : o.dst with
          | none => rw [hv hd] at hΦ; exact hΦ
          | some t => rw [slot_put_same _ _ (by rw [hF.size]; exact hsz i o t ho hd)]; exact hΦ
        · rw [slot_put_far _ _ fun t hjt hit => e (hdst i j o oj t ho hoj hit hjt)]
          refine mono j _ w w' hb (hfacts j oj hoj ?_)
          have hjl : j < listed.size := by rw [hl]; exact (Array.getElem?_eq_some_iff.1 hoj).1
          simpa [Array.getD, hjl, Array.getElem_setIfInBounds, e] using hlj
      · have hcnt : ((listed.setIfInBounds i true).toList.filter (fun b => !b)).length < (listed.toList.filter (fun b => !b)).length := by
          rw [Array.toList_setIfInBounds]
          exact count_set _ i (by simpa [hil] using hm)
        omega
    unfold wpOp
    rw [ho]
    unfold StepOk at hst
    by_cases hw : Region.wanted o (yielded ops a.tmps) = true
    · simp only [hw, if_true] at hst ⊢
      refine .inl (Oper.wp_mono (fun a' w' ⟨v, e, hv, hb, hΦ⟩ => ?_) hst)
      rw [e]
      exact next v w' hv hb hΦ
    · simp only [hw] at hst ⊢
      exact next undef w (fun _ => rfl) (Below.refl _ _) hst
/-- THE LAW. -/
theorem region_any {id : Nat} (hm : P.follows .mixedOrders = true) (hback : ∀ (j : Nat) (o : Oper), ops[j]? = some o → ∀ e ∈ o.after, e.on < j)
    (hdst : ∀ (i j : Nat) (oi oj : Oper) (t : Tmp), ops[i]? = some oi → ops[j]? = some oj → oi.dst = some t → oj.dst = some t → i = j)
    (hsz : ∀ (j : Nat) (o : Oper) (t : Tmp), ops[j]? = some o → o.dst = some t → t < a0.tmps.size)
    (mono : ∀ (j : Nat) (v : Value) (w w' : World), Below w.heap.size w w' → Φ j v w → Φ j v w')
    (hstep : ∀ (j : Nat) (o : Oper), ops[j]? = some o → ∀ (a : Act) (w : World), Below w0.heap.size w0 w → Fr ops a0 a → (∀ e ∈ o.after, Region.binds .any e = true → ∀ (oe : Oper), ops[e.on]? = some oe → Φ e.on (slotOf a oe.dst) w) → StepOk P ops Q Φ j o a w)
    (hend : ∀ (a : Act) (w : World), Below w0.heap.size w0 w → Fr ops a0 a → (∀ (j : Nat) (o : Oper), ops[j]? = some o → Φ j (slotOf a o.dst) w) → Q .normal a w) :
    (Code.region id ops true).wp P Q a0 w0 :=
  wp_region_any hm (any_inv hback hdst hsz mono hstep hend ops.size _ a0 _ (by simp) (Below.drew (Below.refl _ _)) ⟨rfl, rfl, fun _ _ => rfl⟩
    (fun j o ho h => by
      have hj : j < ops.size := (Array.getElem?_eq_some_iff.1 ho).1
      simp [Array.getD, hj] at h)
    (Nat.le_trans (List.length_filter_le _ _) (by simp)))
end

section
variable {P : Program} {ops : Array Oper} {Q : Exit → Act → World → Prop} {a0 : Act} {w0 : World} {Φ : Nat → Value → World → Prop}
/-- The same, where the order is fixed. -/
theorem list_inv (hback : ∀ (j : Nat) (o : Oper), ops[j]? = some o → ∀ e ∈ o.after, e.on < j)
    (hdst : ∀ (i j : Nat) (oi oj : Oper) (t : Tmp), ops[i]? = some oi → ops[j]? = some oj → oi.dst = some t → oj.dst = some t → i = j)
    (hsz : ∀ (j : Nat) (o : Oper) (t : Tmp), ops[j]? = some o → o.dst = some t → t < a0.tmps.size)
    (mono : ∀ (j : Nat) (v : Value) (w w' : World), Below w.heap.size w w' → Φ j v w → Φ j v w')
    (hstep : ∀ (j : Nat) (o : Oper), ops[j]? = some o → ∀ (a : Act) (w : World), Below w0.heap.size w0 w → Fr ops a0 a → (∀ e ∈ o.after, Region.binds .any e = true → ∀ (oe : Oper), ops[e.on]? = some oe → Φ e.on (slotOf a oe.dst) w) → StepOk P ops Q Φ j o a w)
    (hend : ∀ (a : Act) (w : World), Below w0.heap.size w0 w → Fr ops a0 a → (∀ (j : Nat) (o : Oper), ops[j]? = some o → Φ j (slotOf a o.dst) w) → Q .normal a w) :
    ∀ (m k : Nat) (a : Act) (w : World), k + m = ops.size → Below w0.heap.size w0 w → Fr ops a0 a →
      (∀ (j : Nat) (o : Oper), ops[j]? = some o → j < k → Φ j (slotOf a o.dst) w) → wpOps P ops Q (List.range' k m) a w := by
  intro m
  induction m with
  | zero =>
    intro k a w hk hB hF hfacts
    exact hend a w hB hF fun j o ho => hfacts j o ho (by have := (Array.getElem?_eq_some_iff.1 ho).1; omega)
  | succ m ih =>
    intro k a w hk hB hF hfacts
    have hlt : k < ops.size := by omega
    have ho : ops[k]? = some ops[k] := Array.getElem?_eq_getElem hlt
    generalize ops[k] = o at ho
    have hst := hstep k o ho a w hB hF fun e he _ oe hoe => hfacts e.on oe hoe (hback k o ho e he)
    have next : ∀ v w', (o.dst = none → v = undef) → Below w.heap.size w w' → Φ k v w' → wpOps P ops Q (List.range' (k + 1) m) (a.put o.dst v) w' := by
      intro v w' hv hb hΦ
      refine ih (k + 1) _ _ (by omega) (hB.trans (hb.mono hB.size)) ⟨?_, ?_, ?_⟩ ?_
      · cases hd : o.dst <;> simpa [Act.put] using hF.defers
      · cases hd : o.dst <;> simpa [Act.put] using hF.size
      · intro s hs
        rw [← hF.other s hs]
        cases hd : o.dst with
        | none => rfl
        | some t =>
          have hne : t ≠ s := fun e => hs k o ho (by rw [hd, e])
          simp [Act.put, hne]
      · intro j oj hoj hlj
        by_cases e : k = j
        · subst e
          obtain rfl : o = oj := by rw [ho] at hoj; exact Option.some.inj hoj
          cases hd : o.dst with
          | none => rw [hv hd] at hΦ; exact hΦ
          | some t => rw [slot_put_same _ _ (by rw [hF.size]; exact hsz k o t ho hd)]; exact hΦ
        · rw [slot_put_far _ _ fun t hjt hit => e (hdst k j o oj t ho hoj hit hjt)]
          exact mono j _ w w' hb (hfacts j oj hoj (by omega))
    rw [List.range'_succ]
    unfold wpOps
    rw [ho]
    unfold StepOk at hst
    by_cases hw : Region.wanted o (yielded ops a.tmps) = true
    · simp only [hw, if_true] at hst ⊢
      refine .inl (Oper.wp_mono (fun a' w' ⟨v, e, hv, hb, hΦ⟩ => ?_) hst)
      rw [e]
      exact next v w' hv hb hΦ
    · simp only [hw] at hst ⊢
      exact next undef w (fun _ => rfl) (Below.refl _ _) hst
theorem region_list {id : Nat} (hback : ∀ (j : Nat) (o : Oper), ops[j]? = some o → ∀ e ∈ o.after, e.on < j)
    (hdst : ∀ (i j : Nat) (oi oj : Oper) (t : Tmp), ops[i]? = some oi → ops[j]? = some oj → oi.dst = some t → oj.dst = some t → i = j)
    (hsz : ∀ (j : Nat) (o : Oper) (t : Tmp), ops[j]? = some o → o.dst = some t → t < a0.tmps.size)
    (mono : ∀ (j : Nat) (v : Value) (w w' : World), Below w.heap.size w w' → Φ j v w → Φ j v w')
    (hstep : ∀ (j : Nat) (o : Oper), ops[j]? = some o → ∀ (a : Act) (w : World), Below w0.heap.size w0 w → Fr ops a0 a → (∀ e ∈ o.after, Region.binds .any e = true → ∀ (oe : Oper), ops[e.on]? = some oe → Φ e.on (slotOf a oe.dst) w) → StepOk P ops Q Φ j o a w)
    (hend : ∀ (a : Act) (w : World), Below w0.heap.size w0 w → Fr ops a0 a → (∀ (j : Nat) (o : Oper), ops[j]? = some o → Φ j (slotOf a o.dst) w) → Q .normal a w) :
    (Code.region id ops false).wp P Q a0 w0 :=
  wp_region (by rw [List.range_eq_range']; exact list_inv hback hdst hsz mono hstep hend ops.size 0 a0 w0 (by omega) (Below.refl _ _) ⟨rfl, rfl, fun _ _ => rfl⟩ fun _ _ _ h => absurd h (Nat.not_lt_zero _))
end

/-! ### What a use of it wants: the region's own bookkeeping as one closed fact, each operation by its kind. -/
def dstsOf (l : List Oper) : List Nat := l.filterMap fun o => o.dst
def nodupB : List Nat → Bool
  | [] => true
  | x :: r => !r.contains x && nodupB r
def backB : Nat → List Oper → Bool
  | _, [] => true
  | j, o :: r => o.after.all (fun e => decide (e.on < j)) && backB (j + 1) r
def bookB (l : List Oper) (n : Nat) : Bool := backB 0 l && nodupB (dstsOf l) && (dstsOf l).all (fun t => decide (t < n))

theorem backB_at {l : List Oper} {k : Nat} (h : backB k l = true) {j : Nat} {o : Oper} (ho : l[j]? = some o) : ∀ e ∈ o.after, e.on < k + j := by
  induction l generalizing k j with
  | nil => simp at ho
  | cons p r ih =>
    simp only [backB, Bool.and_eq_true] at h
    cases j with
    | zero =>
      obtain rfl : p = o := by simpa using ho
      intro e he
      have := Array.all_eq_true_iff_forall_mem.1 h.1 e he
      simpa using this
    | succ j =>
      intro e he
      have := ih h.2 (j := j) (by simpa using ho) e he
      omega
theorem mem_dsts {l : List Oper} {j : Nat} {o : Oper} {t : Tmp} (ho : l[j]? = some o) (hd : o.dst = some t) : t ∈ dstsOf l :=
  List.mem_filterMap.2 ⟨o, List.mem_of_getElem? ho, hd⟩
theorem dsts_apart {l : List Oper} (h : nodupB (dstsOf l) = true) {i j : Nat} {oi oj : Oper} {t : Tmp} (hi : l[i]? = some oi) (hj : l[j]? = some oj) (h1 : oi.dst = some t) (h2 : oj.dst = some t) : i = j := by
  induction l generalizing i j with
  | nil => simp at hi
  | cons p r ih =>
    have hr : nodupB (dstsOf r) = true := by
      cases hp : p.dst with
      | none => have e : dstsOf (p :: r) = dstsOf r := by simp [dstsOf, hp]
                rwa [e] at h
      | some s => have e : dstsOf (p :: r) = s :: dstsOf r := by simp [dstsOf, hp]
                  rw [e] at h
                  simp only [nodupB, Bool.and_eq_true] at h
                  exact h.2
    have hno : p.dst = some t → t ∉ dstsOf r := fun hp hm => by
      have e : dstsOf (p :: r) = t :: dstsOf r := by simp [dstsOf, hp]
      rw [e] at h
      simp only [nodupB, Bool.and_eq_true] at h
      simp [hm] at h
    cases i with
    | zero =>
      obtain rfl : p = oi := by simpa using hi
      cases j with
      | zero => rfl
      | succ j => exact absurd (mem_dsts (l := r) (j := j) (by simpa using hj) h2) (hno h1)
    | succ i =>
      cases j with
      | zero =>
        obtain rfl : p = oj := by simpa using hj
        exact absurd (mem_dsts (l := r) (j := i) (by simpa using hi) h1) (hno h2)
      | succ j => exact congrArg Nat.succ (ih hr (i := i) (j := j) (by simpa using hi) (by simpa using hj))

/-- Each operation with its number. -/
def AllOps (S : Nat → Oper → Prop) : Nat → List Oper → Prop
  | _, [] => True
  | j, o :: r => S j o ∧ AllOps S (j + 1) r
theorem allOps_at {S : Nat → Oper → Prop} {l : List Oper} {k : Nat} (h : AllOps S k l) {j : Nat} {o : Oper} (ho : l[j]? = some o) : S (k + j) o := by
  induction l generalizing k j with
  | nil => simp at ho
  | cons p r ih =>
    cases j with
    | zero =>
      obtain rfl : p = o := by simpa using ho
      exact h.1
    | succ j =>
      have := ih h.2 (j := j) (by simpa using ho)
      rwa [show k + (j + 1) = k + 1 + j by omega]

/-- The facts of the operations, one each. -/
abbrev Fact := Value → World → Prop
def factAt (fs : List Fact) (j : Nat) (v : Value) (w : World) : Prop := (fs.getD j fun _ _ => True) v w
/-- A fact that stays where nothing old is written. -/
def Mono (f : Fact) : Prop := ∀ (v : Value) (w w' : World), Below w.heap.size w w' → f v w → f v w'
theorem monos_nil : ∀ f ∈ ([] : List Fact), Mono f := fun _ h => by cases h
theorem monos_cons {f : Fact} {r : List Fact} (h : Mono f) (hr : ∀ f ∈ r, Mono f) : ∀ g ∈ f :: r, Mono g := fun g hg => by
  rcases List.mem_cons.1 hg with rfl | hg
  · exact h
  · exact hr g hg
/-- The value itself. -/
def isV (c : Value) : Fact := fun v _ => v = c
theorem mono_isV (c : Value) : Mono (isV c) := fun _ _ _ _ h => h

/-- The slots alone, in the operations' order. -/
def yieldD (D : List (Option Tmp)) (tmps : Array Value) (j : Nat) : Option Bool :=
  match ((D[j]?).join).bind (tmps[·]?) with
  | some (.bool b) => some b
  | _ => none
theorem yielded_D {l : List Oper} {D : List (Option Tmp)} (h : l.map (·.dst) = D) (tmps : Array Value) (j : Nat) : yielded l.toArray tmps j = yieldD D tmps j := by
  subst h
  unfold yielded yieldD
  cases h : l[j]? with
  | none => simp [h]
  | some o =>
    simp only [List.getElem?_toArray, h, List.getElem?_map, Option.map_some, Option.join_some, Option.bind_some]
    cases o.dst.bind (fun x => tmps[x]?) with
    | none => rfl
    | some v => cases v <;> rfl
structure FrD (D : List (Option Tmp)) (a0 a : Act) : Prop where
  defers : a.defers = a0.defers
  size : a.tmps.size = a0.tmps.size
  other : ∀ s, D.contains (some s) = false → a.tmps.getD s undef = a0.tmps.getD s undef
def needs (D : List (Option Tmp)) (fs : List Fact) (a : Act) (w : World) : List Edge → Prop
  | [] => True
  | e :: r => (Region.binds .any e = true → factAt fs e.on (slotOf a (D[e.on]?).join) w) ∧ needs D fs a w r
theorem needs_of {D : List (Option Tmp)} {fs : List Fact} {a : Act} {w : World} : ∀ (l : List Edge), (∀ e ∈ l, Region.binds .any e = true → factAt fs e.on (slotOf a (D[e.on]?).join) w) → needs D fs a w l
  | [], _ => trivial
  | e :: r, h => ⟨h e (by simp), needs_of r fun e' he' => h e' (by simp [he'])⟩
/-- One operation, out of what it waits for: a value of its kind, in a world in which nothing that was there has turned. -/
def StepD (P : Program) (D : List (Option Tmp)) (Φ : Fact) (o : Oper) (a : Act) (w : World) : Prop :=
  ∀ Q : Exit → Act → World → Prop, if Region.wanted o (yieldD D a.tmps) = true then o.wp P a w (fun a' w' => ∃ v, a' = a.put o.dst v ∧ (o.dst = none → v = undef) ∧ Below w.heap.size w w' ∧ Φ v w') Q else Φ undef w

theorem region_facts {P : Program} {Q : Exit → Act → World → Prop} {a0 : Act} {w0 : World} {id : Nat} {draw : Bool} {l : List Oper} (fs : List Fact) (D : List (Option Tmp)) (n : Nat) (hn : a0.tmps.size = n) (hm : P.follows .mixedOrders = true) (hbook : bookB l n = true) (hD : l.map (·.dst) = D)
    (mono : ∀ f ∈ fs, Mono f)
    (hstep : AllOps (fun j o => ∀ (a : Act) (w : World), Below w0.heap.size w0 w → FrD D a0 a → needs D fs a w o.after.toList → StepD P D (factAt fs j) o a w) 0 l)
    (hend : ∀ (a : Act) (w : World), Below w0.heap.size w0 w → FrD D a0 a → (∀ j d, D[j]? = some d → factAt fs j (slotOf a d) w) → Q .normal a w) :
    (Code.region id l.toArray draw).wp P Q a0 w0 := by
  subst hn
  simp only [bookB, Bool.and_eq_true] at hbook
  obtain ⟨⟨h1, h2⟩, h3⟩ := hbook
  have hfr : ∀ a, Fr l.toArray a0 a → FrD D a0 a := fun a h => ⟨h.defers, h.size, fun s hs => h.other s fun j o ho hd => by
    have : D.contains (some s) = true := by
      rw [← hD, List.contains_iff_mem, ← hd]
      exact List.mem_map.2 ⟨o, List.mem_of_getElem? (by simpa using ho), rfl⟩
    rw [hs] at this; cases this⟩
  have hslot : ∀ (i : Nat) (oe : Oper), l[i]? = some oe → (D[i]?).join = oe.dst := fun i oe h => by rw [← hD]; simp [h]
  have k1 : ∀ (j : Nat) (o : Oper), l.toArray[j]? = some o → ∀ e ∈ o.after, e.on < j := fun j o ho e he => by
    have := backB_at h1 (j := j) (by simpa using ho) e he
    omega
  have k2 : ∀ (i j : Nat) (oi oj : Oper) (t : Tmp), l.toArray[i]? = some oi → l.toArray[j]? = some oj → oi.dst = some t → oj.dst = some t → i = j := fun i j oi oj t hi hj hti htj =>
    dsts_apart h2 (by simpa using hi) (by simpa using hj) hti htj
  have k3 : ∀ (j : Nat) (o : Oper) (t : Tmp), l.toArray[j]? = some o → o.dst = some t → t < a0.tmps.size := fun j o t ho ht => by
    have := List.all_eq_true.1 h3 t (mem_dsts (j := j) (by simpa using ho) ht)
    simpa using this
  have k4 : ∀ (j : Nat) (v : Value) (w w' : World), Below w.heap.size w w' → factAt fs j v w → factAt fs j v w' := fun j v w w' hb h => by
    unfold factAt at h ⊢
    by_cases hj : j < fs.length
    · have e : fs.getD j (fun _ _ => True) = fs[j] := by simp [hj]
      rw [e] at h ⊢
      exact mono _ (List.getElem_mem hj) v w w' hb h
    · have e : fs.getD j (fun _ _ => True) = fun _ _ => True := by simp [List.getElem?_eq_none (Nat.le_of_not_lt hj)]
      rw [e]; trivial
  have k5 : ∀ (j : Nat) (o : Oper), l.toArray[j]? = some o → ∀ (a : Act) (w : World), Below w0.heap.size w0 w → Fr l.toArray a0 a → (∀ e ∈ o.after, Region.binds .any e = true → ∀ (oe : Oper), l.toArray[e.on]? = some oe → factAt fs e.on (slotOf a oe.dst) w) → StepOk P l.toArray Q (factAt fs) j o a w := fun j o ho a w hB hF hd => by
    have hs := allOps_at hstep (j := j) (by simpa using ho)
    rw [Nat.zero_add] at hs
    have hlt := backB_at h1 (j := j) (by simpa using ho)
    have hj : j < l.length := by
      have := (Array.getElem?_eq_some_iff.1 ho).1
      simpa using this
    have hs' := hs a w hB (hfr a hF) (needs_of _ fun e he hb => by
      have he' : e ∈ o.after := by simpa using he
      have hl : e.on < l.length := by have := hlt e he'; omega
      rw [hslot e.on l[e.on] (List.getElem?_eq_getElem hl)]
      exact hd e he' hb l[e.on] (by simp [hl])) Q
    unfold StepOk
    have ey : yielded l.toArray a.tmps = yieldD D a.tmps := funext fun i => yielded_D hD a.tmps i
    rw [ey]
    exact hs'
  have k6 : ∀ (a : Act) (w : World), Below w0.heap.size w0 w → Fr l.toArray a0 a → (∀ (j : Nat) (o : Oper), l.toArray[j]? = some o → factAt fs j (slotOf a o.dst) w) → Q .normal a w := fun a w hB hF h => hend a w hB (hfr a hF) fun j d hjd => by
    rw [← hD, List.getElem?_map] at hjd
    obtain ⟨o, ho, rfl⟩ := Option.map_eq_some_iff.1 hjd
    exact h j o (by simpa using ho)
  cases draw with
  | true => exact region_any hm k1 k2 k3 k4 k5 k6
  | false => exact region_list k1 k2 k3 k4 k5 k6

section
variable {P : Program} {D : List (Option Tmp)} {Φ : Fact} {o : Oper} {a : Act} {w : World}
/-- The guard's own operation has yielded true. -/
theorem guard_true {i t : Nat} (hg : o.guard = some (i, true)) (hd : (D[i]?).join = some t) (hv : a.tmps.getD t undef = .bool true) : Region.wanted o (yieldD D a.tmps) = true := by
  have h2 : a.tmps[t]? = some (.bool true) := by
    rw [Array.getD_eq_getD_getElem?] at hv
    cases h : a.tmps[t]? with
    | none => rw [h] at hv; simp [undef] at hv
    | some x => rw [h] at hv; simpa using hv
  unfold Region.wanted
  rw [hg]
  simp [yieldD, hd, h2]
theorem guard_none (hg : o.guard = none) : Region.wanted o (yieldD D a.tmps) = true := by
  unfold Region.wanted; rw [hg]
/-- An operation that yields a value. -/
theorem step_val (hw : Region.wanted o (yieldD D a.tmps) = true) {t : Tmp} (hd : o.dst = some t) (v : Value) (w' : World) (hrun : (execOp a.eval o).run P w = .ok (.value v) w') (hb : Below w.heap.size w w') (h : Φ v w') : StepD P D Φ o a w := by
  intro Q
  rw [if_pos hw]
  unfold Oper.wp
  rw [hrun]
  exact ⟨v, rfl, (fun hn => by rw [hd] at hn; cases hn), hb, h⟩
theorem step_move (hw : Region.wanted o (yieldD D a.tmps) = true) {t : Tmp} (hd : o.dst = some t) (x : Operand) (ho : o.op = .move x) (h : Φ (a.eval x) w) : StepD P D Φ o a w :=
  step_val hw hd _ _ (by unfold execOp; rw [ho]; rfl) (Below.refl _ _) h
theorem step_assign (hw : Region.wanted o (yieldD D a.tmps) = true) {t : Tmp} (hd : o.dst = some t) (x : Operand) (ho : o.op = .assign x) (h : Φ (a.eval x) w) : StepD P D Φ o a w :=
  step_val hw hd _ _ (by unfold execOp; rw [ho]; rfl) (Below.refl _ _) h
theorem step_pick (hw : Region.wanted o (yieldD D a.tmps) = true) {t : Tmp} (hd : o.dst = some t) (c x y : Operand) (ho : o.op = .pick c x y) (hc : a.eval c = .bool true) (h : Φ (a.eval x) w) : StepD P D Φ o a w :=
  step_val hw hd _ _ (by unfold execOp; rw [ho]; simp only [hc]; rfl) (Below.refl _ _) h
theorem step_not (hw : Region.wanted o (yieldD D a.tmps) = true) {t : Tmp} (hd : o.dst = some t) (n : Nat) (x : Operand) (ho : o.op = .unOp .not n x) {b : Bool} (hx : a.eval x = .bool b) (h : Φ (.bool (!b)) w) : StepD P D Φ o a w :=
  step_val hw hd _ _ (by unfold execOp; rw [ho]; simp only [hx]; rfl) (Below.refl _ _) h
/-- A call of a Go function. -/
theorem step_call (hw : Region.wanted o (yieldD D a.tmps) = true) {t : Tmp} (hd : o.dst = some t) (f : FuncId) (args : Array Value) (hrun : (execOp a.eval o).run P w = .ok (.enter f args) w)
    (hc : Calls P f args w fun e w' => ∃ v, e = .returned v ∧ Below w.heap.size w w' ∧ Φ v w') : StepD P D Φ o a w := by
  intro Q
  rw [if_pos hw]
  unfold Oper.wp
  rw [hrun]
  refine hc.mono fun e w' h => ?_
  obtain ⟨v, rfl, hb, hΦ⟩ := h
  exact ⟨v, rfl, (fun hn => by rw [hd] at hn; cases hn), hb, hΦ⟩
end

/-- The operations of a region, by its number. -/
def opsAt (id : Nat) : Code → Option (List Oper)
  | .region i ops _ => if i = id then some ops.toList else none
  | .seq a b => (opsAt id a).or (opsAt id b)
  | .cond _ a b => (opsAt id a).or (opsAt id b)
  | .block _ b => opsAt id b
  | .loop b => opsAt id b
  | .scope b => opsAt id b
  | _ => none
def opsOf (id : Nat) (f : Func) : List Oper := ((f.body).bind (opsAt id)).getD []

end Go.Proofs.YtbpaepkcchpmbaaGreat
