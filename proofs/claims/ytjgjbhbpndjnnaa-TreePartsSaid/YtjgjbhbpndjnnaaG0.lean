/-
  Plain functions: what the layer of aggregates reckons (items, bounds, buckets, aggregates), as functions on integers and lists. No program here.
  Words for memory: a slice of integers that reads as a list; what a call that makes memory keeps. No program here.
-/
import Derived.WalkKit
import Derived.Below
import Derived.Deep.Draws
import Derived.Laws.Rows
import Derived.Laws.Tables
import Derived.Laws.MakeOwn
import Derived.Laws.Entries
import Derived.Laws.OwnMore
namespace Go.Proofs.Ytjgjbhbpndjnnaa
open Go.RowKit

structure It where
  s : Int
  t : Int
  q : Int
  v : Int

structure Ac where
  n : Int
  s : Int
  mn : Int
  mx : Int
  f : It
  l : It
  h : List Int

def zeroIt : It := ⟨0, 0, 0, 0⟩
/-- The item at a place. -/
def nthI (xs : List It) (i : Nat) : It := xs.getD i zeroIt
/-- The number at a place. (A name of its own: the walk's simp does not look into it.) -/
def nth (xs : List Int) (k : Nat) : Int := xs.getD k 0
def wi (n lo hi : Int) : Bool := decide (lo ≤ n ∧ n ≤ hi)
def cmpI (a b : Int) : Int := if a < b then -1 else if b < a then 1 else 0
def cmpT (x y : It) : Int := if cmpI x.t y.t = 0 then cmpI x.q y.q else cmpI x.t y.t
def itemB (x : It) : Bool := wi x.s 0 1048575 && (wi x.t (-1099511627776) 1099511627776 && (wi x.q 1 1073741823 && wi x.v (-1099511627776) 1099511627776))

theorem wi_true {n lo hi : Int} (h : wi n lo hi = true) : lo ≤ n ∧ n ≤ hi := of_decide_eq_true h
theorem wi_mk {n lo hi : Int} (h : lo ≤ n ∧ n ≤ hi) : wi n lo hi = true := decide_eq_true h
theorem wi_false {n lo hi : Int} (h : ¬ (lo ≤ n ∧ n ≤ hi)) : wi n lo hi = false := decide_eq_false h


def inV (v : Int) : Bool := wi v (-1099511627776) 1099511627776
/-- Bounds that may be. -/
def boundsB (bs : List Int) : Bool := decide (bs.length ≤ 8 ∧ (∀ i, i < bs.length → inV (nth bs i) = true) ∧ ∀ i, i < bs.length - 1 → nth bs i < nth bs (i + 1))
theorem boundsB_true {bs : List Int} (h : boundsB bs = true) : bs.length ≤ 8 ∧ (∀ i, i < bs.length → inV (nth bs i) = true) ∧ ∀ i, i < bs.length - 1 → nth bs i < nth bs (i + 1) := of_decide_eq_true h
theorem boundsB_mk {bs : List Int} (h : bs.length ≤ 8 ∧ (∀ i, i < bs.length → inV (nth bs i) = true) ∧ ∀ i, i < bs.length - 1 → nth bs i < nth bs (i + 1)) : boundsB bs = true := decide_eq_true h
theorem boundsB_false {bs : List Int} (h : ¬ (bs.length ≤ 8 ∧ (∀ i, i < bs.length → inV (nth bs i) = true) ∧ ∀ i, i < bs.length - 1 → nth bs i < nth bs (i + 1))) : boundsB bs = false := decide_eq_false h

/-- The bucket into which a value falls. -/
def bkt : List Int → Int → Nat
  | [], _ => 0
  | b :: r, v => if b < v then bkt r v + 1 else 0
theorem nth_cons_zero (b : Int) (r : List Int) : nth (b :: r) 0 = b := rfl
theorem nth_cons_succ (b : Int) (r : List Int) (k : Nat) : nth (b :: r) (k + 1) = nth r k := by simp [nth]
theorem bkt_le (bs : List Int) (v : Int) : bkt bs v ≤ bs.length := by
  induction bs with
  | nil => simp [bkt]
  | cons b r ih => simp only [bkt, List.length_cons]; split <;> omega
theorem bkt_eq {bs : List Int} {v : Int} {k : Nat} (hk : k ≤ bs.length) (h1 : ∀ i, i < k → nth bs i < v) (h2 : k < bs.length → v ≤ nth bs k) : bkt bs v = k := by
  induction bs generalizing k with
  | nil => simp only [List.length_nil] at hk; simp only [bkt]; omega
  | cons b r ih =>
    cases k with
    | zero =>
      have := h2 (by simp)
      rw [nth_cons_zero] at this
      simp only [bkt]
      rw [if_neg (by omega)]
    | succ k =>
      have h0 := h1 0 (by omega)
      rw [nth_cons_zero] at h0
      simp only [bkt]
      rw [if_pos h0, ih (by simpa using hk) (fun i hi => by have := h1 (i + 1) (by omega); rwa [nth_cons_succ] at this) (fun h => by have := h2 (by simpa using h); rwa [nth_cons_succ] at this)]
/-- Rising from place to place: rising throughout. -/
theorem rising_of {bs : List Int} (h : ∀ i, i < bs.length - 1 → nth bs i < nth bs (i + 1)) : ∀ i j, i < j → j < bs.length → nth bs i < nth bs j := by
  intro i j hij hj
  induction j with
  | zero => omega
  | succ j ih =>
    have h1 := h j (by omega)
    rcases Nat.lt_succ_iff_lt_or_eq.1 hij with h2 | h2
    · have := ih h2 (by omega); omega
    · subst h2; exact h1

end Go.Proofs.Ytjgjbhbpndjnnaa

namespace Go.Proofs.Ytjgjbhbpndjnnaa
open Go.RowKit

/-- The slice value '.slice A n _' reads as the numbers xs. -/
def Ints (w : World) (A : Option Addr) (n : Nat) (xs : List Int) : Prop :=
  xs.length = n ∧ (0 < n → ∃ b o : Nat, A = some ⟨b, o, none⟩ ∧ ∀ k, k < n → w.cell? ⟨b, o + k, none⟩ = some (.int .i64 (nth xs k)))

section
variable {w w' : World} {n : Nat} {A : Option Addr} {xs : List Int}
theorem Ints.at_ (h : Ints w A n xs) {k : Nat} (hk : k < n) : ∃ b o : Nat, A = some ⟨b, o, none⟩ ∧ ∀ k, k < n → w.cell? ⟨b, o + k, none⟩ = some (.int .i64 (nth xs k)) := h.2 (by omega)
theorem Ints.keep (h : Ints w A n xs) (hk : ∀ p : Addr, p.block < w.heap.size → w'.cell? p = w.cell? p) : Ints w' A n xs :=
  ⟨h.1, fun hn => by
    obtain ⟨b, o, e, hc⟩ := h.2 hn
    refine ⟨b, o, e, fun k hk' => ?_⟩
    rw [hk _ (block_lt_of_cell (hc k hk'))]
    exact hc k hk'⟩
theorem Ints.below (h : Ints w A n xs) (hb : Below w.heap.size w w') : Ints w' A n xs := h.keep fun _ hp => hb.cell hp
theorem Ints.drew (h : Ints w A n xs) : Ints w.drew A n xs := h
theorem Ints.drewN (h : Ints w A n xs) (k : Nat) : Ints (w.drewN k) A n xs := h
theorem Ints.nil : Ints w A 0 [] := ⟨rfl, fun h => absurd h (by omega)⟩
end

theorem below_drewN {B : Nat} {a w : World} (h : Below B a w) (n : Nat) : Below B a (w.drewN n) := ⟨h.os, h.tape, h.output, h.size, h.block⟩

/-- What a call that only made memory left of the cells that were there, as a rule for the walk. -/
theorem oldCells {W w1 : World} (hb : Below W.heap.size W w1) {s : Nat} (hs : s ≤ W.heap.size) : ∀ b o, b < s → w1.cell? ⟨b, o, none⟩ = W.cell? ⟨b, o, none⟩ :=
  fun b _ h => hb.cell (show b < W.heap.size by omega)
theorem oldMarks {W w1 : World} (hb : Below W.heap.size W w1) {s : Nat} (hs : s ≤ W.heap.size) : ∀ b o, b < s → w1.frozen? ⟨b, o, none⟩ = W.frozen? ⟨b, o, none⟩ :=
  fun b _ h => hb.frozen (show b < W.heap.size by omega)

/-- Block g holds just these cells, and may be written. -/
def Has (w : World) (g : Nat) (t : TypeId) (cs : Array Value) : Prop := w.heap[g]? = some (.cells cs t (0, 0))
section
variable {w w' : World} {g : Nat} {t : TypeId} {cs : Array Value}
theorem Has.lt (h : Has w g t cs) : g < w.heap.size := by
  unfold Has at h
  by_cases hlt : g < w.heap.size
  · exact hlt
  · rw [Array.getElem?_eq_none (by omega)] at h; cases h
theorem Has.cell (h : Has w g t cs) (i : Nat) : w.cell? ⟨g, i, none⟩ = cs[i]? := cell_of_row w g i cs t (0, 0) h
theorem Has.mark (h : Has w g t cs) (i : Nat) : w.frozen? ⟨g, i, none⟩ = false := frozen_of_row w g i cs t h
theorem Has.made (w : World) (t : TypeId) (cs : Array Value) : Has (w.alloc (.cells cs t)) w.heap.size t cs := heap_alloc_new w _
theorem Has.alloc (h : Has w g t cs) (o : Obj) : Has (w.alloc o) g t cs := (Below.heap_alloc w o g h.lt).trans h
theorem Has.drew (h : Has w g t cs) : Has w.drew g t cs := h
theorem Has.drewN (h : Has w g t cs) (n : Nat) : Has (w.drewN n) g t cs := h
theorem Has.below (h : Has w g t cs) {B : Nat} (hb : Below B w w') (hB : g < B) : Has w' g t cs := (hb.block g hB).trans h
theorem Has.put (h : Has w g t cs) (i : Nat) (v : Value) : Has (w.setCell ⟨g, i, none⟩ v) g t (cs.setIfInBounds i v) := heap_setCell_same w g i cs t v h
theorem Has.putFar (h : Has w g t cs) {p : Addr} (hp : g ≠ p.block) (v : Value) : Has (w.setCell p v) g t cs := (heap_setCell_other w p g v hp).trans h
theorem Has.row (h : Has w g t cs) (cs' : Array Value) : Has (w.setRow g cs') g t cs' := setRow_heap w g cs cs' t _ h
theorem Has.rowFar (h : Has w g t cs) {g' : Nat} (hg : g ≠ g') (cs' : Array Value) : Has (w.setRow g' cs') g t cs := (setRow_other w g' g cs' hg).trans h
end
theorem has_types {w : World} {g : Nat} {t t' : TypeId} {cs cs' : Array Value} (h : Has w g t cs) (h' : Has w g t' cs') (hne : t ≠ t') : False := by
  unfold Has at h h'
  rw [h] at h'
  simp only [Option.some.injEq, Obj.cells.injEq] at h'
  exact hne h'.2.1
theorem below_row {B : Nat} {a w : World} (h : Below B a w) {g : Nat} (hg : B ≤ g) (cs : Array Value) : Below B a (w.setRow g cs) :=
  h.trans ⟨rfl, rfl, rfl, by simp, fun k hk => setRow_other w g k cs (by omega)⟩
theorem below_alloc {B : Nat} {a w : World} (h : Below B a w) (hB : B ≤ a.heap.size) (o : Obj) : Below B a (w.alloc o) := h.alloc (Nat.le_trans hB h.size) o

/-- A struct and a number that are handed out: the struct out of its cell. -/
theorem ret_row {P : Program} {fn : Func} {p u : Tmp} {ty : TypeId} (h : fn.results = #[.cell p ty, .tmp u]) (tmps : Array Value) (w : World) (g : Nat) (t : TypeId) (cs : Array Value) (d : TypeDesc)
    (hp : tmps.getD p undef = .pointer (some ⟨g, 0, none⟩)) (hg : Has w g t cs) (hu : P.underlying ty = some d) (hd : (match d with | .struct _ | .array _ _ => true | _ => false) = true) (hi : (P.info? ty).map (·.size) = some cs.size) :
    (results fn tmps).run P w = .ok (.tuple #[.agg cs, tmps.getD u undef]) w := by
  have hp' : tmps[p]?.getD undef = .pointer (some ⟨g, 0, none⟩) := by simpa using hp
  simp [results, h, hp', asAddr, run_loadVar_row w g t ty cs (0, 0) d hg hu hd hi]

/-- So many zeros, as cells. (A plain name: the walk does not look into it.) -/
def zeros (n : Nat) : Array Value := (List.replicate n (Value.int .i64 0)).toArray
/-- Numbers, as cells. -/
def ints (xs : List Int) : Array Value := (xs.map (Value.int .i64)).toArray
theorem size_zeros (n : Nat) : (zeros n).size = n := by simp [zeros]
theorem size_ints (xs : List Int) : (ints xs).size = xs.length := by simp [ints]
theorem ints_get (xs : List Int) {k : Nat} (h : k < xs.length) : (ints xs)[k]? = some (.int .i64 (nth xs k)) := by
  simp [ints, nth, List.getElem?_eq_getElem h]
theorem madeCells_zeros (n : Nat) : madeCells #[Value.int .i64 0] n = zeros n := by
  apply Array.toList_inj.1
  rw [toList_madeCells_one]
  simp [zeros]
theorem zeros_ints (n : Nat) : zeros n = ints (List.replicate n 0) := by simp [zeros, ints]
theorem ints_set (xs : List Int) (k : Nat) (v : Int) : (ints xs).setIfInBounds k (.int .i64 v) = ints (xs.set k v) := by
  simp [ints, List.map_set]

/-- 'make([]int, n + 1)' for a length n. -/
theorem make_ints {P : Program} (t e : TypeId) (i : TypeInfo) (ht : P.underlying t = some (.slice e)) (hi : P.info? e = some i) (hz : i.zero = some (.int .i64 0)) (hs : i.size = 1) (hb : i.bytes = 8)
    (n : Nat) (hn : n ≤ 17592186044416) (w : World) :
    (Instr.makeSlice t (.int .i64 ((n : Int) + 1)) (.int .i64 ((n : Int) + 1))).run P w = .ok (.slice (some ⟨w.heap.size, 0, none⟩) (n + 1) (n + 1)) (w.alloc (.cells (zeros (n + 1)) e)) := by
  have hr := run_make (P := P) w t e i (.int .i64 0) ht hi hz .i64 .i64 ((n : Int) + 1) ((n : Int) + 1) (by omega) (by omega) (by rw [hb]; omega) (by omega)
  have e1 : ((n : Int) + 1).toNat = n + 1 := by omega
  simp only [e1, hs, Nat.mul_one] at hr
  have e2 : (Value.int IntKind.i64 0).cells = #[Value.int .i64 0] := rfl
  rw [e2, madeCells_zeros] at hr
  exact hr

end Go.Proofs.Ytjgjbhbpndjnnaa
