/-
  What the laws on low share: their item and fold, what is told by each Agg, variables that hold what is told.
-/
import Derived.Test.YtigjnmjmjhbigaaValue
import Derived.Test.YtigjnmjmjhbigaaFold
namespace Go.Proofs.Ytigjnmjmjhbigaa
open Go.RowKit

set_option maxRecDepth 100000 in
set_option maxHeartbeats 400000 in
theorem mkItem2_any (s t q v : Int) (w : World) :
    Calls Try.prog 27 #[.int .i64 s, .int .i64 t, .int .i64 q, .int .i64 v] w fun e w' => e = .returned (.agg #[.int .i64 s, .int .i64 t, .int .i64 q, .int .i64 v]) ∧ Below w.heap.size w w' := by
  go_enter Try.func27, Try.ntmps27
  go_wp2
  exact bodyPost_ret (v := .agg #[.int .i64 s, .int .i64 t, .int .i64 q, .int .i64 v]) (by simp [results, Try.results27, go_sem]) rfl ⟨rfl, (Below.refl _ _).alloc (Nat.le_refl _) _⟩

/-- Numbers are plain only here: an aggregate in a variable, with room behind its buckets or not. -/
structure Vg (w : World) (g : Nat) (a : Ac) (A : Option Addr) (n c : Nat) : Prop where
  cells : Has w g 29 (accC a A n c)
  hist : Ints w A n a.h
  cap : n ≤ c
  most : c ≤ maxLen
theorem Vg.below {w w' : World} {g : Nat} {a : Ac} {A : Option Addr} {n c : Nat} (h : Vg w g a A n c) (hb : Below w.heap.size w w') : Vg w' g a A n c := ⟨has_below h.cells hb, h.hist.below hb, h.cap, h.most⟩
/-- What is told, in a variable. -/
structure Vo (w : World) (g : Nat) (v : Int) (o : Bool) (hs : List Int) (A : Option Addr) (n c : Nat) : Prop where
  cells : Has w g 49 (outC v o A n c)
  hist : Ints w A n hs
theorem Vo.below {w w' : World} {g : Nat} {v : Int} {o : Bool} {hs : List Int} {A : Option Addr} {n c : Nat} (h : Vo w g v o hs A n c) (hb : Below w.heap.size w w') : Vo w' g v o hs A n c := ⟨has_below h.cells hb, h.hist.below hb⟩

@[go_sem] theorem outC_0 (v : Int) (o : Bool) (A : Option Addr) (n c : Nat) : (outC v o A n c)[0]? = some (.int .i64 v) := rfl
@[go_sem] theorem outC_1 (v : Int) (o : Bool) (A : Option Addr) (n c : Nat) : (outC v o A n c)[1]? = some (.bool o) := rfl
@[go_sem] theorem outC_2 (v : Int) (o : Bool) (A : Option Addr) (n c : Nat) : (outC v o A n c)[2]? = some (.slice A n c) := rfl
/-- The store of what is told into a variable that was made last. -/
theorem store_newO {ops : Array Oper} {rest : List Oper} {op : Oper} {a : Act} {w : World} {Q : Exit → Act → World → Prop} (hgd : op.guard = none) (x y : Operand) (ho : op.op = .store 49 x y)
    {old : Array Value} {v : Int} {o : Bool} {A : Option Addr} {n c : Nat} (hx : a.eval x = .pointer (some ⟨w.heap.size, 0, none⟩)) (hy : a.eval y = .agg (outC v o A n c)) (hold : old.size = 3)
    (h : ∀ w', Below w.heap.size w w' → Has w' w.heap.size 49 (outC v o A n c) → wpList Try.prog ops Q rest (a.put op.dst undef) w') : wpList Try.prog ops Q (op :: rest) a (w.alloc (.cells old 49)) :=
  wpList_store_row hgd 49 x y ho w.heap.size _ hx hy 49 old (Has.made _ _ _) Try.sizeOut hold (outC_one _ _ _ _ _) (by rw [World.setRow_alloc_new]; exact h _ ((Below.refl _ _).alloc (Nat.le_refl _) _) (Has.made _ _ _))
/-- The load of what is told out of a variable, where a guard lets it by. -/
theorem load_outG {ops : Array Oper} {rest : List Oper} {op : Oper} {a : Act} {w : World} {Q : Exit → Act → World → Prop} (hw : Region.wanted op (yielded ops a.tmps) = true) (x : Operand) (ho : op.op = .load 49 x)
    (g : Nat) (hx : a.eval x = .pointer (some ⟨g, 0, none⟩)) {v : Int} {o : Bool} {A : Option Addr} {n c : Nat} (hc : Has w g 49 (outC v o A n c))
    (h : wpList Try.prog ops Q rest (a.put op.dst (.agg (outC v o A n c))) w) : wpList Try.prog ops Q (op :: rest) a w :=
  wpList_step fun _ hK => by
    rw [if_pos hw]
    exact wp_load_row 49 x ho g hx 49 _ (0, 0) _ hc Try.underlying49 rfl Try.sizeOut (hK _ _ h)

/-- Items in a new row. -/
theorem items_has {w : World} {g : Nat} {cs : Array Value} {xs : List It} (h : Has w g 23 cs) (e : cs = (xs.flatMap itemL).toArray) : Items w (some ⟨g, 0, none⟩) xs.length xs := by
  subst e
  refine ⟨rfl, fun _ => ⟨g, 0, rfl, fun i hi j v hv => ?_⟩⟩
  rw [h.cell, Nat.zero_add]
  have key : ∀ (ys : List It) (i : Nat), i < ys.length → ∀ j v, (itemL (nthI ys i))[j]? = some v → (ys.flatMap itemL)[i * 4 + j]? = some v := by
    intro ys
    induction ys with
    | nil => intro i hi; simp at hi
    | cons y r ih =>
      intro i hi j v hv
      have hl : (itemL y).length = 4 := rfl
      rw [List.flatMap_cons]
      cases i with
      | zero =>
        have hy : nthI (y :: r) 0 = y := rfl
        rw [hy] at hv
        have hj : j < 4 := by have := (List.getElem?_eq_some_iff.1 hv).1; rwa [hl] at this
        rw [List.getElem?_append_left (by rw [hl]; omega)]
        simpa using hv
      | succ i =>
        have hy : nthI (y :: r) (i + 1) = nthI r i := by simp [nthI]
        rw [hy] at hv
        rw [List.getElem?_append_right (by rw [hl]; omega), hl, show (i + 1) * 4 + j - 4 = i * 4 + j by omega]
        exact ih i (by simpa using hi) j v hv
  simpa using key xs i hi j v hv

set_option maxRecDepth 100000 in
set_option maxHeartbeats 1000000 in
theorem lfold_any (X : Option Addr) (n cx : Nat) (xs : List It) (B : Option Addr) (m d : Nat) (bs : List Int) (w : World) (hX : Items w X n xs) (hbs : Ints w B m bs) (hb : boundsB bs = true) (hx : ∀ i, i < n → itemB (nthI xs i) = true) (hn : n ≤ 8192) :
    Calls Try.prog 28 #[.slice X n cx, .slice B m d] w (FoldAcc (foldA bs xs) w) := by
  go_enter Try.func28, Try.ntmps28
  go_wp2_with fail
  have hB0 : ∀ o, Below w.heap.size w (w.alloc o) := fun o => (Below.refl _ _).alloc (Nat.le_refl _) o
  refine (fold_any X n cx xs B m d bs _ (hX.below (hB0 _)) (hbs.below (hB0 _)) hb hx hn).mono ?_
  rintro e w1 ⟨A, k, c, rfl, h1, hb1⟩
  have H4 : Has w1 w.heap.size 29 _ := has_below (Has.made w _ _) hb1
  have hB1 := (hB0 _).trans (hb1.mono (by simp))
  clear hb1
  go_wp2_with (refine store_has rfl _ _ rfl w.heap.size rfl rfl H4 rfl ?_)
  refine bodyPost_ret (ret_row1 rfl _ _ _ 29 (accC (foldA bs xs) A k c) _ rfl (H4.row _) Try.underlying29 rfl (by exact Try.sizeAcc)) rfl ?_
  exact ⟨A, k, c, rfl, ⟨h1.hist.row (fun ad e => by have := h1.new ad e; simp at this; omega) _, h1.cap, h1.most, fun ad e => by have := h1.new ad e; simp at this; omega⟩, below_row hB1 (Nat.le_refl _) _⟩

theorem ask_len {q : Qu} {B : Option Addr} {m : Nat} {a : Ac} {A : Option Addr} {k : Nat} {w : World} (hbs : Ints w B m q.bs) (ha : Ints w A k a.h) (hok : askB q a = true) : 0 < k ∧ k ≤ 9 ∧ k = m + 1 ∧ m ≤ 8 ∧ (0 ≤ q.rank ∧ q.rank ≤ 1000) ∧ (0 ≤ a.n ∧ a.n ≤ 8192) ∧ ∀ i, i < k → 0 ≤ nth a.h i ∧ nth a.h i ≤ 8192 := by
  simp only [askB, accB, Bool.and_eq_true] at hok
  obtain ⟨h1, ⟨h2, h3⟩, _⟩ := hok
  have h4 := wi_true h1
  have h5 := (boundsB_true h2).1
  have hl := hbs.1
  have hf := fit_of (m := q.bs.length + 1) h3
  have hla := ha.1
  have := hf.len
  exact ⟨by omega, by omega, by omega, by omega, h4, ⟨hf.n0, hf.n1⟩, fun i hi => ⟨hf.low i (by omega), by have := hf.top i (by omega); have := hf.n1; omega⟩⟩
/-! What is told, by each Agg. -/
section
variable (q : Qu) (B : Option Addr) (m d : Nat) (a : Ac) (A : Option Addr) (k c : Nat) (w : World) (hbs : Ints w B m q.bs) (hm : m ≤ maxLen) (ha : Ints w A k a.h) (hk : k ≤ maxLen) (hok : askB q a = true)
include hbs hm ha hk hok
theorem value_count (h : q.agg = 0) : Calls Try.prog 29 #[.agg (quC q B m d), .agg (accC a A k c)] w (OkOut a.n false [] w) :=
  value_tell q B m d a A k c w hbs hm ha hk hok 0 76 _ a.n false [] h (by omega) rfl Try.func76 (by kernel_rfl) (by kernel_rfl) fun W _ => tell_count q B m d a A k c W
theorem value_sum (h : q.agg = 1) : Calls Try.prog 29 #[.agg (quC q B m d), .agg (accC a A k c)] w (OkOut (if wi a.s (-1125899906842624) 1125899906842624 then a.s else 0) (!wi a.s (-1125899906842624) 1125899906842624) [] w) :=
  value_tell q B m d a A k c w hbs hm ha hk hok 1 77 _ _ _ [] h (by omega) rfl Try.func77 (by kernel_rfl) (by kernel_rfl) fun W _ => tell_sum q B m d a A k c W
theorem value_min (h : q.agg = 2) : Calls Try.prog 29 #[.agg (quC q B m d), .agg (accC a A k c)] w (OkOut a.mn false [] w) :=
  value_tell q B m d a A k c w hbs hm ha hk hok 2 78 _ _ _ [] h (by omega) rfl Try.func78 (by kernel_rfl) (by kernel_rfl) fun W _ => tell_min q B m d a A k c W
theorem value_max (h : q.agg = 3) : Calls Try.prog 29 #[.agg (quC q B m d), .agg (accC a A k c)] w (OkOut a.mx false [] w) :=
  value_tell q B m d a A k c w hbs hm ha hk hok 3 79 _ _ _ [] h (by omega) rfl Try.func79 (by kernel_rfl) (by kernel_rfl) fun W _ => tell_max q B m d a A k c W
theorem value_first (h : q.agg = 4) : Calls Try.prog 29 #[.agg (quC q B m d), .agg (accC a A k c)] w (OkOut a.f.v false [] w) :=
  value_tell q B m d a A k c w hbs hm ha hk hok 4 80 _ _ _ [] h (by omega) rfl Try.func80 (by kernel_rfl) (by kernel_rfl) fun W _ => tell_first q B m d a A k c W
theorem value_last (h : q.agg = 5) : Calls Try.prog 29 #[.agg (quC q B m d), .agg (accC a A k c)] w (OkOut a.l.v false [] w) :=
  value_tell q B m d a A k c w hbs hm ha hk hok 5 81 _ _ _ [] h (by omega) rfl Try.func81 (by kernel_rfl) (by kernel_rfl) fun W _ => tell_last q B m d a A k c W
theorem value_hist (h : q.agg = 6) : Calls Try.prog 29 #[.agg (quC q B m d), .agg (accC a A k c)] w (OkOut 0 false a.h w) := by
  obtain ⟨k0, k9, _, _, _, _, _⟩ := ask_len hbs ha hok
  exact value_tell q B m d a A k c w hbs hm ha hk hok 6 82 _ _ _ a.h h (by omega) rfl Try.func82 (by kernel_rfl) (by kernel_rfl) fun W hW => tell_hist q B m d a A k c W (ha.below hW) k0 (by omega)
theorem value_rank (h : q.agg = 7) : Calls Try.prog 29 #[.agg (quC q B m d), .agg (accC a A k c)] w (OkOut (rankV q.bs a.h (place q.rank a.n) a.mx) false [] w) := by
  obtain ⟨k0, k9, km, m8, hr, hn, hh⟩ := ask_len hbs ha hok
  exact value_tell q B m d a A k c w hbs hm ha hk hok 7 84 _ _ _ [] h (by omega) rfl Try.func84 (by kernel_rfl) (by kernel_rfl) fun W hW => tell_rank q B m d a A k c W (hbs.below hW) (ha.below hW) m8 km hr hn hh
end

end Go.Proofs.Ytigjnmjmjhbigaa
