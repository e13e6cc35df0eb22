/-
  Walks: the laws' item and one; the queue as a law sees it.
-/
import Derived.Test.YtjmaeiilkbfnaaaG17f
import Derived.Test.YtjmaeiilkbfnaaaROne
namespace Go.Proofs.Ytjmaeiilkbfnaaa
open Go.RowKit

set_option maxRecDepth 100000 in
set_option maxHeartbeats 400000 in
theorem item17_any (s t q v : Int) (w : World) :
    Calls Try.prog 33 #[.int .i64 s, .int .i64 t, .int .i64 q, .int .i64 v] w fun e w' => e = .returned (.agg #[.int .i64 s, .int .i64 t, .int .i64 q, .int .i64 v]) ∧ Below w.heap.size w w' := by
  go_enter Try.func33, Try.ntmps33
  go_wp2
  exact bodyPost_ret (v := .agg #[.int .i64 s, .int .i64 t, .int .i64 q, .int .i64 v]) (by simp [results, Try.results33, go_sem]) rfl ⟨rfl, (Below.refl _ _).alloc (Nat.le_refl _) _⟩
set_option maxRecDepth 100000 in
set_option maxHeartbeats 1000000 in
theorem one17_any (x : It) (B : Option Addr) (m d : Nat) (bs : List Int) (w : World) (hbs : Ints w B m bs) (h1 : itemB x = true) (h2 : boundsB bs = true) :
    Calls Try.prog 32 #[.agg #[.int .i64 x.s, .int .i64 x.t, .int .i64 x.q, .int .i64 x.v], .slice B m d] w (OutA (oneAc x bs) w) := by
  have HJ : Hid (∀ w', Below w.heap.size w w' → Calls Try.prog 10 #[.agg #[.int .i64 x.s, .int .i64 x.t, .int .i64 x.q, .int .i64 x.v], .slice B m d] w' (GoodAcc (oneAc x bs) w')) := fun w' hb => rone_ok x B m d bs w' (hbs.below hb) h1 h2
  have HAL : Hid (∀ o o', Below w.heap.size w ((w.alloc o).alloc o')) := fun o o' => below_alloc ((Below.refl _ _).alloc (Nat.le_refl _) _) (Nat.le_refl _) _
  clear hbs h1 h2
  generalize oneAc x bs = V at HJ ⊢
  go_enter Try.func32, Try.ntmps32
  go_wp2_with fail
  refine (HJ.out _ (HAL.out _ _)).mono ?_
  rintro e w2 ⟨H, hH, rfl, hh, hb⟩
  have H4 := Lib.hid (show Has w2 (w.heap.size + 1) 29 (accC zeroAc none 0 0) from Has.below (heap_alloc2_new w _ _) hb (by simp))
  have HH := Lib.hid (show Has w2 H 3 (ints V.h) from hh)
  have HLT := Lib.hid (show w.heap.size + 2 ≤ H by simpa using hH)
  have HB := Lib.hid ((HAL.out _ _).trans (hb.mono (by simp; omega)))
  clear hb hh hH HAL HJ
  go_wp2_with (first | (refine store_made rfl _ _ rfl (ac := V) (A := some ⟨H, 0, none⟩) (k := V.h.length) (c := V.h.length) rfl rfl rfl ?_) | (refine load_has rfl _ rfl w2.heap.size rfl (Has.made _ _ _) ?_) | (refine store_has rfl _ _ rfl (w.heap.size + 1) rfl rfl (H4.out.alloc _) rfl ?_))
  refine bodyPost_ret (ret_row1 rfl _ _ _ 29 (accC V (some ⟨H, 0, none⟩) V.h.length V.h.length) _ rfl ((H4.out.alloc _).row _) Try.underlying29 rfl (by exact Try.sizeAcc)) rfl ?_
  have hlt := HLT.out
  exact ⟨H, by omega, rfl, (HH.out.alloc _).rowFar (by omega) _, below_row (below_alloc HB.out (Nat.le_refl _) _) (by omega) _⟩

/-- The program's queue as a law sees it: made since w0; nothing older was turned. -/
structure LQ (w0 : World) (O : Nat → Prop) (g : Nat) (bs : List Int) (xs : List Ac) (w : World) : Prop where
  q : PQ O g bs xs w
  lo : ∀ k, O k → w0.heap.size ≤ k
  hi : ∀ k, O k → k < w.heap.size
  keep : Below w0.heap.size w0 w
/-- A variable that is not the queue's. -/
structure Box (O : Nat → Prop) (y : Nat) (cs : Array Value) (w : World) : Prop where
  has : Has w y 29 cs
  off : ¬ O y
def PopdO (O : Nat → Prop) (h : Nat) (w w' : World) : Nat → Prop := fun k => GrowO O w w' k ∧ k ≠ h
section
variable {w0 w w' : World} {O : Nat → Prop} {g y : Nat} {bs : List Int} {xs ys : List Ac} {a : Ac} {cs : Array Value}
theorem LQ.size (h : LQ w0 O g bs xs w) : w0.heap.size ≤ w.heap.size := h.keep.size
theorem LQ.below (h : LQ w0 O g bs xs w) (hb : Below w.heap.size w w') : LQ w0 O g bs xs w' := ⟨h.q.below hb, h.lo, fun k hk => Nat.lt_of_lt_of_le (h.hi k hk) hb.size, h.keep.trans (hb.mono h.keep.size)⟩
theorem LQ.fresh (h : LQ w0 O g bs xs w) (cs : Array Value) : Box O w.heap.size cs (w.alloc (.cells cs 29)) := ⟨Has.made _ _ _, fun e => by have := h.hi _ e; omega⟩
theorem Box.below (h : Box O y cs w) (hb : Below w.heap.size w w') : Box O y cs w' := ⟨h.has.below hb h.has.lt, h.off⟩
theorem Box.push (h : Box O y cs w) (hb : ButO O w w') : Box (GrowO O w w') y cs w' := ⟨h.has.butO hb h.off, fun e => by
  rcases e with e | e
  · exact h.off e
  · have := h.has.lt; omega⟩
theorem Box.pop (h : Box O y cs w) (hb : ButO O w w') (k : Nat) : Box (PopdO O k w w') y cs w' := ⟨h.has.butO hb h.off, fun e => (h.push hb).off e.1⟩
theorem LQ.grown (h : LQ w0 O g bs xs w) (hb : ButO O w w') (hq : PQ (GrowO O w w') g bs ys w') : LQ w0 (GrowO O w w') g bs ys w' := by
  have hs := hb.size
  have hs0 := h.size
  refine ⟨hq, fun k hk => ?_, fun k hk => ?_, hb.below h.keep hs0 h.lo⟩
  · rcases hk with hk | hk
    · exact h.lo k hk
    · omega
  · rcases hk with hk | hk
    · have := h.hi k hk; omega
    · exact hk.2
theorem LQ.push {A : Option Addr} {k c : Nat} (h : LQ w0 O g bs xs w) (hn : xs.length ≤ 65535) (ha : Ints w A k a.h) (hk : k ≤ c) (hc : c ≤ maxLen) (hJ2 : RowJ bs (xs ++ [a])) :
    Calls Try.prog 27 #[.pointer (some ⟨g, 0, none⟩), .agg (accC a A k c)] w fun e w' => e = .returned (.int .i64 0) ∧ LQ w0 (GrowO O w w') g bs (xs ++ [a]) w' ∧ ButO O w w' :=
  (h.q.push hn ha hk hc hJ2).mono fun _ _ h2 => ⟨h2.1, h.grown h2.2.1 h2.2.2, h2.2.1⟩
theorem LQ.popd (h : LQ w0 O g bs xs w) {k : Nat} (hb : ButO O w w') (hg : GrowO O w w' k) (hq : PQ (fun j => GrowO O w w' j ∧ j ≠ k) g bs ys w') : LQ w0 (PopdO O k w w') g bs ys w' ∧ w0.heap.size ≤ k ∧ k < w'.heap.size := by
  have hs := hb.size
  have hs0 := h.size
  have key : ∀ j, GrowO O w w' j → w0.heap.size ≤ j ∧ j < w'.heap.size := fun j hj => by
    rcases hj with hj | hj
    · have := h.lo j hj; have := h.hi j hj; omega
    · omega
  exact ⟨⟨hq, fun j hj => (key j hj.1).1, fun j hj => (key j hj.1).2, hb.below h.keep hs0 h.lo⟩, key k hg⟩
/-- What a pop leaves, to a law. -/
def LPop (w0 : World) (O : Nat → Prop) (g : Nat) (bs : List Int) (a : Ac) (ys : List Ac) (w : World) (e : Ending) (w' : World) : Prop :=
  ∃ h c, e = .returned (.tuple #[accV a (some ⟨h, 0, none⟩) a.h.length c, .int .i64 0]) ∧ OwnI w' 0 (.slice (some ⟨h, 0, none⟩) a.h.length c) a.h ∧ ButO O w w' ∧ LQ w0 (PopdO O h w w') g bs ys w' ∧ w0.heap.size ≤ h ∧ h < w'.heap.size
theorem LQ.pop (h : LQ w0 O g bs (a :: ys) w) (hJ : RowJ bs (a :: ys)) (hn : (a :: ys).length ≤ 65535) :
    Calls Try.prog 24 #[.pointer (some ⟨g, 0, none⟩)] w (LPop w0 O g bs a ys w) :=
  (h.q.pop hJ hn).mono fun _ _ h2 => by
    obtain ⟨j, c, k1, k2, k3, k4, k5⟩ := h2
    have k6 := h.popd k4 k3 k5
    exact ⟨j, c, k1, k2, k4, k6.1, k6.2⟩
theorem lq_new (hk : Below w0.heap.size w0 w) (hq : PQ (fun k => w.heap.size ≤ k ∧ k < w'.heap.size) g bs [] w') (hb : Below w.heap.size w w') : LQ w0 (fun k => w.heap.size ≤ k ∧ k < w'.heap.size) g bs [] w' := by
  have := hk.size
  exact ⟨hq, fun k hk2 => by omega, fun k hk2 => hk2.2, hk.trans (hb.mono hk.size)⟩
end

end Go.Proofs.Ytjmaeiilkbfnaaa
