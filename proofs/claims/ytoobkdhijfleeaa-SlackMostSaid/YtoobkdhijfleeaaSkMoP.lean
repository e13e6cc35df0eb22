/-
  The slack and the law's own row of the times that were seen, side by side.
-/
import Derived.Test.YtoobkdhijfleeaaSkAwake
import Derived.Test.YtoobkdhijfleeaaIRow
namespace Go.Proofs.Ytoobkdhijfleeaa
open Go.RowKit

/-- The greatest of the first n. -/
def topTo (ys : List Int) : Nat → Int
  | 0 => -1099511627776
  | n + 1 => max (topTo ys n) (nth ys n)
/-- What the law's own loop has behind n rounds. -/
def wantTo (ys : List Int) (t L W : Int) : Nat → Int
  | 0 => W
  | n + 1 => max (wantTo ys t L W n) (min (nth ys n - t) L)
theorem wantTo_is {ys : List Int} {t L W : Int} (hW : 0 ≤ W) (ht : okT t) (n : Nat) : wantTo ys t L W n = max W (min L (topTo ys n - t)) := by
  obtain ⟨h1, h2⟩ := ht
  induction n with
  | zero => unfold wantTo topTo; omega
  | succ n ih => unfold wantTo topTo; rw [ih]; omega
theorem nth_app {ys : List Int} {t : Int} {q : Nat} (h : q < ys.length) : nth (ys ++ [t]) q = nth ys q := by simp [nth, List.getElem?_append_left h]
theorem nth_last (ys : List Int) (t : Int) : nth (ys ++ [t]) ys.length = t := by simp [nth]
theorem topTo_app {ys : List Int} {t : Int} (n : Nat) (h : n ≤ ys.length) : topTo (ys ++ [t]) n = topTo ys n := by
  induction n with
  | zero => rfl
  | succ n ih => unfold topTo; rw [ih (by omega), nth_app (by omega)]
theorem topTo_next (ys : List Int) (t : Int) {j : Nat} (h : ys.length = j) : topTo (ys ++ [t]) (j + 1) = max (topTo ys j) t := by
  subst h
  show max (topTo (ys ++ [t]) ys.length) (nth (ys ++ [t]) ys.length) = _
  rw [topTo_app _ (Nat.le_refl _), nth_last]

theorem OwnI.far {gs : List Nat} {w w' : World} {base : Nat} {v : Value} {xs : List Int} (h : OwnI w base v xs) (hb : ButS gs w w') (hg : ∀ g ∈ gs, g < base) : OwnI w' base v xs := by
  refine ⟨h.1, ?_⟩
  rcases h.2 with h0 | ⟨k, cap, cur, e, hk, hh, r⟩
  · exact .inl h0
  · exact .inr ⟨k, cap, cur, e, hk, (hb.other k (Array.getElem?_eq_some_iff.1 hh).1 (fun hm => by have := hg k hm; omega)).trans hh, r⟩
theorem OwnI.grew {w w' : World} {base n c : Nat} {A : Option Addr} {xs : List Int} (h : OwnI w base (.slice A n c) xs) (hs : base ≤ w.heap.size) (hg : w.grownBy w' (Value.slice A n c).ownBlock) : Below base w w' :=
  ⟨hg.os, hg.tape, hg.output, hg.size, fun i hi => hg.block i (Nat.lt_of_lt_of_le hi hs) (fun e => by
    rcases h.2 with ⟨e2, _⟩ | ⟨k, cap, cur, e2, hk, _⟩
    · rw [e2] at e; simp [Value.ownBlock] at e
    · rw [e2] at e
      have : k = i := by simpa [Value.ownBlock] using e.symm
      omega)⟩

/-- The slack, of K as the greatest difference; the law's row ys of j times. -/
structure MoS (w0 : World) (g B : Nat) (L K : Int) (ys : List Int) (j : Nat) (A : Option Addr) (rc : Nat) (w : World) : Prop where
  slk : SlK w0 g L (topTo ys j) K w
  own : OwnI w B (.slice A j rc) ys
  lg : g < B
  lB : w0.heap.size ≤ B
  lw : B ≤ w.heap.size
  len : ys.length = j
  k0 : 0 ≤ K
  t0 : -1099511627776 ≤ topTo ys j
  t1 : topTo ys j ≤ 1099511627776
  bd : ∀ q, q < j → -500 ≤ nth ys q ∧ nth ys q ≤ 523
/-- Behind See. -/
structure MoS1 (w0 : World) (g B : Nat) (L K : Int) (ys : List Int) (j : Nat) (A : Option Addr) (rc : Nat) (t : Int) (w : World) : Prop where
  slk : SlK w0 g L (max (topTo ys j) t) K w
  own : OwnI w B (.slice A j rc) ys
  lg : g < B
  lB : w0.heap.size ≤ B
  lw : B ≤ w.heap.size
  len : ys.length = j
  k0 : 0 ≤ K
  t0 : -1099511627776 ≤ topTo ys j
  t1 : topTo ys j ≤ 1099511627776
  bd : ∀ q, q < j → -500 ≤ nth ys q ∧ nth ys q ≤ 523
section
variable {w0 w w' : World} {g B j rc : Nat} {L K K2 t : Int} {ys : List Int} {A : Option Addr}
theorem MoS.see (h : MoS w0 g B L K ys j A rc w) (hw : Wrote 43 g (slC L (max (topTo ys j) t) K2) w w') (hk : K ≤ K2) : MoS1 w0 g B L K2 ys j A rc t w' :=
  ⟨h.slk.wrote hw, h.own.far hw.but (fun k hk => by rw [List.mem_singleton.1 hk]; exact h.lg), h.lg, h.lB, Nat.le_trans h.lw hw.but.size, h.len, Int.le_trans h.k0 hk, h.t0, h.t1, h.bd⟩
theorem MoS1.one (h : MoS1 w0 g B L K ys j A rc t w) (o : Obj) : MoS1 w0 g B L K ys j A rc t (w.alloc o) :=
  have hb : Below w.heap.size w (w.alloc o) := (Below.refl _ _).alloc (Nat.le_refl _) _
  ⟨h.slk.mono hb, h.own.below hb, h.lg, h.lB, Nat.le_trans h.lw hb.size, h.len, h.k0, h.t0, h.t1, h.bd⟩
theorem MoS1.next {A2 : Option Addr} {m r2 : Nat} (h : MoS1 w0 g B L K ys j A rc t w) (ht : -500 ≤ t ∧ t ≤ 523) (hm : m = j + 1) (ho : OwnI w' B (.slice A2 m r2) (ys ++ [t])) (hg : w.grownBy w' (Value.slice A j rc).ownBlock) : MoS w0 g B L K (ys ++ [t]) (j + 1) A2 r2 w' := by
  subst hm
  have hb : Below B w w' := h.own.grew h.lw hg
  have e := topTo_next ys t h.len
  have hl := h.len
  refine ⟨⟨?_, h.slk.keep.trans (hb.mono h.lB), h.slk.far⟩, ho, h.lg, h.lB, Nat.le_trans h.lw hb.size, by simp [hl], h.k0, ?_, ?_, fun q hq => ?_⟩
  · rw [e]; exact h.slk.st.below hb h.lg
  · rw [e]; have := h.t0; omega
  · rw [e]; have := h.t1; omega
  · by_cases hq2 : q < j
    · rw [nth_app (by omega)]; exact h.bd q hq2
    · obtain rfl : q = ys.length := by omega
      rw [nth_last]; exact ht
theorem MoS.start (h : SlK w0 g L (-1099511627776) 0 w) : MoS w0 g w.heap.size L 0 [] 0 none 0 w :=
  ⟨h, OwnI.nil _ _, h.st.lt, h.keep.size, Nat.le_refl _, rfl, Int.le_refl _, by decide, by decide, fun q hq => absurd hq (Nat.not_lt_zero _)⟩
end

end Go.Proofs.Ytoobkdhijfleeaa
