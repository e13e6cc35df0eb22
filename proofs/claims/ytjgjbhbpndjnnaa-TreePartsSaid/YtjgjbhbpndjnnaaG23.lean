/-
  What stays but for some blocks; the laws for drawn regions whose calls write such blocks. No program here.
  What a call leaves of all blocks but those that something owns. (Out of layer 17's texts.) No program here.
  'xs = append(xs, y)' of a row of items that the call itself made, in a walk. (Out of XIt0.)
-/
import Derived.Test.YtjgjbhbpndjnnaaHeadN
import Derived.Test.YtjgjbhbpndjnnaaG14
import Derived.Test.YtjgjbhbpndjnnaaG9
namespace Go.Proofs.Ytjgjbhbpndjnnaa
open Go.RowKit

/-- What was there stays, but for the blocks gs. -/
structure ButS (gs : List Nat) (w w' : World) : Prop where
  os : w'.os = w.os
  tape : w'.tape = w.tape
  output : w'.output = w.output
  size : w.heap.size ≤ w'.heap.size
  other : ∀ k, k < w.heap.size → k ∉ gs → w'.heap[k]? = w.heap[k]?
section
variable {gs : List Nat} {w w' w'' : World}
theorem ButS.refl (gs : List Nat) (w : World) : ButS gs w w := ⟨rfl, rfl, rfl, Nat.le_refl _, fun _ _ _ => rfl⟩
theorem ButS.trans (h : ButS gs w w') (k : ButS gs w' w'') : ButS gs w w'' := ⟨k.os.trans h.os, k.tape.trans h.tape, k.output.trans h.output, Nat.le_trans h.size k.size, fun i hi hg => (k.other i (Nat.lt_of_lt_of_le hi h.size) hg).trans (h.other i hi hg)⟩
/-- The second step may write blocks that the first one made. -/
theorem ButS.andThen (h : ButS gs w w') {hs : List Nat} (k : ButS hs w' w'') (hh : ∀ i ∈ hs, i ∈ gs ∨ w.heap.size ≤ i) : ButS gs w w'' := ⟨k.os.trans h.os, k.tape.trans h.tape, k.output.trans h.output, Nat.le_trans h.size k.size, fun i hi hg => (k.other i (Nat.lt_of_lt_of_le hi h.size) (fun e => by
  rcases hh i e with h1 | h1
  · exact hg h1
  · omega)).trans (h.other i hi hg)⟩
theorem below_butS (h : Below w.heap.size w w') (gs : List Nat) : ButS gs w w' := ⟨h.os, h.tape, h.output, h.size, fun k hk _ => h.block k hk⟩
theorem grow_butS {g : Nat} (h : w.grownBy w' (some g)) (hg : g ∈ gs) : ButS gs w w' := ⟨h.os, h.tape, h.output, h.size, fun k hk hn => h.block k hk (fun e => by injection e with e; exact hn (e ▸ hg))⟩
theorem ButS.below (h : ButS gs w w') {B : Nat} {w0 : World} (h0 : Below B w0 w) (hB : B ≤ w.heap.size) (hg : ∀ g ∈ gs, B ≤ g) : Below B w0 w' :=
  h0.trans ⟨h.os, h.tape, h.output, h.size, fun k hk => h.other k (by omega) (fun e => by have := hg k e; omega)⟩
theorem Has.butS {g : Nat} {t : TypeId} {cs : Array Value} (h : Has w g t cs) (hb : ButS gs w w') (hg : g ∉ gs) : Has w' g t cs := (hb.other g h.lt hg).trans h
end
def MonoS (gs : List Nat) (φ : Fact) : Prop := ∀ v w w', ButS gs w w' → φ v w → φ v w'
theorem isV_monoS (gs : List Nat) (v : Value) : MonoS gs (isV v) := fun _ _ _ _ h => h
theorem allS_nil (gs : List Nat) : ∀ φ ∈ ([] : List Fact), MonoS gs φ := fun _ h => by cases h
theorem allS_cons {gs : List Nat} {φ : Fact} {fs : List Fact} (h : MonoS gs φ) (hs : ∀ ψ ∈ fs, MonoS gs ψ) : ∀ ψ ∈ φ :: fs, MonoS gs ψ := fun ψ hψ => by
  rcases List.mem_cons.1 hψ with rfl | h1
  · exact h
  · exact hs ψ h1
theorem factS_at {gs : List Nat} {fs : List Fact} (h : ∀ φ ∈ fs, MonoS gs φ) (j : Nat) : MonoS gs (factAt fs j) := fun v w w' hb hf => by
  unfold factAt at hf ⊢
  by_cases hj : j < fs.length
  · have e : fs.getD j (fun _ _ => True) = fs[j] := by simp [hj]
    rw [e] at hf ⊢
    exact h _ (List.getElem_mem hj) v w w' hb hf
  · have e : fs.getD j (fun _ _ => True) = fun _ _ => True := by simp [List.getElem?_eq_none (Nat.le_of_not_lt hj)]
    rw [e]; trivial
/-- What holds at an operation: what stayed, what the blocks hold. -/
structure MI (gs : List Nat) (I : Bool → Bool → World → Prop) (w0 : World) (b1 b2 : Bool) (w : World) : Prop where
  gr : ButS gs w0 w
  st : I b1 b2 w
theorem region_two {Q : Exit → Act → World → Prop} {a0 : Act} {w0 : World} {id : Nat} {l : List Oper} {P : Program} (gs : List Nat) (I : Bool → Bool → World → Prop) (q1 q2 : Nat) (fs : List Fact) (D : List (Option Tmp)) (N n : Nat) (hn : a0.tmps.size = n) (hm : P.follows .mixedOrders = true) (hbook : bookB2 l n = true) (hD : l.map (·.dst) = D) (htail : tailB l N = true)
    (hqN : q1 < N) (hq12 : q1 < q2) (hqq : (((l[q2]?).map fun o => o.after.any fun e => Region.binds .any e && e.on == q1) == some false) = false)
    (hI : ∀ b1 b2 w w', I b1 b2 w → Below w.heap.size w w' → I b1 b2 w') (h0 : I false false w0)
    (mono : ∀ f ∈ fs, Mono f) (monoS : ∀ f ∈ fs, MonoS gs f)
    (hstep : AllOps (fun j o => ∀ (a : Act) (w : World) (b1 b2 : Bool), (j = q1 → b1 = false ∧ b2 = false) → (j = q2 → b1 = true ∧ b2 = false) → MI gs I w0 b1 b2 w → FrD (D.take N) a0 a → needs D fs a w o.after.toList → AskM P D (factAt fs j) (ButS gs) (ButS gs) (MI gs I w0) q1 q2 j o a w) 0 (l.take N))
    (hend : ∀ (a : Act) (w : World), MI gs I w0 true (decide (q2 < N)) w → FrD (D.take N) a0 a → (∀ j d, j < N → D[j]? = some d → factAt fs j (slotOf a d) w) → wpList P l.toArray Q (l.drop N) a w) :
    (Code.region id l.toArray true).wp P Q a0 w0 :=
  region_headM (ButS gs) (ButS gs) (MI gs I w0) q1 q2 fs D N n hn hm hbook hD htail (fun w => ButS.refl gs w) (fun w => ButS.refl gs w) hqN hq12 (fun e => by rw [e] at hqq; simp at hqq)
    (fun b1 b2 w w' h hb => ⟨h.gr.trans (below_butS hb gs), hI b1 b2 w w' h.st hb⟩) ⟨below_butS (Below.drew (Below.refl _ _)) gs, hI _ _ _ _ h0 (Below.drew (Below.refl _ _))⟩ mono (fun j _ => factS_at monoS j) (fun j _ => factS_at monoS j) hstep hend
theorem region_twoL {Q : Exit → Act → World → Prop} {a0 : Act} {w0 : World} {id : Nat} {l : List Oper} {P : Program} (gs : List Nat) (I : Bool → Bool → World → Prop) (q1 q2 : Nat) (fs : List Fact) (D : List (Option Tmp)) (N n : Nat) (hn : a0.tmps.size = n) (hm : P.follows .mixedOrders = true) (hbook : bookB2 l n = true) (hD : l.map (·.dst) = D) (htail : tailB l N = true) (ls : List Nat) (hlate : lateOk l (if q2 < N then q2 else q1) ls = true)
    (hqN : q1 < N) (hq12 : q1 < q2) (hqq : (((l[q2]?).map fun o => o.after.any fun e => Region.binds .any e && e.on == q1) == some false) = false)
    (hI : ∀ b1 b2 w w', I b1 b2 w → Below w.heap.size w w' → I b1 b2 w') (h0 : I false false w0)
    (mono : ∀ f ∈ fs, Mono f) (monoS : ∀ f ∈ fs, MonoS gs f)
    (hstep : AllOps (fun j o => ∀ (a : Act) (w : World) (b1 b2 : Bool), (j = q1 → b1 = false ∧ b2 = false) → (j = q2 → b1 = true ∧ b2 = false) → (j ∈ ls → b1 = true ∧ (q2 < N → b2 = true)) → MI gs I w0 b1 b2 w → FrD (D.take N) a0 a → needs D fs a w o.after.toList → AskM P D (factAt fs j) (ButS gs) (ButS gs) (MI gs I w0) q1 q2 j o a w) 0 (l.take N))
    (hend : ∀ (a : Act) (w : World), MI gs I w0 true (decide (q2 < N)) w → FrD (D.take N) a0 a → (∀ j d, j < N → D[j]? = some d → factAt fs j (slotOf a d) w) → wpList P l.toArray Q (l.drop N) a w) :
    (Code.region id l.toArray true).wp P Q a0 w0 :=
  region_headN (ButS gs) (ButS gs) (MI gs I w0) q1 q2 fs D N n hn hm hbook hD htail ls hlate (fun w => ButS.refl gs w) (fun w => ButS.refl gs w) hqN hq12 (fun e => by rw [e] at hqq; simp at hqq)
    (fun b1 b2 w w' h hb => ⟨h.gr.trans (below_butS hb gs), hI b1 b2 w w' h.st hb⟩) ⟨below_butS (Below.drew (Below.refl _ _)) gs, hI _ _ _ _ h0 (Below.drew (Below.refl _ _))⟩ mono (fun j _ => factS_at monoS j) (fun j _ => factS_at monoS j) hstep hend

end Go.Proofs.Ytjgjbhbpndjnnaa

namespace Go.Proofs.Ytjgjbhbpndjnnaa
open Go.RowKit

/-- What was there stays, but for what is owned. -/
structure ButO (O : Nat → Prop) (w w' : World) : Prop where
  os : w'.os = w.os
  tape : w'.tape = w.tape
  output : w'.output = w.output
  size : w.heap.size ≤ w'.heap.size
  other : ∀ k, k < w.heap.size → ¬ O k → w'.heap[k]? = w.heap[k]?
section
variable {O O' : Nat → Prop} {w w' w'' w1 : World}
theorem below_butO (h : Below w.heap.size w w') (O : Nat → Prop) : ButO O w w' := ⟨h.os, h.tape, h.output, h.size, fun k hk _ => h.block k hk⟩
theorem butS_butO {gs : List Nat} (h : ButS gs w w') (hg : ∀ k ∈ gs, O k) : ButO O w w' := ⟨h.os, h.tape, h.output, h.size, fun k hk hn => h.other k hk (fun e => hn (hg k e))⟩
/-- The second step may write what the first one made. -/
theorem ButO.andThen (h : ButO O w w') (k : ButO O' w' w'') (ho : ∀ i, O' i → i < w.heap.size → O i) : ButO O w w'' :=
  ⟨k.os.trans h.os, k.tape.trans h.tape, k.output.trans h.output, Nat.le_trans h.size k.size, fun i hi hn => (k.other i (Nat.lt_of_lt_of_le hi h.size) (fun e => hn (ho i e hi))).trans (h.other i hi hn)⟩
theorem ButO.below (h : ButO O w w') {B : Nat} {w0 : World} (h0 : Below B w0 w) (hB : B ≤ w.heap.size) (hO : ∀ k, O k → B ≤ k) : Below B w0 w' :=
  h0.trans ⟨h.os, h.tape, h.output, h.size, fun k hk => h.other k (by omega) (fun e => by have := hO k e; omega)⟩
theorem Has.butO {g : Nat} {t : TypeId} {cs : Array Value} (h : Has w g t cs) (hb : ButO O w w') (hg : ¬ O g) : Has w' g t cs := (hb.other g h.lt hg).trans h
end

end Go.Proofs.Ytjgjbhbpndjnnaa

namespace Go.Proofs.Ytjgjbhbpndjnnaa
open Go.RowKit

set_option maxRecDepth 100000 in
/-- 's = append(s, y)' in a walk, y laid into a new row of one first. -/
theorem app_item {ops : Array Oper} {rest : List Oper} {op : Oper} {p : Act} {w : World} {Q : Exit → Act → World → Prop} (hgd : op.guard = none) (s x : Operand)
    (ho : op.op = .call { callee := .builtin .append, args := #[s, x], argTypes := #[52, 52] })
    {base g : Nat} {v : Value} {xs : List It} {y : It} (hs : p.eval s = v) (hown : OwnIt w base v xs) (hx : p.eval x = .slice (some ⟨g, 0, none⟩) 1 1) (hg : Has w g 23 (itemL y).toArray)
    (hn : xs.length ≤ 8192) (hbase : base ≤ w.heap.size)
    (h : ∀ A c w', OwnIt w' base (.slice A (xs.length + 1) c) (xs ++ [y]) → Below base w w' → wpList Try.prog ops Q rest (p.put op.dst (.slice A (xs.length + 1) c)) w') : wpList Try.prog ops Q (op :: rest) p w := by
  obtain ⟨i0, hi, hz, hs0, hy0⟩ := info_parts Try.infoItem
  refine wpList_append_own w hgd s x 52 ho base 23 i0 _ 4 32 Try.underlying52 hi hz hs0 hy0 rfl (by omega) v xs.length (xs.flatMap itemL) hs hown ⟨g, 0, none⟩ 1 1 (itemL y) hx rfl
    (fun j u hu => ?_) (fun u hu => ?_) (by unfold maxLen; omega) (by omega) hbase (fun v' w' h1 h2 _ => ?_)
  · rw [Addr.add_mid, hg.cell, Nat.zero_add]
    simpa using hu
  · simp only [itemL, List.mem_cons, List.not_mem_nil, or_false] at hu
    rcases hu with rfl | rfl | rfl | rfl <;> rfl
  · have h3 : OwnIt w' base v' (xs ++ [y]) := by unfold OwnIt; simpa [List.flatMap_append] using h1
    obtain ⟨A, c, rfl, _⟩ := h3.form
    have e : (xs ++ [y]).length = xs.length + 1 := by simp
    rw [e] at h3 ⊢
    refine h A c w' h3 ⟨h2.os, h2.tape, h2.output, h2.size, fun k hk => h2.block k (by omega) (fun e => ?_)⟩
    have := World.ownsRow.lt hown k e.symm
    omega

end Go.Proofs.Ytjgjbhbpndjnnaa
