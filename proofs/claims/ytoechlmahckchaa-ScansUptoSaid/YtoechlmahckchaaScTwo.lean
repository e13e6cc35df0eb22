/-
  Drawn regions whose calls write scanners: what stays, facts of rows that the region makes.
-/
import Derived.Test.YtoechlmahckchaaG11m
import Derived.Test.YtoechlmahckchaaG11l
namespace Go.Proofs.Ytoechlmahckchaa
open Go.RowKit

/-- What was there stays, but for the blocks gs. -/
structure ButS (gs : List Nat) (w w' : World) : Prop where
  os : w'.os = w.os
  tape : w'.tape = w.tape
  output : w'.output = w.output
  size : w.heap.size ≤ w'.heap.size
  other : ∀ k, k < w.heap.size → k ∉ gs → w'.heap[k]? = w.heap[k]?
section
variable {gs : List Nat} {w w' w'' : World}
theorem ButS.refl (gs : List Nat) (w : World) : ButS gs w w := ⟨rfl, rfl, rfl, Nat.le_refl _, fun _ _ _ => rfl⟩
theorem ButS.trans (h : ButS gs w w') (k : ButS gs w' w'') : ButS gs w w'' := ⟨k.os.trans h.os, k.tape.trans h.tape, k.output.trans h.output, Nat.le_trans h.size k.size, fun i hi hg => (k.other i (Nat.lt_of_lt_of_le hi h.size) hg).trans (h.other i hi hg)⟩
theorem below_butS (h : Below w.heap.size w w') (gs : List Nat) : ButS gs w w' := ⟨h.os, h.tape, h.output, h.size, fun k hk _ => h.block k hk⟩
theorem grow_butS {g : Nat} (h : w.grownBy w' (some g)) (hg : g ∈ gs) : ButS gs w w' := ⟨h.os, h.tape, h.output, h.size, fun k hk hn => h.block k hk (fun e => by injection e with e; exact hn (e ▸ hg))⟩
theorem ButS.below (h : ButS gs w w') {B : Nat} {w0 : World} (h0 : Below B w0 w) (hB : B ≤ w.heap.size) (hg : ∀ g ∈ gs, B ≤ g) : Below B w0 w' :=
  h0.trans ⟨h.os, h.tape, h.output, h.size, fun k hk => h.other k (by omega) (fun e => by have := hg k e; omega)⟩
theorem Has.butS {g : Nat} {t : TypeId} {cs : Array Value} (h : Has w g t cs) (hb : ButS gs w w') (hg : g ∉ gs) : Has w' g t cs := (hb.other g h.lt hg).trans h
theorem Ops.butS {A : Option Addr} {n : Nat} {xs : List Po} (h : Ops w A n xs) (hb : ButS gs w w') (hne : ∀ ad, A = some ad → ad.block ∉ gs) : Ops w' A n xs :=
  ⟨h.1, fun hn => by
    obtain ⟨b, o, rfl, hi⟩ := h.2 hn
    exact ⟨b, o, rfl, fun i hlt => range_keepO (hi i hlt) (hb.other b (range_lt (hi i hlt)) (hne _ rfl))⟩⟩
theorem OwnO.butS {base : Nat} {v : Value} {xs : List Po} (h : OwnO w base v xs) (hb : ButS gs w w') (hne : ∀ k, v.ownBlock = some k → k ∉ gs) : OwnO w' base v xs := by
  refine ⟨h.1, ?_⟩
  rcases h.2 with h0 | ⟨g, cap, cur, e, hg, hh, r⟩
  · exact .inl h0
  · refine .inr ⟨g, cap, cur, e, hg, ?_, r⟩
    rw [hb.other g (Array.getElem?_eq_some_iff.1 hh).1 (hne g (by rw [e]; rfl))]
    exact hh
end
def MonoS (gs : List Nat) (φ : Fact) : Prop := ∀ v w w', ButS gs w w' → φ v w → φ v w'
/-- A row of n operations that is written out, in a block behind B. -/
def rowsG (B n : Nat) (xs : List Po) : Fact := fun v w => ∃ h : Nat, v = .slice (some ⟨h, 0, none⟩) n n ∧ B ≤ h ∧ Ops w (some ⟨h, 0, none⟩) n xs
theorem rowsG_mono (B n : Nat) (xs : List Po) : Mono (rowsG B n xs) := fun _ _ _ hb ⟨h, e, hB, hh⟩ => ⟨h, e, hB, hh.below hb⟩
theorem rf_list1G {D : List (Option Tmp)} {Φ : Fact} {o : Oper} {a : Act} {w : World} (hw : Region.wanted o (yieldD D a.tmps) = true) {t : Tmp} (hd : o.dst = some t) (x : Operand) (ho : o.op = .buildSlice 34 1 #[(0, x)]) (y : Po) (hx : a.eval x = .agg #[.int .i64 y.k, .int .i64 y.so, .int .i64 y.se, .int .i64 y.ti, .int .i64 y.va]) {B : Nat} (hB : B ≤ w.heap.size)
    (h : ∀ v w', rowsG B 1 [y] v w' → Φ v w') : StepD Try.prog D Φ o a w :=
  step_oneO hw hd x ho y hx (fun w' _ hh => h _ w' ⟨_, rfl, hB, Ops.one hh rfl⟩)
section
variable {gs : List Nat} {B : Nat} (hg : ∀ g ∈ gs, g < B)
theorem isV_monoS (gs : List Nat) (v : Value) : MonoS gs (isV v) := fun _ _ _ _ h => h
include hg
theorem rowsG_monoS (n : Nat) (xs : List Po) : MonoS gs (rowsG B n xs) := fun _ _ _ hb ⟨h, e, hB, hh⟩ => ⟨h, e, hB, hh.butS hb (fun ad he hm => by injection he with he; subst he; have := hg _ hm; simp only at this; omega)⟩
theorem rowF_monoS (m : Nat) (os : List Po) : MonoS gs (rowF B m os) := fun _ _ _ hb ⟨A, c, e, h⟩ => ⟨A, c, e, h.butS hb (fun k hk hm => by have := (h.lt hk).2; have := hg k hm; omega)⟩
end
theorem allS_nil (gs : List Nat) : ∀ φ ∈ ([] : List Fact), MonoS gs φ := fun _ h => by cases h
theorem allS_cons {gs : List Nat} {φ : Fact} {fs : List Fact} (h : MonoS gs φ) (hs : ∀ ψ ∈ fs, MonoS gs ψ) : ∀ ψ ∈ φ :: fs, MonoS gs ψ := fun ψ hψ => by
  rcases List.mem_cons.1 hψ with rfl | h1
  · exact h
  · exact hs ψ h1
theorem factS_at {gs : List Nat} {fs : List Fact} (h : ∀ φ ∈ fs, MonoS gs φ) (j : Nat) : MonoS gs (factAt fs j) := fun v w w' hb hf => by
  unfold factAt at hf ⊢
  by_cases hj : j < fs.length
  · have e : fs.getD j (fun _ _ => True) = fs[j] := by simp [hj]
    rw [e] at hf ⊢
    exact h _ (List.getElem_mem hj) v w w' hb hf
  · have e : fs.getD j (fun _ _ => True) = fun _ _ => True := by simp [List.getElem?_eq_none (Nat.le_of_not_lt hj)]
    rw [e]; trivial
/-- What holds at an operation: what stayed, what the scanners hold. -/
structure MI (gs : List Nat) (I : Bool → Bool → World → Prop) (w0 : World) (b1 b2 : Bool) (w : World) : Prop where
  gr : ButS gs w0 w
  st : I b1 b2 w
theorem region_two {Q : Exit → Act → World → Prop} {a0 : Act} {w0 : World} {id : Nat} {l : List Oper} (gs : List Nat) (I : Bool → Bool → World → Prop) (q1 q2 : Nat) (fs : List Fact) (D : List (Option Tmp)) (N n : Nat) (hn : a0.tmps.size = n) (hm : Try.prog.follows .mixedOrders = true) (hbook : bookB2 l n = true) (hD : l.map (·.dst) = D) (htail : tailB l N = true)
    (hqN : q1 < N) (hq12 : q1 < q2) (hqq : (((l[q2]?).map fun o => o.after.any fun e => Region.binds .any e && e.on == q1) == some false) = false)
    (hI : ∀ b1 b2 w w', I b1 b2 w → Below w.heap.size w w' → I b1 b2 w') (h0 : I false false w0)
    (mono : ∀ f ∈ fs, Mono f) (monoS : ∀ f ∈ fs, MonoS gs f)
    (hstep : AllOps (fun j o => ∀ (a : Act) (w : World) (b1 b2 : Bool), (j = q1 → b1 = false ∧ b2 = false) → (j = q2 → b1 = true ∧ b2 = false) → MI gs I w0 b1 b2 w → FrD (D.take N) a0 a → needs D fs a w o.after.toList → AskM Try.prog D (factAt fs j) (ButS gs) (ButS gs) (MI gs I w0) q1 q2 j o a w) 0 (l.take N))
    (hend : ∀ (a : Act) (w : World), MI gs I w0 true (decide (q2 < N)) w → FrD (D.take N) a0 a → (∀ j d, j < N → D[j]? = some d → factAt fs j (slotOf a d) w) → wpList Try.prog l.toArray Q (l.drop N) a w) :
    (Code.region id l.toArray true).wp Try.prog Q a0 w0 :=
  region_headM (ButS gs) (ButS gs) (MI gs I w0) q1 q2 fs D N n hn hm hbook hD htail (fun w => ButS.refl gs w) (fun w => ButS.refl gs w) hqN hq12 (fun e => by rw [e] at hqq; simp at hqq)
    (fun b1 b2 w w' h hb => ⟨h.gr.trans (below_butS hb gs), hI b1 b2 w w' h.st hb⟩) ⟨below_butS (Below.drew (Below.refl _ _)) gs, hI _ _ _ _ h0 (Below.drew (Below.refl _ _))⟩ mono (fun j _ => factS_at monoS j) (fun j _ => factS_at monoS j) hstep hend
/-- The call of a scanner that writes, in such a region. -/
theorem stepL_wrote {gs : List Nat} {D : List (Option Tmp)} {Φ : Fact} {I : Bool → Bool → World → Prop} {w0 : World} {c1 c2 b1 b2 : Bool} {o : Oper} {a : Act} {w : World} (hw : Region.wanted o (yieldD D a.tmps) = true) {t : Tmp} (hd : o.dst = some t) (f : FuncId) (args : Array Value) (hrun : (execOp a.eval o).run Try.prog w = .ok (.enter f args) w)
    {g : Nat} {R : TypeId} {os : List Po} {r : List UInt8} {b : Nat} (hI : MI gs I w0 b1 b2 w) (hg : g ∈ gs) (hc : Calls Try.prog f args w fun e w' => WroteO g R os r b e w w')
    (hst : ∀ w', Has w' g R (scC r b) → w.grownBy w' (some g) → I c1 c2 w') (h : ∀ (A : Option Addr) (c : Nat) w', OwnO w' w0.heap.size (.slice A os.length c) os → Φ (.slice A os.length c) w') : StepL Try.prog D Φ (ButS gs) (MI gs I w0 c1 c2) o a w :=
  stepL_call hw hd f args hrun (hc.mono fun _ w' ⟨A, c, he, ho, hs, hgr⟩ => ⟨_, he, grow_butS hgr hg, ⟨hI.gr.trans (grow_butS hgr hg), hst w' hs hgr⟩, h A c w' (ho.mono hI.gr.size)⟩)

end Go.Proofs.Ytoechlmahckchaa
