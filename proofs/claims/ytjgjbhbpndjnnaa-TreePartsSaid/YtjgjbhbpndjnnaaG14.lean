/-
  What an argument that came in looks like: a slice of integers. No program's own steps here.
  The law of XAny once more, where an edge that does not bind may look ahead. No program here.
-/
import Derived.Test.YtjgjbhbpndjnnaaProg
import Derived.Test.YtjgjbhbpndjnnaaG0
import Derived.ProofKit
import Derived.OpenShut
import Derived.ChangeOld
import Derived.Lib.SmallJoins
import Derived.Test.YtjgjbhbpndjnnaaG2
namespace Go.Proofs.Ytjgjbhbpndjnnaa
open Go.ChangeShapes Go.WideShapes Go.ChangeAt Go.RowKit Go.Joins Go.Deep

theorem spot_G {w : World} {x : Addr} {v : Value} (h : w.cell? x = some v) : x.spot = none := by
  unfold World.cell? at h
  split at h
  · cases e : x.spot with
    | none => rfl
    | some y => rw [e] at h; simp at h
  · cases h
/-- A slice of integers that came in. -/
theorem open_intsG {H : Type} {enc : TypeId × Value → H} {W : World} {base : Nat} {sp : Nat → Bool} {d : DataW H} {p : List MemPlace} {a : Option Addr} {len cap : Nat} (h : DataW.Trod enc Try.prog W base sp true 25 (.slice a len cap) d p) (hsp : ∀ b, sp b = true) :
    ∃ xs : List Int, Ints W a len xs ∧ len ≤ maxLen ∧ ∀ x ∈ xs, (Lit.int .i64 x).wf = true := by
  obtain ⟨fuel, hf⟩ := h
  rcases open_ints Try.underlying25 Try.underlying3 (by kernel_rfl) hf with ⟨hcs, _⟩ | ⟨x, l, c, zs, hcs, _, hl, hm, hz, _, hcell, hwz⟩
  · simp [Value.cells] at hcs
    obtain ⟨rfl, rfl, rfl⟩ := hcs
    exact ⟨[], Ints.nil, Nat.zero_le _, fun _ h => by cases h⟩
  · simp [Value.cells] at hcs
    obtain ⟨rfl, rfl, rfl⟩ := hcs
    have hz' : zs.length = cap := by rw [hz, if_pos (hsp _)]
    refine ⟨zs.take len, ⟨by simp only [List.length_take]; omega, fun hn => ⟨x.block, x.off, ?_, fun k hk => ?_⟩⟩, by omega, fun y hy => hwz y (List.mem_of_mem_take hy)⟩
    · have h0 := hcell 0 (by omega)
      have hs := spot_G h0
      simp only [Addr.add, if_true] at hs
      obtain ⟨b, o, s⟩ := x
      simp only at hs
      rw [hs]
    · have h1 := hcell k (by omega)
      have e : x.add k = ⟨x.block, x.off + k, none⟩ := by
        have hs := spot_G (hcell 0 (by omega))
        simp only [Addr.add, if_true] at hs
        obtain ⟨b, o, s⟩ := x
        simp only at hs
        subst hs
        by_cases h : k = 0
        · subst h; rfl
        · simp [Addr.add, h]
      rw [e] at h1
      rw [h1]
      have hk2 : k < zs.length := by omega
      simp [nth, hk, hk2]

end Go.Proofs.Ytjgjbhbpndjnnaa

namespace Go.Proofs.Ytjgjbhbpndjnnaa
open Go.RowKit

section
variable {P : Program} {ops : Array Oper} {Q : Exit → Act → World → Prop} {a0 : Act} {w0 : World} {Φ : Nat → Value → World → Prop}

theorem any_inv2 (hback : ∀ (j : Nat) (o : Oper), ops[j]? = some o → ∀ e ∈ o.after, Region.binds .any e = true → e.on < j)
    (hdst : ∀ (i j : Nat) (oi oj : Oper) (t : Tmp), ops[i]? = some oi → ops[j]? = some oj → oi.dst = some t → oj.dst = some t → i = j)
    (hsz : ∀ (j : Nat) (o : Oper) (t : Tmp), ops[j]? = some o → o.dst = some t → t < a0.tmps.size)
    (mono : ∀ (j : Nat) (v : Value) (w w' : World), Below w.heap.size w w' → Φ j v w → Φ j v w')
    (hstep : ∀ (j : Nat) (o : Oper), ops[j]? = some o → ∀ (a : Act) (w : World), Below w0.heap.size w0 w → Fr ops a0 a → (∀ e ∈ o.after, Region.binds .any e = true → ∀ (oe : Oper), ops[e.on]? = some oe → Φ e.on (slotOf a oe.dst) w) → StepOk P ops Q Φ j o a w)
    (hend : ∀ (a : Act) (w : World), Below w0.heap.size w0 w → Fr ops a0 a → (∀ (j : Nat) (o : Oper), ops[j]? = some o → Φ j (slotOf a o.dst) w) → Q .normal a w) :
    ∀ (fuel : Nat) (listed : Array Bool) (a : Act) (w : World), listed.size = ops.size → Below w0.heap.size w0 w → Fr ops a0 a →
      (∀ (j : Nat) (o : Oper), ops[j]? = some o → listed.getD j false = true → Φ j (slotOf a o.dst) w) →
      (listed.toList.filter (fun b => !b)).length ≤ fuel → wpAny P .any ops Q fuel listed a w := by
  have hall : ∀ (listed : Array Bool), listed.size = ops.size → Region.ready .any ops listed = [] → ∀ (j : Nat) (o : Oper), ops[j]? = some o → listed.getD j false = true := by
    intro listed hl hr j
    induction j using Nat.strongRecOn with
    | _ j ih =>
      intro o ho
      by_cases hf : listed.getD j true = false
      · have : j ∈ Region.ready .any ops listed := mem_ready.2 ⟨hf, o, ho, fun e he hbd => by
          have hlt := hback j o ho e he hbd
          have hj : j < ops.size := (Array.getElem?_eq_some_iff.1 ho).1
          exact ih e.on hlt ops[e.on] (Array.getElem?_eq_getElem (by omega))⟩
        rw [hr] at this
        cases this
      · have hj : j < listed.size := by rw [hl]; exact (Array.getElem?_eq_some_iff.1 ho).1
        simpa [Array.getD, hj] using hf
  intro fuel
  induction fuel with
  | zero =>
    intro listed a w hl hB hF hfacts hcount
    have hr : Region.ready .any ops listed = [] := by
      apply List.eq_nil_iff_forall_not_mem.2
      intro j hj
      obtain ⟨h0, o, ho, _⟩ := mem_ready.1 hj
      have hjl : j < listed.size := by rw [hl]; exact (Array.getElem?_eq_some_iff.1 ho).1
      have hm : listed[j] = false := by simpa [Array.getD, hjl] using h0
      have : false ∈ listed.toList.filter (fun b => !b) := List.mem_filter.2 ⟨by rw [← hm]; simp, rfl⟩
      have hpos := List.length_pos_of_mem this
      omega
    exact ⟨hr, hend a w hB hF fun j o ho => hfacts j o ho (hall listed hl hr j o ho)⟩
  | succ fuel ih =>
    intro listed a w hl hB hF hfacts hcount
    refine ⟨fun hr => hend a w hB hF fun j o ho => hfacts j o ho (hall listed hl hr j o ho), fun i hi => ?_⟩
    obtain ⟨h0, o, ho, hdeps⟩ := mem_ready.1 hi
    have hil : i < listed.size := by rw [hl]; exact (Array.getElem?_eq_some_iff.1 ho).1
    have hm : listed[i] = false := by simpa [Array.getD, hil] using h0
    have hst := hstep i o ho a w hB hF fun e he hb oe hoe => hfacts e.on oe hoe (hdeps e he hb)
    -- what holds behind the operation
    have next : ∀ v w', (o.dst = none → v = undef) → Below w.heap.size w w' → Φ i v w' → wpAny P .any ops Q fuel (listed.setIfInBounds i true) (a.put o.dst v) w' := by
      intro v w' hv hb hΦ
      refine ih _ _ _ (by simpa using hl) (hB.trans (hb.mono hB.size)) ⟨?_, ?_, ?_⟩ ?_ ?_
      · cases hd : o.dst <;> simpa [Act.put] using hF.defers
      · cases hd : o.dst <;> simpa [Act.put] using hF.size
      · intro s hs
        rw [← hF.other s hs]
        cases hd : o.dst with
        | none => rfl
        | some t =>
          have hne : t ≠ s := fun e => hs i o ho (by rw [hd, e])
          simp [Act.put, hne]
      · intro j oj hoj hlj
        by_cases e : i = j
        · subst e
          obtain rfl : o = oj := by rw [ho] at hoj; exact Option.some.inj hoj
          cases hd : o.dst with
          | none => rw [hv hd] at hΦ; exact hΦ
          | some t => rw [slot_put_same _ _ (by rw [hF.size]; exact hsz i o t ho hd)]; exact hΦ
        · rw [slot_put_far _ _ fun t hjt hit => e (hdst i j o oj t ho hoj hit hjt)]
          refine mono j _ w w' hb (hfacts j oj hoj ?_)
          have hjl : j < listed.size := by rw [hl]; exact (Array.getElem?_eq_some_iff.1 hoj).1
          simpa [Array.getD, hjl, Array.getElem_setIfInBounds, e] using hlj
      · have hcnt : ((listed.setIfInBounds i true).toList.filter (fun b => !b)).length < (listed.toList.filter (fun b => !b)).length := by
          rw [Array.toList_setIfInBounds]
          exact count_set _ i (by simpa [hil] using hm)
        omega
    unfold wpOp
    rw [ho]
    unfold StepOk at hst
    by_cases hw : Region.wanted o (yielded ops a.tmps) = true
    · simp only [hw, if_true] at hst ⊢
      refine .inl (Oper.wp_mono (fun a' w' ⟨v, e, hv, hb, hΦ⟩ => ?_) hst)
      rw [e]
      exact next v w' hv hb hΦ
    · simp only [hw] at hst ⊢
      exact next undef w (fun _ => rfl) (Below.refl _ _) hst
/-- THE LAW. -/
theorem region_any2 {id : Nat} (hm : P.follows .mixedOrders = true) (hback : ∀ (j : Nat) (o : Oper), ops[j]? = some o → ∀ e ∈ o.after, Region.binds .any e = true → e.on < j)
    (hdst : ∀ (i j : Nat) (oi oj : Oper) (t : Tmp), ops[i]? = some oi → ops[j]? = some oj → oi.dst = some t → oj.dst = some t → i = j)
    (hsz : ∀ (j : Nat) (o : Oper) (t : Tmp), ops[j]? = some o → o.dst = some t → t < a0.tmps.size)
    (mono : ∀ (j : Nat) (v : Value) (w w' : World), Below w.heap.size w w' → Φ j v w → Φ j v w')
    (hstep : ∀ (j : Nat) (o : Oper), ops[j]? = some o → ∀ (a : Act) (w : World), Below w0.heap.size w0 w → Fr ops a0 a → (∀ e ∈ o.after, Region.binds .any e = true → ∀ (oe : Oper), ops[e.on]? = some oe → Φ e.on (slotOf a oe.dst) w) → StepOk P ops Q Φ j o a w)
    (hend : ∀ (a : Act) (w : World), Below w0.heap.size w0 w → Fr ops a0 a → (∀ (j : Nat) (o : Oper), ops[j]? = some o → Φ j (slotOf a o.dst) w) → Q .normal a w) :
    (Code.region id ops true).wp P Q a0 w0 :=
  wp_region_any hm (any_inv2 hback hdst hsz mono hstep hend ops.size _ a0 _ (by simp) (Below.drew (Below.refl _ _)) ⟨rfl, rfl, fun _ _ => rfl⟩
    (fun j o ho h => by
      have hj : j < ops.size := (Array.getElem?_eq_some_iff.1 ho).1
      simp [Array.getD, hj] at h)
    (Nat.le_trans (List.length_filter_le _ _) (by simp)))
end

def backB3 : Nat → List Oper → Bool
  | _, [] => true
  | j, o :: r => o.after.all (fun e => !Region.binds .any e || decide (e.on < j)) && backB3 (j + 1) r
def bookB3 (l : List Oper) (n : Nat) : Bool := backB3 0 l && nodupB (dstsOf l) && (dstsOf l).all (fun t => decide (t < n))
theorem backB3_at {l : List Oper} {k : Nat} (h : backB3 k l = true) {j : Nat} {o : Oper} (ho : l[j]? = some o) : ∀ e ∈ o.after, Region.binds .any e = true → e.on < k + j := by
  induction l generalizing k j with
  | nil => simp at ho
  | cons p r ih =>
    simp only [backB3, Bool.and_eq_true] at h
    cases j with
    | zero =>
      obtain rfl : p = o := by simpa using ho
      intro e he hb
      have := Array.all_eq_true_iff_forall_mem.1 h.1 e he
      simpa [hb] using this
    | succ j =>
      intro e he hb
      have := ih h.2 (j := j) (by simpa using ho) e he hb
      omega

theorem region_facts2 {P : Program} {Q : Exit → Act → World → Prop} {a0 : Act} {w0 : World} {id : Nat} {l : List Oper} (fs : List Fact) (D : List (Option Tmp)) (n : Nat) (hn : a0.tmps.size = n) (hm : P.follows .mixedOrders = true) (hbook : bookB3 l n = true) (hD : l.map (·.dst) = D)
    (mono : ∀ f ∈ fs, Mono f)
    (hstep : AllOps (fun j o => ∀ (a : Act) (w : World), Below w0.heap.size w0 w → FrD D a0 a → needs D fs a w o.after.toList → StepD P D (factAt fs j) o a w) 0 l)
    (hend : ∀ (a : Act) (w : World), Below w0.heap.size w0 w → FrD D a0 a → (∀ j d, D[j]? = some d → factAt fs j (slotOf a d) w) → Q .normal a w) :
    (Code.region id l.toArray true).wp P Q a0 w0 := by
  subst hn
  simp only [bookB3, Bool.and_eq_true] at hbook
  obtain ⟨⟨h1, h2⟩, h3⟩ := hbook
  have hfr : ∀ a, Fr l.toArray a0 a → FrD D a0 a := fun a h => ⟨h.defers, h.size, fun s hs => h.other s fun j o ho hd => by
    have : D.contains (some s) = true := by
      rw [← hD, List.contains_iff_mem, ← hd]
      exact List.mem_map.2 ⟨o, List.mem_of_getElem? (by simpa using ho), rfl⟩
    rw [hs] at this; cases this⟩
  have hslot : ∀ (i : Nat) (oe : Oper), l[i]? = some oe → (D[i]?).join = oe.dst := fun i oe h => by rw [← hD]; simp [h]
  have k1 : ∀ (j : Nat) (o : Oper), l.toArray[j]? = some o → ∀ e ∈ o.after, Region.binds .any e = true → e.on < j := fun j o ho e he hb => by
    have := backB3_at h1 (j := j) (by simpa using ho) e he hb
    omega
  have k2 : ∀ (i j : Nat) (oi oj : Oper) (t : Tmp), l.toArray[i]? = some oi → l.toArray[j]? = some oj → oi.dst = some t → oj.dst = some t → i = j := fun i j oi oj t hi hj hti htj =>
    dsts_apart h2 (by simpa using hi) (by simpa using hj) hti htj
  have k3 : ∀ (j : Nat) (o : Oper) (t : Tmp), l.toArray[j]? = some o → o.dst = some t → t < a0.tmps.size := fun j o t ho ht => by
    have := List.all_eq_true.1 h3 t (mem_dsts (j := j) (by simpa using ho) ht)
    simpa using this
  have k4 : ∀ (j : Nat) (v : Value) (w w' : World), Below w.heap.size w w' → factAt fs j v w → factAt fs j v w' := fun j v w w' hb h => by
    unfold factAt at h ⊢
    by_cases hj : j < fs.length
    · have e : fs.getD j (fun _ _ => True) = fs[j] := by simp [hj]
      rw [e] at h ⊢
      exact mono _ (List.getElem_mem hj) v w w' hb h
    · have e : fs.getD j (fun _ _ => True) = fun _ _ => True := by simp [List.getElem?_eq_none (Nat.le_of_not_lt hj)]
      rw [e]; trivial
  have k5 : ∀ (j : Nat) (o : Oper), l.toArray[j]? = some o → ∀ (a : Act) (w : World), Below w0.heap.size w0 w → Fr l.toArray a0 a → (∀ e ∈ o.after, Region.binds .any e = true → ∀ (oe : Oper), l.toArray[e.on]? = some oe → factAt fs e.on (slotOf a oe.dst) w) → StepOk P l.toArray Q (factAt fs) j o a w := fun j o ho a w hB hF hd => by
    have hs := allOps_at hstep (j := j) (by simpa using ho)
    rw [Nat.zero_add] at hs
    have hlt := backB3_at h1 (j := j) (by simpa using ho)
    have hj : j < l.length := by
      have := (Array.getElem?_eq_some_iff.1 ho).1
      simpa using this
    have hs' := hs a w hB (hfr a hF) (needs_of _ fun e he hb => by
      have he' : e ∈ o.after := by simpa using he
      have hl : e.on < l.length := by have := hlt e he' hb; omega
      rw [hslot e.on l[e.on] (List.getElem?_eq_getElem hl)]
      exact hd e he' hb l[e.on] (by simp [hl])) Q
    unfold StepOk
    have ey : yielded l.toArray a.tmps = yieldD D a.tmps := funext fun i => yielded_D hD a.tmps i
    rw [ey]
    exact hs'
  have k6 : ∀ (a : Act) (w : World), Below w0.heap.size w0 w → Fr l.toArray a0 a → (∀ (j : Nat) (o : Oper), l.toArray[j]? = some o → factAt fs j (slotOf a o.dst) w) → Q .normal a w := fun a w hB hF h => hend a w hB (hfr a hF) fun j d hjd => by
    rw [← hD, List.getElem?_map] at hjd
    obtain ⟨o, ho, rfl⟩ := Option.map_eq_some_iff.1 hjd
    exact h j o (by simpa using ho)
  exact region_any2 hm k1 k2 k3 k4 k5 k6

end Go.Proofs.Ytjgjbhbpndjnnaa
