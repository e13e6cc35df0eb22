/-
  The law for regions with a head and a tail, where an edge that does not bind may look ahead. No program here.
  The law for regions with a head and a tail, where one operation of the head (number q) may write what was there before: I tells what holds of the world, before q and behind it; K what each operation leaves. No program here.
-/
import Derived.Test.YtbpaepkcchpmbaaGreatG1
namespace Go.Proofs.YtbpaepkcchpmbaaGreat
open Go.RowKit

def backB2 : Nat → List Oper → Bool
  | _, [] => true
  | j, o :: r => o.after.all (fun e => !Region.binds .any e || decide (e.on < j)) && backB2 (j + 1) r
def bookB2 (l : List Oper) (n : Nat) : Bool := backB2 0 l && nodupB (dstsOf l) && (dstsOf l).all (fun t => decide (t < n))
theorem backB2_at {l : List Oper} {k : Nat} (h : backB2 k l = true) {j : Nat} {o : Oper} (ho : l[j]? = some o) : ∀ e ∈ o.after, Region.binds .any e = true → e.on < k + j := by
  induction l generalizing k j with
  | nil => simp at ho
  | cons p r ih =>
    simp only [backB2, Bool.and_eq_true] at h
    cases j with
    | zero =>
      obtain rfl : p = o := by simpa using ho
      intro e he hb
      have := Array.all_eq_true_iff_forall_mem.1 h.1 e he
      rw [hb] at this
      simpa using this
    | succ j =>
      intro e he hb
      have := ih h.2 (j := j) (by simpa using ho) e he hb
      omega

section
variable {P : Program} {ops : Array Oper} {Q : Exit → Act → World → Prop} {a0 : Act} {w0 : World} {Φ : Nat → Value → World → Prop} {N : Nat}
theorem head_inv2 (hback : ∀ (j : Nat) (o : Oper), ops[j]? = some o → ∀ e ∈ o.after, Region.binds .any e = true → e.on < j)
    (hdst : ∀ (i j : Nat) (oi oj : Oper) (t : Tmp), ops[i]? = some oi → ops[j]? = some oj → oi.dst = some t → oj.dst = some t → i = j)
    (hsz : ∀ (j : Nat) (o : Oper) (t : Tmp), ops[j]? = some o → o.dst = some t → t < a0.tmps.size)
    (mono : ∀ (j : Nat) (v : Value) (w w' : World), Below w.heap.size w w' → Φ j v w → Φ j v w')
    (hn : N < ops.size) (hsink : Region.sinkB .any ops N = true) (hchain : Region.chainB .any ops N = true) (hseq : Region.seqB .any ops (ops.size - N) N (canonL ops.size N) = true)
    (hstep : ∀ (j : Nat) (o : Oper), j < N → ops[j]? = some o → ∀ (a : Act) (w : World), Below w0.heap.size w0 w → FrN ops N a0 a → (∀ e ∈ o.after, Region.binds .any e = true → ∀ (oe : Oper), ops[e.on]? = some oe → Φ e.on (slotOf a oe.dst) w) → StepOk P ops Q Φ j o a w)
    (hend : ∀ (a : Act) (w : World), Below w0.heap.size w0 w → FrN ops N a0 a → (∀ (j : Nat) (o : Oper), j < N → ops[j]? = some o → Φ j (slotOf a o.dst) w) → wpList P ops Q (ops.toList.drop N) a w) :
    ∀ (fuel : Nat) (listed : Array Bool) (a : Act) (w : World), HeadInv .any ops N listed → Below w0.heap.size w0 w → FrN ops N a0 a →
      (∀ (j : Nat) (o : Oper), j < N → ops[j]? = some o → listed.getD j false = true → Φ j (slotOf a o.dst) w) →
      (listed.toList.filter (fun b => !b)).length = fuel → wpAny P .any ops Q fuel listed a w := by
  intro fuel
  induction fuel with
  | zero =>
    intro listed a w inv hB hF hfacts hcount
    exfalso
    have h1 := inv.tail N (Nat.le_refl _) hn
    have hjl : N < listed.size := by rw [inv.size]; exact hn
    have hm : listed[N] = false := by simpa [Array.getD, hjl] using h1
    have : false ∈ listed.toList.filter (fun b => !b) := List.mem_filter.2 ⟨by rw [← hm]; simp, rfl⟩
    have hpos := List.length_pos_of_mem this
    omega
  | succ fuel ih =>
    intro listed a w inv hB hF hfacts hcount
    by_cases hall : ∀ j, j < N → listed.getD j false = true
    · have e := canon_eq (Nat.le_of_lt hn) inv.size hall inv.tail
      have hc := canon_count ops.size N
      rw [← e, hcount] at hc
      have hl : (ops.toList.drop N).length = fuel + 1 := by simp; omega
      rw [← hl]
      refine wpAny_of_seq (ops.toList.drop N) N listed a w (fun j => by simp) ?_ (hend a w hB hF fun j o hj ho => hfacts j o hj ho (hall j hj))
      rw [hl, e, hc]
      exact hseq
    · obtain ⟨i, hiN, hif⟩ : ∃ i, i < N ∧ listed.getD i true = false := by
        apply Classical.byContradiction
        intro hno
        apply hall
        intro j hj
        have hjl : j < listed.size := by rw [inv.size]; omega
        cases h : listed.getD j false with
        | true => rfl
        | false => exact absurd ⟨j, hj, getD_in hjl h⟩ hno
      have hlow : ∀ t, t ∈ Region.ready .any ops listed → t < N := fun t ht => by
        rcases Nat.lt_or_ge t N with h | h
        · exact h
        · exact absurd ht (tail_waits hsink hchain hn inv _ i rfl hiN hif t h)
      have hne : Region.ready .any ops listed ≠ [] := by
        intro hr
        have hall2 : ∀ j, j < ops.size → listed.getD j false = true := by
          intro j
          induction j using Nat.strongRecOn with
          | _ j ih2 =>
            intro hj
            cases h : listed.getD j false with
            | true => rfl
            | false =>
              have hjl : j < listed.size := by rw [inv.size]; exact hj
              have : j ∈ Region.ready .any ops listed := mem_ready.2 ⟨getD_in hjl h, ops[j], Array.getElem?_eq_getElem hj, fun e he hbd => by
                have hlt := hback j _ (Array.getElem?_eq_getElem hj) e he hbd
                exact ih2 e.on hlt (by omega)⟩
              rw [hr] at this
              cases this
        have := hall2 i (by omega)
        rw [getD_both hif] at this
        cases this
      refine ⟨fun hr => absurd hr hne, fun j hj => ?_⟩
      have hjN := hlow j hj
      obtain ⟨h0, o, ho, hdeps⟩ := mem_ready.1 hj
      have hil : j < listed.size := by rw [inv.size]; omega
      have hm : listed[j] = false := by simpa [Array.getD, hil] using h0
      have hst := hstep j o hjN ho a w hB hF fun e he hb oe hoe => hfacts e.on oe (by have := hback j o ho e he hb; omega) hoe (hdeps e he hb)
      have next : ∀ v w', (o.dst = none → v = undef) → Below w.heap.size w w' → Φ j v w' → wpAny P .any ops Q fuel (listed.setIfInBounds j true) (a.put o.dst v) w' := by
        intro v w' hv hb hΦ
        refine ih _ _ _ (inv.set hj hjN) (hB.trans (hb.mono hB.size)) ⟨?_, ?_, ?_⟩ ?_ ?_
        · cases hd : o.dst <;> simpa [Act.put] using hF.defers
        · cases hd : o.dst <;> simpa [Act.put] using hF.size
        · intro s hs
          rw [← hF.other s hs]
          cases hd : o.dst with
          | none => rfl
          | some t =>
            have hne : t ≠ s := fun e => hs j o hjN ho (by rw [hd, e])
            simp [Act.put, hne]
        · intro k ok hk hok hlk
          by_cases e : j = k
          · subst e
            obtain rfl : o = ok := by rw [ho] at hok; exact Option.some.inj hok
            cases hd : o.dst with
            | none => rw [hv hd] at hΦ; exact hΦ
            | some t => rw [slot_put_same _ _ (by rw [hF.size]; exact hsz j o t ho hd)]; exact hΦ
          · rw [slot_put_far _ _ fun t hjt hit => e (hdst j k o ok t ho hok hit hjt)]
            refine mono k _ w w' hb (hfacts k ok hk hok ?_)
            have hkl : k < listed.size := by rw [inv.size]; omega
            simpa [Array.getD, hkl, Array.getElem_setIfInBounds, e] using hlk
        · have := count_set_eq listed.toList j (by simpa [hil] using hm)
          rw [Array.toList_setIfInBounds]
          omega
      unfold wpOp
      rw [ho]
      unfold StepOk at hst
      by_cases hw : Region.wanted o (yielded ops a.tmps) = true
      · simp only [hw, if_true] at hst ⊢
        refine .inl (Oper.wp_mono (fun a' w' ⟨v, e, hv, hb, hΦ⟩ => ?_) hst)
        rw [e]
        exact next v w' hv hb hΦ
      · simp only [hw] at hst ⊢
        exact next undef w (fun _ => rfl) (Below.refl _ _) hst
end

theorem region_head2 {P : Program} {Q : Exit → Act → World → Prop} {a0 : Act} {w0 : World} {id : Nat} {l : List Oper} (fs : List Fact) (D : List (Option Tmp)) (N n : Nat) (hn : a0.tmps.size = n) (hm : P.follows .mixedOrders = true) (hbook : bookB2 l n = true) (hD : l.map (·.dst) = D) (htail : tailB l N = true)
    (mono : ∀ f ∈ fs, Mono f)
    (hstep : AllOps (fun j o => ∀ (a : Act) (w : World), Below w0.heap.size w0 w → FrD (D.take N) a0 a → needs D fs a w o.after.toList → StepD P D (factAt fs j) o a w) 0 (l.take N))
    (hend : ∀ (a : Act) (w : World), Below w0.heap.size w0 w → FrD (D.take N) a0 a → (∀ j d, j < N → D[j]? = some d → factAt fs j (slotOf a d) w) → wpList P l.toArray Q (l.drop N) a w) :
    (Code.region id l.toArray true).wp P Q a0 w0 := by
  subst hn
  simp only [bookB2, Bool.and_eq_true] at hbook
  obtain ⟨⟨h1, h2⟩, h3⟩ := hbook
  simp only [tailB, Bool.and_eq_true, decide_eq_true_eq] at htail
  obtain ⟨⟨⟨hN, t1⟩, t2⟩, t3⟩ := htail
  have hfr : ∀ a, FrN l.toArray N a0 a → FrD (D.take N) a0 a := fun a h => ⟨h.defers, h.size, fun s hs => h.other s fun j o hj ho hd => by
    have : (D.take N).contains (some s) = true := by
      rw [← hD, List.contains_iff_mem, ← hd, ← List.map_take]
      refine List.mem_map.2 ⟨o, List.mem_of_getElem? (i := j) ?_, rfl⟩
      rw [List.getElem?_take, if_pos hj]
      simpa using ho
    rw [hs] at this; cases this⟩
  have hslot : ∀ (i : Nat) (oe : Oper), l[i]? = some oe → (D[i]?).join = oe.dst := fun i oe h => by rw [← hD]; simp [h]
  have k1 : ∀ (j : Nat) (o : Oper), l.toArray[j]? = some o → ∀ e ∈ o.after, Region.binds .any e = true → e.on < j := fun j o ho e he hb => by
    have := backB2_at h1 (j := j) (by simpa using ho) e he hb
    omega
  have k2 : ∀ (i j : Nat) (oi oj : Oper) (t : Tmp), l.toArray[i]? = some oi → l.toArray[j]? = some oj → oi.dst = some t → oj.dst = some t → i = j := fun i j oi oj t hi hj hti htj =>
    dsts_apart h2 (by simpa using hi) (by simpa using hj) hti htj
  have k3 : ∀ (j : Nat) (o : Oper) (t : Tmp), l.toArray[j]? = some o → o.dst = some t → t < a0.tmps.size := fun j o t ho ht => by
    have := List.all_eq_true.1 h3 t (mem_dsts (j := j) (by simpa using ho) ht)
    simpa using this
  have k4 : ∀ (j : Nat) (v : Value) (w w' : World), Below w.heap.size w w' → factAt fs j v w → factAt fs j v w' := fun j v w w' hb h => by
    unfold factAt at h ⊢
    by_cases hj : j < fs.length
    · have e : fs.getD j (fun _ _ => True) = fs[j] := by simp [hj]
      rw [e] at h ⊢
      exact mono _ (List.getElem_mem hj) v w w' hb h
    · have e : fs.getD j (fun _ _ => True) = fun _ _ => True := by simp [List.getElem?_eq_none (Nat.le_of_not_lt hj)]
      rw [e]; trivial
  have k5 : ∀ (j : Nat) (o : Oper), j < N → l.toArray[j]? = some o → ∀ (a : Act) (w : World), Below w0.heap.size w0 w → FrN l.toArray N a0 a → (∀ e ∈ o.after, Region.binds .any e = true → ∀ (oe : Oper), l.toArray[e.on]? = some oe → factAt fs e.on (slotOf a oe.dst) w) → StepOk P l.toArray Q (factAt fs) j o a w := fun j o hj ho a w hB hF hd => by
    have ho' : (l.take N)[j]? = some o := by rw [List.getElem?_take, if_pos hj]; simpa using ho
    have hs := allOps_at hstep (j := j) ho'
    rw [Nat.zero_add] at hs
    have hlt := backB2_at h1 (j := j) (by simpa using ho)
    have hs' := hs a w hB (hfr a hF) (needs_of _ fun e he hb => by
      have he' : e ∈ o.after := by simpa using he
      have hl : e.on < l.length := by have := hlt e he' hb; omega
      rw [hslot e.on l[e.on] (List.getElem?_eq_getElem hl)]
      exact hd e he' hb l[e.on] (by simp [hl])) Q
    unfold StepOk
    have ey : yielded l.toArray a.tmps = yieldD D a.tmps := funext fun i => yielded_D hD a.tmps i
    rw [ey]
    exact hs'
  have k6 : ∀ (a : Act) (w : World), Below w0.heap.size w0 w → FrN l.toArray N a0 a → (∀ (j : Nat) (o : Oper), j < N → l.toArray[j]? = some o → factAt fs j (slotOf a o.dst) w) → wpList P l.toArray Q (l.toArray.toList.drop N) a w := fun a w hB hF h => hend a w hB (hfr a hF) fun j d hj hjd => by
    rw [← hD, List.getElem?_map] at hjd
    obtain ⟨o, ho, rfl⟩ := Option.map_eq_some_iff.1 hjd
    exact h j o hj (by simpa using ho)
  refine wp_region_any hm ?_
  have inv0 : HeadInv .any l.toArray N (Array.replicate l.toArray.size false) :=
    ⟨by simp, fun j oj _ hl => (by rw [getD_replicate_false] at hl; cases hl), fun t _ ht => getD_in (by simpa using ht) (getD_replicate_false _ _)⟩
  exact head_inv2 (Φ := factAt fs) (ops := l.toArray) (N := N) k1 k2 k3 k4 (by simpa using hN) t1 t2 (by simpa using t3) k5 k6 l.toArray.size (Array.replicate l.toArray.size false) a0 _ inv0 (Below.drew (Below.refl _ _)) ⟨rfl, rfl, fun _ _ => rfl⟩
    (fun j o _ _ h => by rw [getD_replicate_false] at h; cases h) (by simp)


end Go.Proofs.YtbpaepkcchpmbaaGreat

namespace Go.Proofs.YtbpaepkcchpmbaaGreat
open Go.RowKit

/-- One operation, out of what it waits for. -/
def StepK (P : Program) (ops : Array Oper) (Q : Exit → Act → World → Prop) (Φ : Nat → Value → World → Prop) (K : World → World → Prop) (I : Bool → World → Prop) (q j : Nat) (o : Oper) (a : Act) (w : World) (b : Bool) : Prop :=
  if Region.wanted o (yielded ops a.tmps) = true then o.wp P a w (fun a' w' => ∃ v, a' = a.put o.dst v ∧ (o.dst = none → v = undef) ∧ K w w' ∧ I (b || decide (j = q)) w' ∧ Φ j v w') Q else Φ j undef w ∧ I (b || decide (j = q)) w
/-- The same, by the slots alone. -/
def StepL (P : Program) (D : List (Option Tmp)) (Φ : Fact) (K : World → World → Prop) (J : World → Prop) (o : Oper) (a : Act) (w : World) : Prop :=
  ∀ Q : Exit → Act → World → Prop, if Region.wanted o (yieldD D a.tmps) = true then o.wp P a w (fun a' w' => ∃ v, a' = a.put o.dst v ∧ (o.dst = none → v = undef) ∧ K w w' ∧ J w' ∧ Φ v w') Q else Φ undef w ∧ J w
section
variable {P : Program} {D : List (Option Tmp)} {Φ : Fact} {K : World → World → Prop} {J : World → Prop} {o : Oper} {a : Act} {w : World}
/-- An operation that writes nothing old. -/
theorem StepD.toL (h : StepD P D Φ o a w) (hK : ∀ w', Below w.heap.size w w' → K w w') (hJ : ∀ w', Below w.heap.size w w' → J w') : StepL P D Φ K J o a w := fun Q => by
  have h1 := h Q
  by_cases hw : Region.wanted o (yieldD D a.tmps) = true
  · rw [if_pos hw] at h1 ⊢
    exact Oper.wp_mono (fun a' w' ⟨v, e, hv, hb, hΦ⟩ => ⟨v, e, hv, hK w' hb, hJ w' hb, hΦ⟩) h1
  · rw [if_neg hw] at h1 ⊢
    exact ⟨h1, hJ w (Below.refl _ _)⟩
/-- A call that writes what was there. -/
theorem stepL_call (hw : Region.wanted o (yieldD D a.tmps) = true) {t : Tmp} (hd : o.dst = some t) (f : FuncId) (args : Array Value) (hrun : (execOp a.eval o).run P w = .ok (.enter f args) w)
    (hc : Calls P f args w fun e w' => ∃ v, e = .returned v ∧ K w w' ∧ J w' ∧ Φ v w') : StepL P D Φ K J o a w := by
  intro Q
  rw [if_pos hw]
  unfold Oper.wp
  rw [hrun]
  refine hc.mono fun e w' h => ?_
  obtain ⟨v, rfl, hb, hJ, hΦ⟩ := h
  exact ⟨v, rfl, (fun hn => by rw [hd] at hn; cases hn), hb, hJ, hΦ⟩
end
theorem getD_or {L : Array Bool} {j q : Nat} (hj : j < L.size) : (L.setIfInBounds j true).getD q false = (L.getD q false || decide (j = q)) := by
  by_cases e : j = q
  · subst e; simp [Array.getD, hj]
  · by_cases hq : q < L.size
    · simp [Array.getD, hq, e]
    · simp [Array.getD, hq, e]

section
variable {P : Program} {ops : Array Oper} {Q : Exit → Act → World → Prop} {a0 : Act} {Φ : Nat → Value → World → Prop} {N q : Nat} {K : World → World → Prop} {I : Bool → World → Prop}
theorem head_invK (hback : ∀ (j : Nat) (o : Oper), ops[j]? = some o → ∀ e ∈ o.after, Region.binds .any e = true → e.on < j)
    (hdst : ∀ (i j : Nat) (oi oj : Oper) (t : Tmp), ops[i]? = some oi → ops[j]? = some oj → oi.dst = some t → oj.dst = some t → i = j)
    (hsz : ∀ (j : Nat) (o : Oper) (t : Tmp), ops[j]? = some o → o.dst = some t → t < a0.tmps.size)
    (mono : ∀ (j : Nat) (v : Value) (w w' : World), K w w' → Φ j v w → Φ j v w')
    (hK : ∀ w, K w w) (hqN : q < N)
    (hn : N < ops.size) (hsink : Region.sinkB .any ops N = true) (hchain : Region.chainB .any ops N = true) (hseq : Region.seqB .any ops (ops.size - N) N (canonL ops.size N) = true)
    (hstep : ∀ (j : Nat) (o : Oper), j < N → ops[j]? = some o → ∀ (a : Act) (w : World) (b : Bool), (j = q → b = false) → I b w → FrN ops N a0 a → (∀ e ∈ o.after, Region.binds .any e = true → ∀ (oe : Oper), ops[e.on]? = some oe → Φ e.on (slotOf a oe.dst) w) → StepK P ops Q Φ K I q j o a w b)
    (hend : ∀ (a : Act) (w : World), I true w → FrN ops N a0 a → (∀ (j : Nat) (o : Oper), j < N → ops[j]? = some o → Φ j (slotOf a o.dst) w) → wpList P ops Q (ops.toList.drop N) a w) :
    ∀ (fuel : Nat) (listed : Array Bool) (a : Act) (w : World), HeadInv .any ops N listed → I (listed.getD q false) w → FrN ops N a0 a →
      (∀ (j : Nat) (o : Oper), j < N → ops[j]? = some o → listed.getD j false = true → Φ j (slotOf a o.dst) w) →
      (listed.toList.filter (fun b => !b)).length = fuel → wpAny P .any ops Q fuel listed a w := by
  intro fuel
  induction fuel with
  | zero =>
    intro listed a w inv hB hF hfacts hcount
    exfalso
    have h1 := inv.tail N (Nat.le_refl _) hn
    have hjl : N < listed.size := by rw [inv.size]; exact hn
    have hm : listed[N] = false := by simpa [Array.getD, hjl] using h1
    have : false ∈ listed.toList.filter (fun b => !b) := List.mem_filter.2 ⟨by rw [← hm]; simp, rfl⟩
    have hpos := List.length_pos_of_mem this
    omega
  | succ fuel ih =>
    intro listed a w inv hB hF hfacts hcount
    by_cases hall : ∀ j, j < N → listed.getD j false = true
    · have e := canon_eq (Nat.le_of_lt hn) inv.size hall inv.tail
      have hc := canon_count ops.size N
      rw [← e, hcount] at hc
      have hl : (ops.toList.drop N).length = fuel + 1 := by simp; omega
      rw [← hl]
      refine wpAny_of_seq (ops.toList.drop N) N listed a w (fun j => by simp) ?_ (hend a w (by rw [hall q hqN] at hB; exact hB) hF fun j o hj ho => hfacts j o hj ho (hall j hj))
      rw [hl, e, hc]
      exact hseq
    · obtain ⟨i, hiN, hif⟩ : ∃ i, i < N ∧ listed.getD i true = false := by
        apply Classical.byContradiction
        intro hno
        apply hall
        intro j hj
        have hjl : j < listed.size := by rw [inv.size]; omega
        cases h : listed.getD j false with
        | true => rfl
        | false => exact absurd ⟨j, hj, getD_in hjl h⟩ hno
      have hlow : ∀ t, t ∈ Region.ready .any ops listed → t < N := fun t ht => by
        rcases Nat.lt_or_ge t N with h | h
        · exact h
        · exact absurd ht (tail_waits hsink hchain hn inv _ i rfl hiN hif t h)
      have hne : Region.ready .any ops listed ≠ [] := by
        intro hr
        have hall2 : ∀ j, j < ops.size → listed.getD j false = true := by
          intro j
          induction j using Nat.strongRecOn with
          | _ j ih2 =>
            intro hj
            cases h : listed.getD j false with
            | true => rfl
            | false =>
              have hjl : j < listed.size := by rw [inv.size]; exact hj
              have : j ∈ Region.ready .any ops listed := mem_ready.2 ⟨getD_in hjl h, ops[j], Array.getElem?_eq_getElem hj, fun e he hbd => by
                have hlt := hback j _ (Array.getElem?_eq_getElem hj) e he hbd
                exact ih2 e.on hlt (by omega)⟩
              rw [hr] at this
              cases this
        have := hall2 i (by omega)
        rw [getD_both hif] at this
        cases this
      refine ⟨fun hr => absurd hr hne, fun j hj => ?_⟩
      have hjN := hlow j hj
      obtain ⟨h0, o, ho, hdeps⟩ := mem_ready.1 hj
      have hil : j < listed.size := by rw [inv.size]; omega
      have hm : listed[j] = false := by simpa [Array.getD, hil] using h0
      have hun : j = q → listed.getD q false = false := fun e => by rw [← e]; simp [Array.getD, hil, hm]
      have hst := hstep j o hjN ho a w _ hun hB hF fun e he hb oe hoe => hfacts e.on oe (by have := hback j o ho e he hb; omega) hoe (hdeps e he hb)
      have hset : (listed.setIfInBounds j true).getD q false = (listed.getD q false || decide (j = q)) := getD_or (by rw [inv.size]; omega)
      have next : ∀ v w', (o.dst = none → v = undef) → K w w' → I (listed.getD q false || decide (j = q)) w' → Φ j v w' → wpAny P .any ops Q fuel (listed.setIfInBounds j true) (a.put o.dst v) w' := by
        intro v w' hv hb hI hΦ
        refine ih _ _ _ (inv.set hj hjN) (by rw [hset]; exact hI) ⟨?_, ?_, ?_⟩ ?_ ?_
        · cases hd : o.dst <;> simpa [Act.put] using hF.defers
        · cases hd : o.dst <;> simpa [Act.put] using hF.size
        · intro s hs
          rw [← hF.other s hs]
          cases hd : o.dst with
          | none => rfl
          | some t =>
            have hne : t ≠ s := fun e => hs j o hjN ho (by rw [hd, e])
            simp [Act.put, hne]
        · intro k ok hk hok hlk
          by_cases e : j = k
          · subst e
            obtain rfl : o = ok := by rw [ho] at hok; exact Option.some.inj hok
            cases hd : o.dst with
            | none => rw [hv hd] at hΦ; exact hΦ
            | some t => rw [slot_put_same _ _ (by rw [hF.size]; exact hsz j o t ho hd)]; exact hΦ
          · rw [slot_put_far _ _ fun t hjt hit => e (hdst j k o ok t ho hok hit hjt)]
            refine mono k _ w w' hb (hfacts k ok hk hok ?_)
            have hkl : k < listed.size := by rw [inv.size]; omega
            simpa [Array.getD, hkl, Array.getElem_setIfInBounds, e] using hlk
        · have := count_set_eq listed.toList j (by simpa [hil] using hm)
          rw [Array.toList_setIfInBounds]
          omega
      unfold wpOp
      rw [ho]
      unfold StepK at hst
      by_cases hw : Region.wanted o (yielded ops a.tmps) = true
      · simp only [hw, if_true] at hst ⊢
        refine .inl (Oper.wp_mono (fun a' w' ⟨v, e, hv, hb, hI, hΦ⟩ => ?_) hst)
        rw [e]
        exact next v w' hv hb hI hΦ
      · simp only [hw] at hst ⊢
        exact next undef w (fun _ => rfl) (hK w) hst.2 hst.1
end

theorem region_headK {P : Program} {Q : Exit → Act → World → Prop} {a0 : Act} {w0 : World} {id : Nat} {l : List Oper} (K : World → World → Prop) (I : Bool → World → Prop) (q : Nat) (fs : List Fact) (D : List (Option Tmp)) (N n : Nat) (hn : a0.tmps.size = n) (hm : P.follows .mixedOrders = true) (hbook : bookB2 l n = true) (hD : l.map (·.dst) = D) (htail : tailB l N = true)
    (hK : ∀ w, K w w) (hqN : q < N) (h0 : I false w0.drew) (mono : ∀ f ∈ fs, ∀ (v : Value) (w w' : World), K w w' → f v w → f v w')
    (hstep : AllOps (fun j o => ∀ (a : Act) (w : World) (b : Bool), (j = q → b = false) → I b w → FrD (D.take N) a0 a → needs D fs a w o.after.toList → StepL P D (factAt fs j) K (I (b || decide (j = q))) o a w) 0 (l.take N))
    (hend : ∀ (a : Act) (w : World), I true w → FrD (D.take N) a0 a → (∀ j d, j < N → D[j]? = some d → factAt fs j (slotOf a d) w) → wpList P l.toArray Q (l.drop N) a w) :
    (Code.region id l.toArray true).wp P Q a0 w0 := by
  subst hn
  simp only [bookB2, Bool.and_eq_true] at hbook
  obtain ⟨⟨h1, h2⟩, h3⟩ := hbook
  simp only [tailB, Bool.and_eq_true, decide_eq_true_eq] at htail
  obtain ⟨⟨⟨hN, t1⟩, t2⟩, t3⟩ := htail
  have hfr : ∀ a, FrN l.toArray N a0 a → FrD (D.take N) a0 a := fun a h => ⟨h.defers, h.size, fun s hs => h.other s fun j o hj ho hd => by
    have : (D.take N).contains (some s) = true := by
      rw [← hD, List.contains_iff_mem, ← hd, ← List.map_take]
      refine List.mem_map.2 ⟨o, List.mem_of_getElem? (i := j) ?_, rfl⟩
      rw [List.getElem?_take, if_pos hj]
      simpa using ho
    rw [hs] at this; cases this⟩
  have hslot : ∀ (i : Nat) (oe : Oper), l[i]? = some oe → (D[i]?).join = oe.dst := fun i oe h => by rw [← hD]; simp [h]
  have k1 : ∀ (j : Nat) (o : Oper), l.toArray[j]? = some o → ∀ e ∈ o.after, Region.binds .any e = true → e.on < j := fun j o ho e he hb => by
    have := backB2_at h1 (j := j) (by simpa using ho) e he hb
    omega
  have k2 : ∀ (i j : Nat) (oi oj : Oper) (t : Tmp), l.toArray[i]? = some oi → l.toArray[j]? = some oj → oi.dst = some t → oj.dst = some t → i = j := fun i j oi oj t hi hj hti htj =>
    dsts_apart h2 (by simpa using hi) (by simpa using hj) hti htj
  have k3 : ∀ (j : Nat) (o : Oper) (t : Tmp), l.toArray[j]? = some o → o.dst = some t → t < a0.tmps.size := fun j o t ho ht => by
    have := List.all_eq_true.1 h3 t (mem_dsts (j := j) (by simpa using ho) ht)
    simpa using this
  have k4 : ∀ (j : Nat) (v : Value) (w w' : World), K w w' → factAt fs j v w → factAt fs j v w' := fun j v w w' hb h => by
    unfold factAt at h ⊢
    by_cases hj : j < fs.length
    · have e : fs.getD j (fun _ _ => True) = fs[j] := by simp [hj]
      rw [e] at h ⊢
      exact mono _ (List.getElem_mem hj) v w w' hb h
    · have e : fs.getD j (fun _ _ => True) = fun _ _ => True := by simp [List.getElem?_eq_none (Nat.le_of_not_lt hj)]
      rw [e]; trivial
  have k5 : ∀ (j : Nat) (o : Oper), j < N → l.toArray[j]? = some o → ∀ (a : Act) (w : World) (b : Bool), (j = q → b = false) → I b w → FrN l.toArray N a0 a → (∀ e ∈ o.after, Region.binds .any e = true → ∀ (oe : Oper), l.toArray[e.on]? = some oe → factAt fs e.on (slotOf a oe.dst) w) → StepK P l.toArray Q (factAt fs) K I q j o a w b := fun j o hj ho a w b hjb hB hF hd => by
    have ho' : (l.take N)[j]? = some o := by rw [List.getElem?_take, if_pos hj]; simpa using ho
    have hs := allOps_at hstep (j := j) ho'
    rw [Nat.zero_add] at hs
    have hlt := backB2_at h1 (j := j) (by simpa using ho)
    have hs' := hs a w b hjb hB (hfr a hF) (needs_of _ fun e he hb => by
      have he' : e ∈ o.after := by simpa using he
      have hl : e.on < l.length := by have := hlt e he' hb; omega
      rw [hslot e.on l[e.on] (List.getElem?_eq_getElem hl)]
      exact hd e he' hb l[e.on] (by simp [hl])) Q
    unfold StepK
    have ey : yielded l.toArray a.tmps = yieldD D a.tmps := funext fun i => yielded_D hD a.tmps i
    rw [ey]
    exact hs'
  have k6 : ∀ (a : Act) (w : World), I true w → FrN l.toArray N a0 a → (∀ (j : Nat) (o : Oper), j < N → l.toArray[j]? = some o → factAt fs j (slotOf a o.dst) w) → wpList P l.toArray Q (l.toArray.toList.drop N) a w := fun a w hB hF h => hend a w hB (hfr a hF) fun j d hj hjd => by
    rw [← hD, List.getElem?_map] at hjd
    obtain ⟨o, ho, rfl⟩ := Option.map_eq_some_iff.1 hjd
    exact h j o hj (by simpa using ho)
  refine wp_region_any hm ?_
  have inv0 : HeadInv .any l.toArray N (Array.replicate l.toArray.size false) :=
    ⟨by simp, fun j oj _ hl => (by rw [getD_replicate_false] at hl; cases hl), fun t _ ht => getD_in (by simpa using ht) (getD_replicate_false _ _)⟩
  exact head_invK (Φ := factAt fs) (ops := l.toArray) (N := N) k1 k2 k3 k4 hK hqN (by simpa using hN) t1 t2 (by simpa using t3) k5 k6 l.toArray.size (Array.replicate l.toArray.size false) a0 _ inv0 (by rw [getD_replicate_false]; exact h0) ⟨rfl, rfl, fun _ _ => rfl⟩
    (fun j o _ _ h => by rw [getD_replicate_false] at h; cases h) (by simp)


end Go.Proofs.YtbpaepkcchpmbaaGreat
