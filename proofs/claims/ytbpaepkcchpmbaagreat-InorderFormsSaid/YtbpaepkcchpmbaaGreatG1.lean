/-
  A region whose operations may come up in more than one order, but for a tail of forced order: one fact for each operation of the head, then the tail in its order. No program here.
  The frame behind a region whose facts are shown one by one, written as what it was with slots turned. No program here.
  The law of XAny once more, where an edge that does not bind may look ahead. No program here.
-/
import Derived.Test.YtbpaepkcchpmbaaGreatG0
import Derived.StillTail
namespace Go.Proofs.YtbpaepkcchpmbaaGreat
open Go.RowKit

theorem count_set_eq (l : List Bool) : ∀ i : Nat, l[i]? = some false → ((l.set i true).filter (fun b => !b)).length + 1 = (l.filter (fun b => !b)).length := by
  induction l with
  | nil => intro i h; simp at h
  | cons b r ih =>
    intro i h
    cases i with
    | zero =>
      have hb : b = false := by simpa using h
      subst hb
      simp
    | succ i =>
      have := ih i (by simpa using h)
      simp only [List.set_cons_succ, List.filter_cons]
      split <;> (try simp only [List.length_cons]) <;> omega
def canonL (n N : Nat) : Array Bool := (List.replicate N true ++ List.replicate (n - N) false).toArray
theorem canon_eq {P : Array Bool} {n N : Nat} (hN : N ≤ n) (hs : P.size = n) (h1 : ∀ j, j < N → P.getD j false = true) (h2 : ∀ t, N ≤ t → t < n → P.getD t true = false) : P = canonL n N := by
  apply Array.ext
  · simp [canonL, hs]; omega
  · intro i hi hi2
    by_cases h : i < N
    · have := h1 i h
      simp [hi] at this
      simp [canonL, h, this]
    · have := h2 i (by omega) (by omega)
      simp [hi] at this
      simp [canonL, List.getElem_append, h, this]
theorem canon_count (n N : Nat) : ((canonL n N).toList.filter (fun b => !b)).length = n - N := by
  simp [canonL]
/-- The frame a is a0 but for the slots of the head's operations. -/
structure FrN (ops : Array Oper) (N : Nat) (a0 a : Act) : Prop where
  defers : a.defers = a0.defers
  size : a.tmps.size = a0.tmps.size
  other : ∀ s, (∀ (j : Nat) (o : Oper), j < N → ops[j]? = some o → o.dst ≠ some s) → a.tmps.getD s undef = a0.tmps.getD s undef

section
variable {P : Program} {ops : Array Oper} {Q : Exit → Act → World → Prop} {a0 : Act} {w0 : World} {Φ : Nat → Value → World → Prop} {N : Nat}
theorem head_inv (hback : ∀ (j : Nat) (o : Oper), ops[j]? = some o → ∀ e ∈ o.after, e.on < j)
    (hdst : ∀ (i j : Nat) (oi oj : Oper) (t : Tmp), ops[i]? = some oi → ops[j]? = some oj → oi.dst = some t → oj.dst = some t → i = j)
    (hsz : ∀ (j : Nat) (o : Oper) (t : Tmp), ops[j]? = some o → o.dst = some t → t < a0.tmps.size)
    (mono : ∀ (j : Nat) (v : Value) (w w' : World), Below w.heap.size w w' → Φ j v w → Φ j v w')
    (hn : N < ops.size) (hsink : Region.sinkB .any ops N = true) (hchain : Region.chainB .any ops N = true) (hseq : Region.seqB .any ops (ops.size - N) N (canonL ops.size N) = true)
    (hstep : ∀ (j : Nat) (o : Oper), j < N → ops[j]? = some o → ∀ (a : Act) (w : World), Below w0.heap.size w0 w → FrN ops N a0 a → (∀ e ∈ o.after, Region.binds .any e = true → ∀ (oe : Oper), ops[e.on]? = some oe → Φ e.on (slotOf a oe.dst) w) → StepOk P ops Q Φ j o a w)
    (hend : ∀ (a : Act) (w : World), Below w0.heap.size w0 w → FrN ops N a0 a → (∀ (j : Nat) (o : Oper), j < N → ops[j]? = some o → Φ j (slotOf a o.dst) w) → wpList P ops Q (ops.toList.drop N) a w) :
    ∀ (fuel : Nat) (listed : Array Bool) (a : Act) (w : World), HeadInv .any ops N listed → Below w0.heap.size w0 w → FrN ops N a0 a →
      (∀ (j : Nat) (o : Oper), j < N → ops[j]? = some o → listed.getD j false = true → Φ j (slotOf a o.dst) w) →
      (listed.toList.filter (fun b => !b)).length = fuel → wpAny P .any ops Q fuel listed a w := by
  intro fuel
  induction fuel with
  | zero =>
    intro listed a w inv hB hF hfacts hcount
    exfalso
    have h1 := inv.tail N (Nat.le_refl _) hn
    have hjl : N < listed.size := by rw [inv.size]; exact hn
    have hm : listed[N] = false := by simpa [Array.getD, hjl] using h1
    have : false ∈ listed.toList.filter (fun b => !b) := List.mem_filter.2 ⟨by rw [← hm]; simp, rfl⟩
    have hpos := List.length_pos_of_mem this
    omega
  | succ fuel ih =>
    intro listed a w inv hB hF hfacts hcount
    by_cases hall : ∀ j, j < N → listed.getD j false = true
    · have e := canon_eq (Nat.le_of_lt hn) inv.size hall inv.tail
      have hc := canon_count ops.size N
      rw [← e, hcount] at hc
      have hl : (ops.toList.drop N).length = fuel + 1 := by simp; omega
      rw [← hl]
      refine wpAny_of_seq (ops.toList.drop N) N listed a w (fun j => by simp) ?_ (hend a w hB hF fun j o hj ho => hfacts j o hj ho (hall j hj))
      rw [hl, e, hc]
      exact hseq
    · obtain ⟨i, hiN, hif⟩ : ∃ i, i < N ∧ listed.getD i true = false := by
        apply Classical.byContradiction
        intro hno
        apply hall
        intro j hj
        have hjl : j < listed.size := by rw [inv.size]; omega
        cases h : listed.getD j false with
        | true => rfl
        | false => exact absurd ⟨j, hj, getD_in hjl h⟩ hno
      have hlow : ∀ t, t ∈ Region.ready .any ops listed → t < N := fun t ht => by
        rcases Nat.lt_or_ge t N with h | h
        · exact h
        · exact absurd ht (tail_waits hsink hchain hn inv _ i rfl hiN hif t h)
      have hne : Region.ready .any ops listed ≠ [] := by
        intro hr
        have hall2 : ∀ j, j < ops.size → listed.getD j false = true := by
          intro j
          induction j using Nat.strongRecOn with
          | _ j ih2 =>
            intro hj
            cases h : listed.getD j false with
            | true => rfl
            | false =>
              have hjl : j < listed.size := by rw [inv.size]; exact hj
              have : j ∈ Region.ready .any ops listed := mem_ready.2 ⟨getD_in hjl h, ops[j], Array.getElem?_eq_getElem hj, fun e he _ => by
                have hlt := hback j _ (Array.getElem?_eq_getElem hj) e he
                exact ih2 e.on hlt (by omega)⟩
              rw [hr] at this
              cases this
        have := hall2 i (by omega)
        rw [getD_both hif] at this
        cases this
      refine ⟨fun hr => absurd hr hne, fun j hj => ?_⟩
      have hjN := hlow j hj
      obtain ⟨h0, o, ho, hdeps⟩ := mem_ready.1 hj
      have hil : j < listed.size := by rw [inv.size]; omega
      have hm : listed[j] = false := by simpa [Array.getD, hil] using h0
      have hst := hstep j o hjN ho a w hB hF fun e he hb oe hoe => hfacts e.on oe (by have := hback j o ho e he; omega) hoe (hdeps e he hb)
      have next : ∀ v w', (o.dst = none → v = undef) → Below w.heap.size w w' → Φ j v w' → wpAny P .any ops Q fuel (listed.setIfInBounds j true) (a.put o.dst v) w' := by
        intro v w' hv hb hΦ
        refine ih _ _ _ (inv.set hj hjN) (hB.trans (hb.mono hB.size)) ⟨?_, ?_, ?_⟩ ?_ ?_
        · cases hd : o.dst <;> simpa [Act.put] using hF.defers
        · cases hd : o.dst <;> simpa [Act.put] using hF.size
        · intro s hs
          rw [← hF.other s hs]
          cases hd : o.dst with
          | none => rfl
          | some t =>
            have hne : t ≠ s := fun e => hs j o hjN ho (by rw [hd, e])
            simp [Act.put, hne]
        · intro k ok hk hok hlk
          by_cases e : j = k
          · subst e
            obtain rfl : o = ok := by rw [ho] at hok; exact Option.some.inj hok
            cases hd : o.dst with
            | none => rw [hv hd] at hΦ; exact hΦ
            | some t => rw [slot_put_same _ _ (by rw [hF.size]; exact hsz j o t ho hd)]; exact hΦ
          · rw [slot_put_far _ _ fun t hjt hit => e (hdst j k o ok t ho hok hit hjt)]
            refine mono k _ w w' hb (hfacts k ok hk hok ?_)
            have hkl : k < listed.size := by rw [inv.size]; omega
            simpa [Array.getD, hkl, Array.getElem_setIfInBounds, e] using hlk
        · have := count_set_eq listed.toList j (by simpa [hil] using hm)
          rw [Array.toList_setIfInBounds]
          omega
      unfold wpOp
      rw [ho]
      unfold StepOk at hst
      by_cases hw : Region.wanted o (yielded ops a.tmps) = true
      · simp only [hw, if_true] at hst ⊢
        refine .inl (Oper.wp_mono (fun a' w' ⟨v, e, hv, hb, hΦ⟩ => ?_) hst)
        rw [e]
        exact next v w' hv hb hΦ
      · simp only [hw] at hst ⊢
        exact next undef w (fun _ => rfl) (Below.refl _ _) hst
end

def tailB (l : List Oper) (N : Nat) : Bool := decide (N < l.length) && Region.sinkB .any l.toArray N && Region.chainB .any l.toArray N && Region.seqB .any l.toArray (l.length - N) N (canonL l.length N)

theorem region_head {P : Program} {Q : Exit → Act → World → Prop} {a0 : Act} {w0 : World} {id : Nat} {l : List Oper} (fs : List Fact) (D : List (Option Tmp)) (N n : Nat) (hn : a0.tmps.size = n) (hm : P.follows .mixedOrders = true) (hbook : bookB l n = true) (hD : l.map (·.dst) = D) (htail : tailB l N = true)
    (mono : ∀ f ∈ fs, Mono f)
    (hstep : AllOps (fun j o => ∀ (a : Act) (w : World), Below w0.heap.size w0 w → FrD (D.take N) a0 a → needs D fs a w o.after.toList → StepD P D (factAt fs j) o a w) 0 (l.take N))
    (hend : ∀ (a : Act) (w : World), Below w0.heap.size w0 w → FrD (D.take N) a0 a → (∀ j d, j < N → D[j]? = some d → factAt fs j (slotOf a d) w) → wpList P l.toArray Q (l.drop N) a w) :
    (Code.region id l.toArray true).wp P Q a0 w0 := by
  subst hn
  simp only [bookB, Bool.and_eq_true] at hbook
  obtain ⟨⟨h1, h2⟩, h3⟩ := hbook
  simp only [tailB, Bool.and_eq_true, decide_eq_true_eq] at htail
  obtain ⟨⟨⟨hN, t1⟩, t2⟩, t3⟩ := htail
  have hfr : ∀ a, FrN l.toArray N a0 a → FrD (D.take N) a0 a := fun a h => ⟨h.defers, h.size, fun s hs => h.other s fun j o hj ho hd => by
    have : (D.take N).contains (some s) = true := by
      rw [← hD, List.contains_iff_mem, ← hd, ← List.map_take]
      refine List.mem_map.2 ⟨o, List.mem_of_getElem? (i := j) ?_, rfl⟩
      rw [List.getElem?_take, if_pos hj]
      simpa using ho
    rw [hs] at this; cases this⟩
  have hslot : ∀ (i : Nat) (oe : Oper), l[i]? = some oe → (D[i]?).join = oe.dst := fun i oe h => by rw [← hD]; simp [h]
  have k1 : ∀ (j : Nat) (o : Oper), l.toArray[j]? = some o → ∀ e ∈ o.after, e.on < j := fun j o ho e he => by
    have := backB_at h1 (j := j) (by simpa using ho) e he
    omega
  have k2 : ∀ (i j : Nat) (oi oj : Oper) (t : Tmp), l.toArray[i]? = some oi → l.toArray[j]? = some oj → oi.dst = some t → oj.dst = some t → i = j := fun i j oi oj t hi hj hti htj =>
    dsts_apart h2 (by simpa using hi) (by simpa using hj) hti htj
  have k3 : ∀ (j : Nat) (o : Oper) (t : Tmp), l.toArray[j]? = some o → o.dst = some t → t < a0.tmps.size := fun j o t ho ht => by
    have := List.all_eq_true.1 h3 t (mem_dsts (j := j) (by simpa using ho) ht)
    simpa using this
  have k4 : ∀ (j : Nat) (v : Value) (w w' : World), Below w.heap.size w w' → factAt fs j v w → factAt fs j v w' := fun j v w w' hb h => by
    unfold factAt at h ⊢
    by_cases hj : j < fs.length
    · have e : fs.getD j (fun _ _ => True) = fs[j] := by simp [hj]
      rw [e] at h ⊢
      exact mono _ (List.getElem_mem hj) v w w' hb h
    · have e : fs.getD j (fun _ _ => True) = fun _ _ => True := by simp [List.getElem?_eq_none (Nat.le_of_not_lt hj)]
      rw [e]; trivial
  have k5 : ∀ (j : Nat) (o : Oper), j < N → l.toArray[j]? = some o → ∀ (a : Act) (w : World), Below w0.heap.size w0 w → FrN l.toArray N a0 a → (∀ e ∈ o.after, Region.binds .any e = true → ∀ (oe : Oper), l.toArray[e.on]? = some oe → factAt fs e.on (slotOf a oe.dst) w) → StepOk P l.toArray Q (factAt fs) j o a w := fun j o hj ho a w hB hF hd => by
    have ho' : (l.take N)[j]? = some o := by rw [List.getElem?_take, if_pos hj]; simpa using ho
    have hs := allOps_at hstep (j := j) ho'
    rw [Nat.zero_add] at hs
    have hlt := backB_at h1 (j := j) (by simpa using ho)
    have hs' := hs a w hB (hfr a hF) (needs_of _ fun e he hb => by
      have he' : e ∈ o.after := by simpa using he
      have hl : e.on < l.length := by have := hlt e he'; omega
      rw [hslot e.on l[e.on] (List.getElem?_eq_getElem hl)]
      exact hd e he' hb l[e.on] (by simp [hl])) Q
    unfold StepOk
    have ey : yielded l.toArray a.tmps = yieldD D a.tmps := funext fun i => yielded_D hD a.tmps i
    rw [ey]
    exact hs'
  have k6 : ∀ (a : Act) (w : World), Below w0.heap.size w0 w → FrN l.toArray N a0 a → (∀ (j : Nat) (o : Oper), j < N → l.toArray[j]? = some o → factAt fs j (slotOf a o.dst) w) → wpList P l.toArray Q (l.toArray.toList.drop N) a w := fun a w hB hF h => hend a w hB (hfr a hF) fun j d hj hjd => by
    rw [← hD, List.getElem?_map] at hjd
    obtain ⟨o, ho, rfl⟩ := Option.map_eq_some_iff.1 hjd
    exact h j o hj (by simpa using ho)
  refine wp_region_any hm ?_
  have inv0 : HeadInv .any l.toArray N (Array.replicate l.toArray.size false) :=
    ⟨by simp, fun j oj _ hl => (by rw [getD_replicate_false] at hl; cases hl), fun t _ ht => getD_in (by simpa using ht) (getD_replicate_false _ _)⟩
  exact head_inv (Φ := factAt fs) (ops := l.toArray) (N := N) k1 k2 k3 k4 (by simpa using hN) t1 t2 (by simpa using t3) k5 k6 l.toArray.size (Array.replicate l.toArray.size false) a0 _ inv0 (Below.drew (Below.refl _ _)) ⟨rfl, rfl, fun _ _ => rfl⟩
    (fun j o _ _ h => by rw [getD_replicate_false] at h; cases h) (by simp)

/-- A frame written out: all its slots. -/
def slotsAre (a : Act) : Nat → List Value → Prop
  | _, [] => True
  | s, v :: r => a.tmps.getD s undef = v ∧ slotsAre a (s + 1) r
theorem slotsAre_at {a : Act} {l : List Value} {k : Nat} (h : slotsAre a k l) {j : Nat} {v : Value} (hv : l[j]? = some v) : a.tmps.getD (k + j) undef = v := by
  induction l generalizing k j with
  | nil => simp at hv
  | cons p r ih =>
    cases j with
    | zero =>
      obtain rfl : p = v := by simpa using hv
      exact h.1
    | succ j =>
      have := ih h.2 (j := j) (by simpa using hv)
      rwa [show k + (j + 1) = k + 1 + j by omega]
theorem act_is {a : Act} {l : List Value} (hs : a.tmps.size = l.length) (h : slotsAre a 0 l) : a = { tmps := l.toArray, defers := a.defers } := by
  obtain ⟨t, d⟩ := a
  congr 1
  apply Array.ext
  · simpa using hs
  · intro i h1 h2
    have := slotsAre_at h (j := i) (v := l[i]'(by simpa using h2)) (by simp)
    simp only [Nat.zero_add] at this
    simp [h1] at this
    simpa using this

end Go.Proofs.YtbpaepkcchpmbaaGreat

namespace Go.Proofs.YtbpaepkcchpmbaaGreat
open Go.RowKit

/-- The frame a0 with these slots turned. -/
def putAll (a0 : Act) : List (Nat × Value) → Act
  | [] => a0
  | p :: r => putAll (a0.put (some p.1) p.2) r
theorem put_size (a : Act) (t : Nat) (v : Value) : (a.put (some t) v).tmps.size = a.tmps.size := by simp [Act.put]
theorem putAll_size (vs : List (Nat × Value)) : ∀ a0 : Act, (putAll a0 vs).tmps.size = a0.tmps.size := by
  induction vs with
  | nil => intro a0; rfl
  | cons p r ih => intro a0; simp only [putAll]; rw [ih, put_size]
theorem putAll_defers (vs : List (Nat × Value)) : ∀ a0 : Act, (putAll a0 vs).defers = a0.defers := by
  induction vs with
  | nil => intro a0; rfl
  | cons p r ih => intro a0; simp only [putAll]; rw [ih]; rfl
theorem put_get (a : Act) {t s : Nat} (v : Value) (hs : t ≠ s) : (a.put (some t) v).tmps.getD s undef = a.tmps.getD s undef := by simp [Act.put, hs]
theorem put_get_same (a : Act) {t : Nat} (v : Value) (h : t < a.tmps.size) : (a.put (some t) v).tmps.getD t undef = v := by simp [Act.put, h]
theorem putAll_far (vs : List (Nat × Value)) : ∀ (a0 : Act) (s : Nat), s ∉ vs.map (·.1) → (putAll a0 vs).tmps.getD s undef = a0.tmps.getD s undef := by
  induction vs with
  | nil => intro a0 s _; rfl
  | cons p r ih =>
    intro a0 s hs
    simp only [List.map_cons, List.mem_cons, not_or] at hs
    simp only [putAll]
    rw [ih _ _ hs.2, put_get _ _ (Ne.symm hs.1)]
def valsAre (a : Act) : List (Nat × Value) → Prop
  | [] => True
  | p :: r => a.tmps.getD p.1 undef = p.2 ∧ valsAre a r
theorem putAll_same (vs : List (Nat × Value)) : ∀ (a0 a : Act), nodupB (vs.map (·.1)) = true → a.tmps.size = a0.tmps.size → a.defers = a0.defers → valsAre a vs → (∀ s, s ∉ vs.map (·.1) → a.tmps.getD s undef = a0.tmps.getD s undef) → a = putAll a0 vs := by
  induction vs with
  | nil =>
    intro a0 a _ hs hd _ ho
    obtain ⟨t, d⟩ := a
    obtain ⟨t0, d0⟩ := a0
    simp only at hs hd
    subst hd
    show Act.mk t d = Act.mk t0 d
    congr 1
    apply Array.ext hs
    intro i h1 h2
    have := ho i (by simp)
    simpa [h1, h2] using this
  | cons p r ih =>
    intro a0 a hnd hs hd hv ho
    simp only [List.map_cons, nodupB, Bool.and_eq_true] at hnd
    have hp : p.1 ∉ r.map (·.1) := by have := hnd.1; simpa using this
    simp only [putAll]
    refine ih _ a hnd.2 (by rw [put_size]; exact hs) hd hv.2 fun s hsr => ?_
    by_cases e : p.1 = s
    · subst e
      by_cases hl : p.1 < a0.tmps.size
      · rw [put_get_same _ _ hl]; exact hv.1
      · have h1 : a.tmps.getD p.1 undef = undef := by simp [Array.getD, show ¬ p.1 < a.tmps.size by omega]
        have h2 : (a0.put (some p.1) p.2).tmps.getD p.1 undef = undef := by simp [Array.getD, put_size, hl]
        rw [h1, h2]
    · rw [put_get _ _ e]
      refine ho s ?_
      simp only [List.map_cons, List.mem_cons, not_or]
      exact ⟨fun h => e h.symm, hsr⟩
/-- Behind a head: the frame, written as what it was with these slots turned. -/
theorem frame_is {a0 a : Act} {D : List (Option Tmp)} (hF : FrD D a0 a) (vs : List (Nat × Value)) (hv : valsAre a vs) (hnd : nodupB (vs.map (·.1)) = true) (hD : D.all (fun d => match d with | some t => (vs.map (·.1)).contains t | none => true) = true) : a = putAll a0 vs :=
  putAll_same vs a0 a hnd hF.size hF.defers hv fun s hs => hF.other s (by
    rw [← Bool.not_eq_true]
    intro hc
    have hm : some s ∈ D := by simpa using hc
    have := List.all_eq_true.1 hD (some s) hm
    simp only [List.contains_iff_mem] at this
    exact hs this)

end Go.Proofs.YtbpaepkcchpmbaaGreat

namespace Go.Proofs.YtbpaepkcchpmbaaGreat
open Go.RowKit

section
variable {P : Program} {ops : Array Oper} {Q : Exit → Act → World → Prop} {a0 : Act} {w0 : World} {Φ : Nat → Value → World → Prop}

theorem any_inv2 (hback : ∀ (j : Nat) (o : Oper), ops[j]? = some o → ∀ e ∈ o.after, Region.binds .any e = true → e.on < j)
    (hdst : ∀ (i j : Nat) (oi oj : Oper) (t : Tmp), ops[i]? = some oi → ops[j]? = some oj → oi.dst = some t → oj.dst = some t → i = j)
    (hsz : ∀ (j : Nat) (o : Oper) (t : Tmp), ops[j]? = some o → o.dst = some t → t < a0.tmps.size)
    (mono : ∀ (j : Nat) (v : Value) (w w' : World), Below w.heap.size w w' → Φ j v w → Φ j v w')
    (hstep : ∀ (j : Nat) (o : Oper), ops[j]? = some o → ∀ (a : Act) (w : World), Below w0.heap.size w0 w → Fr ops a0 a → (∀ e ∈ o.after, Region.binds .any e = true → ∀ (oe : Oper), ops[e.on]? = some oe → Φ e.on (slotOf a oe.dst) w) → StepOk P ops Q Φ j o a w)
    (hend : ∀ (a : Act) (w : World), Below w0.heap.size w0 w → Fr ops a0 a → (∀ (j : Nat) (o : Oper), ops[j]? = some o → Φ j (slotOf a o.dst) w) → Q .normal a w) :
    ∀ (fuel : Nat) (listed : Array Bool) (a : Act) (w : World), listed.size = ops.size → Below w0.heap.size w0 w → Fr ops a0 a →
      (∀ (j : Nat) (o : Oper), ops[j]? = some o → listed.getD j false = true → Φ j (slotOf a o.dst) w) →
      (listed.toList.filter (fun b => !b)).length ≤ fuel → wpAny P .any ops Q fuel listed a w := by
  have hall : ∀ (listed : Array Bool), listed.size = ops.size → Region.ready .any ops listed = [] → ∀ (j : Nat) (o : Oper), ops[j]? = some o → listed.getD j false = true := by
    intro listed hl hr j
    induction j using Nat.strongRecOn with
    | _ j ih =>
      intro o ho
      by_cases hf : listed.getD j true = false
      · have : j ∈ Region.ready .any ops listed := mem_ready.2 ⟨hf, o, ho, fun e he hbd => by
          have hlt := hback j o ho e he hbd
          have hj : j < ops.size := (Array.getElem?_eq_some_iff.1 ho).1
          exact ih e.on hlt ops[e.on] (Array.getElem?_eq_getElem (by omega))⟩
        rw [hr] at this
        cases this
      · have hj : j < listed.size := by rw [hl]; exact (Array.getElem?_eq_some_iff.1 ho).1
        simpa [Array.getD, hj] using hf
  intro fuel
  induction fuel with
  | zero =>
    intro listed a w hl hB hF hfacts hcount
    have hr : Region.ready .any ops listed = [] := by
      apply List.eq_nil_iff_forall_not_mem.2
      intro j hj
      obtain ⟨h0, o, ho, _⟩ := mem_ready.1 hj
      have hjl : j < listed.size := by rw [hl]; exact (Array.getElem?_eq_some_iff.1 ho).1
      have hm : listed[j] = false := by simpa [Array.getD, hjl] using h0
      have : false ∈ listed.toList.filter (fun b => !b) := List.mem_filter.2 ⟨by rw [← hm]; simp, rfl⟩
      have hpos := List.length_pos_of_mem this
      omega
    exact ⟨hr, hend a w hB hF fun j o ho => hfacts j o ho (hall listed hl hr j o ho)⟩
  | succ fuel ih =>
    intro listed a w hl hB hF hfacts hcount
    refine ⟨fun hr => hend a w hB hF fun j o ho => hfacts j o ho (hall listed hl hr j o ho), fun i hi => ?_⟩
    obtain ⟨h0, o, ho, hdeps⟩ := mem_ready.1 hi
    have hil : i < listed.size := by rw [hl]; exact (Array.getElem?_eq_some_iff.1 ho).1
    have hm : listed[i] = false := by simpa [Array.getD, hil] using h0
    have hst := hstep i o ho a w hB hF fun e he hb oe hoe => hfacts e.on oe hoe (hdeps e he hb)
    -- what holds behind the operation
    have next : ∀ v w', (o.dst = none → v = undef) → Below w.heap.size w w' → Φ i v w' → wpAny P .any ops Q fuel (listed.setIfInBounds i true) (a.put o.dst v) w' := by
      intro v w' hv hb hΦ
      refine ih _ _ _ (by simpa using hl) (hB.trans (hb.mono hB.size)) ⟨?_, ?_, ?_⟩ ?_ ?_
      · cases hd : o.dst <;> simpa [Act.put] using hF.defers
      · cases hd : o.dst <;> simpa [Act.put] using hF.size
      · intro s hs
        rw [← hF.other s hs]
        cases hd : o.dst with
        | none => rfl
        | some t =>
          have hne : t ≠ s := fun e => hs i o ho (by rw [hd, e])
          simp [Act.put, hne]
      · intro j oj hoj hlj
        by_cases e : i = j
        · subst e
          obtain rfl : o = oj := by rw [ho] at hoj; exact Option.some.inj hoj
          cases hd : o.dst with
          | none => rw [hv hd] at hΦ; exact hΦ
          | some t => rw [slot_put_same _ _ (by rw [hF.size]; exact hsz i o t ho hd)]; exact hΦ
        · rw [slot_put_far _ _ fun t hjt hit => e (hdst i j o oj t ho hoj hit hjt)]
          refine mono j _ w w' hb (hfacts j oj hoj ?_)
          have hjl : j < listed.size := by rw [hl]; exact (Array.getElem?_eq_some_iff.1 hoj).1
          simpa [Array.getD, hjl, Array.getElem_setIfInBounds, e] using hlj
      · have hcnt : ((listed.setIfInBounds i true).toList.filter (fun b => !b)).length < (listed.toList.filter (fun b => !b)).length := by
          rw [Array.toList_setIfInBounds]
          exact count_set _ i (by simpa [hil] using hm)
        omega
    unfold wpOp
    rw [ho]
    unfold StepOk at hst
    by_cases hw : Region.wanted o (yielded ops a.tmps) = true
    · simp only [hw, if_true] at hst ⊢
      refine .inl (Oper.wp_mono (fun a' w' ⟨v, e, hv, hb, hΦ⟩ => ?_) hst)
      rw [e]
      exact next v w' hv hb hΦ
    · simp only [hw] at hst ⊢
      exact next undef w (fun _ => rfl) (Below.refl _ _) hst
/-- THE LAW. -/
theorem region_any2 {id : Nat} (hm : P.follows .mixedOrders = true) (hback : ∀ (j : Nat) (o : Oper), ops[j]? = some o → ∀ e ∈ o.after, Region.binds .any e = true → e.on < j)
    (hdst : ∀ (i j : Nat) (oi oj : Oper) (t : Tmp), ops[i]? = some oi → ops[j]? = some oj → oi.dst = some t → oj.dst = some t → i = j)
    (hsz : ∀ (j : Nat) (o : Oper) (t : Tmp), ops[j]? = some o → o.dst = some t → t < a0.tmps.size)
    (mono : ∀ (j : Nat) (v : Value) (w w' : World), Below w.heap.size w w' → Φ j v w → Φ j v w')
    (hstep : ∀ (j : Nat) (o : Oper), ops[j]? = some o → ∀ (a : Act) (w : World), Below w0.heap.size w0 w → Fr ops a0 a → (∀ e ∈ o.after, Region.binds .any e = true → ∀ (oe : Oper), ops[e.on]? = some oe → Φ e.on (slotOf a oe.dst) w) → StepOk P ops Q Φ j o a w)
    (hend : ∀ (a : Act) (w : World), Below w0.heap.size w0 w → Fr ops a0 a → (∀ (j : Nat) (o : Oper), ops[j]? = some o → Φ j (slotOf a o.dst) w) → Q .normal a w) :
    (Code.region id ops true).wp P Q a0 w0 :=
  wp_region_any hm (any_inv2 hback hdst hsz mono hstep hend ops.size _ a0 _ (by simp) (Below.drew (Below.refl _ _)) ⟨rfl, rfl, fun _ _ => rfl⟩
    (fun j o ho h => by
      have hj : j < ops.size := (Array.getElem?_eq_some_iff.1 ho).1
      simp [Array.getD, hj] at h)
    (Nat.le_trans (List.length_filter_le _ _) (by simp)))
end

def backB3 : Nat → List Oper → Bool
  | _, [] => true
  | j, o :: r => o.after.all (fun e => !Region.binds .any e || decide (e.on < j)) && backB3 (j + 1) r
def bookB3 (l : List Oper) (n : Nat) : Bool := backB3 0 l && nodupB (dstsOf l) && (dstsOf l).all (fun t => decide (t < n))
theorem backB3_at {l : List Oper} {k : Nat} (h : backB3 k l = true) {j : Nat} {o : Oper} (ho : l[j]? = some o) : ∀ e ∈ o.after, Region.binds .any e = true → e.on < k + j := by
  induction l generalizing k j with
  | nil => simp at ho
  | cons p r ih =>
    simp only [backB3, Bool.and_eq_true] at h
    cases j with
    | zero =>
      obtain rfl : p = o := by simpa using ho
      intro e he hb
      have := Array.all_eq_true_iff_forall_mem.1 h.1 e he
      simpa [hb] using this
    | succ j =>
      intro e he hb
      have := ih h.2 (j := j) (by simpa using ho) e he hb
      omega

theorem region_facts2 {P : Program} {Q : Exit → Act → World → Prop} {a0 : Act} {w0 : World} {id : Nat} {l : List Oper} (fs : List Fact) (D : List (Option Tmp)) (n : Nat) (hn : a0.tmps.size = n) (hm : P.follows .mixedOrders = true) (hbook : bookB3 l n = true) (hD : l.map (·.dst) = D)
    (mono : ∀ f ∈ fs, Mono f)
    (hstep : AllOps (fun j o => ∀ (a : Act) (w : World), Below w0.heap.size w0 w → FrD D a0 a → needs D fs a w o.after.toList → StepD P D (factAt fs j) o a w) 0 l)
    (hend : ∀ (a : Act) (w : World), Below w0.heap.size w0 w → FrD D a0 a → (∀ j d, D[j]? = some d → factAt fs j (slotOf a d) w) → Q .normal a w) :
    (Code.region id l.toArray true).wp P Q a0 w0 := by
  subst hn
  simp only [bookB3, Bool.and_eq_true] at hbook
  obtain ⟨⟨h1, h2⟩, h3⟩ := hbook
  have hfr : ∀ a, Fr l.toArray a0 a → FrD D a0 a := fun a h => ⟨h.defers, h.size, fun s hs => h.other s fun j o ho hd => by
    have : D.contains (some s) = true := by
      rw [← hD, List.contains_iff_mem, ← hd]
      exact List.mem_map.2 ⟨o, List.mem_of_getElem? (by simpa using ho), rfl⟩
    rw [hs] at this; cases this⟩
  have hslot : ∀ (i : Nat) (oe : Oper), l[i]? = some oe → (D[i]?).join = oe.dst := fun i oe h => by rw [← hD]; simp [h]
  have k1 : ∀ (j : Nat) (o : Oper), l.toArray[j]? = some o → ∀ e ∈ o.after, Region.binds .any e = true → e.on < j := fun j o ho e he hb => by
    have := backB3_at h1 (j := j) (by simpa using ho) e he hb
    omega
  have k2 : ∀ (i j : Nat) (oi oj : Oper) (t : Tmp), l.toArray[i]? = some oi → l.toArray[j]? = some oj → oi.dst = some t → oj.dst = some t → i = j := fun i j oi oj t hi hj hti htj =>
    dsts_apart h2 (by simpa using hi) (by simpa using hj) hti htj
  have k3 : ∀ (j : Nat) (o : Oper) (t : Tmp), l.toArray[j]? = some o → o.dst = some t → t < a0.tmps.size := fun j o t ho ht => by
    have := List.all_eq_true.1 h3 t (mem_dsts (j := j) (by simpa using ho) ht)
    simpa using this
  have k4 : ∀ (j : Nat) (v : Value) (w w' : World), Below w.heap.size w w' → factAt fs j v w → factAt fs j v w' := fun j v w w' hb h => by
    unfold factAt at h ⊢
    by_cases hj : j < fs.length
    · have e : fs.getD j (fun _ _ => True) = fs[j] := by simp [hj]
      rw [e] at h ⊢
      exact mono _ (List.getElem_mem hj) v w w' hb h
    · have e : fs.getD j (fun _ _ => True) = fun _ _ => True := by simp [List.getElem?_eq_none (Nat.le_of_not_lt hj)]
      rw [e]; trivial
  have k5 : ∀ (j : Nat) (o : Oper), l.toArray[j]? = some o → ∀ (a : Act) (w : World), Below w0.heap.size w0 w → Fr l.toArray a0 a → (∀ e ∈ o.after, Region.binds .any e = true → ∀ (oe : Oper), l.toArray[e.on]? = some oe → factAt fs e.on (slotOf a oe.dst) w) → StepOk P l.toArray Q (factAt fs) j o a w := fun j o ho a w hB hF hd => by
    have hs := allOps_at hstep (j := j) (by simpa using ho)
    rw [Nat.zero_add] at hs
    have hlt := backB3_at h1 (j := j) (by simpa using ho)
    have hj : j < l.length := by
      have := (Array.getElem?_eq_some_iff.1 ho).1
      simpa using this
    have hs' := hs a w hB (hfr a hF) (needs_of _ fun e he hb => by
      have he' : e ∈ o.after := by simpa using he
      have hl : e.on < l.length := by have := hlt e he' hb; omega
      rw [hslot e.on l[e.on] (List.getElem?_eq_getElem hl)]
      exact hd e he' hb l[e.on] (by simp [hl])) Q
    unfold StepOk
    have ey : yielded l.toArray a.tmps = yieldD D a.tmps := funext fun i => yielded_D hD a.tmps i
    rw [ey]
    exact hs'
  have k6 : ∀ (a : Act) (w : World), Below w0.heap.size w0 w → Fr l.toArray a0 a → (∀ (j : Nat) (o : Oper), l.toArray[j]? = some o → factAt fs j (slotOf a o.dst) w) → Q .normal a w := fun a w hB hF h => hend a w hB (hfr a hF) fun j d hjd => by
    rw [← hD, List.getElem?_map] at hjd
    obtain ⟨o, ho, rfl⟩ := Option.map_eq_some_iff.1 hjd
    exact h j o (by simpa using ho)
  exact region_any2 hm k1 k2 k3 k4 k5 k6

end Go.Proofs.YtbpaepkcchpmbaaGreat
