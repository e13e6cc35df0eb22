/-
  The law for regions with a head and a tail, where two operations of the head (numbers q1 and q2; q2 waits for q1) may write what was there before: I tells what holds of the world, by whether q1 and q2 were; K1, K2 what these two leave. No program here.
-/
import Derived.Test.YtbpaepkcchpmbaaGreatG10
namespace Go.Proofs.YtbpaepkcchpmbaaGreat
open Go.RowKit

/-- One operation, out of what it waits for. -/
def StepM (P : Program) (ops : Array Oper) (Q : Exit → Act → World → Prop) (Φ : Nat → Value → World → Prop) (K : Nat → World → World → Prop) (I : Bool → Bool → World → Prop) (q1 q2 j : Nat) (o : Oper) (a : Act) (w : World) (b1 b2 : Bool) : Prop :=
  if Region.wanted o (yielded ops a.tmps) = true then o.wp P a w (fun a' w' => ∃ v, a' = a.put o.dst v ∧ (o.dst = none → v = undef) ∧ K j w w' ∧ I (b1 || decide (j = q1)) (b2 || decide (j = q2)) w' ∧ Φ j v w') Q else Φ j undef w ∧ I (b1 || decide (j = q1)) (b2 || decide (j = q2)) w
/-- What each operation leaves. -/
def kindK (q1 q2 : Nat) (K1 K2 : World → World → Prop) (i : Nat) (w w' : World) : Prop := if i = q1 then K1 w w' else if i = q2 then K2 w w' else Below w.heap.size w w'
/-- What is asked of an operation. -/
def AskM (P : Program) (D : List (Option Tmp)) (Φ : Fact) (K1 K2 : World → World → Prop) (I : Bool → Bool → World → Prop) (q1 q2 j : Nat) (o : Oper) (a : Act) (w : World) : Prop :=
  if j = q1 then StepL P D Φ K1 (I true false) o a w else if j = q2 then StepL P D Φ K2 (I true true) o a w else StepD P D Φ o a w
section
variable {P : Program} {D : List (Option Tmp)} {Φ : Fact} {K1 K2 : World → World → Prop} {I : Bool → Bool → World → Prop} {q1 q2 j : Nat} {o : Oper} {a : Act} {w : World}
theorem askM_d (h1 : j ≠ q1) (h2 : j ≠ q2) (h : StepD P D Φ o a w) : AskM P D Φ K1 K2 I q1 q2 j o a w := by unfold AskM; rw [if_neg h1, if_neg h2]; exact h
theorem askM_1 (h1 : j = q1) (h : StepL P D Φ K1 (I true false) o a w) : AskM P D Φ K1 K2 I q1 q2 j o a w := by unfold AskM; rw [if_pos h1]; exact h
theorem askM_2 (h1 : j ≠ q1) (h2 : j = q2) (h : StepL P D Φ K2 (I true true) o a w) : AskM P D Φ K1 K2 I q1 q2 j o a w := by unfold AskM; rw [if_neg h1, if_pos h2]; exact h
end

section
variable {P : Program} {ops : Array Oper} {Q : Exit → Act → World → Prop} {a0 : Act} {Φ : Nat → Value → World → Prop} {N q1 q2 : Nat} {K : Nat → World → World → Prop} {I : Bool → Bool → World → Prop}
theorem head_invM (hback : ∀ (j : Nat) (o : Oper), ops[j]? = some o → ∀ e ∈ o.after, Region.binds .any e = true → e.on < j)
    (hdst : ∀ (i j : Nat) (oi oj : Oper) (t : Tmp), ops[i]? = some oi → ops[j]? = some oj → oi.dst = some t → oj.dst = some t → i = j)
    (hsz : ∀ (j : Nat) (o : Oper) (t : Tmp), ops[j]? = some o → o.dst = some t → t < a0.tmps.size)
    (mono : ∀ (i j : Nat) (v : Value) (w w' : World), i ≠ j → K i w w' → Φ j v w → Φ j v w')
    (hK : ∀ i w, K i w w) (hqN : q1 < N) (_ : q1 < q2) (hqq : ∀ o, ops[q2]? = some o → ∃ e ∈ o.after, Region.binds .any e = true ∧ e.on = q1)
    (hn : N < ops.size) (hsink : Region.sinkB .any ops N = true) (hchain : Region.chainB .any ops N = true) (hseq : Region.seqB .any ops (ops.size - N) N (canonL ops.size N) = true)
    (hstep : ∀ (j : Nat) (o : Oper), j < N → ops[j]? = some o → ∀ (a : Act) (w : World) (b1 b2 : Bool), (j = q1 → b1 = false ∧ b2 = false) → (j = q2 → b1 = true ∧ b2 = false) → I b1 b2 w → FrN ops N a0 a → (∀ e ∈ o.after, Region.binds .any e = true → ∀ (oe : Oper), ops[e.on]? = some oe → Φ e.on (slotOf a oe.dst) w) → StepM P ops Q Φ K I q1 q2 j o a w b1 b2)
    (hend : ∀ (a : Act) (w : World), I true (decide (q2 < N)) w → FrN ops N a0 a → (∀ (j : Nat) (o : Oper), j < N → ops[j]? = some o → Φ j (slotOf a o.dst) w) → wpList P ops Q (ops.toList.drop N) a w) :
    ∀ (fuel : Nat) (listed : Array Bool) (a : Act) (w : World), HeadInv .any ops N listed → I (listed.getD q1 false) (listed.getD q2 false) w → FrN ops N a0 a →
      (∀ (j : Nat) (o : Oper), j < N → ops[j]? = some o → listed.getD j false = true → Φ j (slotOf a o.dst) w) →
      (listed.toList.filter (fun b => !b)).length = fuel → wpAny P .any ops Q fuel listed a w := by
  intro fuel
  induction fuel with
  | zero =>
    intro listed a w inv hB hF hfacts hcount
    exfalso
    have h1 := inv.tail N (Nat.le_refl _) hn
    have hjl : N < listed.size := by rw [inv.size]; exact hn
    have hm : listed[N] = false := by simpa [Array.getD, hjl] using h1
    have : false ∈ listed.toList.filter (fun b => !b) := List.mem_filter.2 ⟨by rw [← hm]; simp, rfl⟩
    have hpos := List.length_pos_of_mem this
    omega
  | succ fuel ih =>
    intro listed a w inv hB hF hfacts hcount
    by_cases hall : ∀ j, j < N → listed.getD j false = true
    · have e := canon_eq (Nat.le_of_lt hn) inv.size hall inv.tail
      have hc := canon_count ops.size N
      rw [← e, hcount] at hc
      have hl : (ops.toList.drop N).length = fuel + 1 := by simp; omega
      have e2 : listed.getD q2 false = decide (q2 < N) := by
        by_cases h2 : q2 < N
        · rw [hall q2 h2]; simp [h2]
        · rw [decide_eq_false h2]
          by_cases h3 : q2 < ops.size
          · have := inv.tail q2 (by omega) h3
            have hl2 : q2 < listed.size := by rw [inv.size]; exact h3
            simpa [Array.getD, hl2] using this
          · simp [Array.getD, inv.size, h3]
      rw [← hl]
      refine wpAny_of_seq (ops.toList.drop N) N listed a w (fun j => by simp) ?_ (hend a w (by rw [hall q1 hqN, e2] at hB; exact hB) hF fun j o hj ho => hfacts j o hj ho (hall j hj))
      rw [hl, e, hc]
      exact hseq
    · obtain ⟨i, hiN, hif⟩ : ∃ i, i < N ∧ listed.getD i true = false := by
        apply Classical.byContradiction
        intro hno
        apply hall
        intro j hj
        have hjl : j < listed.size := by rw [inv.size]; omega
        cases h : listed.getD j false with
        | true => rfl
        | false => exact absurd ⟨j, hj, getD_in hjl h⟩ hno
      have hlow : ∀ t, t ∈ Region.ready .any ops listed → t < N := fun t ht => by
        rcases Nat.lt_or_ge t N with h | h
        · exact h
        · exact absurd ht (tail_waits hsink hchain hn inv _ i rfl hiN hif t h)
      have hne : Region.ready .any ops listed ≠ [] := by
        intro hr
        have hall2 : ∀ j, j < ops.size → listed.getD j false = true := by
          intro j
          induction j using Nat.strongRecOn with
          | _ j ih2 =>
            intro hj
            cases h : listed.getD j false with
            | true => rfl
            | false =>
              have hjl : j < listed.size := by rw [inv.size]; exact hj
              have : j ∈ Region.ready .any ops listed := mem_ready.2 ⟨getD_in hjl h, ops[j], Array.getElem?_eq_getElem hj, fun e he hbd => by
                have hlt := hback j _ (Array.getElem?_eq_getElem hj) e he hbd
                exact ih2 e.on hlt (by omega)⟩
              rw [hr] at this
              cases this
        have := hall2 i (by omega)
        rw [getD_both hif] at this
        cases this
      refine ⟨fun hr => absurd hr hne, fun j hj => ?_⟩
      have hjN := hlow j hj
      obtain ⟨h0, o, ho, hdeps⟩ := mem_ready.1 hj
      have hil : j < listed.size := by rw [inv.size]; omega
      have hm : listed[j] = false := by simpa [Array.getD, hil] using h0
      have hjf : listed.getD j false = false := by simp [Array.getD, hil, hm]
      have hclose : listed.getD q2 false = true → listed.getD q1 false = true := fun h => by
        by_cases h3 : q2 < ops.size
        · obtain ⟨e, he, hb, hon⟩ := hqq ops[q2] (Array.getElem?_eq_getElem h3)
          have := inv.closed q2 ops[q2] (Array.getElem?_eq_getElem h3) h e he hb
          rwa [hon] at this
        · simp [Array.getD, inv.size, h3] at h
      have hun1 : j = q1 → listed.getD q1 false = false ∧ listed.getD q2 false = false := fun e => by
        have h1 : listed.getD q1 false = false := by rw [← e]; exact hjf
        refine ⟨h1, ?_⟩
        cases h : listed.getD q2 false with
        | false => rfl
        | true => rw [hclose h] at h1; cases h1
      have hun2 : j = q2 → listed.getD q1 false = true ∧ listed.getD q2 false = false := fun e => by
        refine ⟨?_, by rw [← e]; exact hjf⟩
        obtain ⟨e2, he, hb, hon⟩ := hqq o (by rw [← e]; exact ho)
        have := hdeps e2 he hb
        rwa [hon] at this
      have hst := hstep j o hjN ho a w _ _ hun1 hun2 hB hF fun e he hb oe hoe => hfacts e.on oe (by have := hback j o ho e he hb; omega) hoe (hdeps e he hb)
      have hset1 : (listed.setIfInBounds j true).getD q1 false = (listed.getD q1 false || decide (j = q1)) := getD_or (by rw [inv.size]; omega)
      have hset2 : (listed.setIfInBounds j true).getD q2 false = (listed.getD q2 false || decide (j = q2)) := getD_or (by rw [inv.size]; omega)
      have next : ∀ v w', (o.dst = none → v = undef) → K j w w' → I (listed.getD q1 false || decide (j = q1)) (listed.getD q2 false || decide (j = q2)) w' → Φ j v w' → wpAny P .any ops Q fuel (listed.setIfInBounds j true) (a.put o.dst v) w' := by
        intro v w' hv hb hI hΦ
        refine ih _ _ _ (inv.set hj hjN) (by rw [hset1, hset2]; exact hI) ⟨?_, ?_, ?_⟩ ?_ ?_
        · cases hd : o.dst <;> simpa [Act.put] using hF.defers
        · cases hd : o.dst <;> simpa [Act.put] using hF.size
        · intro s hs
          rw [← hF.other s hs]
          cases hd : o.dst with
          | none => rfl
          | some t =>
            have hne : t ≠ s := fun e => hs j o hjN ho (by rw [hd, e])
            simp [Act.put, hne]
        · intro k ok hk hok hlk
          by_cases e : j = k
          · subst e
            obtain rfl : o = ok := by rw [ho] at hok; exact Option.some.inj hok
            cases hd : o.dst with
            | none => rw [hv hd] at hΦ; exact hΦ
            | some t => rw [slot_put_same _ _ (by rw [hF.size]; exact hsz j o t ho hd)]; exact hΦ
          · rw [slot_put_far _ _ fun t hjt hit => e (hdst j k o ok t ho hok hit hjt)]
            refine mono j k _ w w' e hb (hfacts k ok hk hok ?_)
            have hkl : k < listed.size := by rw [inv.size]; omega
            simpa [Array.getD, hkl, Array.getElem_setIfInBounds, e] using hlk
        · have := count_set_eq listed.toList j (by simpa [hil] using hm)
          rw [Array.toList_setIfInBounds]
          omega
      unfold wpOp
      rw [ho]
      unfold StepM at hst
      by_cases hw : Region.wanted o (yielded ops a.tmps) = true
      · simp only [hw, if_true] at hst ⊢
        refine .inl (Oper.wp_mono (fun a' w' ⟨v, e, hv, hb, hI, hΦ⟩ => ?_) hst)
        rw [e]
        exact next v w' hv hb hI hΦ
      · simp only [hw] at hst ⊢
        exact next undef w (fun _ => rfl) (hK j w) hst.2 hst.1
end

theorem region_headM {P : Program} {Q : Exit → Act → World → Prop} {a0 : Act} {w0 : World} {id : Nat} {l : List Oper} (K1 K2 : World → World → Prop) (I : Bool → Bool → World → Prop) (q1 q2 : Nat) (fs : List Fact) (D : List (Option Tmp)) (N n : Nat) (hn : a0.tmps.size = n) (hm : P.follows .mixedOrders = true) (hbook : bookB2 l n = true) (hD : l.map (·.dst) = D) (htail : tailB l N = true)
    (hK1 : ∀ w, K1 w w) (hK2 : ∀ w, K2 w w) (hqN : q1 < N) (hq12 : q1 < q2) (hqq : ((l[q2]?).map fun o => o.after.any fun e => Region.binds .any e && e.on == q1) ≠ some false)
    (hI : ∀ b1 b2 w w', I b1 b2 w → Below w.heap.size w w' → I b1 b2 w') (h0 : I false false w0.drew)
    (mono : ∀ f ∈ fs, Mono f) (mono1 : ∀ j, j ≠ q1 → ∀ (v : Value) (w w' : World), K1 w w' → factAt fs j v w → factAt fs j v w') (mono2 : ∀ j, j ≠ q2 → ∀ (v : Value) (w w' : World), K2 w w' → factAt fs j v w → factAt fs j v w')
    (hstep : AllOps (fun j o => ∀ (a : Act) (w : World) (b1 b2 : Bool), (j = q1 → b1 = false ∧ b2 = false) → (j = q2 → b1 = true ∧ b2 = false) → I b1 b2 w → FrD (D.take N) a0 a → needs D fs a w o.after.toList → AskM P D (factAt fs j) K1 K2 I q1 q2 j o a w) 0 (l.take N))
    (hend : ∀ (a : Act) (w : World), I true (decide (q2 < N)) w → FrD (D.take N) a0 a → (∀ j d, j < N → D[j]? = some d → factAt fs j (slotOf a d) w) → wpList P l.toArray Q (l.drop N) a w) :
    (Code.region id l.toArray true).wp P Q a0 w0 := by
  subst hn
  simp only [bookB2, Bool.and_eq_true] at hbook
  obtain ⟨⟨h1, h2⟩, h3⟩ := hbook
  simp only [tailB, Bool.and_eq_true, decide_eq_true_eq] at htail
  obtain ⟨⟨⟨hN, t1⟩, t2⟩, t3⟩ := htail
  have hfr : ∀ a, FrN l.toArray N a0 a → FrD (D.take N) a0 a := fun a h => ⟨h.defers, h.size, fun s hs => h.other s fun j o hj ho hd => by
    have : (D.take N).contains (some s) = true := by
      rw [← hD, List.contains_iff_mem, ← hd, ← List.map_take]
      refine List.mem_map.2 ⟨o, List.mem_of_getElem? (i := j) ?_, rfl⟩
      rw [List.getElem?_take, if_pos hj]
      simpa using ho
    rw [hs] at this; cases this⟩
  have hslot : ∀ (i : Nat) (oe : Oper), l[i]? = some oe → (D[i]?).join = oe.dst := fun i oe h => by rw [← hD]; simp [h]
  have k1 : ∀ (j : Nat) (o : Oper), l.toArray[j]? = some o → ∀ e ∈ o.after, Region.binds .any e = true → e.on < j := fun j o ho e he hb => by
    have := backB2_at h1 (j := j) (by simpa using ho) e he hb
    omega
  have k2 : ∀ (i j : Nat) (oi oj : Oper) (t : Tmp), l.toArray[i]? = some oi → l.toArray[j]? = some oj → oi.dst = some t → oj.dst = some t → i = j := fun i j oi oj t hi hj hti htj =>
    dsts_apart h2 (by simpa using hi) (by simpa using hj) hti htj
  have k3 : ∀ (j : Nat) (o : Oper) (t : Tmp), l.toArray[j]? = some o → o.dst = some t → t < a0.tmps.size := fun j o t ho ht => by
    have := List.all_eq_true.1 h3 t (mem_dsts (j := j) (by simpa using ho) ht)
    simpa using this
  have kmono : ∀ (j : Nat) (v : Value) (w w' : World), Below w.heap.size w w' → factAt fs j v w → factAt fs j v w' := fun j v w w' hb h => by
    unfold factAt at h ⊢
    by_cases hj : j < fs.length
    · have e : fs.getD j (fun _ _ => True) = fs[j] := by simp [hj]
      rw [e] at h ⊢
      exact mono _ (List.getElem_mem hj) v w w' hb h
    · have e : fs.getD j (fun _ _ => True) = fun _ _ => True := by simp [List.getElem?_eq_none (Nat.le_of_not_lt hj)]
      rw [e]; trivial
  have k4 : ∀ (i j : Nat) (v : Value) (w w' : World), i ≠ j → kindK q1 q2 K1 K2 i w w' → factAt fs j v w → factAt fs j v w' := fun i j v w w' hne hk h => by
    unfold kindK at hk
    by_cases e1 : i = q1
    · rw [if_pos e1] at hk; exact mono1 j (fun e => hne (e1.trans e.symm)) v w w' hk h
    · rw [if_neg e1] at hk
      by_cases e2 : i = q2
      · rw [if_pos e2] at hk; exact mono2 j (fun e => hne (e2.trans e.symm)) v w w' hk h
      · rw [if_neg e2] at hk; exact kmono j v w w' hk h
  have kK : ∀ (i : Nat) (w : World), kindK q1 q2 K1 K2 i w w := fun i w => by
    unfold kindK
    by_cases e1 : i = q1
    · rw [if_pos e1]; exact hK1 w
    · rw [if_neg e1]
      by_cases e2 : i = q2
      · rw [if_pos e2]; exact hK2 w
      · rw [if_neg e2]; exact Below.refl _ _
  have k7 : ∀ o, l.toArray[q2]? = some o → ∃ e ∈ o.after, Region.binds .any e = true ∧ e.on = q1 := fun o ho => by
    have ho' : l[q2]? = some o := by simpa using ho
    rw [ho'] at hqq
    have : (o.after.any fun e => Region.binds .any e && e.on == q1) = true := by simpa using hqq
    obtain ⟨i, hi, he⟩ := Array.any_eq_true.1 this
    rw [Bool.and_eq_true] at he
    exact ⟨o.after[i], Array.getElem_mem hi, he.1, by simpa using he.2⟩
  have k5 : ∀ (j : Nat) (o : Oper), j < N → l.toArray[j]? = some o → ∀ (a : Act) (w : World) (b1 b2 : Bool), (j = q1 → b1 = false ∧ b2 = false) → (j = q2 → b1 = true ∧ b2 = false) → I b1 b2 w → FrN l.toArray N a0 a → (∀ e ∈ o.after, Region.binds .any e = true → ∀ (oe : Oper), l.toArray[e.on]? = some oe → factAt fs e.on (slotOf a oe.dst) w) → StepM P l.toArray Q (factAt fs) (kindK q1 q2 K1 K2) I q1 q2 j o a w b1 b2 := fun j o hj ho a w b1 b2 hb1 hb2 hB hF hd => by
    have ho' : (l.take N)[j]? = some o := by rw [List.getElem?_take, if_pos hj]; simpa using ho
    have hs := allOps_at hstep (j := j) ho'
    rw [Nat.zero_add] at hs
    have hlt := backB2_at h1 (j := j) (by simpa using ho)
    have hs' := hs a w b1 b2 hb1 hb2 hB (hfr a hF) (needs_of _ fun e he hb => by
      have he' : e ∈ o.after := by simpa using he
      have hl : e.on < l.length := by have := hlt e he' hb; omega
      rw [hslot e.on l[e.on] (List.getElem?_eq_getElem hl)]
      exact hd e he' hb l[e.on] (by simp [hl]))
    unfold StepM
    have ey : yielded l.toArray a.tmps = yieldD D a.tmps := funext fun i => yielded_D hD a.tmps i
    rw [ey]
    unfold AskM at hs'
    unfold kindK
    by_cases e1 : j = q1
    · rw [if_pos e1] at hs'
      obtain ⟨rfl, rfl⟩ := hb1 e1
      have n2 : decide (j = q2) = false := decide_eq_false (by omega)
      have y1 : decide (j = q1) = true := decide_eq_true e1
      simp only [if_pos e1, n2, y1, Bool.false_or, Bool.or_false]
      exact hs' Q
    · rw [if_neg e1] at hs'
      have n1 : decide (j = q1) = false := decide_eq_false e1
      by_cases e2 : j = q2
      · rw [if_pos e2] at hs'
        obtain ⟨rfl, rfl⟩ := hb2 e2
        have y2 : decide (j = q2) = true := decide_eq_true e2
        simp only [if_neg e1, if_pos e2, n1, y2, Bool.false_or, Bool.or_false]
        exact hs' Q
      · rw [if_neg e2] at hs'
        have n2 : decide (j = q2) = false := decide_eq_false e2
        simp only [if_neg e1, if_neg e2, n1, n2, Bool.or_false]
        exact (StepD.toL (J := fun w => I b1 b2 w) (K := fun w w' => Below w.heap.size w w') hs' (fun _ h => h) (fun w' h => hI b1 b2 w w' hB h)) Q
  have k6 : ∀ (a : Act) (w : World), I true (decide (q2 < N)) w → FrN l.toArray N a0 a → (∀ (j : Nat) (o : Oper), j < N → l.toArray[j]? = some o → factAt fs j (slotOf a o.dst) w) → wpList P l.toArray Q (l.toArray.toList.drop N) a w := fun a w hB hF h => hend a w hB (hfr a hF) fun j d hj hjd => by
    rw [← hD, List.getElem?_map] at hjd
    obtain ⟨o, ho, rfl⟩ := Option.map_eq_some_iff.1 hjd
    exact h j o hj (by simpa using ho)
  refine wp_region_any hm ?_
  have inv0 : HeadInv .any l.toArray N (Array.replicate l.toArray.size false) :=
    ⟨by simp, fun j oj _ hl => (by rw [getD_replicate_false] at hl; cases hl), fun t _ ht => getD_in (by simpa using ht) (getD_replicate_false _ _)⟩
  exact head_invM (Φ := factAt fs) (ops := l.toArray) (N := N) k1 k2 k3 k4 kK hqN hq12 k7 (by simpa using hN) t1 t2 (by simpa using t3) k5 k6 l.toArray.size (Array.replicate l.toArray.size false) a0 _ inv0 (by rw [getD_replicate_false, getD_replicate_false]; exact h0) ⟨rfl, rfl, fun _ _ => rfl⟩
    (fun j o _ _ h => by rw [getD_replicate_false] at h; cases h) (by simp)


end Go.Proofs.YtbpaepkcchpmbaaGreat
