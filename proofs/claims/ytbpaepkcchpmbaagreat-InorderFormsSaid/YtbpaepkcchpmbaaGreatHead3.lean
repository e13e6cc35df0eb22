import Derived.Test.YtbpaepkcchpmbaaGreatG10
namespace Go.Proofs.YtbpaepkcchpmbaaGreat
open Go.RowKit
def orderB (md : Region.Mode) (ops : Array Oper) : List Nat → Array Bool → Bool
  | [], listed => (Region.ready md ops listed).isEmpty
  | k :: r, listed => decide (Region.ready md ops listed = [k]) && orderB md ops r (listed.setIfInBounds k true)
def Match (ops : Array Oper) : List Nat → List Oper → Prop
  | [], [] => True
  | i :: r, o :: l => ops[i]? = some o ∧ Match ops r l
  | _, _ => False
section
variable {P : Program} {ops : Array Oper} {md : Region.Mode}
theorem wpAny_of_order {Q' : Exit → Act → World → Prop} : ∀ (ks : List Nat) (l : List Oper) (listed : Array Bool) (a : Act) (w : World), Match ops ks l →
    orderB md ops ks listed = true → wpList P ops Q' l a w → wpAny P md ops Q' ks.length listed a w
  | [], [], _, _, _, _, hB, h => ⟨by simpa [orderB] using hB, h⟩
  | k :: r, o :: l, listed, a, w, hm, hB, h => by
    simp only [orderB, Bool.and_eq_true, decide_eq_true_eq] at hB
    refine ⟨fun h1 => (by rw [hB.1] at h1; cases h1), fun i hi => ?_⟩
    rw [hB.1] at hi
    have hik : i = k := by simpa using hi
    subst hik
    have hw : wpOp P ops Q' i (wpList P ops Q' l) a w := by unfold wpOp; simp only [hm.1]; exact h
    exact wpOp_mono (fun a' w' h' => wpAny_of_order r l _ a' w' hm.2 hB.2 h') hw
  | [], _ :: _, _, _, _, hm, _, _ => hm.elim
  | _ :: _, [], _, _, _, hm, _, _ => hm.elim
end
def sinkQ (md : Region.Mode) (ops : Array Oper) (n q : Nat) : Bool :=
  (List.range n).all fun i => decide (i = q) || (List.range (n + 1)).any fun j => decide (i < j) && decide (j ≠ q) && Region.waitsFor md ops j i
theorem tail_waitsQ {md : Region.Mode} {ops : Array Oper} {n q : Nat} {listed : Array Bool} (hs : sinkQ md ops n q = true) (hc : Region.chainB md ops n = true) (hn : n < ops.size) (inv : HeadInv md ops n listed) :
    ∀ (d i : Nat), n - i = d → i < n → i ≠ q → listed.getD i true = false → ∀ t, n ≤ t → t ∉ Region.ready md ops listed := by
  intro d
  induction d using Nat.strongRecOn with
  | _ d ih =>
    intro i hd hi hiq hun t ht hr
    obtain ⟨_, ot, hot, hall⟩ := mem_ready.1 hr
    have htlt : t < ops.size := (Array.getElem?_eq_some_iff.1 hot).1
    by_cases htn : t = n
    · subst htn
      have h1 := List.all_eq_true.1 hs i (List.mem_range.2 hi)
      simp only [Bool.or_eq_true, decide_eq_true_eq] at h1
      rcases h1 with h1 | h1
      · exact hiq h1
      obtain ⟨j, hj, hj2⟩ := List.any_eq_true.1 h1
      simp only [Bool.and_eq_true, decide_eq_true_eq] at hj2
      obtain ⟨oj, hoj, e, he, hb, hon⟩ := Region.waitsFor_spec hj2.2
      have hjle : j ≤ t := by have := List.mem_range.1 hj; omega
      by_cases hjt : j = t
      · subst hjt
        have : oj = ot := Option.some.inj (hoj.symm.trans hot)
        subst this
        have h2 := hall e he hb
        rw [hon, getD_both hun] at h2
        cases h2
      · cases hl : listed.getD j false with
        | true =>
          have h2 := inv.closed j oj hoj hl e he hb
          rw [hon, getD_both hun] at h2
          cases h2
        | false =>
          have hjs : j < listed.size := by rw [inv.size]; omega
          exact ih (t - j) (by omega) j rfl (by omega) hj2.1.2 (getD_in hjs hl) t (Nat.le_refl _) hr
    · have h1 := List.all_eq_true.1 hc t (List.mem_range.2 htlt)
      simp only [Bool.or_eq_true, decide_eq_true_eq] at h1
      rcases h1 with h1 | h1
      · omega
      · obtain ⟨o', ho', e, he, hb, hon⟩ := Region.waitsFor_spec h1
        have : o' = ot := Option.some.inj (ho'.symm.trans hot)
        subst this
        have h2 := hall e he hb
        rw [hon, getD_both (inv.tail (t - 1) (by omega) (by omega))] at h2
        cases h2
def canonQ (n N q : Nat) : Array Bool := (canonL n N).setIfInBounds q false
theorem canonQ_eq {P : Array Bool} {n N q : Nat} (hN : N ≤ n) (hq : q < N) (hs : P.size = n) (h1 : ∀ j, j < N → j ≠ q → P.getD j false = true) (h0 : P.getD q true = false) (h2 : ∀ t, N ≤ t → t < n → P.getD t true = false) : P = canonQ n N q := by
  have e : P.setIfInBounds q true = canonL n N := canon_eq hN (by simp [hs]) (fun j hj => by
    by_cases e : q = j
    · subst e; simp [hs, show q < n by omega]
    · have := h1 j hj (Ne.symm e); simpa [Array.getD, Array.getElem_setIfInBounds, hs, show j < n by omega, e] using this) (fun t ht htn => by
    have := h2 t ht htn
    have hne : q ≠ t := by omega
    simpa [Array.getD, Array.getElem_setIfInBounds, hs, htn, hne] using this)
  unfold canonQ
  rw [← e]
  apply Array.ext
  · simp
  · intro i hi hi2
    by_cases e2 : q = i
    · subst e2
      simp [hi] at h0
      simp [h0]
    · rw [Array.getElem_setIfInBounds_ne (by simpa using hi) e2, Array.getElem_setIfInBounds_ne (by simpa using hi) e2]
section
variable {P : Program} {ops : Array Oper} {Q : Exit → Act → World → Prop} {a0 : Act} {w0 : World} {Φ : Nat → Value → World → Prop} {N q : Nat}
theorem head_inv3 (hback : ∀ (j : Nat) (o : Oper), ops[j]? = some o → ∀ e ∈ o.after, Region.binds .any e = true → e.on < j)
    (hdst : ∀ (i j : Nat) (oi oj : Oper) (t : Tmp), ops[i]? = some oi → ops[j]? = some oj → oi.dst = some t → oj.dst = some t → i = j)
    (hsz : ∀ (j : Nat) (o : Oper) (t : Tmp), ops[j]? = some o → o.dst = some t → t < a0.tmps.size)
    (mono : ∀ (j : Nat) (v : Value) (w w' : World), Below w.heap.size w w' → Φ j v w → Φ j v w')
    (hn : N < ops.size) (hq : q < N) (hsink : sinkQ .any ops N q = true) (hchain : Region.chainB .any ops N = true) (hseq : Region.seqB .any ops (ops.size - N) N (canonL ops.size N) = true)
    (ks : List Nat) (hks : ks.length + 1 = ops.size - N + 1) (hready : Region.ready .any ops (canonQ ops.size N q) = [q, N]) (horder : orderB .any ops ks ((canonQ ops.size N q).setIfInBounds N true) = true)
    (lq : List Oper) (hlq : Match ops ks lq) (oN : Oper) (hoN : ops[N]? = some oN)
    (hstep : ∀ (j : Nat) (o : Oper), j < N → ops[j]? = some o → ∀ (a : Act) (w : World), Below w0.heap.size w0 w → FrN ops N a0 a → (∀ e ∈ o.after, Region.binds .any e = true → ∀ (oe : Oper), ops[e.on]? = some oe → Φ e.on (slotOf a oe.dst) w) → StepOk P ops Q Φ j o a w)
    (hend : ∀ (a : Act) (w : World), Below w0.heap.size w0 w → FrN ops N a0 a → (∀ (j : Nat) (o : Oper), j < N → ops[j]? = some o → Φ j (slotOf a o.dst) w) → wpList P ops Q (ops.toList.drop N) a w)
    (hendQ : ∀ (a : Act) (w : World), Below w0.heap.size w0 w → FrN ops N a0 a → (∀ (j : Nat) (o : Oper), j < N → j ≠ q → ops[j]? = some o → Φ j (slotOf a o.dst) w) → (∀ oq, ops[q]? = some oq → slotOf a oq.dst = slotOf a0 oq.dst) → wpList P ops Q (oN :: lq) a w) :
    ∀ (fuel : Nat) (listed : Array Bool) (a : Act) (w : World), HeadInv .any ops N listed → Below w0.heap.size w0 w → FrN ops N a0 a →
      (∀ (j : Nat) (o : Oper), j < N → ops[j]? = some o → listed.getD j false = true → Φ j (slotOf a o.dst) w) → (listed.getD q true = false → ∀ oq, ops[q]? = some oq → slotOf a oq.dst = slotOf a0 oq.dst) →
      (listed.toList.filter (fun b => !b)).length = fuel → wpAny P .any ops Q fuel listed a w := by
  intro fuel
  induction fuel with
  | zero =>
    intro listed a w inv hB hF hfacts hfq hcount
    exfalso
    have h1 := inv.tail N (Nat.le_refl _) hn
    have hjl : N < listed.size := by rw [inv.size]; exact hn
    have hm : listed[N] = false := by simpa [Array.getD, hjl] using h1
    have : false ∈ listed.toList.filter (fun b => !b) := List.mem_filter.2 ⟨by rw [← hm]; simp, rfl⟩
    have hpos := List.length_pos_of_mem this
    omega
  | succ fuel ih =>
    intro listed a w inv hB hF hfacts hfq hcount
    -- what one step of the head gives
    have step : ∀ j, j < N → j ∈ Region.ready .any ops listed → wpOp P ops Q j (wpAny P .any ops Q fuel (listed.setIfInBounds j true)) a w := by
      intro j hjN hj
      obtain ⟨h0, o, ho, hdeps⟩ := mem_ready.1 hj
      have hil : j < listed.size := by rw [inv.size]; omega
      have hm : listed[j] = false := by simpa [Array.getD, hil] using h0
      have hst := hstep j o hjN ho a w hB hF fun e he hb oe hoe => hfacts e.on oe (by have := hback j o ho e he hb; omega) hoe (hdeps e he hb)
      have next : ∀ v w', (o.dst = none → v = undef) → Below w.heap.size w w' → Φ j v w' → wpAny P .any ops Q fuel (listed.setIfInBounds j true) (a.put o.dst v) w' := by
        intro v w' hv hb hΦ
        refine ih _ _ _ (inv.set hj hjN) (hB.trans (hb.mono hB.size)) ⟨?_, ?_, ?_⟩ ?_ ?_ ?_
        · cases hd : o.dst <;> simpa [Act.put] using hF.defers
        · cases hd : o.dst <;> simpa [Act.put] using hF.size
        · intro s hs
          rw [← hF.other s hs]
          cases hd : o.dst with
          | none => rfl
          | some t =>
            have hne : t ≠ s := fun e => hs j o hjN ho (by rw [hd, e])
            simp [Act.put, hne]
        · intro k ok hk hok hlk
          by_cases e : j = k
          · subst e
            obtain rfl : o = ok := by rw [ho] at hok; exact Option.some.inj hok
            cases hd : o.dst with
            | none => rw [hv hd] at hΦ; exact hΦ
            | some t => rw [slot_put_same _ _ (by rw [hF.size]; exact hsz j o t ho hd)]; exact hΦ
          · rw [slot_put_far _ _ fun t hjt hit => e (hdst j k o ok t ho hok hit hjt)]
            refine mono k _ w w' hb (hfacts k ok hk hok ?_)
            have hkl : k < listed.size := by rw [inv.size]; omega
            simpa [Array.getD, hkl, Array.getElem_setIfInBounds, e] using hlk
        · intro hun oq hoq
          have hql : q < listed.size := by rw [inv.size]; omega
          by_cases e : j = q
          · subst e; simp [hql] at hun
          · rw [slot_put_far _ _ fun t hjt hit => e (hdst j q o oq t ho hoq hit hjt)]
            exact hfq (by simpa [Array.getD, hql, Array.getElem_setIfInBounds, e] using hun) oq hoq
        · have := count_set_eq listed.toList j (by simpa [hil] using hm)
          rw [Array.toList_setIfInBounds]
          omega
      unfold wpOp
      rw [ho]
      unfold StepOk at hst
      by_cases hw : Region.wanted o (yielded ops a.tmps) = true
      · simp only [hw, if_true] at hst ⊢
        refine .inl (Oper.wp_mono (fun a' w' ⟨v, e, hv, hb, hΦ⟩ => ?_) hst)
        rw [e]
        exact next v w' hv hb hΦ
      · simp only [hw] at hst ⊢
        exact next undef w (fun _ => rfl) (Below.refl _ _) hst
    by_cases hallq : ∀ j, j < N → j ≠ q → listed.getD j false = true
    · have hql : q < listed.size := by rw [inv.size]; omega
      cases hqv : listed.getD q false with
      | true =>
        have hall : ∀ j, j < N → listed.getD j false = true := fun j hj => by
          by_cases e : j = q
          · rw [e]; exact hqv
          · exact hallq j hj e
        have e := canon_eq (Nat.le_of_lt hn) inv.size hall inv.tail
        have hc := canon_count ops.size N
        rw [← e, hcount] at hc
        have hl : (ops.toList.drop N).length = fuel + 1 := by simp; omega
        rw [← hl]
        refine wpAny_of_seq (ops.toList.drop N) N listed a w (fun j => by simp) ?_ (hend a w hB hF fun j o hj ho => hfacts j o hj ho (hall j hj))
        rw [hl, e, hc]
        exact hseq
      | false =>
        have hqf := getD_in hql hqv
        have e := canonQ_eq (Nat.le_of_lt hn) hq inv.size hallq hqf inv.tail
        rw [e]
        refine ⟨fun hr => (by rw [hready] at hr; cases hr), fun j hj => ?_⟩
        have hj' := hj
        rw [hready] at hj
        simp only [List.mem_cons, List.not_mem_nil, or_false] at hj
        rcases hj with rfl | rfl
        · have := step j hq (by rw [e]; exact hj')
          rwa [e] at this
        · have hX := hendQ a w hB hF (fun k o hk hkq ho => hfacts k o hk ho (hallq k hk hkq)) (hfq hqf)
          have hcnt : fuel = ks.length := by
            have h1 := count_set_eq listed.toList q (by have h0 : listed[q] = false := by simpa [Array.getD, hql] using hqf
                                                        simpa [hql] using h0)
            have h2 : listed.setIfInBounds q true = canonL ops.size j := canon_eq (Nat.le_of_lt hn) (by simp [inv.size]) (fun k hk => by
              by_cases e3 : q = k
              · subst e3; simp [hql]
              · have hkl : k < listed.size := by rw [inv.size]; omega
                have := hallq k hk (Ne.symm e3); simpa [Array.getD, hkl, Array.getElem_setIfInBounds, e3] using this) (fun t ht htn => by
              have := inv.tail t ht htn
              have htl : t < listed.size := by rw [inv.size]; exact htn
              have hne : q ≠ t := by omega
              simpa [Array.getD, htl, Array.getElem_setIfInBounds, hne] using this)
            have h3 := canon_count ops.size j
            rw [← h2, Array.toList_setIfInBounds] at h3
            omega
          have hw : wpOp P ops Q j (wpList P ops Q lq) a w := by unfold wpOp; simp only [hoN]; exact hX
          rw [hcnt]
          exact wpOp_mono (fun a' w' h' => wpAny_of_order ks lq _ a' w' hlq horder h') hw
    · obtain ⟨i, hiN, hiq, hif⟩ : ∃ i, i < N ∧ i ≠ q ∧ listed.getD i true = false := by
        apply Classical.byContradiction
        intro hno
        apply hallq
        intro j hj hjq
        have hjl : j < listed.size := by rw [inv.size]; omega
        cases h : listed.getD j false with
        | true => rfl
        | false => exact absurd ⟨j, hj, hjq, getD_in hjl h⟩ hno
      have hlow : ∀ t, t ∈ Region.ready .any ops listed → t < N := fun t ht => by
        rcases Nat.lt_or_ge t N with h | h
        · exact h
        · exact absurd ht (tail_waitsQ hsink hchain hn inv _ i rfl hiN hiq hif t h)
      have hne : Region.ready .any ops listed ≠ [] := by
        intro hr
        have hall2 : ∀ j, j < ops.size → listed.getD j false = true := by
          intro j
          induction j using Nat.strongRecOn with
          | _ j ih2 =>
            intro hj
            cases h : listed.getD j false with
            | true => rfl
            | false =>
              have hjl : j < listed.size := by rw [inv.size]; exact hj
              have : j ∈ Region.ready .any ops listed := mem_ready.2 ⟨getD_in hjl h, ops[j], Array.getElem?_eq_getElem hj, fun e he hbd => by
                have hlt := hback j _ (Array.getElem?_eq_getElem hj) e he hbd
                exact ih2 e.on hlt (by omega)⟩
              rw [hr] at this
              cases this
        have := hall2 i (by omega)
        rw [getD_both hif] at this
        cases this
      exact ⟨fun hr => absurd hr hne, fun j hj => step j (hlow j hj) hj⟩
end
def pickL (l : List Oper) (ks : List Nat) : List Oper := ks.filterMap fun k => l[k]?
def lateB (l : List Oper) (N q : Nat) (ks : List Nat) : Bool :=
  decide (N < l.length) && decide (q < N) && sinkQ .any l.toArray N q && Region.chainB .any l.toArray N && Region.seqB .any l.toArray (l.length - N) N (canonL l.length N) && decide (ks.length + 1 = l.length - N + 1) && decide (Region.ready .any l.toArray (canonQ l.length N q) = [q, N]) && orderB .any l.toArray ks ((canonQ l.length N q).setIfInBounds N true) && ks.all fun k => decide (k < l.length)
theorem match_pick {l : List Oper} : ∀ {ks : List Nat}, (ks.all fun k => decide (k < l.length)) = true → Match l.toArray ks (pickL l ks)
  | [], _ => trivial
  | k :: r, h => by
    simp only [List.all_cons, Bool.and_eq_true, decide_eq_true_eq] at h
    have e : pickL l (k :: r) = l[k] :: pickL l r := by simp [pickL, List.getElem?_eq_getElem h.1]
    rw [e]
    exact ⟨by simp [h.1], match_pick (by simpa using h.2)⟩
theorem region_head3 {P : Program} {Q : Exit → Act → World → Prop} {a0 : Act} {w0 : World} {id : Nat} {l : List Oper} (fs : List Fact) (D : List (Option Tmp)) (N n q : Nat) (ks : List Nat) (hn : a0.tmps.size = n) (hm : P.follows .mixedOrders = true) (hbook : bookB2 l n = true) (hD : l.map (·.dst) = D) (htail : lateB l N q ks = true)
    (mono : ∀ f ∈ fs, Mono f)
    (hstep : AllOps (fun j o => ∀ (a : Act) (w : World), Below w0.heap.size w0 w → FrD (D.take N) a0 a → needs D fs a w o.after.toList → StepD P D (factAt fs j) o a w) 0 (l.take N))
    (hend : ∀ (a : Act) (w : World), Below w0.heap.size w0 w → FrD (D.take N) a0 a → (∀ j d, j < N → D[j]? = some d → factAt fs j (slotOf a d) w) → wpList P l.toArray Q (l.drop N) a w)
    (hendQ : ∀ (a : Act) (w : World), Below w0.heap.size w0 w → FrD (D.take N) a0 a → (∀ j d, j < N → j ≠ q → D[j]? = some d → factAt fs j (slotOf a d) w) → (∀ d, D[q]? = some d → slotOf a d = slotOf a0 d) → wpList P l.toArray Q (pickL l (N :: ks)) a w) :
    (Code.region id l.toArray true).wp P Q a0 w0 := by
  subst hn
  simp only [bookB2, Bool.and_eq_true] at hbook
  obtain ⟨⟨h1, h2⟩, h3⟩ := hbook
  simp only [lateB, Bool.and_eq_true, decide_eq_true_eq] at htail
  obtain ⟨⟨⟨⟨⟨⟨⟨⟨hN, hq⟩, t1⟩, t2⟩, t3⟩, t4⟩, t5⟩, t6⟩, t7⟩ := htail
  have hfr : ∀ a, FrN l.toArray N a0 a → FrD (D.take N) a0 a := fun a h => ⟨h.defers, h.size, fun s hs => h.other s fun j o hj ho hd => by
    have : (D.take N).contains (some s) = true := by
      rw [← hD, List.contains_iff_mem, ← hd, ← List.map_take]
      refine List.mem_map.2 ⟨o, List.mem_of_getElem? (i := j) ?_, rfl⟩
      rw [List.getElem?_take, if_pos hj]
      simpa using ho
    rw [hs] at this; cases this⟩
  have hslot : ∀ (i : Nat) (oe : Oper), l[i]? = some oe → (D[i]?).join = oe.dst := fun i oe h => by rw [← hD]; simp [h]
  have k1 : ∀ (j : Nat) (o : Oper), l.toArray[j]? = some o → ∀ e ∈ o.after, Region.binds .any e = true → e.on < j := fun j o ho e he hb => by
    have := backB2_at h1 (j := j) (by simpa using ho) e he hb
    omega
  have k2 : ∀ (i j : Nat) (oi oj : Oper) (t : Tmp), l.toArray[i]? = some oi → l.toArray[j]? = some oj → oi.dst = some t → oj.dst = some t → i = j := fun i j oi oj t hi hj hti htj =>
    dsts_apart h2 (by simpa using hi) (by simpa using hj) hti htj
  have k3 : ∀ (j : Nat) (o : Oper) (t : Tmp), l.toArray[j]? = some o → o.dst = some t → t < a0.tmps.size := fun j o t ho ht => by
    have := List.all_eq_true.1 h3 t (mem_dsts (j := j) (by simpa using ho) ht)
    simpa using this
  have k4 : ∀ (j : Nat) (v : Value) (w w' : World), Below w.heap.size w w' → factAt fs j v w → factAt fs j v w' := fun j v w w' hb h => by
    unfold factAt at h ⊢
    by_cases hj : j < fs.length
    · have e : fs.getD j (fun _ _ => True) = fs[j] := by simp [hj]
      rw [e] at h ⊢
      exact mono _ (List.getElem_mem hj) v w w' hb h
    · have e : fs.getD j (fun _ _ => True) = fun _ _ => True := by simp [List.getElem?_eq_none (Nat.le_of_not_lt hj)]
      rw [e]; trivial
  have k5 : ∀ (j : Nat) (o : Oper), j < N → l.toArray[j]? = some o → ∀ (a : Act) (w : World), Below w0.heap.size w0 w → FrN l.toArray N a0 a → (∀ e ∈ o.after, Region.binds .any e = true → ∀ (oe : Oper), l.toArray[e.on]? = some oe → factAt fs e.on (slotOf a oe.dst) w) → StepOk P l.toArray Q (factAt fs) j o a w := fun j o hj ho a w hB hF hd => by
    have ho' : (l.take N)[j]? = some o := by rw [List.getElem?_take, if_pos hj]; simpa using ho
    have hs := allOps_at hstep (j := j) ho'
    rw [Nat.zero_add] at hs
    have hlt := backB2_at h1 (j := j) (by simpa using ho)
    have hs' := hs a w hB (hfr a hF) (needs_of _ fun e he hb => by
      have he' : e ∈ o.after := by simpa using he
      have hl : e.on < l.length := by have := hlt e he' hb; omega
      rw [hslot e.on l[e.on] (List.getElem?_eq_getElem hl)]
      exact hd e he' hb l[e.on] (by simp [hl])) Q
    unfold StepOk
    have ey : yielded l.toArray a.tmps = yieldD D a.tmps := funext fun i => yielded_D hD a.tmps i
    rw [ey]
    exact hs'
  have k6 : ∀ (a : Act) (w : World), Below w0.heap.size w0 w → FrN l.toArray N a0 a → (∀ (j : Nat) (o : Oper), j < N → l.toArray[j]? = some o → factAt fs j (slotOf a o.dst) w) → wpList P l.toArray Q (l.toArray.toList.drop N) a w := fun a w hB hF h => hend a w hB (hfr a hF) fun j d hj hjd => by
    rw [← hD, List.getElem?_map] at hjd
    obtain ⟨o, ho, rfl⟩ := Option.map_eq_some_iff.1 hjd
    exact h j o hj (by simpa using ho)
  have k7 : ∀ (a : Act) (w : World), Below w0.heap.size w0 w → FrN l.toArray N a0 a → (∀ (j : Nat) (o : Oper), j < N → j ≠ q → l.toArray[j]? = some o → factAt fs j (slotOf a o.dst) w) → (∀ oq, l.toArray[q]? = some oq → slotOf a oq.dst = slotOf a0 oq.dst) → wpList P l.toArray Q (l[N] :: pickL l ks) a w := fun a w hB hF h h' => by
    have e : pickL l (N :: ks) = l[N] :: pickL l ks := by simp [pickL, List.getElem?_eq_getElem hN]
    rw [← e]
    refine hendQ a w hB (hfr a hF) (fun j d hj hjq hjd => ?_) (fun d hjd => ?_)
    · rw [← hD, List.getElem?_map] at hjd
      obtain ⟨o, ho, rfl⟩ := Option.map_eq_some_iff.1 hjd
      exact h j o hj hjq (by simpa using ho)
    · rw [← hD, List.getElem?_map] at hjd
      obtain ⟨o, ho, rfl⟩ := Option.map_eq_some_iff.1 hjd
      exact h' o (by simpa using ho)
  refine wp_region_any hm ?_
  have inv0 : HeadInv .any l.toArray N (Array.replicate l.toArray.size false) :=
    ⟨by simp, fun j oj _ hl => (by rw [getD_replicate_false] at hl; cases hl), fun t _ ht => getD_in (by simpa using ht) (getD_replicate_false _ _)⟩
  exact head_inv3 (Φ := factAt fs) (ops := l.toArray) (N := N) (q := q) k1 k2 k3 k4 (by simpa using hN) hq t1 t2 (by simpa using t3) ks (by simpa using t4) (by simpa using t5) (by simpa using t6) (pickL l ks) (match_pick t7) l[N] (by simp [hN]) k5 k6 k7 l.toArray.size (Array.replicate l.toArray.size false) a0 _ inv0 (Below.drew (Below.refl _ _)) ⟨rfl, rfl, fun _ _ => rfl⟩
    (fun j o _ _ h => by rw [getD_replicate_false] at h; cases h) (fun _ _ _ => rfl) (by simp)
end Go.Proofs.YtbpaepkcchpmbaaGreat
