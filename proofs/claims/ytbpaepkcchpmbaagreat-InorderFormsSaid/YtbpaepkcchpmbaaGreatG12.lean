/-
  The law of XHeadM once more, where operations that come behind both writing calls (the list ls) know so. No program here.
  What stays but for some blocks; the laws for drawn regions whose calls write such blocks. No program here.
  Single operations of a region whose facts are shown one by one: a nil check, loads of values of one cell (a slice of integers, a map).
  A lane of the program as it lies: eleven cells in the row of lanes (what is asked: the query, its place, its series; the queue or tree; the next window); a row of lanes; what is written there.
-/
import Derived.Test.YtbpaepkcchpmbaaGreatHeadM
import Derived.Test.YtbpaepkcchpmbaaGreatG1
import Derived.Test.YtbpaepkcchpmbaaGreatG2
import Derived.Test.YtbpaepkcchpmbaaGreatG0
import Derived.Great.Walk
import Derived.Deep.MidRow
namespace Go.Proofs.YtbpaepkcchpmbaaGreat
open Go.RowKit

def lateOk (l : List Oper) (qL : Nat) (ls : List Nat) : Bool :=
  ls.all fun j => match l[j]? with
    | some o => o.after.any fun e => Region.binds .any e && (e.on == qL || (ls.contains e.on && decide (e.on < j)))
    | none => false
theorem late_of {l : List Oper} {qL : Nat} {ls : List Nat} (hlate : lateOk l qL ls = true) {L : Nat → Bool} (hc : ∀ (i : Nat) (oi : Oper), l.toArray[i]? = some oi → L i = true → ∀ e ∈ oi.after, Region.binds .any e = true → L e.on = true) :
    ∀ j, j ∈ ls → ∀ o, l.toArray[j]? = some o → (∀ e ∈ o.after, Region.binds .any e = true → L e.on = true) → L qL = true := by
  intro j
  induction j using Nat.strongRecOn with
  | _ j ih =>
    intro hj o ho hd
    have h := List.all_eq_true.1 hlate j hj
    have ho' : l[j]? = some o := by simpa using ho
    rw [ho'] at h
    obtain ⟨i, hi, he⟩ := Array.any_eq_true.1 h
    rw [Bool.and_eq_true, Bool.or_eq_true] at he
    have hdi := hd _ (Array.getElem_mem hi) he.1
    rcases he.2 with h1 | h1
    · rw [← (by simpa using h1 : o.after[i].on = qL)]; exact hdi
    · rw [Bool.and_eq_true] at h1
      have hlt : o.after[i].on < j := of_decide_eq_true h1.2
      have hjl : j < l.length := (List.getElem?_eq_some_iff.1 ho').1
      have hsz : o.after[i].on < l.toArray.size := by simp; omega
      exact ih _ hlt (by simpa using h1.1) _ (Array.getElem?_eq_getElem hsz) (hc _ _ (Array.getElem?_eq_getElem hsz) hdi)

section
variable {P : Program} {ops : Array Oper} {Q : Exit → Act → World → Prop} {a0 : Act} {Φ : Nat → Value → World → Prop} {N q1 q2 : Nat} {K : Nat → World → World → Prop} {I : Bool → Bool → World → Prop}
theorem head_invN (hback : ∀ (j : Nat) (o : Oper), ops[j]? = some o → ∀ e ∈ o.after, Region.binds .any e = true → e.on < j)
    (hdst : ∀ (i j : Nat) (oi oj : Oper) (t : Tmp), ops[i]? = some oi → ops[j]? = some oj → oi.dst = some t → oj.dst = some t → i = j)
    (hsz : ∀ (j : Nat) (o : Oper) (t : Tmp), ops[j]? = some o → o.dst = some t → t < a0.tmps.size)
    (mono : ∀ (i j : Nat) (v : Value) (w w' : World), i ≠ j → K i w w' → Φ j v w → Φ j v w')
    (hK : ∀ i w, K i w w) (hqN : q1 < N) (_ : q1 < q2) (hqq : ∀ o, ops[q2]? = some o → ∃ e ∈ o.after, Region.binds .any e = true ∧ e.on = q1)
    (hn : N < ops.size) (hsink : Region.sinkB .any ops N = true) (hchain : Region.chainB .any ops N = true) (hseq : Region.seqB .any ops (ops.size - N) N (canonL ops.size N) = true)
    (hstep : ∀ (j : Nat) (o : Oper), j < N → ops[j]? = some o → ∀ (a : Act) (w : World) (b1 b2 : Bool), (j = q1 → b1 = false ∧ b2 = false) → (j = q2 → b1 = true ∧ b2 = false) → (∃ L : Nat → Bool, b1 = L q1 ∧ b2 = L q2 ∧ (∀ (i : Nat) (oi : Oper), ops[i]? = some oi → L i = true → ∀ e ∈ oi.after, Region.binds .any e = true → L e.on = true) ∧ ∀ e ∈ o.after, Region.binds .any e = true → L e.on = true) → I b1 b2 w → FrN ops N a0 a → (∀ e ∈ o.after, Region.binds .any e = true → ∀ (oe : Oper), ops[e.on]? = some oe → Φ e.on (slotOf a oe.dst) w) → StepM P ops Q Φ K I q1 q2 j o a w b1 b2)
    (hend : ∀ (a : Act) (w : World), I true (decide (q2 < N)) w → FrN ops N a0 a → (∀ (j : Nat) (o : Oper), j < N → ops[j]? = some o → Φ j (slotOf a o.dst) w) → wpList P ops Q (ops.toList.drop N) a w) :
    ∀ (fuel : Nat) (listed : Array Bool) (a : Act) (w : World), HeadInv .any ops N listed → I (listed.getD q1 false) (listed.getD q2 false) w → FrN ops N a0 a →
      (∀ (j : Nat) (o : Oper), j < N → ops[j]? = some o → listed.getD j false = true → Φ j (slotOf a o.dst) w) →
      (listed.toList.filter (fun b => !b)).length = fuel → wpAny P .any ops Q fuel listed a w := by
  intro fuel
  induction fuel with
  | zero =>
    intro listed a w inv hB hF hfacts hcount
    exfalso
    have h1 := inv.tail N (Nat.le_refl _) hn
    have hjl : N < listed.size := by rw [inv.size]; exact hn
    have hm : listed[N] = false := by simpa [Array.getD, hjl] using h1
    have : false ∈ listed.toList.filter (fun b => !b) := List.mem_filter.2 ⟨by rw [← hm]; simp, rfl⟩
    have hpos := List.length_pos_of_mem this
    omega
  | succ fuel ih =>
    intro listed a w inv hB hF hfacts hcount
    by_cases hall : ∀ j, j < N → listed.getD j false = true
    · have e := canon_eq (Nat.le_of_lt hn) inv.size hall inv.tail
      have hc := canon_count ops.size N
      rw [← e, hcount] at hc
      have hl : (ops.toList.drop N).length = fuel + 1 := by simp; omega
      have e2 : listed.getD q2 false = decide (q2 < N) := by
        by_cases h2 : q2 < N
        · rw [hall q2 h2]; simp [h2]
        · rw [decide_eq_false h2]
          by_cases h3 : q2 < ops.size
          · have := inv.tail q2 (by omega) h3
            have hl2 : q2 < listed.size := by rw [inv.size]; exact h3
            simpa [Array.getD, hl2] using this
          · simp [Array.getD, inv.size, h3]
      rw [← hl]
      refine wpAny_of_seq (ops.toList.drop N) N listed a w (fun j => by simp) ?_ (hend a w (by rw [hall q1 hqN, e2] at hB; exact hB) hF fun j o hj ho => hfacts j o hj ho (hall j hj))
      rw [hl, e, hc]
      exact hseq
    · obtain ⟨i, hiN, hif⟩ : ∃ i, i < N ∧ listed.getD i true = false := by
        apply Classical.byContradiction
        intro hno
        apply hall
        intro j hj
        have hjl : j < listed.size := by rw [inv.size]; omega
        cases h : listed.getD j false with
        | true => rfl
        | false => exact absurd ⟨j, hj, getD_in hjl h⟩ hno
      have hlow : ∀ t, t ∈ Region.ready .any ops listed → t < N := fun t ht => by
        rcases Nat.lt_or_ge t N with h | h
        · exact h
        · exact absurd ht (tail_waits hsink hchain hn inv _ i rfl hiN hif t h)
      have hne : Region.ready .any ops listed ≠ [] := by
        intro hr
        have hall2 : ∀ j, j < ops.size → listed.getD j false = true := by
          intro j
          induction j using Nat.strongRecOn with
          | _ j ih2 =>
            intro hj
            cases h : listed.getD j false with
            | true => rfl
            | false =>
              have hjl : j < listed.size := by rw [inv.size]; exact hj
              have : j ∈ Region.ready .any ops listed := mem_ready.2 ⟨getD_in hjl h, ops[j], Array.getElem?_eq_getElem hj, fun e he hbd => by
                have hlt := hback j _ (Array.getElem?_eq_getElem hj) e he hbd
                exact ih2 e.on hlt (by omega)⟩
              rw [hr] at this
              cases this
        have := hall2 i (by omega)
        rw [getD_both hif] at this
        cases this
      refine ⟨fun hr => absurd hr hne, fun j hj => ?_⟩
      have hjN := hlow j hj
      obtain ⟨h0, o, ho, hdeps⟩ := mem_ready.1 hj
      have hil : j < listed.size := by rw [inv.size]; omega
      have hm : listed[j] = false := by simpa [Array.getD, hil] using h0
      have hjf : listed.getD j false = false := by simp [Array.getD, hil, hm]
      have hclose : listed.getD q2 false = true → listed.getD q1 false = true := fun h => by
        by_cases h3 : q2 < ops.size
        · obtain ⟨e, he, hb, hon⟩ := hqq ops[q2] (Array.getElem?_eq_getElem h3)
          have := inv.closed q2 ops[q2] (Array.getElem?_eq_getElem h3) h e he hb
          rwa [hon] at this
        · simp [Array.getD, inv.size, h3] at h
      have hun1 : j = q1 → listed.getD q1 false = false ∧ listed.getD q2 false = false := fun e => by
        have h1 : listed.getD q1 false = false := by rw [← e]; exact hjf
        refine ⟨h1, ?_⟩
        cases h : listed.getD q2 false with
        | false => rfl
        | true => rw [hclose h] at h1; cases h1
      have hun2 : j = q2 → listed.getD q1 false = true ∧ listed.getD q2 false = false := fun e => by
        refine ⟨?_, by rw [← e]; exact hjf⟩
        obtain ⟨e2, he, hb, hon⟩ := hqq o (by rw [← e]; exact ho)
        have := hdeps e2 he hb
        rwa [hon] at this
      have hst := hstep j o hjN ho a w _ _ hun1 hun2 ⟨fun i => listed.getD i false, rfl, rfl, fun i oi hi hl => inv.closed i oi hi hl, hdeps⟩ hB hF fun e he hb oe hoe => hfacts e.on oe (by have := hback j o ho e he hb; omega) hoe (hdeps e he hb)
      have hset1 : (listed.setIfInBounds j true).getD q1 false = (listed.getD q1 false || decide (j = q1)) := getD_or (by rw [inv.size]; omega)
      have hset2 : (listed.setIfInBounds j true).getD q2 false = (listed.getD q2 false || decide (j = q2)) := getD_or (by rw [inv.size]; omega)
      have next : ∀ v w', (o.dst = none → v = undef) → K j w w' → I (listed.getD q1 false || decide (j = q1)) (listed.getD q2 false || decide (j = q2)) w' → Φ j v w' → wpAny P .any ops Q fuel (listed.setIfInBounds j true) (a.put o.dst v) w' := by
        intro v w' hv hb hI hΦ
        refine ih _ _ _ (inv.set hj hjN) (by rw [hset1, hset2]; exact hI) ⟨?_, ?_, ?_⟩ ?_ ?_
        · cases hd : o.dst <;> simpa [Act.put] using hF.defers
        · cases hd : o.dst <;> simpa [Act.put] using hF.size
        · intro s hs
          rw [← hF.other s hs]
          cases hd : o.dst with
          | none => rfl
          | some t =>
            have hne : t ≠ s := fun e => hs j o hjN ho (by rw [hd, e])
            simp [Act.put, hne]
        · intro k ok hk hok hlk
          by_cases e : j = k
          · subst e
            obtain rfl : o = ok := by rw [ho] at hok; exact Option.some.inj hok
            cases hd : o.dst with
            | none => rw [hv hd] at hΦ; exact hΦ
            | some t => rw [slot_put_same _ _ (by rw [hF.size]; exact hsz j o t ho hd)]; exact hΦ
          · rw [slot_put_far _ _ fun t hjt hit => e (hdst j k o ok t ho hok hit hjt)]
            refine mono j k _ w w' e hb (hfacts k ok hk hok ?_)
            have hkl : k < listed.size := by rw [inv.size]; omega
            simpa [Array.getD, hkl, Array.getElem_setIfInBounds, e] using hlk
        · have := count_set_eq listed.toList j (by simpa [hil] using hm)
          rw [Array.toList_setIfInBounds]
          omega
      unfold wpOp
      rw [ho]
      unfold StepM at hst
      by_cases hw : Region.wanted o (yielded ops a.tmps) = true
      · simp only [hw, if_true] at hst ⊢
        refine .inl (Oper.wp_mono (fun a' w' ⟨v, e, hv, hb, hI, hΦ⟩ => ?_) hst)
        rw [e]
        exact next v w' hv hb hI hΦ
      · simp only [hw] at hst ⊢
        exact next undef w (fun _ => rfl) (hK j w) hst.2 hst.1
end

theorem region_headN {P : Program} {Q : Exit → Act → World → Prop} {a0 : Act} {w0 : World} {id : Nat} {l : List Oper} (K1 K2 : World → World → Prop) (I : Bool → Bool → World → Prop) (q1 q2 : Nat) (fs : List Fact) (D : List (Option Tmp)) (N n : Nat) (hn : a0.tmps.size = n) (hm : P.follows .mixedOrders = true) (hbook : bookB2 l n = true) (hD : l.map (·.dst) = D) (htail : tailB l N = true) (ls : List Nat) (hlate : lateOk l (if q2 < N then q2 else q1) ls = true)
    (hK1 : ∀ w, K1 w w) (hK2 : ∀ w, K2 w w) (hqN : q1 < N) (hq12 : q1 < q2) (hqq : ((l[q2]?).map fun o => o.after.any fun e => Region.binds .any e && e.on == q1) ≠ some false)
    (hI : ∀ b1 b2 w w', I b1 b2 w → Below w.heap.size w w' → I b1 b2 w') (h0 : I false false w0.drew)
    (mono : ∀ f ∈ fs, Mono f) (mono1 : ∀ j, j ≠ q1 → ∀ (v : Value) (w w' : World), K1 w w' → factAt fs j v w → factAt fs j v w') (mono2 : ∀ j, j ≠ q2 → ∀ (v : Value) (w w' : World), K2 w w' → factAt fs j v w → factAt fs j v w')
    (hstep : AllOps (fun j o => ∀ (a : Act) (w : World) (b1 b2 : Bool), (j = q1 → b1 = false ∧ b2 = false) → (j = q2 → b1 = true ∧ b2 = false) → (j ∈ ls → b1 = true ∧ (q2 < N → b2 = true)) → I b1 b2 w → FrD (D.take N) a0 a → needs D fs a w o.after.toList → AskM P D (factAt fs j) K1 K2 I q1 q2 j o a w) 0 (l.take N))
    (hend : ∀ (a : Act) (w : World), I true (decide (q2 < N)) w → FrD (D.take N) a0 a → (∀ j d, j < N → D[j]? = some d → factAt fs j (slotOf a d) w) → wpList P l.toArray Q (l.drop N) a w) :
    (Code.region id l.toArray true).wp P Q a0 w0 := by
  subst hn
  simp only [bookB2, Bool.and_eq_true] at hbook
  obtain ⟨⟨h1, h2⟩, h3⟩ := hbook
  simp only [tailB, Bool.and_eq_true, decide_eq_true_eq] at htail
  obtain ⟨⟨⟨hN, t1⟩, t2⟩, t3⟩ := htail
  have hfr : ∀ a, FrN l.toArray N a0 a → FrD (D.take N) a0 a := fun a h => ⟨h.defers, h.size, fun s hs => h.other s fun j o hj ho hd => by
    have : (D.take N).contains (some s) = true := by
      rw [← hD, List.contains_iff_mem, ← hd, ← List.map_take]
      refine List.mem_map.2 ⟨o, List.mem_of_getElem? (i := j) ?_, rfl⟩
      rw [List.getElem?_take, if_pos hj]
      simpa using ho
    rw [hs] at this; cases this⟩
  have hslot : ∀ (i : Nat) (oe : Oper), l[i]? = some oe → (D[i]?).join = oe.dst := fun i oe h => by rw [← hD]; simp [h]
  have k1 : ∀ (j : Nat) (o : Oper), l.toArray[j]? = some o → ∀ e ∈ o.after, Region.binds .any e = true → e.on < j := fun j o ho e he hb => by
    have := backB2_at h1 (j := j) (by simpa using ho) e he hb
    omega
  have k2 : ∀ (i j : Nat) (oi oj : Oper) (t : Tmp), l.toArray[i]? = some oi → l.toArray[j]? = some oj → oi.dst = some t → oj.dst = some t → i = j := fun i j oi oj t hi hj hti htj =>
    dsts_apart h2 (by simpa using hi) (by simpa using hj) hti htj
  have k3 : ∀ (j : Nat) (o : Oper) (t : Tmp), l.toArray[j]? = some o → o.dst = some t → t < a0.tmps.size := fun j o t ho ht => by
    have := List.all_eq_true.1 h3 t (mem_dsts (j := j) (by simpa using ho) ht)
    simpa using this
  have kmono : ∀ (j : Nat) (v : Value) (w w' : World), Below w.heap.size w w' → factAt fs j v w → factAt fs j v w' := fun j v w w' hb h => by
    unfold factAt at h ⊢
    by_cases hj : j < fs.length
    · have e : fs.getD j (fun _ _ => True) = fs[j] := by simp [hj]
      rw [e] at h ⊢
      exact mono _ (List.getElem_mem hj) v w w' hb h
    · have e : fs.getD j (fun _ _ => True) = fun _ _ => True := by simp [List.getElem?_eq_none (Nat.le_of_not_lt hj)]
      rw [e]; trivial
  have k4 : ∀ (i j : Nat) (v : Value) (w w' : World), i ≠ j → kindK q1 q2 K1 K2 i w w' → factAt fs j v w → factAt fs j v w' := fun i j v w w' hne hk h => by
    unfold kindK at hk
    by_cases e1 : i = q1
    · rw [if_pos e1] at hk; exact mono1 j (fun e => hne (e1.trans e.symm)) v w w' hk h
    · rw [if_neg e1] at hk
      by_cases e2 : i = q2
      · rw [if_pos e2] at hk; exact mono2 j (fun e => hne (e2.trans e.symm)) v w w' hk h
      · rw [if_neg e2] at hk; exact kmono j v w w' hk h
  have kK : ∀ (i : Nat) (w : World), kindK q1 q2 K1 K2 i w w := fun i w => by
    unfold kindK
    by_cases e1 : i = q1
    · rw [if_pos e1]; exact hK1 w
    · rw [if_neg e1]
      by_cases e2 : i = q2
      · rw [if_pos e2]; exact hK2 w
      · rw [if_neg e2]; exact Below.refl _ _
  have k7 : ∀ o, l.toArray[q2]? = some o → ∃ e ∈ o.after, Region.binds .any e = true ∧ e.on = q1 := fun o ho => by
    have ho' : l[q2]? = some o := by simpa using ho
    rw [ho'] at hqq
    have : (o.after.any fun e => Region.binds .any e && e.on == q1) = true := by simpa using hqq
    obtain ⟨i, hi, he⟩ := Array.any_eq_true.1 this
    rw [Bool.and_eq_true] at he
    exact ⟨o.after[i], Array.getElem_mem hi, he.1, by simpa using he.2⟩
  have k5 : ∀ (j : Nat) (o : Oper), j < N → l.toArray[j]? = some o → ∀ (a : Act) (w : World) (b1 b2 : Bool), (j = q1 → b1 = false ∧ b2 = false) → (j = q2 → b1 = true ∧ b2 = false) → (∃ L : Nat → Bool, b1 = L q1 ∧ b2 = L q2 ∧ (∀ (i : Nat) (oi : Oper), l.toArray[i]? = some oi → L i = true → ∀ e ∈ oi.after, Region.binds .any e = true → L e.on = true) ∧ ∀ e ∈ o.after, Region.binds .any e = true → L e.on = true) → I b1 b2 w → FrN l.toArray N a0 a → (∀ e ∈ o.after, Region.binds .any e = true → ∀ (oe : Oper), l.toArray[e.on]? = some oe → factAt fs e.on (slotOf a oe.dst) w) → StepM P l.toArray Q (factAt fs) (kindK q1 q2 K1 K2) I q1 q2 j o a w b1 b2 := fun j o hj ho a w b1 b2 hb1 hb2 hL hB hF hd => by
    have hls : j ∈ ls → b1 = true ∧ (q2 < N → b2 = true) := fun hj' => by
      obtain ⟨L, e1, e2, hc, hdp⟩ := hL
      have hlast := late_of hlate hc j hj' o ho hdp
      by_cases h2 : q2 < N
      · rw [if_pos h2] at hlast
        have hsz2 : q2 < l.toArray.size := by simpa using Nat.lt_trans h2 hN
        obtain ⟨eo, he, hbd, hon⟩ := k7 (l.toArray[q2]'hsz2) (Array.getElem?_eq_getElem hsz2)
        have := hc q2 _ (Array.getElem?_eq_getElem hsz2) hlast eo he hbd
        rw [hon] at this
        exact ⟨by rw [e1, this], fun _ => by rw [e2, hlast]⟩
      · rw [if_neg h2] at hlast
        exact ⟨by rw [e1, hlast], fun h => absurd h h2⟩
    have ho' : (l.take N)[j]? = some o := by rw [List.getElem?_take, if_pos hj]; simpa using ho
    have hs := allOps_at hstep (j := j) ho'
    rw [Nat.zero_add] at hs
    have hlt := backB2_at h1 (j := j) (by simpa using ho)
    have hs' := hs a w b1 b2 hb1 hb2 hls hB (hfr a hF) (needs_of _ fun e he hb => by
      have he' : e ∈ o.after := by simpa using he
      have hl : e.on < l.length := by have := hlt e he' hb; omega
      rw [hslot e.on l[e.on] (List.getElem?_eq_getElem hl)]
      exact hd e he' hb l[e.on] (by simp [hl]))
    unfold StepM
    have ey : yielded l.toArray a.tmps = yieldD D a.tmps := funext fun i => yielded_D hD a.tmps i
    rw [ey]
    unfold AskM at hs'
    unfold kindK
    by_cases e1 : j = q1
    · rw [if_pos e1] at hs'
      obtain ⟨rfl, rfl⟩ := hb1 e1
      have n2 : decide (j = q2) = false := decide_eq_false (by omega)
      have y1 : decide (j = q1) = true := decide_eq_true e1
      simp only [if_pos e1, n2, y1, Bool.false_or, Bool.or_false]
      exact hs' Q
    · rw [if_neg e1] at hs'
      have n1 : decide (j = q1) = false := decide_eq_false e1
      by_cases e2 : j = q2
      · rw [if_pos e2] at hs'
        obtain ⟨rfl, rfl⟩ := hb2 e2
        have y2 : decide (j = q2) = true := decide_eq_true e2
        simp only [if_neg e1, if_pos e2, n1, y2, Bool.false_or, Bool.or_false]
        exact hs' Q
      · rw [if_neg e2] at hs'
        have n2 : decide (j = q2) = false := decide_eq_false e2
        simp only [if_neg e1, if_neg e2, n1, n2, Bool.or_false]
        exact (StepD.toL (J := fun w => I b1 b2 w) (K := fun w w' => Below w.heap.size w w') hs' (fun _ h => h) (fun w' h => hI b1 b2 w w' hB h)) Q
  have k6 : ∀ (a : Act) (w : World), I true (decide (q2 < N)) w → FrN l.toArray N a0 a → (∀ (j : Nat) (o : Oper), j < N → l.toArray[j]? = some o → factAt fs j (slotOf a o.dst) w) → wpList P l.toArray Q (l.toArray.toList.drop N) a w := fun a w hB hF h => hend a w hB (hfr a hF) fun j d hj hjd => by
    rw [← hD, List.getElem?_map] at hjd
    obtain ⟨o, ho, rfl⟩ := Option.map_eq_some_iff.1 hjd
    exact h j o hj (by simpa using ho)
  refine wp_region_any hm ?_
  have inv0 : HeadInv .any l.toArray N (Array.replicate l.toArray.size false) :=
    ⟨by simp, fun j oj _ hl => (by rw [getD_replicate_false] at hl; cases hl), fun t _ ht => getD_in (by simpa using ht) (getD_replicate_false _ _)⟩
  exact head_invN (Φ := factAt fs) (ops := l.toArray) (N := N) k1 k2 k3 k4 kK hqN hq12 k7 (by simpa using hN) t1 t2 (by simpa using t3) k5 k6 l.toArray.size (Array.replicate l.toArray.size false) a0 _ inv0 (by rw [getD_replicate_false, getD_replicate_false]; exact h0) ⟨rfl, rfl, fun _ _ => rfl⟩
    (fun j o _ _ h => by rw [getD_replicate_false] at h; cases h) (by simp)


end Go.Proofs.YtbpaepkcchpmbaaGreat

namespace Go.Proofs.YtbpaepkcchpmbaaGreat
open Go.RowKit

/-- What was there stays, but for the blocks gs. -/
structure ButS (gs : List Nat) (w w' : World) : Prop where
  os : w'.os = w.os
  tape : w'.tape = w.tape
  output : w'.output = w.output
  size : w.heap.size ≤ w'.heap.size
  other : ∀ k, k < w.heap.size → k ∉ gs → w'.heap[k]? = w.heap[k]?
section
variable {gs : List Nat} {w w' w'' : World}
theorem ButS.refl (gs : List Nat) (w : World) : ButS gs w w := ⟨rfl, rfl, rfl, Nat.le_refl _, fun _ _ _ => rfl⟩
theorem ButS.trans (h : ButS gs w w') (k : ButS gs w' w'') : ButS gs w w'' := ⟨k.os.trans h.os, k.tape.trans h.tape, k.output.trans h.output, Nat.le_trans h.size k.size, fun i hi hg => (k.other i (Nat.lt_of_lt_of_le hi h.size) hg).trans (h.other i hi hg)⟩
/-- The second step may write blocks that the first one made. -/
theorem ButS.andThen (h : ButS gs w w') {hs : List Nat} (k : ButS hs w' w'') (hh : ∀ i ∈ hs, i ∈ gs ∨ w.heap.size ≤ i) : ButS gs w w'' := ⟨k.os.trans h.os, k.tape.trans h.tape, k.output.trans h.output, Nat.le_trans h.size k.size, fun i hi hg => (k.other i (Nat.lt_of_lt_of_le hi h.size) (fun e => by
  rcases hh i e with h1 | h1
  · exact hg h1
  · omega)).trans (h.other i hi hg)⟩
theorem below_butS (h : Below w.heap.size w w') (gs : List Nat) : ButS gs w w' := ⟨h.os, h.tape, h.output, h.size, fun k hk _ => h.block k hk⟩
theorem grow_butS {g : Nat} (h : w.grownBy w' (some g)) (hg : g ∈ gs) : ButS gs w w' := ⟨h.os, h.tape, h.output, h.size, fun k hk hn => h.block k hk (fun e => by injection e with e; exact hn (e ▸ hg))⟩
theorem ButS.below (h : ButS gs w w') {B : Nat} {w0 : World} (h0 : Below B w0 w) (hB : B ≤ w.heap.size) (hg : ∀ g ∈ gs, B ≤ g) : Below B w0 w' :=
  h0.trans ⟨h.os, h.tape, h.output, h.size, fun k hk => h.other k (by omega) (fun e => by have := hg k e; omega)⟩
theorem Has.butS {g : Nat} {t : TypeId} {cs : Array Value} (h : Has w g t cs) (hb : ButS gs w w') (hg : g ∉ gs) : Has w' g t cs := (hb.other g h.lt hg).trans h
end
def MonoS (gs : List Nat) (φ : Fact) : Prop := ∀ v w w', ButS gs w w' → φ v w → φ v w'
theorem isV_monoS (gs : List Nat) (v : Value) : MonoS gs (isV v) := fun _ _ _ _ h => h
theorem allS_nil (gs : List Nat) : ∀ φ ∈ ([] : List Fact), MonoS gs φ := fun _ h => by cases h
theorem allS_cons {gs : List Nat} {φ : Fact} {fs : List Fact} (h : MonoS gs φ) (hs : ∀ ψ ∈ fs, MonoS gs ψ) : ∀ ψ ∈ φ :: fs, MonoS gs ψ := fun ψ hψ => by
  rcases List.mem_cons.1 hψ with rfl | h1
  · exact h
  · exact hs ψ h1
theorem factS_at {gs : List Nat} {fs : List Fact} (h : ∀ φ ∈ fs, MonoS gs φ) (j : Nat) : MonoS gs (factAt fs j) := fun v w w' hb hf => by
  unfold factAt at hf ⊢
  by_cases hj : j < fs.length
  · have e : fs.getD j (fun _ _ => True) = fs[j] := by simp [hj]
    rw [e] at hf ⊢
    exact h _ (List.getElem_mem hj) v w w' hb hf
  · have e : fs.getD j (fun _ _ => True) = fun _ _ => True := by simp [List.getElem?_eq_none (Nat.le_of_not_lt hj)]
    rw [e]; trivial
/-- What holds at an operation: what stayed, what the blocks hold. -/
structure MI (gs : List Nat) (I : Bool → Bool → World → Prop) (w0 : World) (b1 b2 : Bool) (w : World) : Prop where
  gr : ButS gs w0 w
  st : I b1 b2 w
theorem region_two {Q : Exit → Act → World → Prop} {a0 : Act} {w0 : World} {id : Nat} {l : List Oper} {P : Program} (gs : List Nat) (I : Bool → Bool → World → Prop) (q1 q2 : Nat) (fs : List Fact) (D : List (Option Tmp)) (N n : Nat) (hn : a0.tmps.size = n) (hm : P.follows .mixedOrders = true) (hbook : bookB2 l n = true) (hD : l.map (·.dst) = D) (htail : tailB l N = true)
    (hqN : q1 < N) (hq12 : q1 < q2) (hqq : (((l[q2]?).map fun o => o.after.any fun e => Region.binds .any e && e.on == q1) == some false) = false)
    (hI : ∀ b1 b2 w w', I b1 b2 w → Below w.heap.size w w' → I b1 b2 w') (h0 : I false false w0)
    (mono : ∀ f ∈ fs, Mono f) (monoS : ∀ f ∈ fs, MonoS gs f)
    (hstep : AllOps (fun j o => ∀ (a : Act) (w : World) (b1 b2 : Bool), (j = q1 → b1 = false ∧ b2 = false) → (j = q2 → b1 = true ∧ b2 = false) → MI gs I w0 b1 b2 w → FrD (D.take N) a0 a → needs D fs a w o.after.toList → AskM P D (factAt fs j) (ButS gs) (ButS gs) (MI gs I w0) q1 q2 j o a w) 0 (l.take N))
    (hend : ∀ (a : Act) (w : World), MI gs I w0 true (decide (q2 < N)) w → FrD (D.take N) a0 a → (∀ j d, j < N → D[j]? = some d → factAt fs j (slotOf a d) w) → wpList P l.toArray Q (l.drop N) a w) :
    (Code.region id l.toArray true).wp P Q a0 w0 :=
  region_headM (ButS gs) (ButS gs) (MI gs I w0) q1 q2 fs D N n hn hm hbook hD htail (fun w => ButS.refl gs w) (fun w => ButS.refl gs w) hqN hq12 (fun e => by rw [e] at hqq; simp at hqq)
    (fun b1 b2 w w' h hb => ⟨h.gr.trans (below_butS hb gs), hI b1 b2 w w' h.st hb⟩) ⟨below_butS (Below.drew (Below.refl _ _)) gs, hI _ _ _ _ h0 (Below.drew (Below.refl _ _))⟩ mono (fun j _ => factS_at monoS j) (fun j _ => factS_at monoS j) hstep hend
theorem region_twoL {Q : Exit → Act → World → Prop} {a0 : Act} {w0 : World} {id : Nat} {l : List Oper} {P : Program} (gs : List Nat) (I : Bool → Bool → World → Prop) (q1 q2 : Nat) (fs : List Fact) (D : List (Option Tmp)) (N n : Nat) (hn : a0.tmps.size = n) (hm : P.follows .mixedOrders = true) (hbook : bookB2 l n = true) (hD : l.map (·.dst) = D) (htail : tailB l N = true) (ls : List Nat) (hlate : lateOk l (if q2 < N then q2 else q1) ls = true)
    (hqN : q1 < N) (hq12 : q1 < q2) (hqq : (((l[q2]?).map fun o => o.after.any fun e => Region.binds .any e && e.on == q1) == some false) = false)
    (hI : ∀ b1 b2 w w', I b1 b2 w → Below w.heap.size w w' → I b1 b2 w') (h0 : I false false w0)
    (mono : ∀ f ∈ fs, Mono f) (monoS : ∀ f ∈ fs, MonoS gs f)
    (hstep : AllOps (fun j o => ∀ (a : Act) (w : World) (b1 b2 : Bool), (j = q1 → b1 = false ∧ b2 = false) → (j = q2 → b1 = true ∧ b2 = false) → (j ∈ ls → b1 = true ∧ (q2 < N → b2 = true)) → MI gs I w0 b1 b2 w → FrD (D.take N) a0 a → needs D fs a w o.after.toList → AskM P D (factAt fs j) (ButS gs) (ButS gs) (MI gs I w0) q1 q2 j o a w) 0 (l.take N))
    (hend : ∀ (a : Act) (w : World), MI gs I w0 true (decide (q2 < N)) w → FrD (D.take N) a0 a → (∀ j d, j < N → D[j]? = some d → factAt fs j (slotOf a d) w) → wpList P l.toArray Q (l.drop N) a w) :
    (Code.region id l.toArray true).wp P Q a0 w0 :=
  region_headN (ButS gs) (ButS gs) (MI gs I w0) q1 q2 fs D N n hn hm hbook hD htail ls hlate (fun w => ButS.refl gs w) (fun w => ButS.refl gs w) hqN hq12 (fun e => by rw [e] at hqq; simp at hqq)
    (fun b1 b2 w w' h hb => ⟨h.gr.trans (below_butS hb gs), hI b1 b2 w w' h.st hb⟩) ⟨below_butS (Below.drew (Below.refl _ _)) gs, hI _ _ _ _ h0 (Below.drew (Below.refl _ _))⟩ mono (fun j _ => factS_at monoS j) (fun j _ => factS_at monoS j) hstep hend

end Go.Proofs.YtbpaepkcchpmbaaGreat

namespace Go.Proofs.YtbpaepkcchpmbaaGreat
open Go.RowKit

section
variable {P : Program} {D : List (Option Tmp)} {Φ : Fact} {o : Oper} {a : Act} {w : World}
theorem rf_nilck (hw : Region.wanted o (yieldD D a.tmps) = true) {t : Tmp} (hd : o.dst = some t) (x : Operand) (ho : o.op = .nilCheck x) (ad : Addr) (hx : a.eval x = .pointer (some ad)) (h : Φ (.pointer (some ad)) w) : StepD P D Φ o a w :=
  step_val hw hd _ w (by unfold execOp; rw [ho]; generalize a.eval = ev at hx ⊢; simp [hx, go_sem]) (Below.refl _ _) h
theorem rf_load1 (hw : Region.wanted o (yieldD D a.tmps) = true) {t : Tmp} (hd : o.dst = some t) (T : TypeId) (x : Operand) (ho : o.op = .load T x) (g k : Nat) (hx : a.eval x = .pointer (some ⟨g, k, none⟩)) {v : Value}
    (hrun : (Instr.loadAt T (.pointer (some ⟨g, k, none⟩))).run P w = .ok v w) (h : Φ v w) : StepD P D Φ o a w := by
  refine step_val hw hd _ _ ?_ (Below.refl _ _) h
  unfold execOp
  rw [ho]
  simp only [hx, Sem.run_bind, hrun, Result.andThen_ok]
  rfl
end
theorem run_ldI {g k : Nat} {A : Option Addr} {m c : Nat} {w : World} (h : w.cell? ⟨g, k, none⟩ = some (.slice A m c)) : (Instr.loadAt 57 (.pointer (some ⟨g, k, none⟩))).run Tryz.prog w = .ok (.slice A m c) w := by simp [go_sem, h, Instr.loadAt]

end Go.Proofs.YtbpaepkcchpmbaaGreat

namespace Go.Proofs.YtbpaepkcchpmbaaGreat
open Go.RowKit

/-- A lane as it lies: its place, its query (its bounds lie at B), its series, its queue's block, the next window. -/
structure Lr where
  k : Int
  q : Qu
  B : Option Addr
  d : Nat
  s : Int
  g : Nat
  a : Int
  b : Int
def laneL (r : Lr) : List Value := (quC r.q r.B r.q.bs.length r.d).toList ++ [.int .i64 r.k, .int .i64 r.s, .pointer (some ⟨r.g, 0, none⟩), .int .i64 r.a, .int .i64 r.b]
theorem laneL_eq (r : Lr) : laneL r = [.int .i64 r.q.kind, .int .i64 r.q.agg, .int .i64 r.q.size, .int .i64 r.q.slide, .slice r.B r.q.bs.length r.d, .int .i64 r.q.rank, .int .i64 r.k, .int .i64 r.s, .pointer (some ⟨r.g, 0, none⟩), .int .i64 r.a, .int .i64 r.b] := rfl
theorem laneL_len (r : Lr) : (laneL r).length = 11 := rfl
def rowLn (rs : List Lr) : List Value := rs.flatMap laneL
theorem rowLn_len (rs : List Lr) : (rowLn rs).length = rs.length * 11 := by
  induction rs with
  | nil => rfl
  | cons r t ih => rw [rowLn, List.flatMap_cons, List.length_append, laneL_len]; unfold rowLn at ih; rw [ih, List.length_cons]; omega
theorem rowLn_at : ∀ (rs : List Lr) {i j : Nat} (hi : i < rs.length), j < 11 → (rowLn rs)[i * 11 + j]? = (laneL (rs[i]))[j]?
  | [], _, _, h, _ => by simp at h
  | r :: t, 0, j, _, hj => by
    rw [rowLn, List.flatMap_cons, List.getElem?_append_left (by rw [laneL_len]; omega), Nat.zero_mul, Nat.zero_add]
    rfl
  | r :: t, i + 1, j, h, hj => by
    rw [rowLn, List.flatMap_cons, List.getElem?_append_right (by rw [laneL_len]; omega), laneL_len]
    have e : (i + 1) * 11 + j - 11 = i * 11 + j := by omega
    rw [e]
    exact rowLn_at t (by simpa using h) hj
/-- A lane in its row. -/
structure LnC (cur : Array Value) (o : Nat) (r : Lr) : Prop where
  at_ : ∀ j, j < 11 → cur[o + j]? = (laneL r)[j]?
section
variable {cur : Array Value} {o : Nat} {r : Lr} {w w' : World} {L : Nat} {t : TypeId}
theorem LnC.c0 (h : LnC cur o r) : cur[o]? = some (.int .i64 r.q.kind) := h.at_ 0 (by omega)
theorem LnC.c1 (h : LnC cur o r) : cur[o + 1]? = some (.int .i64 r.q.agg) := h.at_ 1 (by omega)
theorem LnC.c2 (h : LnC cur o r) : cur[o + 2]? = some (.int .i64 r.q.size) := h.at_ 2 (by omega)
theorem LnC.c3 (h : LnC cur o r) : cur[o + 3]? = some (.int .i64 r.q.slide) := h.at_ 3 (by omega)
theorem LnC.c4 (h : LnC cur o r) : cur[o + 4]? = some (.slice r.B r.q.bs.length r.d) := h.at_ 4 (by omega)
theorem LnC.c5 (h : LnC cur o r) : cur[o + 5]? = some (.int .i64 r.q.rank) := h.at_ 5 (by omega)
theorem LnC.c6 (h : LnC cur o r) : cur[o + 6]? = some (.int .i64 r.k) := h.at_ 6 (by omega)
theorem LnC.c7 (h : LnC cur o r) : cur[o + 7]? = some (.int .i64 r.s) := h.at_ 7 (by omega)
theorem LnC.c8 (h : LnC cur o r) : cur[o + 8]? = some (.pointer (some ⟨r.g, 0, none⟩)) := h.at_ 8 (by omega)
theorem LnC.c9 (h : LnC cur o r) : cur[o + 9]? = some (.int .i64 r.a) := h.at_ 9 (by omega)
theorem LnC.c10 (h : LnC cur o r) : cur[o + 10]? = some (.int .i64 r.b) := h.at_ 10 (by omega)
/-- The query as it is loaded: six cells. -/
theorem LnC.qu (h : LnC cur o r) (hw : Has w L t cur) : w.rangeAt L o (quC r.q r.B r.q.bs.length r.d).toList := by
  intro j v hv
  have hj : j < 6 := (List.getElem?_eq_some_iff.1 hv).1
  rw [hw.cell, h.at_ j (by omega)]
  have e2 : j = 0 ∨ j = 1 ∨ j = 2 ∨ j = 3 ∨ j = 4 ∨ j = 5 := by omega
  rcases e2 with rfl | rfl | rfl | rfl | rfl | rfl <;> exact hv
/-- Another next window. -/
def Lr.nx (r : Lr) (a b : Int) : Lr := ⟨r.k, r.q, r.B, r.d, r.s, r.g, a, b⟩
def laneA (cur : Array Value) (o : Nat) (a b : Int) : Array Value := (cur.setIfInBounds (o + 9) (.int .i64 a)).setIfInBounds (o + 10) (.int .i64 b)
theorem laneA_size (cur : Array Value) (o : Nat) (a b : Int) : (laneA cur o a b).size = cur.size := by simp [laneA]
theorem laneA_other {a b : Int} {j : Nat} (h1 : j ≠ o + 9) (h2 : j ≠ o + 10) : (laneA cur o a b)[j]? = cur[j]? := by
  unfold laneA
  rw [Array.getElem?_setIfInBounds_ne (by omega), Array.getElem?_setIfInBounds_ne (by omega)]
theorem LnC.put (h : LnC cur o r) (a b : Int) : LnC (laneA cur o a b) o (r.nx a b) := ⟨fun j hj => by
  by_cases h9 : j = 9
  · subst h9
    have hs : o + 9 < cur.size := by have := h.c9; exact (Array.getElem?_eq_some_iff.1 this).1
    unfold laneA
    rw [Array.getElem?_setIfInBounds_ne (by omega), Array.getElem?_setIfInBounds_self_of_lt hs]
    rfl
  · by_cases h10 : j = 10
    · subst h10
      have hs : o + 10 < cur.size := by have := h.c10; exact (Array.getElem?_eq_some_iff.1 this).1
      unfold laneA
      rw [Array.getElem?_setIfInBounds_self_of_lt (by simpa using hs)]
      rfl
    · rw [laneA_other (by omega) (by omega), h.at_ j hj]
      have e : j = 0 ∨ j = 1 ∨ j = 2 ∨ j = 3 ∨ j = 4 ∨ j = 5 ∨ j = 6 ∨ j = 7 ∨ j = 8 := by omega
      rcases e with rfl | rfl | rfl | rfl | rfl | rfl | rfl | rfl | rfl <;> rfl⟩
theorem LnC.a1 (h : LnC cur o r) (a : Int) : LnC (cur.setIfInBounds (o + 9) (.int .i64 a)) o (r.nx a r.b) := by
  have e : cur.setIfInBounds (o + 9) (.int .i64 a) = laneA cur o a r.b := by
    unfold laneA
    refine Array.ext (by simp) fun i h1 h2 => ?_
    by_cases h10 : i = o + 10
    · subst h10
      have := h.c10
      have hs : o + 10 < cur.size := (Array.getElem?_eq_some_iff.1 this).1
      have hv := (Array.getElem?_eq_some_iff.1 this).2
      rw [Array.getElem_setIfInBounds_ne _ (by omega), Array.getElem_setIfInBounds_self]
      exact hv
    · rw [Array.getElem_setIfInBounds_ne _ (fun e => h10 e.symm)]
  rw [e]
  exact h.put a r.b
end
/-- A row of lanes, one turned. -/
theorem rowLn_lane (rs : List Lr) {i : Nat} (hi : i < rs.length) : LnC (rowLn rs).toArray (i * 11) (rs[i]) := ⟨fun j hj => by
  rw [List.getElem?_toArray]; exact rowLn_at rs hi hj⟩
theorem rowLn_set (rs : List Lr) {i : Nat} (hi : i < rs.length) (a b : Int) : laneA (rowLn rs).toArray (i * 11) a b = (rowLn (rs.set i (rs[i].nx a b))).toArray := by
  refine Array.ext (by rw [laneA_size]; simp [rowLn_len]) fun j h1 h2 => ?_
  rw [laneA_size] at h1
  have hl : j < rs.length * 11 := by simpa [rowLn_len] using h1
  have e : j = j / 11 * 11 + j % 11 := by omega
  have hm : j % 11 < 11 := by omega
  have hd : j / 11 < rs.length := by omega
  rw [← Option.some_inj, ← Array.getElem?_eq_getElem, ← Array.getElem?_eq_getElem]
  have r1 : (rowLn (rs.set i (rs[i].nx a b))).toArray[j]? = (laneL ((rs.set i (rs[i].nx a b))[j / 11]'(by simpa using hd)))[j % 11]? := by
    rw [List.getElem?_toArray]
    have := rowLn_at (rs.set i (rs[i].nx a b)) (i := j / 11) (j := j % 11) (by simpa using hd) hm
    rw [← e] at this
    exact this
  rw [r1]
  by_cases hi2 : j / 11 = i
  · subst hi2
    have h3 := ((rowLn_lane rs hi).put a b).at_ (j % 11) hm
    rw [← e] at h3
    rw [h3, List.getElem_set_self]
  · rw [laneA_other (by omega) (by omega), List.getElem_set_ne (fun e => hi2 e.symm)]
    have h3 := (rowLn_lane rs hd).at_ (j % 11) hm
    rw [← e] at h3
    exact h3
abbrev LT : TypeId := 173
/-- The store of a number into a cell of a block that is known whole. -/
theorem store_ln {ops : Array Oper} {rest : List Oper} {op : Oper} {a : Act} {w : World} {Q : Exit → Act → World → Prop} (hgd : op.guard = none) (x y : Operand) (ho : op.op = .store 3 x y)
    (L k : Nat) (v : Int) {t : TypeId} {cur : Array Value} (hx : a.eval x = .pointer (some ⟨L, k, none⟩)) (hy : a.eval y = .int .i64 v) (hw : Has w L t cur) (hk : k < cur.size)
    (h : ∀ w', Has w' L t (cur.setIfInBounds k (.int .i64 v)) → ButS [L] w w' → wpList Tryz.prog ops Q rest (a.put op.dst undef) w') : wpList Tryz.prog ops Q (op :: rest) a w := by
  have hc := hw.cell k
  rw [Array.getElem?_eq_getElem hk] at hc
  have hf := hw.mark k
  have e : (Instr.storeAt 3 (.pointer (some ⟨L, k, none⟩)) (.int .i64 v)).run Tryz.prog w = .ok () (w.setCell ⟨L, k, none⟩ (.int .i64 v)) := by
    simp [go_sem, Instr.storeAt, hc, hf]
  refine wpList_plain hgd fun _ hK => ?_
  unfold Oper.wp execOp
  rw [ho]
  simp only [hx, hy, Sem.run_bind, e, Result.andThen_ok]
  refine hK _ _ (h _ (hw.put k _) ?_)
  exact ⟨rfl, rfl, rfl, by simp [World.setCell], fun j _ hn => heap_setCell_other _ _ _ _ (fun e => hn (by simp only at e; simp [e]))⟩
/-- The load of a lane's query. -/
theorem load_lnq {ops : Array Oper} {rest : List Oper} {op : Oper} {a : Act} {w : World} {Q : Exit → Act → World → Prop} (hgd : op.guard = none) (x : Operand) (ho : op.op = .load 59 x) (L o : Nat) (hx : a.eval x = .pointer (some ⟨L, o, none⟩))
    {t : TypeId} {cur : Array Value} {r : Lr} (hw : Has w L t cur) (hc : LnC cur o r)
    (h : wpList Tryz.prog ops Q rest (a.put op.dst (.agg (quC r.q r.B r.q.bs.length r.d))) w) : wpList Tryz.prog ops Q (op :: rest) a w :=
  wpList_load_mid hgd 59 x ho L o hx _ _ (hc.qu hw) Tryz.underlying59 rfl (by kernel_rfl) (by simpa using h)

end Go.Proofs.YtbpaepkcchpmbaaGreat
