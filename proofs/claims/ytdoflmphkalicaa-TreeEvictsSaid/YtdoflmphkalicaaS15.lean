/-
  The law of XHeadN once more, where operations that come ahead of the first writing one (the list es) know so. No program here.
  Rows of items that are written: an item laid over another, what stays; single operations on rows of items in a drawn region.
  Rows of items: parts of them, appends onto an owned one that say where the new row lies.
  SameItems' drawn region (written by gen/sesi.py).
  Walks: the laws' helpers on items: Num, SameItems of like ones, CopyItems, LendItems, KeptItems, SpoilItems.
-/
import Derived.Test.YtdoflmphkalicaaS3
import Derived.Test.YtdoflmphkalicaaIt0
import Derived.Test.YtdoflmphkalicaaS8
import Derived.Laws.Slices
import Derived.Laws.AppendOwnNone
import Derived.Test.YtdoflmphkalicaaLf
import Derived.OwnWalk
import Derived.Deep.Cut
import Derived.Great.Walk
import Derived.Maps.AppendAt
namespace Go.Proofs.Ytdoflmphkalicaa
open Go.RowKit

def earlyOk (l : List Oper) (q1 : Nat) (es : List Nat) : Bool :=
  match l[q1]? with
  | some o => es.all fun j => o.after.any fun e => Region.binds .any e && e.on == j
  | none => false
theorem early_of {l : List Oper} {q1 : Nat} {es : List Nat} (h : earlyOk l q1 es = true) {L : Nat → Bool} (hc : ∀ (i : Nat) (oi : Oper), l.toArray[i]? = some oi → L i = true → ∀ e ∈ oi.after, Region.binds .any e = true → L e.on = true) :
    ∀ j, j ∈ es → L j = false → L q1 = false := fun j hj hf => by
  cases h1 : L q1 with
  | false => rfl
  | true =>
    unfold earlyOk at h
    cases ho : l[q1]? with
    | none => rw [ho] at h; cases h
    | some o =>
      rw [ho] at h
      have h2 := List.all_eq_true.1 h j hj
      obtain ⟨i, hi, he⟩ := Array.any_eq_true.1 h2
      rw [Bool.and_eq_true] at he
      have := hc q1 o (by simpa using ho) h1 _ (Array.getElem_mem hi) he.1
      rw [(by simpa using he.2 : o.after[i].on = j), hf] at this
      cases this

section
variable {P : Program} {ops : Array Oper} {Q : Exit → Act → World → Prop} {a0 : Act} {Φ : Nat → Value → World → Prop} {N q1 q2 : Nat} {K : Nat → World → World → Prop} {I : Bool → Bool → World → Prop}
theorem head_invE (hback : ∀ (j : Nat) (o : Oper), ops[j]? = some o → ∀ e ∈ o.after, Region.binds .any e = true → e.on < j)
    (hdst : ∀ (i j : Nat) (oi oj : Oper) (t : Tmp), ops[i]? = some oi → ops[j]? = some oj → oi.dst = some t → oj.dst = some t → i = j)
    (hsz : ∀ (j : Nat) (o : Oper) (t : Tmp), ops[j]? = some o → o.dst = some t → t < a0.tmps.size)
    (mono : ∀ (i j : Nat) (v : Value) (w w' : World), i ≠ j → K i w w' → Φ j v w → Φ j v w')
    (hK : ∀ i w, K i w w) (hqN : q1 < N) (_ : q1 < q2) (hqq : ∀ o, ops[q2]? = some o → ∃ e ∈ o.after, Region.binds .any e = true ∧ e.on = q1)
    (hn : N < ops.size) (hsink : Region.sinkB .any ops N = true) (hchain : Region.chainB .any ops N = true) (hseq : Region.seqB .any ops (ops.size - N) N (canonL ops.size N) = true)
    (hstep : ∀ (j : Nat) (o : Oper), j < N → ops[j]? = some o → ∀ (a : Act) (w : World) (b1 b2 : Bool), (j = q1 → b1 = false ∧ b2 = false) → (j = q2 → b1 = true ∧ b2 = false) → (∃ L : Nat → Bool, b1 = L q1 ∧ b2 = L q2 ∧ L j = false ∧ (∀ (i : Nat) (oi : Oper), ops[i]? = some oi → L i = true → ∀ e ∈ oi.after, Region.binds .any e = true → L e.on = true) ∧ ∀ e ∈ o.after, Region.binds .any e = true → L e.on = true) → I b1 b2 w → FrN ops N a0 a → (∀ e ∈ o.after, Region.binds .any e = true → ∀ (oe : Oper), ops[e.on]? = some oe → Φ e.on (slotOf a oe.dst) w) → StepM P ops Q Φ K I q1 q2 j o a w b1 b2)
    (hend : ∀ (a : Act) (w : World), I true (decide (q2 < N)) w → FrN ops N a0 a → (∀ (j : Nat) (o : Oper), j < N → ops[j]? = some o → Φ j (slotOf a o.dst) w) → wpList P ops Q (ops.toList.drop N) a w) :
    ∀ (fuel : Nat) (listed : Array Bool) (a : Act) (w : World), HeadInv .any ops N listed → I (listed.getD q1 false) (listed.getD q2 false) w → FrN ops N a0 a →
      (∀ (j : Nat) (o : Oper), j < N → ops[j]? = some o → listed.getD j false = true → Φ j (slotOf a o.dst) w) →
      (listed.toList.filter (fun b => !b)).length = fuel → wpAny P .any ops Q fuel listed a w := by
  intro fuel
  induction fuel with
  | zero =>
    intro listed a w inv hB hF hfacts hcount
    exfalso
    have h1 := inv.tail N (Nat.le_refl _) hn
    have hjl : N < listed.size := by rw [inv.size]; exact hn
    have hm : listed[N] = false := by simpa [Array.getD, hjl] using h1
    have : false ∈ listed.toList.filter (fun b => !b) := List.mem_filter.2 ⟨by rw [← hm]; simp, rfl⟩
    have hpos := List.length_pos_of_mem this
    omega
  | succ fuel ih =>
    intro listed a w inv hB hF hfacts hcount
    by_cases hall : ∀ j, j < N → listed.getD j false = true
    · have e := canon_eq (Nat.le_of_lt hn) inv.size hall inv.tail
      have hc := canon_count ops.size N
      rw [← e, hcount] at hc
      have hl : (ops.toList.drop N).length = fuel + 1 := by simp; omega
      have e2 : listed.getD q2 false = decide (q2 < N) := by
        by_cases h2 : q2 < N
        · rw [hall q2 h2]; simp [h2]
        · rw [decide_eq_false h2]
          by_cases h3 : q2 < ops.size
          · have := inv.tail q2 (by omega) h3
            have hl2 : q2 < listed.size := by rw [inv.size]; exact h3
            simpa [Array.getD, hl2] using this
          · simp [Array.getD, inv.size, h3]
      rw [← hl]
      refine wpAny_of_seq (ops.toList.drop N) N listed a w (fun j => by simp) ?_ (hend a w (by rw [hall q1 hqN, e2] at hB; exact hB) hF fun j o hj ho => hfacts j o hj ho (hall j hj))
      rw [hl, e, hc]
      exact hseq
    · obtain ⟨i, hiN, hif⟩ : ∃ i, i < N ∧ listed.getD i true = false := by
        apply Classical.byContradiction
        intro hno
        apply hall
        intro j hj
        have hjl : j < listed.size := by rw [inv.size]; omega
        cases h : listed.getD j false with
        | true => rfl
        | false => exact absurd ⟨j, hj, getD_in hjl h⟩ hno
      have hlow : ∀ t, t ∈ Region.ready .any ops listed → t < N := fun t ht => by
        rcases Nat.lt_or_ge t N with h | h
        · exact h
        · exact absurd ht (tail_waits hsink hchain hn inv _ i rfl hiN hif t h)
      have hne : Region.ready .any ops listed ≠ [] := by
        intro hr
        have hall2 : ∀ j, j < ops.size → listed.getD j false = true := by
          intro j
          induction j using Nat.strongRecOn with
          | _ j ih2 =>
            intro hj
            cases h : listed.getD j false with
            | true => rfl
            | false =>
              have hjl : j < listed.size := by rw [inv.size]; exact hj
              have : j ∈ Region.ready .any ops listed := mem_ready.2 ⟨getD_in hjl h, ops[j], Array.getElem?_eq_getElem hj, fun e he hbd => by
                have hlt := hback j _ (Array.getElem?_eq_getElem hj) e he hbd
                exact ih2 e.on hlt (by omega)⟩
              rw [hr] at this
              cases this
        have := hall2 i (by omega)
        rw [getD_both hif] at this
        cases this
      refine ⟨fun hr => absurd hr hne, fun j hj => ?_⟩
      have hjN := hlow j hj
      obtain ⟨h0, o, ho, hdeps⟩ := mem_ready.1 hj
      have hil : j < listed.size := by rw [inv.size]; omega
      have hm : listed[j] = false := by simpa [Array.getD, hil] using h0
      have hjf : listed.getD j false = false := by simp [Array.getD, hil, hm]
      have hclose : listed.getD q2 false = true → listed.getD q1 false = true := fun h => by
        by_cases h3 : q2 < ops.size
        · obtain ⟨e, he, hb, hon⟩ := hqq ops[q2] (Array.getElem?_eq_getElem h3)
          have := inv.closed q2 ops[q2] (Array.getElem?_eq_getElem h3) h e he hb
          rwa [hon] at this
        · simp [Array.getD, inv.size, h3] at h
      have hun1 : j = q1 → listed.getD q1 false = false ∧ listed.getD q2 false = false := fun e => by
        have h1 : listed.getD q1 false = false := by rw [← e]; exact hjf
        refine ⟨h1, ?_⟩
        cases h : listed.getD q2 false with
        | false => rfl
        | true => rw [hclose h] at h1; cases h1
      have hun2 : j = q2 → listed.getD q1 false = true ∧ listed.getD q2 false = false := fun e => by
        refine ⟨?_, by rw [← e]; exact hjf⟩
        obtain ⟨e2, he, hb, hon⟩ := hqq o (by rw [← e]; exact ho)
        have := hdeps e2 he hb
        rwa [hon] at this
      have hst := hstep j o hjN ho a w _ _ hun1 hun2 ⟨fun i => listed.getD i false, rfl, rfl, hjf, fun i oi hi hl => inv.closed i oi hi hl, hdeps⟩ hB hF fun e he hb oe hoe => hfacts e.on oe (by have := hback j o ho e he hb; omega) hoe (hdeps e he hb)
      have hset1 : (listed.setIfInBounds j true).getD q1 false = (listed.getD q1 false || decide (j = q1)) := getD_or (by rw [inv.size]; omega)
      have hset2 : (listed.setIfInBounds j true).getD q2 false = (listed.getD q2 false || decide (j = q2)) := getD_or (by rw [inv.size]; omega)
      have next : ∀ v w', (o.dst = none → v = undef) → K j w w' → I (listed.getD q1 false || decide (j = q1)) (listed.getD q2 false || decide (j = q2)) w' → Φ j v w' → wpAny P .any ops Q fuel (listed.setIfInBounds j true) (a.put o.dst v) w' := by
        intro v w' hv hb hI hΦ
        refine ih _ _ _ (inv.set hj hjN) (by rw [hset1, hset2]; exact hI) ⟨?_, ?_, ?_⟩ ?_ ?_
        · cases hd : o.dst <;> simpa [Act.put] using hF.defers
        · cases hd : o.dst <;> simpa [Act.put] using hF.size
        · intro s hs
          rw [← hF.other s hs]
          cases hd : o.dst with
          | none => rfl
          | some t =>
            have hne : t ≠ s := fun e => hs j o hjN ho (by rw [hd, e])
            simp [Act.put, hne]
        · intro k ok hk hok hlk
          by_cases e : j = k
          · subst e
            obtain rfl : o = ok := by rw [ho] at hok; exact Option.some.inj hok
            cases hd : o.dst with
            | none => rw [hv hd] at hΦ; exact hΦ
            | some t => rw [slot_put_same _ _ (by rw [hF.size]; exact hsz j o t ho hd)]; exact hΦ
          · rw [slot_put_far _ _ fun t hjt hit => e (hdst j k o ok t ho hok hit hjt)]
            refine mono j k _ w w' e hb (hfacts k ok hk hok ?_)
            have hkl : k < listed.size := by rw [inv.size]; omega
            simpa [Array.getD, hkl, Array.getElem_setIfInBounds, e] using hlk
        · have := count_set_eq listed.toList j (by simpa [hil] using hm)
          rw [Array.toList_setIfInBounds]
          omega
      unfold wpOp
      rw [ho]
      unfold StepM at hst
      by_cases hw : Region.wanted o (yielded ops a.tmps) = true
      · simp only [hw, if_true] at hst ⊢
        refine .inl (Oper.wp_mono (fun a' w' ⟨v, e, hv, hb, hI, hΦ⟩ => ?_) hst)
        rw [e]
        exact next v w' hv hb hI hΦ
      · simp only [hw] at hst ⊢
        exact next undef w (fun _ => rfl) (hK j w) hst.2 hst.1
end

theorem region_headE {P : Program} {Q : Exit → Act → World → Prop} {a0 : Act} {w0 : World} {id : Nat} {l : List Oper} (K1 K2 : World → World → Prop) (I : Bool → Bool → World → Prop) (q1 q2 : Nat) (fs : List Fact) (D : List (Option Tmp)) (N n : Nat) (hn : a0.tmps.size = n) (hm : P.follows .mixedOrders = true) (hbook : bookB2 l n = true) (hD : l.map (·.dst) = D) (htail : tailB l N = true) (ls : List Nat) (hlate : lateOk l (if q2 < N then q2 else q1) ls = true) (es : List Nat) (hearly : earlyOk l q1 es = true)
    (hK1 : ∀ w, K1 w w) (hK2 : ∀ w, K2 w w) (hqN : q1 < N) (hq12 : q1 < q2) (hqq : ((l[q2]?).map fun o => o.after.any fun e => Region.binds .any e && e.on == q1) ≠ some false)
    (hI : ∀ b1 b2 w w', I b1 b2 w → Below w.heap.size w w' → I b1 b2 w') (h0 : I false false w0.drew)
    (mono : ∀ f ∈ fs, Mono f) (mono1 : ∀ j, j ≠ q1 → ∀ (v : Value) (w w' : World), K1 w w' → factAt fs j v w → factAt fs j v w') (mono2 : ∀ j, j ≠ q2 → ∀ (v : Value) (w w' : World), K2 w w' → factAt fs j v w → factAt fs j v w')
    (hstep : AllOps (fun j o => ∀ (a : Act) (w : World) (b1 b2 : Bool), (j = q1 → b1 = false ∧ b2 = false) → (j = q2 → b1 = true ∧ b2 = false) → (j ∈ ls → b1 = true ∧ (q2 < N → b2 = true)) → (j ∈ es → b1 = false) → I b1 b2 w → FrD (D.take N) a0 a → needs D fs a w o.after.toList → AskM P D (factAt fs j) K1 K2 I q1 q2 j o a w) 0 (l.take N))
    (hend : ∀ (a : Act) (w : World), I true (decide (q2 < N)) w → FrD (D.take N) a0 a → (∀ j d, j < N → D[j]? = some d → factAt fs j (slotOf a d) w) → wpList P l.toArray Q (l.drop N) a w) :
    (Code.region id l.toArray true).wp P Q a0 w0 := by
  subst hn
  simp only [bookB2, Bool.and_eq_true] at hbook
  obtain ⟨⟨h1, h2⟩, h3⟩ := hbook
  simp only [tailB, Bool.and_eq_true, decide_eq_true_eq] at htail
  obtain ⟨⟨⟨hN, t1⟩, t2⟩, t3⟩ := htail
  have hfr : ∀ a, FrN l.toArray N a0 a → FrD (D.take N) a0 a := fun a h => ⟨h.defers, h.size, fun s hs => h.other s fun j o hj ho hd => by
    have : (D.take N).contains (some s) = true := by
      rw [← hD, List.contains_iff_mem, ← hd, ← List.map_take]
      refine List.mem_map.2 ⟨o, List.mem_of_getElem? (i := j) ?_, rfl⟩
      rw [List.getElem?_take, if_pos hj]
      simpa using ho
    rw [hs] at this; cases this⟩
  have hslot : ∀ (i : Nat) (oe : Oper), l[i]? = some oe → (D[i]?).join = oe.dst := fun i oe h => by rw [← hD]; simp [h]
  have k1 : ∀ (j : Nat) (o : Oper), l.toArray[j]? = some o → ∀ e ∈ o.after, Region.binds .any e = true → e.on < j := fun j o ho e he hb => by
    have := backB2_at h1 (j := j) (by simpa using ho) e he hb
    omega
  have k2 : ∀ (i j : Nat) (oi oj : Oper) (t : Tmp), l.toArray[i]? = some oi → l.toArray[j]? = some oj → oi.dst = some t → oj.dst = some t → i = j := fun i j oi oj t hi hj hti htj =>
    dsts_apart h2 (by simpa using hi) (by simpa using hj) hti htj
  have k3 : ∀ (j : Nat) (o : Oper) (t : Tmp), l.toArray[j]? = some o → o.dst = some t → t < a0.tmps.size := fun j o t ho ht => by
    have := List.all_eq_true.1 h3 t (mem_dsts (j := j) (by simpa using ho) ht)
    simpa using this
  have kmono : ∀ (j : Nat) (v : Value) (w w' : World), Below w.heap.size w w' → factAt fs j v w → factAt fs j v w' := fun j v w w' hb h => by
    unfold factAt at h ⊢
    by_cases hj : j < fs.length
    · have e : fs.getD j (fun _ _ => True) = fs[j] := by simp [hj]
      rw [e] at h ⊢
      exact mono _ (List.getElem_mem hj) v w w' hb h
    · have e : fs.getD j (fun _ _ => True) = fun _ _ => True := by simp [List.getElem?_eq_none (Nat.le_of_not_lt hj)]
      rw [e]; trivial
  have k4 : ∀ (i j : Nat) (v : Value) (w w' : World), i ≠ j → kindK q1 q2 K1 K2 i w w' → factAt fs j v w → factAt fs j v w' := fun i j v w w' hne hk h => by
    unfold kindK at hk
    by_cases e1 : i = q1
    · rw [if_pos e1] at hk; exact mono1 j (fun e => hne (e1.trans e.symm)) v w w' hk h
    · rw [if_neg e1] at hk
      by_cases e2 : i = q2
      · rw [if_pos e2] at hk; exact mono2 j (fun e => hne (e2.trans e.symm)) v w w' hk h
      · rw [if_neg e2] at hk; exact kmono j v w w' hk h
  have kK : ∀ (i : Nat) (w : World), kindK q1 q2 K1 K2 i w w := fun i w => by
    unfold kindK
    by_cases e1 : i = q1
    · rw [if_pos e1]; exact hK1 w
    · rw [if_neg e1]
      by_cases e2 : i = q2
      · rw [if_pos e2]; exact hK2 w
      · rw [if_neg e2]; exact Below.refl _ _
  have k7 : ∀ o, l.toArray[q2]? = some o → ∃ e ∈ o.after, Region.binds .any e = true ∧ e.on = q1 := fun o ho => by
    have ho' : l[q2]? = some o := by simpa using ho
    rw [ho'] at hqq
    have : (o.after.any fun e => Region.binds .any e && e.on == q1) = true := by simpa using hqq
    obtain ⟨i, hi, he⟩ := Array.any_eq_true.1 this
    rw [Bool.and_eq_true] at he
    exact ⟨o.after[i], Array.getElem_mem hi, he.1, by simpa using he.2⟩
  have k5 : ∀ (j : Nat) (o : Oper), j < N → l.toArray[j]? = some o → ∀ (a : Act) (w : World) (b1 b2 : Bool), (j = q1 → b1 = false ∧ b2 = false) → (j = q2 → b1 = true ∧ b2 = false) → (∃ L : Nat → Bool, b1 = L q1 ∧ b2 = L q2 ∧ L j = false ∧ (∀ (i : Nat) (oi : Oper), l.toArray[i]? = some oi → L i = true → ∀ e ∈ oi.after, Region.binds .any e = true → L e.on = true) ∧ ∀ e ∈ o.after, Region.binds .any e = true → L e.on = true) → I b1 b2 w → FrN l.toArray N a0 a → (∀ e ∈ o.after, Region.binds .any e = true → ∀ (oe : Oper), l.toArray[e.on]? = some oe → factAt fs e.on (slotOf a oe.dst) w) → StepM P l.toArray Q (factAt fs) (kindK q1 q2 K1 K2) I q1 q2 j o a w b1 b2 := fun j o hj ho a w b1 b2 hb1 hb2 hL hB hF hd => by
    have hls : j ∈ ls → b1 = true ∧ (q2 < N → b2 = true) := fun hj' => by
      obtain ⟨L, e1, e2, _, hc, hdp⟩ := hL
      have hlast := late_of hlate hc j hj' o ho hdp
      by_cases h2 : q2 < N
      · rw [if_pos h2] at hlast
        have hsz2 : q2 < l.toArray.size := by simpa using Nat.lt_trans h2 hN
        obtain ⟨eo, he, hbd, hon⟩ := k7 (l.toArray[q2]'hsz2) (Array.getElem?_eq_getElem hsz2)
        have := hc q2 _ (Array.getElem?_eq_getElem hsz2) hlast eo he hbd
        rw [hon] at this
        exact ⟨by rw [e1, this], fun _ => by rw [e2, hlast]⟩
      · rw [if_neg h2] at hlast
        exact ⟨by rw [e1, hlast], fun h => absurd h h2⟩
    have hes : j ∈ es → b1 = false := fun hj' => by
      obtain ⟨L, e1, _, hf, hc, _⟩ := hL
      rw [e1]
      exact early_of hearly hc j hj' hf
    have ho' : (l.take N)[j]? = some o := by rw [List.getElem?_take, if_pos hj]; simpa using ho
    have hs := allOps_at hstep (j := j) ho'
    rw [Nat.zero_add] at hs
    have hlt := backB2_at h1 (j := j) (by simpa using ho)
    have hs' := hs a w b1 b2 hb1 hb2 hls hes hB (hfr a hF) (needs_of _ fun e he hb => by
      have he' : e ∈ o.after := by simpa using he
      have hl : e.on < l.length := by have := hlt e he' hb; omega
      rw [hslot e.on l[e.on] (List.getElem?_eq_getElem hl)]
      exact hd e he' hb l[e.on] (by simp [hl]))
    unfold StepM
    have ey : yielded l.toArray a.tmps = yieldD D a.tmps := funext fun i => yielded_D hD a.tmps i
    rw [ey]
    unfold AskM at hs'
    unfold kindK
    by_cases e1 : j = q1
    · rw [if_pos e1] at hs'
      obtain ⟨rfl, rfl⟩ := hb1 e1
      have n2 : decide (j = q2) = false := decide_eq_false (by omega)
      have y1 : decide (j = q1) = true := decide_eq_true e1
      simp only [if_pos e1, n2, y1, Bool.false_or, Bool.or_false]
      exact hs' Q
    · rw [if_neg e1] at hs'
      have n1 : decide (j = q1) = false := decide_eq_false e1
      by_cases e2 : j = q2
      · rw [if_pos e2] at hs'
        obtain ⟨rfl, rfl⟩ := hb2 e2
        have y2 : decide (j = q2) = true := decide_eq_true e2
        simp only [if_neg e1, if_pos e2, n1, y2, Bool.false_or, Bool.or_false]
        exact hs' Q
      · rw [if_neg e2] at hs'
        have n2 : decide (j = q2) = false := decide_eq_false e2
        simp only [if_neg e1, if_neg e2, n1, n2, Bool.or_false]
        exact (StepD.toL (J := fun w => I b1 b2 w) (K := fun w w' => Below w.heap.size w w') hs' (fun _ h => h) (fun w' h => hI b1 b2 w w' hB h)) Q
  have k6 : ∀ (a : Act) (w : World), I true (decide (q2 < N)) w → FrN l.toArray N a0 a → (∀ (j : Nat) (o : Oper), j < N → l.toArray[j]? = some o → factAt fs j (slotOf a o.dst) w) → wpList P l.toArray Q (l.toArray.toList.drop N) a w := fun a w hB hF h => hend a w hB (hfr a hF) fun j d hj hjd => by
    rw [← hD, List.getElem?_map] at hjd
    obtain ⟨o, ho, rfl⟩ := Option.map_eq_some_iff.1 hjd
    exact h j o hj (by simpa using ho)
  refine wp_region_any hm ?_
  have inv0 : HeadInv .any l.toArray N (Array.replicate l.toArray.size false) :=
    ⟨by simp, fun j oj _ hl => (by rw [getD_replicate_false] at hl; cases hl), fun t _ ht => getD_in (by simpa using ht) (getD_replicate_false _ _)⟩
  exact head_invE (Φ := factAt fs) (ops := l.toArray) (N := N) k1 k2 k3 k4 kK hqN hq12 k7 (by simpa using hN) t1 t2 (by simpa using t3) k5 k6 l.toArray.size (Array.replicate l.toArray.size false) a0 _ inv0 (by rw [getD_replicate_false, getD_replicate_false]; exact h0) ⟨rfl, rfl, fun _ _ => rfl⟩
    (fun j o _ _ h => by rw [getD_replicate_false] at h; cases h) (by simp)


theorem allOps_mono {p q : Nat → Oper → Prop} (h : ∀ j o, p j o → q j o) : ∀ {l : List Oper} {k : Nat}, AllOps p k l → AllOps q k l
  | [], _, _ => trivial
  | _ :: _, _, ⟨h1, h2⟩ => ⟨h _ _ h1, allOps_mono h h2⟩
/-- One writing operation, q1; those of es come ahead of it. -/
theorem region_twoE {Q : Exit → Act → World → Prop} {a0 : Act} {w0 : World} {id : Nat} {l : List Oper} {P : Program} (gs : List Nat) (I : Bool → Bool → World → Prop) (q1 q2 : Nat) (fs : List Fact) (D : List (Option Tmp)) (N n : Nat) (hn : a0.tmps.size = n) (hm : P.follows .mixedOrders = true) (hbook : bookB2 l n = true) (hD : l.map (·.dst) = D) (htail : tailB l N = true) (es : List Nat) (hearly : earlyOk l q1 es = true)
    (hqN : q1 < N) (hq12 : q1 < q2) (hqq : (((l[q2]?).map fun o => o.after.any fun e => Region.binds .any e && e.on == q1) == some false) = false)
    (hI : ∀ b1 b2 w w', I b1 b2 w → Below w.heap.size w w' → I b1 b2 w') (h0 : I false false w0)
    (mono : ∀ f ∈ fs, Mono f) (monoS : ∀ f ∈ fs, MonoS gs f)
    (hstep : AllOps (fun j o => ∀ (a : Act) (w : World) (b1 b2 : Bool), (j = q1 → b1 = false ∧ b2 = false) → (j = q2 → b1 = true ∧ b2 = false) → (j ∈ es → b1 = false) → MI gs I w0 b1 b2 w → FrD (D.take N) a0 a → needs D fs a w o.after.toList → AskM P D (factAt fs j) (ButS gs) (ButS gs) (MI gs I w0) q1 q2 j o a w) 0 (l.take N))
    (hend : ∀ (a : Act) (w : World), MI gs I w0 true (decide (q2 < N)) w → FrD (D.take N) a0 a → (∀ j d, j < N → D[j]? = some d → factAt fs j (slotOf a d) w) → wpList P l.toArray Q (l.drop N) a w) :
    (Code.region id l.toArray true).wp P Q a0 w0 :=
  region_headE (ButS gs) (ButS gs) (MI gs I w0) q1 q2 fs D N n hn hm hbook hD htail [] rfl es hearly (fun w => ButS.refl gs w) (fun w => ButS.refl gs w) hqN hq12 (fun e => by rw [e] at hqq; simp at hqq)
    (fun b1 b2 w w' h hb => ⟨h.gr.trans (below_butS hb gs), hI b1 b2 w w' h.st hb⟩) ⟨below_butS (Below.drew (Below.refl _ _)) gs, hI _ _ _ _ h0 (Below.drew (Below.refl _ _))⟩ mono (fun j _ => factS_at monoS j) (fun j _ => factS_at monoS j) (allOps_mono (fun j o h a w b1 b2 h1 h2 _ => h a w b1 b2 h1 h2) hstep) hend

end Go.Proofs.Ytdoflmphkalicaa

namespace Go.Proofs.Ytdoflmphkalicaa
open Go.RowKit

/-! An item laid over another. -/
set_option maxRecDepth 100000 in
theorem flat_set : ∀ (ys : List It) (i : Nat) (y : It), i < ys.length → (ys.set i y).flatMap itemL = ((((ys.flatMap itemL).set (i * 4) (.int .i64 y.s)).set (i * 4 + 1) (.int .i64 y.t)).set (i * 4 + 2) (.int .i64 y.q)).set (i * 4 + 3) (.int .i64 y.v)
  | [], _, _, h => by simp at h
  | x :: r, 0, y, _ => by simp [itemL]
  | x :: r, i + 1, y, h => by
    have ih := flat_set r i y (by simpa using h)
    rw [List.set_cons_succ, List.flatMap_cons, ih, List.flatMap_cons]
    have e : ∀ (l : List Value) (k : Nat) (v : Value), itemL x ++ l.set k v = (itemL x ++ l).set (k + 4) v := fun l k v => by
      rw [List.set_append_right _ _ (by simp [itemL])]; simp [itemL]
    rw [e, e, e, e]
    have e2 : (i + 1) * 4 = i * 4 + 4 := by omega
    have e3 : ∀ k, (i + 1) * 4 + k = i * 4 + k + 4 := fun k => by omega
    rw [e3, e3, e3, e2]
section
variable {w w' : World} {base b n c : Nat} {ys : List It}
set_option maxRecDepth 100000 in
theorem OwnIt.blk (h : OwnIt w base (.slice (some ⟨b, 0, none⟩) n c) ys) : ys.length = n ∧ base ≤ b ∧ n ≤ c ∧ c ≤ maxLen ∧ ∃ cur, Has w b 47 cur ∧ cur.size = c * 4 ∧ cur.toList.take (n * 4) = ys.flatMap itemL := by
  rcases h.2 with ⟨e, h0⟩ | ⟨g, cap, cur, e, hg, hh, hn, hc, hs, ht⟩
  · cases e
  · injection e with e1 e2 e3
    injection e1 with e1
    injection e1 with e1
    subst e1; subst e2; subst e3
    exact ⟨rfl, hg, hn, hc, cur, hh, hs, ht⟩
set_option maxRecDepth 100000 in
theorem own_mk (hg : base ≤ b) (hl : ys.length = n) (hn : n ≤ c) (hc : c ≤ maxLen) {cur : Array Value} (hh : Has w b 47 cur) (hs : cur.size = c * 4) (ht : cur.toList.take (n * 4) = ys.flatMap itemL) : OwnIt w base (.slice (some ⟨b, 0, none⟩) n c) ys := by
  subst hl
  exact ⟨flat_len ys, .inr ⟨b, c, cur, rfl, hg, hh, hn, hc, hs, ht⟩⟩
set_option maxRecDepth 100000 in
theorem OwnIt.lo (h : OwnIt w base (.slice (some ⟨b, 0, none⟩) n c) ys) {m : Nat} (hm : m ≤ b) : OwnIt w m (.slice (some ⟨b, 0, none⟩) n c) ys := by
  obtain ⟨h1, _, h3, h4, cur, h5, h6, h7⟩ := h.blk
  exact own_mk hm h1 h3 h4 h5 h6 h7
set_option maxRecDepth 100000 in
theorem OwnIt.there (h : OwnIt w base (.slice (some ⟨b, 0, none⟩) n c) ys) {i : Nat} (hi : i < n) : w.there b (i * 4) 4 := fun j hj => by
  obtain ⟨_, _, h3, _, cur, h5, h6, _⟩ := h.blk
  refine ⟨?_, h5.mark _⟩
  rw [h5.cell, Array.getElem?_eq_getElem (by omega)]; rfl
set_option maxRecDepth 100000 in
theorem OwnIt.item (h : OwnIt w base (.slice (some ⟨b, 0, none⟩) n c) ys) {i : Nat} (hi : i < n) : w.rangeAt b (i * 4) (itemL (nthI ys i)) := by
  obtain ⟨b', o, e, hc⟩ := h.items.2 (by omega)
  obtain ⟨h1, _, h3, _, cur, h5, h6, h7⟩ := h.blk
  intro j v hv
  have hl : (itemL (nthI ys i)).length = 4 := rfl
  have hj : j < 4 := by have := (List.getElem?_eq_some_iff.1 hv).1; rwa [hl] at this
  rw [h5.cell]
  have hf := flat_at ys i (by omega) j v hv
  rw [← h7, List.getElem?_take, if_pos (by omega)] at hf
  simpa using hf
set_option maxRecDepth 100000 in
theorem setCell_butS (w : World) (b k : Nat) (v : Value) : ButS [b] w (w.setCell ⟨b, k, none⟩ v) := ⟨rfl, rfl, rfl, by simp [World.setCell], fun j _ hn => heap_setCell_other _ _ _ _ (fun e => hn (by simp only at e; simp [e]))⟩
set_option maxRecDepth 100000 in
/-- An item of the row is written. -/
theorem OwnIt.set (h : OwnIt w base (.slice (some ⟨b, 0, none⟩) n c) ys) {i : Nat} (hi : i < n) (y : It) : OwnIt (w.setCells b (i * 4) (itemL y)) base (.slice (some ⟨b, 0, none⟩) n c) (ys.set i y) ∧ ButS [b] w (w.setCells b (i * 4) (itemL y)) := by
  obtain ⟨h1, h2, h3, h4, cur, h5, h6, h7⟩ := h.blk
  have e : w.setCells b (i * 4) (itemL y) = (((w.setCell ⟨b, i * 4, none⟩ (.int .i64 y.s)).setCell ⟨b, i * 4 + 1, none⟩ (.int .i64 y.t)).setCell ⟨b, i * 4 + 2, none⟩ (.int .i64 y.q)).setCell ⟨b, i * 4 + 3, none⟩ (.int .i64 y.v) := rfl
  rw [e]
  refine ⟨own_mk h2 (by rw [List.length_set]; exact h1) h3 h4 ((((h5.put _ _).put _ _).put _ _).put _ _) (by simpa using h6) ?_, ?_⟩
  · rw [flat_set ys i y (by omega), ← h7]
    simp only [Array.toList_setIfInBounds, List.take_set]
  · have one : ∀ (w : World) (o : Nat) (v : Value), ButS [b] w (w.setCell ⟨b, o, none⟩ v) := fun w o v => setCell_butS w b o v
    exact (((one _ _ _).trans (one _ _ _)).trans (one _ _ _)).trans (one _ _ _)
set_option maxRecDepth 100000 in
theorem OwnIt.butS {gs : List Nat} {v : Value} (h : OwnIt w base v ys) (hb : ButS gs w w') (hne : ∀ k, v.ownBlock = some k → k ∉ gs) : OwnIt w' base v ys := by
  refine ⟨h.1, ?_⟩
  rcases h.2 with h0 | ⟨g, cap, cur, e, hg, hh, r⟩
  · exact .inl h0
  · refine .inr ⟨g, cap, cur, e, hg, ?_, r⟩
    rw [hb.other g (Array.getElem?_eq_some_iff.1 hh).1 (hne g (by rw [e]; rfl))]
    exact hh
set_option maxRecDepth 100000 in
theorem OwnIt.same {v : Value} (h : OwnIt w base v ys) (hk : ∀ k, v.ownBlock = some k → w'.heap[k]? = w.heap[k]?) : OwnIt w' base v ys := by
  refine ⟨h.1, ?_⟩
  rcases h.2 with h0 | ⟨g, cap, cur, e, hg, hh, r⟩
  · exact .inl h0
  · refine .inr ⟨g, cap, cur, e, hg, ?_, r⟩
    rw [hk g (by rw [e]; rfl)]
    exact hh
set_option maxRecDepth 100000 in
theorem OwnIt.blks {gs : List Nat} {A : Option Addr} (_ : OwnIt w base (.slice A n c) ys) (h : ∀ ad, A = some ad → ad.block ∈ gs) : ∀ k, (Value.slice A n c).ownBlock = some k → k ∈ gs := fun k hk => by
  cases A with
  | none => simp [Value.ownBlock] at hk
  | some ad =>
    have : ad.block = k := by simpa [Value.ownBlock] using hk
    rw [← this]; exact h ad rfl
set_option maxRecDepth 100000 in
theorem OwnIt.shape {A : Option Addr} (h : OwnIt w base (.slice A n c) ys) : (A = none ∧ n = 0 ∧ c = 0 ∧ ys = []) ∨ ∃ b, A = some ⟨b, 0, none⟩ := by
  rcases h.2 with ⟨e, h0⟩ | ⟨g, cap, cur, e, _⟩
  · injection e with e1 e2 e3
    exact .inl ⟨e1, e2, e3, List.length_eq_zero_iff.1 h0⟩
  · injection e with e1 e2 e3
    exact .inr ⟨g, e1⟩
set_option maxRecDepth 100000 in
theorem OwnIt.len {A : Option Addr} (h : OwnIt w base (.slice A n c) ys) : ys.length = n := h.items.1
set_option maxRecDepth 100000 in
theorem OwnIt.cap {A : Option Addr} (h : OwnIt w base (.slice A n c) ys) : n ≤ c ∧ c ≤ maxLen := by
  rcases h.shape with ⟨_, rfl, rfl, _⟩ | ⟨b, rfl⟩
  · exact ⟨Nat.le_refl _, by unfold maxLen; omega⟩
  · obtain ⟨_, _, h3, h4, _⟩ := h.blk
    exact ⟨h3, h4⟩
end
/-! A row of items that is loaded out of a field; an index as it is reckoned. -/
set_option maxRecDepth 100000 in
theorem run_ldIt {g k : Nat} {A : Option Addr} {m c : Nat} {w : World} (h : w.cell? ⟨g, k, none⟩ = some (.slice A m c)) : (Instr.loadAt 36 (.pointer (some ⟨g, k, none⟩))).run Try.prog w = .ok (.slice A m c) w := by simp [go_sem, h, Instr.loadAt]
section
variable {D : List (Option Tmp)} {Φ : Fact} {o : Oper} {a : Act} {w : World}
set_option maxRecDepth 100000 in
theorem rf_subr (hw : Region.wanted o (yieldD D a.tmps) = true) {t : Tmp} (hd : o.dst = some t) (x y : Operand) (ho : o.op = .binOp .sub 3 x y 3) (p q r : Int) (hx : a.eval x = .int .i64 p) (hy : a.eval y = .int .i64 q) (hr : p - q = r) (h1 : -9223372036854775808 ≤ r) (h2 : r ≤ 9223372036854775807) (h : Φ (.int .i64 r) w) : StepD Try.prog D Φ o a w := by
  subst hr
  exact rf_sub hw hd x y ho p q hx hy h1 h2 h
set_option maxRecDepth 100000 in
theorem rf_indexIt (hw : Region.wanted o (yieldD D a.tmps) = true) {t : Tmp} (hd : o.dst = some t) (x i : Operand) (ho : o.op = .indexAddr 36 x i)
    (b f n c k : Nat) (z : Int) (hx : a.eval x = .slice (some ⟨b, f, none⟩) n c) (hi : a.eval i = .int .i64 z) (hz : z = (k : Int)) (hk : k < n) (h : Φ (.pointer (some ⟨b, f + k * 4, none⟩)) w) : StepD Try.prog D Φ o a w :=
  rf_index (s := 4) hw hd 36 x i ho Try.underlying36 (fun _ => by kernel_rfl) b f n c k z hx hi hz hk h
set_option maxRecDepth 100000 in
theorem rf_indexIt0 (hw : Region.wanted o (yieldD D a.tmps) = true) {t : Tmp} (hd : o.dst = some t) (x i : Operand) (ho : o.op = .indexAddr 36 x i)
    (b n c k : Nat) (z : Int) (hx : a.eval x = .slice (some ⟨b, 0, none⟩) n c) (hi : a.eval i = .int .i64 z) (hz : z = (k : Int)) (hk : k < n) (h : Φ (.pointer (some ⟨b, k * 4, none⟩)) w) : StepD Try.prog D Φ o a w :=
  rf_indexIt hw hd x i ho b 0 n c k z hx hi hz hk (by rw [Nat.zero_add]; exact h)
set_option maxRecDepth 100000 in
theorem rf_loadIt (hw : Region.wanted o (yieldD D a.tmps) = true) {t : Tmp} (hd : o.dst = some t) (x : Operand) (ho : o.op = .load 47 x) (g k : Nat) (hx : a.eval x = .pointer (some ⟨g, k, none⟩)) (y : It) (hc : w.rangeAt g k (itemL y)) (h : Φ (.agg #[.int .i64 y.s, .int .i64 y.t, .int .i64 y.q, .int .i64 y.v]) w) : StepD Try.prog D Φ o a w :=
  rf_loadS hw hd 47 x ho g k hx (itemL y) hc Try.underlying47 rfl Try.sizeItem h
set_option maxRecDepth 100000 in
/-- A writing step: an item laid into its place. -/
theorem stepL_item {gs : List Nat} {I : Bool → Bool → World → Prop} {w0 : World} {c1 c2 b1 b2 : Bool} (hgd : o.guard = none) (hd : o.dst = none) (x y : Operand) (ho : o.op = .store 47 x y) (b k : Nat) (z : It)
    (hx : a.eval x = .pointer (some ⟨b, k, none⟩)) (hy : a.eval y = .agg #[.int .i64 z.s, .int .i64 z.t, .int .i64 z.q, .int .i64 z.v]) (ht : w.there b k 4)
    (hI : MI gs I w0 b1 b2 w) (hb : ButS gs w (w.setCells b k (itemL z))) (hs : I c1 c2 (w.setCells b k (itemL z))) (h : Φ undef (w.setCells b k (itemL z))) : StepL Try.prog D Φ (ButS gs) (MI gs I w0 c1 c2) o a w := by
  intro Q
  rw [if_pos (guard_none hgd)]
  refine wp_store_mid 47 x y ho b k #[.int .i64 z.s, .int .i64 z.t, .int .i64 z.q, .int .i64 z.v] hx hy ht Try.sizeItem (by simp [Value.oneCell']) ?_
  rw [hd]
  exact ⟨undef, rfl, fun _ => rfl, hb, ⟨hI.gr.trans hb, hs⟩, h⟩
end
end Go.Proofs.Ytdoflmphkalicaa

namespace Go.Proofs.Ytdoflmphkalicaa
open Go.RowKit

set_option maxRecDepth 100000 in
theorem nthI_take (xs : List It) {k i : Nat} (h : i < k) : nthI (xs.take k) i = nthI xs i := by
  unfold nthI; rw [List.getD_eq_getElem?_getD, List.getD_eq_getElem?_getD, List.getElem?_take, if_pos h]
set_option maxRecDepth 100000 in
theorem nthI_drop (xs : List It) (k i : Nat) : nthI (xs.drop k) i = nthI xs (k + i) := by
  unfold nthI; rw [List.getD_eq_getElem?_getD, List.getD_eq_getElem?_getD, List.getElem?_drop]
set_option maxRecDepth 100000 in
theorem nthI_app {xs ys : List It} {i : Nat} (h : i < xs.length) : nthI (xs ++ ys) i = nthI xs i := by
  unfold nthI; rw [List.getD_eq_getElem?_getD, List.getD_eq_getElem?_getD, List.getElem?_append_left h]
set_option maxRecDepth 100000 in
theorem nthI_last (xs : List It) (y : It) : nthI (xs ++ [y]) xs.length = y := by simp [nthI]
set_option maxRecDepth 100000 in
theorem Items.take {w : World} {A : Option Addr} {n : Nat} {xs : List It} (h : Items w A n xs) {k : Nat} (hk : k ≤ n) : Items w A k (xs.take k) :=
  ⟨by rw [List.length_take, h.1]; omega, fun h0 => by
    obtain ⟨b, o, e, hi⟩ := h.2 (by omega)
    exact ⟨b, o, e, fun i hi2 => by rw [nthI_take xs hi2]; exact hi i (by omega)⟩⟩
set_option maxRecDepth 100000 in
theorem Items.drop {w : World} {b o n : Nat} {xs : List It} (h : Items w (some ⟨b, o, none⟩) n xs) {k : Nat} (hk : k ≤ n) : Items w (some ⟨b, o + k * 4, none⟩) (n - k) (xs.drop k) :=
  ⟨by rw [List.length_drop, h.1], fun h0 => by
    obtain ⟨b', o', e, hi⟩ := h.2 (by omega)
    injection e with e
    injection e with e1 e2
    subst e1 e2
    exact ⟨b, o + k * 4, rfl, fun i hi2 => by rw [nthI_drop, show o + k * 4 + i * 4 = o + (k + i) * 4 by omega]; exact hi (k + i) (by omega)⟩⟩
set_option maxRecDepth 100000 in
theorem Items.one {w : World} {g : Nat} {y : It} (h : Has w g 47 (itemL y).toArray) : Items w (some ⟨g, 0, none⟩) 1 [y] :=
  ⟨rfl, fun _ => ⟨g, 0, rfl, fun i hi => by
    obtain rfl : i = 0 := by omega
    have e : nthI [y] 0 = y := rfl
    rw [e]
    exact range_item h⟩⟩
set_option maxRecDepth 100000 in
theorem OwnIt.firsts {w : World} {base b n c : Nat} {ys : List It} (h : OwnIt w base (.slice (some ⟨b, 0, none⟩) n c) ys) {k : Nat} (hk : k ≤ n) : OwnIt w base (.slice (some ⟨b, 0, none⟩) k c) (ys.take k) := by
  obtain ⟨h1, h2, h3, h4, cur, h5, h6, h7⟩ := h.blk
  refine own_mk h2 (by rw [List.length_take]; omega) (by omega) h4 h5 h6 ?_
  have e : ∀ (l : List It) (k : Nat), (l.take k).flatMap itemL = (l.flatMap itemL).take (k * 4) := by
    intro l
    induction l with
    | nil => intro k; simp
    | cons x r ih =>
      intro k
      cases k with
      | zero => simp
      | succ k =>
        rw [List.take_succ_cons, List.flatMap_cons, List.flatMap_cons, ih k, show (k + 1) * 4 = k * 4 + 4 by omega]
        rfl
  rw [e, ← h7, List.take_take, Nat.min_eq_left (by omega)]
set_option maxRecDepth 100000 in
/-- What growing one block leaves below. -/
theorem grow_below {w w' : World} {row : Option Nat} (h : w.grownBy w' row) {B : Nat} (hr : ∀ b, row = some b → B ≤ b) (hB : B ≤ w.heap.size) : Below B w w' :=
  ⟨h.os, h.tape, h.output, h.size, fun k hk => h.block k (by omega) (fun e => by have := hr k e.symm; omega)⟩
set_option maxRecDepth 100000 in
theorem grow_refl (w : World) (row : Option Nat) : w.grownBy w row := ⟨rfl, rfl, rfl, Nat.le_refl _, fun _ _ _ => rfl⟩

section
variable {ops : Array Oper} {rest : List Oper} {op : Oper} {p : Act} {w : World} {Q : Exit → Act → World → Prop}
set_option maxRecDepth 100000 in
/-- 's = append(s, ys...)' in a walk, s a row that the call owns: where the new row lies; every block but the old row's stays. -/
theorem app_its (hgd : op.guard = none) (s x : Operand)
    (ho : op.op = .call { callee := .builtin .append, args := #[s, x], argTypes := #[36, 36] })
    {base n k c : Nat} {A : Option Addr} {v : Value} {xs ys : List It} (hs : p.eval s = v) (hown : OwnIt w base v xs) (hx : p.eval x = .slice A k c) (hy : Items w A k ys) (hnil : A = none → c = 0 ∧ k = 0)
    (hnl : xs.length = n) (hn : (n + k) * 32 ≤ 140737488355328) (hbase : base ≤ w.heap.size)
    (h : ∀ A' m c' w', m = n + k → OwnIt w' base (.slice A' m c') (xs ++ ys) → w.grownBy w' v.ownBlock → (∀ ad, A' = some ad → v.ownBlock = some ad.block ∨ w.heap.size ≤ ad.block) → wpList Try.prog ops Q rest (p.put op.dst (.slice A' m c')) w') : wpList Try.prog ops Q (op :: rest) p w := by
  obtain ⟨i0, hi, hz, hs0, hy0⟩ := info_parts Try.infoItem
  have hl := hy.1
  subst hnl
  cases A with
  | none =>
    obtain ⟨rfl, rfl⟩ := hnil rfl
    obtain rfl : ys = [] := List.eq_nil_of_length_eq_zero hl
    obtain ⟨A', c', e, _⟩ := hown.form
    subst e
    refine wpList_append_own_none hgd s x 36 ho base 47 i0 4 Try.underlying36 hi _ xs.length _ hs hown hx ?_
    refine h A' xs.length c' w rfl (by rw [List.append_nil]; exact hown) (grow_refl _ _) fun ad e => ?_
    subst e
    exact .inl (by simp [Value.ownBlock])
  | some ad =>
    refine wpList_append_own_at w hgd s x 36 ho base 47 i0 _ 4 32 Try.underlying36 hi hz hs0 hy0 rfl (by omega) v xs.length (xs.flatMap itemL) hs hown ad k c (ys.flatMap itemL) hx (by rw [flat_len, hl])
      (fun j u hu => ?_) (fun u hu => ?_) (by unfold maxLen; omega) (by omega) hbase (fun v' w' h1 h2 _ h4 => ?_)
    · have hj : j < k * 4 := by have := (List.getElem?_eq_some_iff.1 hu).1; rwa [flat_len, hl] at this
      obtain ⟨b, o, e, hc⟩ := hy.2 (by omega)
      injection e with e
      subst e
      rw [Addr.add_mid]
      have hq := hc (j / 4) (by omega) (j % 4)
      have hlt : j % 4 < (itemL (nthI ys (j / 4))).length := Nat.mod_lt _ (by simp)
      have e2 := flat_at ys (j / 4) (by omega) (j % 4) _ (List.getElem?_eq_getElem hlt)
      rw [show j / 4 * 4 + j % 4 = j by omega, hu] at e2
      have e3 := hq _ (List.getElem?_eq_getElem hlt)
      rw [show o + j / 4 * 4 + j % 4 = o + j by omega] at e3
      rw [e3, ← e2]
    · obtain ⟨z, _, hz⟩ := List.mem_flatMap.1 hu
      simp only [itemL, List.mem_cons, List.not_mem_nil, or_false] at hz
      rcases hz with rfl | rfl | rfl | rfl <;> rfl
    · have h3 : OwnIt w' base v' (xs ++ ys) := by unfold OwnIt; rw [List.flatMap_append, List.length_append, hl]; exact h1
      obtain ⟨A', c', rfl, _⟩ := h3.form
      have e : (xs ++ ys).length = xs.length + k := by rw [List.length_append, hl]
      rw [e] at h3 h4 ⊢
      refine h A' _ c' w' rfl h3 h2 (fun ad e => ?_)
      subst e
      rcases h4 with h4 | h4
      · exact .inl (by rw [← h4]; simp [Value.ownBlock])
      · have : ad.block = w.heap.size := by simpa [Value.ownBlock] using h4
        exact .inr (by omega)

set_option maxRecDepth 100000 in
theorem size_itE (w : World) : (sizeOf (Try.prog.elem 36)).run Try.prog w = .ok 4 w := by kernel_rfl
set_option maxRecDepth 100000 in
theorem elem_it : Try.prog.underlying 36 = some (.slice (Try.prog.elem 36)) := by kernel_rfl
set_option maxRecDepth 100000 in
/-- 'xs[:u]' of items. -/
theorem cut_toIt (hgd : op.guard = none) (x y : Operand) (ho : op.op = .slice 36 x none (some y) none)
    {D : Option Addr} {n e u : Nat} {z : Int} (hx : p.eval x = .slice D n e) (hy : p.eval y = .int .i64 z) (hz : z = (u : Int)) (hu : u ≤ e)
    (h : wpList Try.prog ops Q rest (p.put op.dst (.slice D u e)) w) : wpList Try.prog ops Q (op :: rest) p w :=
  wpList_plain hgd fun _ hK => by
    subst hz
    have hd : D.map (·.add (0 * 4)) = D := by
      cases D with
      | none => rfl
      | some a => cases a; simp [Addr.add]
    have hs : (Instr.sliceAt 36 (.slice D n e) none (some (.int .i64 (u : Int))) none).run Try.prog w = .ok (.slice D u e) w := by
      rw [run_sliceAt_slice w _ _ _ _ _ elem_it, run_slice_h w _ D n e elem_it .i64 (u : Int) (by omega) (by omega), size_itE]
      simp only [Result.andThen_ok, sliced, hd, ite_self, Int.toNat_natCast, Nat.sub_zero]
    unfold Oper.wp execOp
    simp only [ho, Option.map_some, Option.map_none, hx, hy, Sem.run_bind, hs, Result.andThen_ok]
    exact hK _ _ h
set_option maxRecDepth 100000 in
/-- 'xs[u:]' of items: what lies there, nil if xs is. -/
theorem cut_fromIt (hgd : op.guard = none) (x y : Operand) (ho : op.op = .slice 36 x (some y) none none)
    {D : Option Addr} {n e u : Nat} {z : Int} {xs : List It} (hx : p.eval x = .slice D n e) (hy : p.eval y = .int .i64 z) (hz : z = (u : Int)) (hu : u ≤ n) (hn : n ≤ e) (hr : Items w D n xs) (hnil : D = none → e = 0)
    (h : ∀ D' m c, m = n - u → Items w D' m (xs.drop u) → (D' = none → c = 0 ∧ m = 0) → wpList Try.prog ops Q rest (p.put op.dst (.slice D' m c)) w) : wpList Try.prog ops Q (op :: rest) p w :=
  wpList_plain hgd fun _ hK => by
    subst hz
    have hs : (Instr.sliceAt 36 (.slice D n e) (some (.int .i64 (u : Int))) none none).run Try.prog w = .ok (.slice (if e = u then D else D.map (·.add (u * 4))) (n - u) (e - u)) w := by
      rw [run_sliceAt_slice w _ _ _ _ _ elem_it, run_slice_l w _ D n e elem_it .i64 (u : Int) (by omega) (by omega), size_itE]
      simp only [Result.andThen_ok, sliced, Int.toNat_natCast]
    have ha : Items w (if e = u then D else D.map (·.add (u * 4))) (n - u) (xs.drop u) := by
      by_cases hlt : u < n
      · obtain ⟨b, o, rfl, _⟩ := hr.2 (by omega)
        rw [if_neg (by omega)]
        have he : (Option.map (fun x => Addr.add x (u * 4)) (some (⟨b, o, none⟩ : Addr))) = some ⟨b, o + u * 4, none⟩ := by simp [Addr.add]
        rw [he]
        exact Items.drop hr hu
      · have : n - u = 0 := by omega
        rw [this, List.drop_of_length_le (by rw [hr.1]; omega)]
        exact Items.nil _ _
    unfold Oper.wp execOp
    simp only [ho, Option.map_some, Option.map_none, hx, hy, Sem.run_bind, hs, Result.andThen_ok]
    refine hK _ _ (h _ _ _ rfl ha fun e0 => ?_)
    have : D = none := by
      by_cases e1 : e = u
      · rwa [if_pos e1] at e0
      · rw [if_neg e1] at e0
        cases D with
        | none => rfl
        | some a => cases e0
    have := hnil this
    omega
end

set_option maxRecDepth 100000 in
theorem it_empty (w : World) : OwnIt (w.alloc (.cells #[] 47)) w.heap.size (.slice (some ⟨w.heap.size, 0, none⟩) 0 0) [] :=
  ⟨rfl, Or.inr ⟨w.heap.size, 0, #[], rfl, Nat.le_refl _, Has.made w 47 #[], Nat.le_refl _, Nat.zero_le _, rfl, rfl⟩⟩


abbrev itV (x : It) : Value := .agg #[.int .i64 x.s, .int .i64 x.t, .int .i64 x.q, .int .i64 x.v]
abbrev itA (x : It) : Array Value := #[.int .i64 x.s, .int .i64 x.t, .int .i64 x.q, .int .i64 x.v]
set_option maxRecDepth 100000 in
/-- The store of a whole item into a block of its own. -/
theorem store_hasIt {ops : Array Oper} {rest : List Oper} {op : Oper} {a : Act} {w : World} {Q : Exit → Act → World → Prop} (hgd : op.guard = none) (x y : Operand) (ho : op.op = .store 47 x y)
    (g : Nat) {old : Array Value} {z : It} (hx : a.eval x = .pointer (some ⟨g, 0, none⟩)) (hy : a.eval y = itV z) (hg : Has w g 47 old) (hold : old.size = 4)
    (h : wpList Try.prog ops Q rest (a.put op.dst undef) (w.setRow g (itA z))) : wpList Try.prog ops Q (op :: rest) a w :=
  wpList_store_row hgd 47 x y ho g _ hx hy 47 old hg Try.sizeItem hold (by simp [Value.oneCell']) h
set_option maxRecDepth 100000 in
/-- The load of a whole item that has a block of its own. -/
theorem load_hasIt {ops : Array Oper} {rest : List Oper} {op : Oper} {a : Act} {w : World} {Q : Exit → Act → World → Prop} (hgd : op.guard = none) (x : Operand) (ho : op.op = .load 47 x)
    (g : Nat) (hx : a.eval x = .pointer (some ⟨g, 0, none⟩)) {y : It} (hc : Has w g 47 (itA y))
    (h : wpList Try.prog ops Q rest (a.put op.dst (itV y)) w) : wpList Try.prog ops Q (op :: rest) a w :=
  load_item hgd x ho g 0 hx (range_item hc) h
set_option maxRecDepth 100000 in
/-- The store of a whole item into a row. -/
theorem store_item {ops : Array Oper} {rest : List Oper} {op : Oper} {a : Act} {w : World} {Q : Exit → Act → World → Prop} (hgd : op.guard = none) (x y : Operand) (ho : op.op = .store 47 x y)
    (b k : Nat) (z : It) (hx : a.eval x = .pointer (some ⟨b, k, none⟩)) (hy : a.eval y = itV z) (ht : w.there b k 4)
    (h : wpList Try.prog ops Q rest (a.put op.dst undef) (w.setCells b k (itemL z))) : wpList Try.prog ops Q (op :: rest) a w :=
  wpList_store_mid hgd 47 x y ho b k #[.int .i64 z.s, .int .i64 z.t, .int .i64 z.q, .int .i64 z.v] hx hy ht Try.sizeItem (by simp [Value.oneCell']) h
set_option maxRecDepth 100000 in
theorem butS_row {gs : List Nat} {w w' : World} (h : ButS gs w w') {g : Nat} (hg : w.heap.size ≤ g) (cs : Array Value) : ButS gs w (w'.setRow g cs) :=
  ⟨h.os, h.tape, h.output, by simp; exact h.size, fun k hk hn => (setRow_other w' g k cs (by omega)).trans (h.other k hk hn)⟩
/-- The items that come in lie in no block out of gs. -/
def Far (gs : List Nat) (A : Option Addr) (n : Nat) : Prop := ∀ ad, 0 < n → A = some ad → ad.block ∉ gs

set_option maxRecDepth 100000 in
theorem Items.butS {gs : List Nat} {w w' : World} {A : Option Addr} {n : Nat} {zs : List It} (h : Items w A n zs) (hb : ButS gs w w') (hf : Far gs A n) : Items w' A n zs :=
  ⟨h.1, fun hn => by
    obtain ⟨b, o, rfl, hi⟩ := h.2 hn
    refine ⟨b, o, rfl, fun i hlt => ?_⟩
    have h0 := hi i hlt 0 _ rfl
    have hk := hb.other b (block_lt_of_cell h0) (hf _ hn rfl)
    intro j v hv
    rw [← hi i hlt j v hv]
    exact World.cell?_of_block (w := w) (w' := w') (a := ⟨b, o + i * 4 + j, none⟩) hk⟩

set_option maxRecDepth 100000 in
theorem items_has {w : World} {g : Nat} {xs : List It} {cs : Array Value} (h : Has w g 47 cs) (e : cs = (xs.flatMap itemL).toArray) : Items w (some ⟨g, 0, none⟩) xs.length xs :=
  ⟨rfl, fun _ => ⟨g, 0, rfl, fun i hi j v hv => by
    rw [show 0 + i * 4 + j = i * 4 + j by omega, h.cell, e]
    simpa using flat_at xs i hi j v hv⟩⟩

end Go.Proofs.Ytdoflmphkalicaa

namespace Go.Proofs.Ytdoflmphkalicaa
open Go.RowKit

set_option maxRecDepth 100000 in
theorem rf_neqI {D : List (Option Tmp)} {Φ : Fact} {o : Oper} {a : Act} {w : World} (hw : Region.wanted o (yieldD D a.tmps) = true) {t : Tmp} (hd : o.dst = some t) (x y : Operand) (ho : o.op = .binOp .neq 47 x y 47) (z : It) (hx : a.eval x = .agg #[.int .i64 z.s, .int .i64 z.t, .int .i64 z.q, .int .i64 z.v]) (hy : a.eval y = .agg #[.int .i64 z.s, .int .i64 z.t, .int .i64 z.q, .int .i64 z.v]) (h : Φ (.bool false) w) : StepD Try.prog D Φ o a w :=
  step_val hw hd _ _ (by unfold execOp; rw [ho]; simp only [hx, hy]; simp [go_sem]) (Below.refl _ _) h
def sitD : List (Option Tmp) := [some 17, some 18, some 19, some 20, some 21, some 22, some 23, some 24, some 25]
def sitF (x : It) (b1 o1 b2 o2 n e1 e2 q : Nat) : List Fact := [isV (.slice (some ⟨b1, o1, none⟩) n e1), isV (.int .i64 q), isV (.pointer (some ⟨b1, o1 + q * 4, none⟩)), isV (.agg #[.int .i64 x.s, .int .i64 x.t, .int .i64 x.q, .int .i64 x.v]), isV (.slice (some ⟨b2, o2, none⟩) n e2), isV (.int .i64 q), isV (.pointer (some ⟨b2, o2 + q * 4, none⟩)), isV (.agg #[.int .i64 x.s, .int .i64 x.t, .int .i64 x.q, .int .i64 x.v]), isV (.bool false)]
set_option maxRecDepth 100000 in
theorem sitF_mono (x : It) (b1 o1 b2 o2 n e1 e2 q : Nat) : ∀ φ ∈ sitF x b1 o1 b2 o2 n e1 e2 q, Mono φ := by
  unfold sitF
  repeat (first | exact monos_nil | (refine monos_cons (mono_isV _) ?_))
structure sitS (x : It) (b1 o1 b2 o2 n e1 e2 q : Nat) (a0 : Act) (w0 : World) : Prop where
  size : a0.tmps.size = 26
  v0 : a0.tmps.getD 0 undef = .slice (some ⟨b1, o1, none⟩) n e1
  v1 : a0.tmps.getD 1 undef = .slice (some ⟨b2, o2, none⟩) n e2
  v5 : a0.tmps.getD 5 undef = .int .i64 q
  x1 : w0.rangeAt b1 (o1 + q * 4) (itemL x)
  x2 : w0.rangeAt b2 (o2 + q * 4) (itemL x)
  hq : q < n
section
variable {x : It} {b1 o1 b2 o2 n e1 e2 q : Nat} {a0 : Act} {w0 : World} (S : sitS x b1 o1 b2 o2 n e1 e2 q a0 w0)
include S
set_option maxRecDepth 100000 in
set_option maxHeartbeats 8000000 in
theorem sit_ok : AllOps (fun j o => ∀ (a : Act) (w : World), Below w0.heap.size w0 w → FrD sitD a0 a → needs sitD (sitF x b1 o1 b2 o2 n e1 e2 q) a w o.after.toList → StepD Try.prog sitD (factAt (sitF x b1 o1 b2 o2 n e1 e2 q) j) o a w) 0 (opsOf 6 Try.f27) := by
  simp only [opsOf, Try.f27, opsAt, Option.bind, Option.or, Option.getD, reduceCtorEq, if_true, if_false, Nat.reduceEqDiff]
  refine ⟨?_, ?_⟩
  · intro _a _w _hB hF _hd
    exact step_move (guard_none rfl) rfl _ rfl ((hF.other 0 rfl).trans S.v0)
  refine ⟨?_, ?_⟩
  · intro _a _w _hB hF _hd
    exact step_move (guard_none rfl) rfl _ rfl ((hF.other 5 rfl).trans S.v5)
  refine ⟨?_, ?_⟩
  · intro a _w _hB _hF hd
    have h17 : a.tmps.getD 17 undef = .slice (some ⟨b1, o1, none⟩) n e1 := hd.1 rfl
    have h18 : a.tmps.getD 18 undef = .int .i64 q := hd.2.1 rfl
    exact rf_index (guard_none rfl) rfl _ _ _ rfl Try.underlying36 4 (fun _ => by kernel_rfl) _ _ _ _ q _ h17 h18 rfl S.hq rfl
  refine ⟨?_, ?_⟩
  · intro a _w hB _hF hd
    have h19 : a.tmps.getD 19 undef = .pointer (some ⟨b1, o1 + q * 4, none⟩) := hd.1 rfl
    exact rf_loadS (guard_none rfl) rfl _ _ rfl _ _ h19 _ (rangeAt_keep S.x1 (by simp [itemL]) fun _ hp => hB.cell hp) Try.underlying47 rfl Try.sizeItem rfl
  refine ⟨?_, ?_⟩
  · intro _a _w _hB hF _hd
    exact step_move (guard_none rfl) rfl _ rfl ((hF.other 1 rfl).trans S.v1)
  refine ⟨?_, ?_⟩
  · intro _a _w _hB hF _hd
    exact step_move (guard_none rfl) rfl _ rfl ((hF.other 5 rfl).trans S.v5)
  refine ⟨?_, ?_⟩
  · intro a _w _hB _hF hd
    have h21 : a.tmps.getD 21 undef = .slice (some ⟨b2, o2, none⟩) n e2 := hd.1 rfl
    have h22 : a.tmps.getD 22 undef = .int .i64 q := hd.2.1 rfl
    exact rf_index (guard_none rfl) rfl _ _ _ rfl Try.underlying36 4 (fun _ => by kernel_rfl) _ _ _ _ q _ h21 h22 rfl S.hq rfl
  refine ⟨?_, ?_⟩
  · intro a _w hB _hF hd
    have h23 : a.tmps.getD 23 undef = .pointer (some ⟨b2, o2 + q * 4, none⟩) := hd.1 rfl
    exact rf_loadS (guard_none rfl) rfl _ _ rfl _ _ h23 _ (rangeAt_keep S.x2 (by simp [itemL]) fun _ hp => hB.cell hp) Try.underlying47 rfl Try.sizeItem rfl
  refine ⟨?_, ?_⟩
  · intro a _w _hB _hF hd
    have h20 : a.tmps.getD 20 undef = .agg #[.int .i64 x.s, .int .i64 x.t, .int .i64 x.q, .int .i64 x.v] := hd.1 rfl
    have h24 : a.tmps.getD 24 undef = .agg #[.int .i64 x.s, .int .i64 x.t, .int .i64 x.q, .int .i64 x.v] := hd.2.1 rfl
    exact rf_neqI (guard_none rfl) rfl _ _ rfl x h20 h24 rfl
  trivial
set_option maxRecDepth 100000 in
theorem sit_any {Q : Exit → Act → World → Prop} {l : List Oper} (hl : opsOf 6 Try.f27 = l) (hend : ∀ w : World, Below w0.heap.size w0 w → Q .normal (putAll a0 [(17, .slice (some ⟨b1, o1, none⟩) n e1), (18, .int .i64 q), (19, .pointer (some ⟨b1, o1 + q * 4, none⟩)), (20, .agg #[.int .i64 x.s, .int .i64 x.t, .int .i64 x.q, .int .i64 x.v]), (21, .slice (some ⟨b2, o2, none⟩) n e2), (22, .int .i64 q), (23, .pointer (some ⟨b2, o2 + q * 4, none⟩)), (24, .agg #[.int .i64 x.s, .int .i64 x.t, .int .i64 x.q, .int .i64 x.v]), (25, .bool false)]) w) :
    (Code.region 6 l.toArray true).wp Try.prog Q a0 w0 := by
  subst hl
  refine region_facts2 (sitF x b1 o1 b2 o2 n e1 e2 q) sitD 26 S.size rfl (by kernel_rfl) (by kernel_rfl) (sitF_mono _ _ _ _ _ _ _ _ _) (sit_ok S) fun a w hB hF h => ?_
  have hv : valsAre a [(17, .slice (some ⟨b1, o1, none⟩) n e1), (18, .int .i64 q), (19, .pointer (some ⟨b1, o1 + q * 4, none⟩)), (20, .agg #[.int .i64 x.s, .int .i64 x.t, .int .i64 x.q, .int .i64 x.v]), (21, .slice (some ⟨b2, o2, none⟩) n e2), (22, .int .i64 q), (23, .pointer (some ⟨b2, o2 + q * 4, none⟩)), (24, .agg #[.int .i64 x.s, .int .i64 x.t, .int .i64 x.q, .int .i64 x.v]), (25, .bool false)] := by
    refine ⟨?_, ?_, ?_, ?_, ?_, ?_, ?_, ?_, ?_, trivial⟩
    · exact h 0 (some 17) rfl
    · exact h 1 (some 18) rfl
    · exact h 2 (some 19) rfl
    · exact h 3 (some 20) rfl
    · exact h 4 (some 21) rfl
    · exact h 5 (some 22) rfl
    · exact h 6 (some 23) rfl
    · exact h 7 (some 24) rfl
    · exact h 8 (some 25) rfl
  rw [frame_is hF _ hv (by rfl) (by rfl)]
  exact hend w hB
end

end Go.Proofs.Ytdoflmphkalicaa

namespace Go.Proofs.Ytdoflmphkalicaa
open Go.RowKit

set_option maxRecDepth 100000 in
set_option maxHeartbeats 400000 in
theorem num0_any (n : Int) (w : World) :
    Calls Try.prog 12 #[.int .i64 n] w fun e w' => e = .returned (.int .i64 n) ∧ w = w' := by
  go_enter Try.func12, Try.ntmps12
  go_wp2
  go_ret
  exact ⟨rfl, rfl⟩
set_option maxRecDepth 100000 in
set_option maxHeartbeats 2000000 in
theorem sameitems_any (A B : Option Addr) (n c d : Nat) (xs : List It) (w : World) (h1 : Items w A n xs) (h2 : Items w B n xs) (hn : n ≤ 17592186044416) :
    Calls Try.prog 27 #[.slice A n c, .slice B n d] w fun e w' => e = .returned (.bool true) ∧ Below w.heap.size w w' := by
  have H1 := Lib.hid h1; clear h1
  have H2 := Lib.hid h2; clear h2
  go_enter Try.func27, Try.ntmps27
  go_wp2_with fail
  go_loopw [5] (fun i wr => ∃ j : Nat, j ≤ n ∧ i = .int .i64 j ∧ Hid (Below w.heap.size w wr)) (fun i _ => n - (intOf i).toNat)
  case atStart => exact ⟨0, Nat.zero_le _, rfl, Below.refl _ _⟩
  case round =>
    obtain ⟨j, hj, rfl, HW⟩ := hrel
    by_cases hlt : j < n
    · obtain ⟨b1, o1, rfl, i1⟩ := (H1.out.below HW.out).2 (by omega)
      obtain ⟨b2, o2, rfl, i2⟩ := (H2.out.below HW.out).2 (by omega)
      have X1 := Lib.hid (i1 j hlt)
      have X2 := Lib.hid (i2 j hlt)
      clear i1 i2
      go_upto_region 6 with fail
      refine sit_any (x := nthI xs j) (b1 := b1) (o1 := o1) (b2 := b2) (o2 := o2) (n := n) (e1 := c) (e2 := d) (q := j) ⟨rfl, rfl, rfl, rfl, X1.out, X2.out, hlt⟩ (by kernel_rfl) ?_
      intro w9 hB9
      have HB9 := Lib.hid (HW.out.trans (hB9.mono HW.out.size))
      clear hB9 X1 X2 HW
      simp only [putAll, Act.put, List.setIfInBounds_toArray, List.set_cons_succ, List.set_cons_zero]
      go_wp2_with fail
      go_roundw
      case rel => exact ⟨j + 1, by omega, by go_num, HB9⟩
      case measure => simp [intOf]; omega
    · have hjn : j = n := by omega
      subst hjn
      go_wp2_with fail
      go_ret
      exact ⟨rfl, HW.out⟩


set_option maxRecDepth 100000 in
set_option maxHeartbeats 1000000 in
theorem copyitems_any (A : Option Addr) (n c : Nat) (xs : List It) (w : World) (hr : Items w A n xs) (hn : n * 32 ≤ 140737488355328) (hnil : A = none → c = 0 ∧ n = 0) :
    Calls Try.prog 43 #[.slice A n c] w fun e w' => ∃ A' c', e = .returned (.slice A' n c') ∧ OwnIt w' w.heap.size (.slice A' n c') xs ∧ Below w.heap.size w w' := by
  have HE : Hid (OwnIt (w.alloc (.cells #[] 47)) w.heap.size (.slice (some ⟨w.heap.size, 0, none⟩) 0 0) []) := it_empty w
  have HR := Lib.hid (hr.below ((Below.refl _ w).alloc (Nat.le_refl _) (.cells #[] 47)))
  have hsz : w.heap.size ≤ (w.alloc (.cells #[] 47)).heap.size := by simp
  have HAL : Hid (Below w.heap.size w (w.alloc (.cells #[] 47))) := (Below.refl _ _).alloc (Nat.le_refl _) _
  have hn0 : (0 + n) * 32 ≤ 140737488355328 := by omega
  have HN := Lib.hid hnil
  clear hr hnil
  go_enter Try.func43, Try.ntmps43
  go_wp2_with (at_builtin; refine app_its (v := .slice (some ⟨w.heap.size, 0, none⟩) 0 0) rfl _ _ rfl rfl HE.out rfl HR.out HN.out rfl hn0 hsz ?_; intro A2 m2 c2 w2 hm2 ho2 hg2 _; have HO2 := Lib.hid ho2; have HB2 := Lib.hid (HAL.out.trans (grow_below hg2 (fun b hb => (World.ownsRow.lt HE.out _ hb).1) hsz)); have HM2 := Lib.hid hm2; clear ho2 hg2 hm2)
  go_ret
  have h := HO2.out
  have e : m2 = n := by have h : m2 = 0 + n := HM2.out; omega
  subst e
  rw [List.nil_append] at h
  exact ⟨A2, c2, rfl, h, HB2.out⟩

abbrev markIt : It := ⟨0, 0, 77777, 0⟩
set_option maxRecDepth 100000 in
theorem OwnIt.capI {w : World} {base : Nat} {A : Option Addr} {n c : Nat} {xs : List It} (h : OwnIt w base (.slice A n c) xs) : xs.length = n ∧ n ≤ c := ⟨h.len, h.cap.1⟩
set_option maxRecDepth 100000 in
/-- 's = append(s, y, z)' of items in a walk. -/
theorem app_twoIt {ops : Array Oper} {rest : List Oper} {op : Oper} {p : Act} {w : World} {Q : Exit → Act → World → Prop} (hgd : op.guard = none) (s x : Operand)
    (ho : op.op = .call { callee := .builtin .append, args := #[s, x], argTypes := #[36, 36] })
    {base g n c : Nat} {A : Option Addr} {xs : List It} {y z : It} (hs : p.eval s = .slice A n c) (hown : OwnIt w base (.slice A n c) xs) (hx : p.eval x = .slice (some ⟨g, 0, none⟩) 2 2) (hg : Has w g 47 (([y, z] : List It).flatMap itemL).toArray)
    (hn : n * 32 ≤ 140737488351232) (hbase : base ≤ w.heap.size)
    (h : ∀ A' c' w', OwnIt w' base (.slice A' (n + 2) c') (xs ++ [y, z]) → Below base w w' → wpList Try.prog ops Q rest (p.put op.dst (.slice A' (n + 2) c')) w') : wpList Try.prog ops Q (op :: rest) p w := by
  obtain ⟨i0, hi, hz, hs0, hy0⟩ := info_parts Try.infoItem
  have hl : xs.length = n := by
    obtain ⟨_, _, e, _⟩ := hown.form
    injection e with _ e2
    exact e2.symm
  refine wpList_append_own_at w hgd s x 36 ho base 47 i0 _ 4 32 Try.underlying36 hi hz hs0 hy0 rfl (by omega) (.slice A n c) xs.length (xs.flatMap itemL) hs hown ⟨g, 0, none⟩ 2 2 (([y, z] : List It).flatMap itemL) hx rfl
    (fun j u hu => ?_) (fun u hu => ?_) (by unfold maxLen; omega) (by omega) hbase (fun v' w' h1 h2 _ h4 => ?_)
  · rw [Addr.add_mid, hg.cell, Nat.zero_add]
    simpa using hu
  · simp only [itemL, List.flatMap_cons, List.flatMap_nil, List.append_nil, List.cons_append, List.nil_append, List.mem_cons, List.not_mem_nil, or_false] at hu
    rcases hu with rfl | rfl | rfl | rfl | rfl | rfl | rfl | rfl <;> rfl
  · have h3 : OwnIt w' base v' (xs ++ [y, z]) := by unfold OwnIt; rw [List.flatMap_append, List.length_append]; exact h1
    obtain ⟨A', c', rfl, _⟩ := h3.form
    have e : (xs ++ [y, z]).length = n + 2 := by simp [hl]
    rw [e] at h3 ⊢
    refine h A' c' w' h3 ⟨h2.os, h2.tape, h2.output, h2.size, fun k hk => h2.block k (by omega) (fun e => ?_)⟩
    have := World.ownsRow.lt hown k e.symm
    omega

set_option maxRecDepth 100000 in
set_option maxHeartbeats 1000000 in
theorem lenditems_any (A : Option Addr) (n c : Nat) (xs : List It) (w : World) (hr : Items w A n xs) (hn : n * 32 ≤ 140737488351232) (hnil : A = none → c = 0 ∧ n = 0) :
    Calls Try.prog 16 #[.slice A n c] w fun e w' => ∃ A' c', e = .returned (.slice A' n c') ∧ OwnIt w' w.heap.size (.slice A' (n + 2) c') (xs ++ [markIt, markIt]) ∧ Below w.heap.size w w' := by
  go_enter Try.func16, Try.ntmps16
  go_wp2_with fail
  refine (copyitems_any A n c xs _ hr (by omega) hnil).mono ?_
  rintro e w2 ⟨A2, c2, rfl, hown, hb⟩
  have HB := Lib.hid hb; clear hb
  have HO := Lib.hid hown; clear hown
  have hown2 : ∀ o, OwnIt (w2.alloc o) w.heap.size (.slice A2 n c2) xs := fun o => HO.out.below ((Below.refl _ _).alloc (Nat.le_refl _) o)
  go_wp2_with (first
    | (refine app_twoIt rfl _ _ rfl rfl (hown2 _) (g := w2.heap.size) (y := markIt) (z := markIt) rfl (Has.made _ _ _) hn (by have := HB.out.size; simp; omega) ?_; intro A3 c3 wn hwn hbn; have HW := Lib.hid hwn; have hc3 : n ≤ c3 := (by have := hwn.capI; omega); clear hwn; have HBN := Lib.hid hbn; clear hbn)
    | (refine cut_toIt rfl _ _ rfl rfl rfl rfl hc3 ?_))
  go_ret
  exact ⟨A3, c3, rfl, HW.out, (below_alloc HB.out (Nat.le_refl _) _).trans HBN.out⟩


set_option maxRecDepth 100000 in
set_option maxHeartbeats 1000000 in
theorem keptitems_any (A B : Option Addr) (n c d : Nat) (xs : List It) (base : Nat) (w : World) (hl : OwnIt w base (.slice A (n + 2) c) (xs ++ [markIt, markIt])) (hx : xs.length = n) (hb : Items w B n xs) (hn : n ≤ 17592186044416) :
    Calls Try.prog 19 #[.slice A n c, .slice B n d] w fun e w' => e = .returned (.bool true) ∧ Below w.heap.size w w' := by
  have hI := hl.items
  have hcap := hl.capI.2
  obtain ⟨b, o, rfl, hc⟩ := hI.2 (by omega)
  have h1 := hc n (by omega)
  have h2 := hc (n + 1) (by omega)
  have e1 : nthI (xs ++ [markIt, markIt]) n = markIt := by simp [nthI, ← hx]
  have e2 : nthI (xs ++ [markIt, markIt]) (n + 1) = markIt := by simp [nthI, ← hx]
  rw [e1] at h1
  rw [e2] at h2
  have hA : Items w (some ⟨b, o, none⟩) n xs := ⟨hx, fun _ => ⟨b, o, rfl, fun k hk => by
    have := hc k (by omega)
    rw [show nthI (xs ++ [markIt, markIt]) k = nthI xs k by simp [nthI, List.getElem?_append_left (show k < xs.length by omega)]] at this
    exact this⟩⟩
  have HA := Lib.hid hA; clear hA
  have HB := Lib.hid hb; clear hb
  have H1 := Lib.hid h1
  have H2 := Lib.hid h2
  clear hl hI hc e1 e2 hx h1 h2
  go_enter Try.func19, Try.ntmps19
  go_wp2_with (refine cut_toIt rfl _ _ rfl rfl rfl (show (n : Int) + 2 = ((n + 2 : Nat) : Int) by omega) hcap ?_)
  refine (sameitems_any _ B n c d xs _ HA.out HB.out hn).mono ?_
  rintro e w2 ⟨rfl, hb2⟩
  have H12 : Hid (w2.rangeAt b (o + n * 4) (itemL markIt)) := rangeAt_keep H1.out (by simp [itemL]) fun _ hp => hb2.cell hp
  have H22 : Hid (w2.rangeAt b (o + (n + 1) * 4) (itemL markIt)) := rangeAt_keep H2.out (by simp [itemL]) fun _ hp => hb2.cell hp
  have HB2 := Lib.hid hb2
  clear hb2 H1 H2
  have y0 : w2.cell? ⟨b, o + n * 4, none⟩ = some (.int .i64 0) := H12.out 0 _ rfl
  have y1 : w2.cell? ⟨b, o + n * 4 + 1, none⟩ = some (.int .i64 0) := H12.out 1 _ rfl
  have y2 : w2.cell? ⟨b, o + n * 4 + 2, none⟩ = some (.int .i64 77777) := H12.out 2 _ rfl
  have y3 : w2.cell? ⟨b, o + n * 4 + 3, none⟩ = some (.int .i64 0) := H12.out 3 _ rfl
  have z0 : w2.cell? ⟨b, o + (n + 1) * 4, none⟩ = some (.int .i64 0) := H22.out 0 _ rfl
  have z1 : w2.cell? ⟨b, o + (n + 1) * 4 + 1, none⟩ = some (.int .i64 0) := H22.out 1 _ rfl
  have z2 : w2.cell? ⟨b, o + (n + 1) * 4 + 2, none⟩ = some (.int .i64 77777) := H22.out 2 _ rfl
  have z3 : w2.cell? ⟨b, o + (n + 1) * 4 + 3, none⟩ = some (.int .i64 0) := H22.out 3 _ rfl
  go_wp2_with fail
  go_ret
  exact ⟨rfl, HB2.out⟩


end Go.Proofs.Ytdoflmphkalicaa
