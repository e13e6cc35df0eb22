import Derived.Test.YtbpaepkcchpmbaaGreatG31
import Derived.Maps.AppendAt
import Derived.Test.YtbpaepkcchpmbaaGreatG17
import Derived.Test.YtbpaepkcchpmbaaGreatStP
import Derived.Test.YtbpaepkcchpmbaaGreatLow
namespace Go.Proofs.YtbpaepkcchpmbaaGreat
open Go.RowKit
structure Rz where
  k : Int
  s : Int
  a : Int
  b : Int
  v : Int
  o : Bool
  hs : List Int
  A : Option Addr
  c : Nat
def rzC (z : Rz) : Array Value := rslC z.k z.s z.a z.b z.v z.o z.A z.hs.length z.c
def rzL (z : Rz) : List Value := (rzC z).toList
theorem rzL_len (z : Rz) : (rzL z).length = 7 := rfl
theorem rzC_one (z : Rz) : (rzC z).all (·.oneCell') = true := rslC_one _ _ _ _ _ _ _ _ _
def rowZ (ps : List Rz) : List Value := ps.flatMap rzL
theorem rowZ_len (ps : List Rz) : (rowZ ps).length = ps.length * 7 := by
  induction ps with
  | nil => rfl
  | cons p r ih =>
    have e : rowZ (p :: r) = rzL p ++ rowZ r := rfl
    rw [e, List.length_append, ih, rzL_len, List.length_cons]; omega
theorem rowZ_app (ps qs : List Rz) : rowZ (ps ++ qs) = rowZ ps ++ rowZ qs := by simp [rowZ]
theorem rowZ_one (p : Rz) : rowZ [p] = rzL p := by simp [rowZ]
theorem rowZ_at (ps : List Rz) {i j : Nat} (hi : i < ps.length) (hj : j < 7) : (rowZ ps)[i * 7 + j]? = (rzL (ps[i]))[j]? := by
  induction ps generalizing i with
  | nil => simp at hi
  | cons p r ih =>
    have e : rowZ (p :: r) = rzL p ++ rowZ r := rfl
    rw [e]
    cases i with
    | zero => rw [List.getElem?_append_left (by rw [rzL_len]; omega)]; simp
    | succ i =>
      rw [List.getElem?_append_right (by rw [rzL_len]; omega), rzL_len, show (i + 1) * 7 + j - 7 = i * 7 + j by omega, ih (by simpa using hi)]
      simp
set_option maxRecDepth 100000 in
theorem Tryz.infoRsl : (Tryz.prog.info? 71).map (fun i => (i.zero, i.size, i.bytes)) = some (some (.agg (rslC 0 0 0 0 0 false none 0 0)), 7, 72) := by kernel_rfl
theorem info_partsZ : ∃ i, Tryz.prog.info? 71 = some i ∧ i.zero = some (.agg (rslC 0 0 0 0 0 false none 0 0)) ∧ i.size = 7 ∧ i.bytes = 72 := by
  have h := Tryz.infoRsl
  cases hi : Tryz.prog.info? 71 with
  | none => rw [hi] at h; simp at h
  | some i =>
    rw [hi] at h
    simp only [Option.map_some, Option.some.injEq, Prod.mk.injEq] at h
    exact ⟨i, rfl, h.1, h.2.1, h.2.2⟩
def OwnZ (w : World) (v : Value) (ps : List Rz) : Prop := w.ownsRow 0 71 7 v ps.length (rowZ ps)
section
variable {w w' : World} {v : Value} {A : Option Addr} {b n c : Nat} {ps : List Rz}
theorem OwnZ.nil (w : World) : OwnZ w (.slice none 0 0) [] := World.ownsRow_nil _ _ _ _
theorem OwnZ.form (h : OwnZ w v ps) : ∃ A c, v = .slice A ps.length c ∧ ps.length ≤ c ∧ c ≤ maxLen ∧ (A = none → c = 0) ∧ (∀ ad, A = some ad → ∃ k, ad = ⟨k, 0, none⟩) := by
  rcases h.2 with ⟨e, h0⟩ | ⟨g, cap, cur, e, hg, _, h3, h4, _⟩
  · exact ⟨none, 0, by rw [e, h0], by omega, Nat.zero_le _, fun _ => rfl, fun ad h => by cases h⟩
  · exact ⟨some ⟨g, 0, none⟩, cap, e, h3, h4, (fun h => by cases h), fun ad h => by injection h with h; exact ⟨g, h.symm⟩⟩
theorem OwnZ.blk (h : OwnZ w (.slice (some ⟨b, 0, none⟩) n c) ps) : ps.length = n ∧ n ≤ c ∧ c ≤ maxLen ∧ ∃ cur, Has w b 71 cur ∧ cur.size = c * 7 ∧ cur.toList.take (n * 7) = rowZ ps := by
  rcases h.2 with ⟨e, h0⟩ | ⟨g, cap, cur, e, hg, hh, hn, hc, hs, ht⟩
  · cases e
  · injection e with e1 e2 e3
    injection e1 with e1
    injection e1 with e1
    subst e1; subst e2; subst e3
    exact ⟨rfl, hn, hc, cur, hh, hs, ht⟩
theorem OwnZ.mk' (hl : ps.length = n) (hn : n ≤ c) (hc : c ≤ maxLen) {cur : Array Value} (hh : Has w b 71 cur) (hs : cur.size = c * 7) (ht : cur.toList.take (n * 7) = rowZ ps) : OwnZ w (.slice (some ⟨b, 0, none⟩) n c) ps := by
  subst hl
  exact ⟨rowZ_len ps, .inr ⟨b, c, cur, rfl, Nat.zero_le _, hh, hn, hc, hs, ht⟩⟩
theorem OwnZ.same (h : OwnZ w v ps) (hk : ∀ k, v.ownBlock = some k → w'.heap[k]? = w.heap[k]?) : OwnZ w' v ps := by
  refine ⟨h.1, ?_⟩
  rcases h.2 with h0 | ⟨g, cap, cur, e, hg, hh, r⟩
  · exact .inl h0
  · refine .inr ⟨g, cap, cur, e, hg, ?_, r⟩
    rw [hk g (by rw [e]; rfl)]
    exact hh
theorem OwnZ.has (h : OwnZ w v ps) {k : Nat} (hk : v.ownBlock = some k) : ∃ cur, Has w k 71 cur := by
  rcases h.2 with ⟨e, h0⟩ | ⟨g, cap, cur, e, hg, hh, _⟩
  · rw [e] at hk; simp [Value.ownBlock] at hk
  · rw [e] at hk
    obtain rfl : g = k := by simpa [Value.ownBlock] using hk
    exact ⟨cur, hh⟩
theorem OwnZ.shape (h : OwnZ w (.slice A n c) ps) : (A = none ∧ n = 0 ∧ c = 0 ∧ ps = []) ∨ ∃ b, A = some ⟨b, 0, none⟩ := by
  rcases h.2 with ⟨e, h0⟩ | ⟨g, cap, cur, e, _⟩
  · injection e with e1 e2 e3
    exact .inl ⟨e1, e2, e3, List.length_eq_zero_iff.1 h0⟩
  · injection e with e1 e2 e3
    exact .inr ⟨g, e1⟩
theorem OwnZ.apart (h : OwnZ w v ps) {k : Nat} {t : TypeId} {cs : Array Value} (hh : Has w k t cs) (ht : t ≠ 71) : v.ownBlock ≠ some k := fun e => by
  obtain ⟨cur, h2⟩ := h.has e
  exact has_types hh h2 ht
end
theorem app_rsl {ops : Array Oper} {rest : List Oper} {op : Oper} {p : Act} {w : World} {Q : Exit → Act → World → Prop} (hgd : op.guard = none) (s x : Operand)
    (ho : op.op = .call { callee := .builtin .append, args := #[s, x], argTypes := #[46, 46] })
    {g : Nat} {v : Value} {ps : List Rz} {q : Rz} (hs : p.eval s = v) (hown : OwnZ w v ps) (hx : p.eval x = .slice (some ⟨g, 0, none⟩) 1 1) (hg : Has w g 71 (rzC q))
    (hn : ps.length ≤ 1073741824)
    (h : ∀ v' w', OwnZ w' v' (ps ++ [q]) → w.grownBy w' v.ownBlock → (v'.ownBlock = v.ownBlock ∨ v'.ownBlock = some w.heap.size) → wpList Tryz.prog ops Q rest (p.put op.dst v') w') : wpList Tryz.prog ops Q (op :: rest) p w := by
  obtain ⟨i0, hi, hz, hs0, hy0⟩ := info_partsZ
  refine wpList_append_own_at w hgd s x 46 ho 0 71 i0 _ 7 72 Tryz.underlying46 hi hz hs0 hy0 (rfl) (by omega) v ps.length (rowZ ps) hs hown ⟨g, 0, none⟩ 1 1 (rzL q) hx (by rw [rzL_len])
    (fun j u hu => ?_) (fun u hu => ?_) (by unfold maxLen; omega) (by omega) (Nat.zero_le _) (fun v' w' h1 h2 _ h4 => ?_)
  · rw [Addr.add_mid, hg.cell]
    simpa [rzL] using hu
  · have := rzC_one q
    rw [Array.all_eq_true_iff_forall_mem] at this
    exact this u (by simpa [rzL] using hu)
  · refine h v' w' ?_ h2 h4
    have e : rowZ (ps ++ [q]) = rowZ ps ++ rzL q := by rw [rowZ_app, rowZ_one]
    unfold OwnZ
    rw [e, List.length_append]
    exact h1
theorem run_oneZ (z : Rz) (w : World) : (Instr.buildSlice 46 1 #[(0, .agg (rzC z))]).run Tryz.prog w = .ok (.slice (some ⟨w.heap.size, 0, none⟩) 1 1) (w.alloc (.cells (rzC z) 71)) := by kernel_rfl
structure OutZ (N : Nat → Prop) (w : World) (V : Value) (zs : List Rz) : Prop where
  row : OwnZ w V zs
  off : ∀ k, V.ownBlock = some k → ¬ N k
  hist : ∀ z ∈ zs, OwnI w 0 (.slice z.A z.hs.length z.c) z.hs
  offH : ∀ z ∈ zs, ∀ k, (Value.slice z.A z.hs.length z.c).ownBlock = some k → ¬ N k
section
variable {N N' : Nat → Prop} {w w' : World} {V : Value} {zs : List Rz}
theorem OutZ.nil (N : Nat → Prop) (w : World) : OutZ N w (.slice none 0 0) [] := ⟨OwnZ.nil w, fun k h => (by simp [Value.ownBlock] at h), fun z h => (by cases h), fun z h => (by cases h)⟩
theorem OutZ.lt (h : OutZ N w V zs) : (∀ k, V.ownBlock = some k → k < w.heap.size) ∧ ∀ z ∈ zs, ∀ k, (Value.slice z.A z.hs.length z.c).ownBlock = some k → k < w.heap.size :=
  ⟨fun k hk => by obtain ⟨c, hc⟩ := h.row.has hk; exact hc.lt, fun z hz k hk => by obtain ⟨c, hc⟩ := (h.hist z hz).has hk; exact hc.lt⟩
theorem OutZ.mono (h : OutZ N w V zs) (hN : ∀ k, k < w.heap.size → N' k → N k) : OutZ N' w V zs :=
  ⟨h.row, fun k hk e => h.off k hk (hN k (h.lt.1 k hk) e), h.hist, fun z hz k hk e => h.offH z hz k hk (hN k (h.lt.2 z hz k hk) e)⟩
theorem OutZ.same (h : OutZ N w V zs) (hk : ∀ k, k < w.heap.size → ¬ N k → w'.heap[k]? = w.heap[k]?) : OutZ N w' V zs :=
  ⟨h.row.same fun k e => hk k (h.lt.1 k e) (h.off k e), h.off, fun z hz => (h.hist z hz).same fun k e => hk k (h.lt.2 z hz k e) (h.offH z hz k e), h.offH⟩
theorem OutZ.below (h : OutZ N w V zs) (hb : Below w.heap.size w w') : OutZ N w' V zs := h.same fun k hk _ => hb.block k hk
theorem OutZ.butO {O : Nat → Prop} (h : OutZ N w V zs) (hb : ButO O w w') (hO : ∀ k, O k → N k) : OutZ N w' V zs := h.same fun k hk hn => hb.other k hk fun e => hn (hO k e)
theorem OutZ.app {V' : Value} {z : Rz} (h : OutZ N w V zs) (hN : ∀ k, N k → k < w.heap.size) (hr : OwnZ w' V' (zs ++ [z])) (hg : w.grownBy w' V.ownBlock) (hv : V'.ownBlock = V.ownBlock ∨ V'.ownBlock = some w.heap.size)
    (hz : OwnI w 0 (.slice z.A z.hs.length z.c) z.hs) (hzN : ∀ k, (Value.slice z.A z.hs.length z.c).ownBlock = some k → ¬ N k) : OutZ N w' V' (zs ++ [z]) := by
  have hk : ∀ {u : Value} {xs : List Int}, OwnI w 0 u xs → OwnI w' 0 u xs := fun ho => ho.same fun k e => hg.block k (by obtain ⟨c, hc⟩ := ho.has e; exact hc.lt) fun e2 => by
    obtain ⟨c, hc⟩ := ho.has e
    obtain ⟨c2, hc2⟩ := h.row.has e2.symm
    exact has_types hc hc2 (by decide)
  refine ⟨hr, fun k e hn => ?_, fun y hy => ?_, fun y hy => ?_⟩
  · rcases hv with hv | hv
    · exact h.off k (hv ▸ e) hn
    · rw [hv] at e; injection e with e; have := hN k hn; omega
  · rcases List.mem_append.1 hy with hy | hy
    · exact hk (h.hist y hy)
    · rw [List.mem_singleton] at hy; subst hy; exact hk hz
  · rcases List.mem_append.1 hy with hy | hy
    · exact h.offH y hy
    · rw [List.mem_singleton] at hy; subst hy; exact hzN
end
end Go.Proofs.YtbpaepkcchpmbaaGreat
namespace Go.Proofs.YtbpaepkcchpmbaaGreat
section
variable {bs : List Int} {σ : Int} {xs : List It} {x : It}
theorem ones_app (bs : List Int) (xs : List It) (x : It) : ones bs (xs ++ [x]) = ones bs xs ++ [oneAc x bs] := by simp [ones]
theorem ones_tot (bs : List Int) (xs : List It) : totalA (ones bs xs) = xs.length := by
  induction xs with
  | nil => rfl
  | cons x r ih =>
    have e : ones bs (x :: r) = oneAc x bs :: ones bs r := rfl
    rw [e, totalA_cons, ih]
    show 1 + (r.length : Int) = ((r.length + 1 : Nat) : Int)
    omega
theorem rowJ_ones (hb : boundsB bs = true) (hx : ∀ x, x ∈ xs → itemB x = true ∧ x.s = σ) (hn : xs.length ≤ 8192) : RowJ bs (ones bs xs) where
  bd := hb
  tog := by
    by_cases h0 : xs = []
    · rw [h0]; rfl
    · obtain ⟨y, hy⟩ := List.exists_mem_of_ne_nil _ h0
      have hσ : 0 ≤ σ := by
        obtain ⟨h1, h2⟩ := hx y hy
        rw [← h2]
        unfold itemB at h1
        simp only [Bool.and_eq_true] at h1
        exact (wi_true h1.1).1
      refine tog_iff.2 ⟨σ, hσ, fun a ha => ?_⟩
      obtain ⟨z, hz, rfl⟩ := List.mem_map.1 ha
      exact ⟨one_fit (hx z hz).1, fun _ => (hx z hz).2⟩
  tot := by rw [ones_tot]; omega
theorem foldA_n (bs : List Int) (xs : List It) : (foldA bs xs).n = xs.length := by
  show (joinAc bs (ones bs xs)).n = _
  rw [join_n, ones_tot]
theorem fold_ft (bs : List Int) : ∀ (r : List It) (z : Ac), 0 < z.n → (∀ y, y ∈ r → z.f.t ≤ y.t) → ((ones bs r).foldl joinStep z).f.t = z.f.t
  | [], _, _, _ => rfl
  | y :: r, z, hz, h => by
    have e : (ones bs (y :: r)).foldl joinStep z = (ones bs r).foldl joinStep (addAc z (oneAc y bs)) := by
      show (ones bs r).foldl joinStep (joinStep z (oneAc y bs)) = _
      rw [step_one]
    have ef : (addAc z (oneAc y bs)).f.t = z.f.t := by
      have e2 : (addAc z (oneAc y bs)).f = pick (beforeB y z.f) y z.f := by simp only [addAc, oneAc]; rw [if_neg (by omega)]
      rw [e2]
      have hy := h y (by simp)
      cases hc : beforeB y z.f
      · rfl
      · have := before_yes hc
        show y.t = z.f.t
        omega
    rw [e, fold_ft bs r _ (by show 0 < z.n + 1; omega) (fun u hu => by rw [ef]; exact h u (by simp [hu])), ef]
theorem foldA_ft {r : List It} (h : Times (x :: r)) : (foldA bs (x :: r)).f.t = x.t := by
  have e : foldA bs (x :: r) = (ones bs r).foldl joinStep (addAc (startJ bs) (oneAc x bs)) := by
    show (ones bs r).foldl joinStep (joinStep (startJ bs) (oneAc x bs)) = _
    rw [step_one]
  have ef : (addAc (startJ bs) (oneAc x bs)).f = x := by simp [addAc, oneAc, startJ]
  rw [e, fold_ft bs r _ (by show (0 : Int) < 0 + 1; omega) (fun y hy => by rw [ef]; exact (List.pairwise_cons.1 h).1 y hy), ef]
theorem ask_ones {q : Qu} (hq : mayQ q.kind q.agg q.size q.slide q.bs q.rank = true) (hx : ∀ x, x ∈ xs → itemB x = true ∧ x.s = σ) (hn : xs.length ≤ 8192) (h0 : xs ≠ []) : askB q (foldA q.bs xs) = true := by
  unfold mayQ at hq
  simp only [Bool.and_eq_true] at hq
  obtain ⟨_, _, _, _, h5, h6⟩ := hq
  have hpos : 0 < xs.length := List.length_pos_iff.2 h0
  have hr : wi q.rank 0 1000 = true := by
    unfold rankB at h6
    split at h6
    · exact h6
    · have := of_decide_eq_true h6
      rw [this]; decide
  have hb : boundsB q.bs = true ∧ (q.agg = 7 → 0 < q.bs.length) := by
    unfold bndB at h5
    split at h5
    · simp only [Bool.and_eq_true] at h5
      exact ⟨h5.2, fun _ => of_decide_eq_true h5.1⟩
    · rename_i hne
      have := of_decide_eq_true h5
      rw [List.eq_nil_of_length_eq_zero this]
      exact ⟨by decide, fun e => absurd (Or.inr e) hne⟩
  unfold askB accB
  simp only [Bool.and_eq_true]
  refine ⟨hr, ⟨hb.1, (join_fit xs hx hn).1⟩, decide_eq_true (by rw [foldA_n]; omega), ?_⟩
  rw [Bool.or_eq_true]
  by_cases h7 : q.agg = 7
  · exact .inr (decide_eq_true (hb.2 h7))
  · exact .inl (decide_eq_true h7)
theorem bounds_ofQ {q : Qu} (hq : mayQ q.kind q.agg q.size q.slide q.bs q.rank = true) : boundsB q.bs = true ∧ wi q.agg 0 7 = true ∧ wi q.kind 0 2 = true := by
  unfold mayQ at hq
  simp only [Bool.and_eq_true] at hq
  obtain ⟨h1, h2, _, _, h5, _⟩ := hq
  refine ⟨?_, h2, h1⟩
  unfold bndB at h5
  split at h5
  · simp only [Bool.and_eq_true] at h5
    exact h5.2
  · have := of_decide_eq_true h5
    rw [List.eq_nil_of_length_eq_zero this]; decide
theorem qnOk {q : Qu} (hq : mayQ q.kind q.agg q.size q.slide q.bs q.rank = true) : QnOk q.kind q.size q.slide := by
  obtain ⟨h1, h2, h3, _⟩ := stepQ_bd hq
  exact ⟨h3, fun _ => h1, fun _ => h2⟩
end
section
variable {k kd sz sl s : Int} {R : List It} {ℓ line : Int} {l : Ln}
theorem lnI_range (hq : QnOk kd sz sl) (hz : sz ≤ 1073741824) (h : LnI kd sz sl s R ℓ l) (hx : ∀ x, x ∈ R → -1099511627776 ≤ x.t ∧ x.t ≤ 1099511627776) (hn : l.its ≠ []) :
    -1100585369600 ≤ l.a ∧ l.a ≤ 1099511627776 ∧ l.a < l.b ∧ l.b ≤ 1100585369600 ∧ 0 < l.st kd sz sl ∧ l.st kd sz sl ≤ 2200096997376 ∧ l.a ≤ (nthI l.its 0).t ∧ (nthI l.its 0).t < l.b := by
  have hh := ne_head hn
  have hsub := lnI_its h
  have hit := lnI_times h
  have h0 := hx _ (hsub _ (first_mem hn))
  have hst := (lnI_round (k := 0) hq h hn).2.2
  have ht := h.top _ (hsub _ (first_mem hn))
  by_cases h2 : kd = 2
  · obtain ⟨R1, _, _, _, e4, e5, e6⟩ := (h.ses h2).some_ hn
    have h9 := hx _ (hsub _ (last_mem hn))
    have hl := times_last hit hn _ (first_mem hn)
    have hz1 := hq.z
    have e : l.st kd sz sl = l.b - l.a := by unfold Ln.st; rw [if_pos h2]
    rw [e] at hst ⊢
    omega
  · obtain ⟨_, n2, n3, n4, _⟩ := (h.win h2).nx _ hh
    have h1 := hq.s1 h2
    have h3 := hq.s2 h2
    have e : l.st kd sz sl = stepQ kd sz sl := by unfold Ln.st; rw [if_neg h2]
    rw [e] at hst ⊢
    omega
theorem tell_len (hq : QnOk kd sz sl) (hm : kd ≠ 2 → (sz + stepQ kd sz sl - 1) / stepQ kd sz sl ≤ 64) {line : Int} : ∀ (n : Nat) (ℓ : Int) (l : Ln), (line - ℓ).toNat ≤ n → LnI kd sz sl s R ℓ l → ℓ ≤ line → l.its ≠ [] →
    (tellLn k kd sz sl line l).1.length ≤ 64 * (l.its.length - 1) + (if kd = 2 then 0 else (((nthI l.its 0).t - l.a) / stepQ kd sz sl).toNat) + 1 := by
  intro n
  induction n with
  | zero =>
    intro ℓ l hn h hl hne
    have he : line < l.b := by have := (lnI_round (k := k) hq h hne).2.2.2; omega
    rw [tellLn_none (.inr he)]; simp
  | succ n ih =>
    intro ℓ l hn h hl hne
    by_cases he : line < l.b
    · rw [tellLn_none (.inr he)]; simp
    · obtain ⟨r1, _, r3, r4⟩ := lnI_round (k := k) hq h hne
      rw [tellLn_some hne (by omega) r3, List.length_cons]
      by_cases hn2 : (l.next kd sz sl).its = []
      · rw [tellLn_none (.inl hn2)]; simp
      · have hI := ih l.b (l.next kd sz sl) (by omega) r1 (by omega) hn2
        have hsuf : (l.next kd sz sl).its.length ≤ l.its.length := by
          show (cutT _ _).length ≤ _
          unfold cutT
          exact (List.dropWhile_sublist _).length_le
        by_cases h2 : kd = 2
        · exfalso
          obtain ⟨R1, _, _, _, e4, e5, _⟩ := (h.ses h2).some_ hne
          have : (l.next kd sz sl).its = [] := cut_all (lnI_times h) fun x hx => by
            have e : l.st kd sz sl = l.b - l.a := by unfold Ln.st; rw [if_pos h2]
            have := times_last (lnI_times h) hne x hx
            have := hq.z
            omega
          exact hn2 this
        · rw [if_neg h2] at hI ⊢
          have hst : l.st kd sz sl = stepQ kd sz sl := by unfold Ln.st; rw [if_neg h2]
          have h1 := hq.s1 h2
          have hm2 := hm h2
          obtain ⟨_, m2, m3, m4, _⟩ := (h.win h2).nx _ (ne_head hne)
          obtain ⟨_, k2, k3, k4, _⟩ := (r1.win h2).nx _ (ne_head hn2)
          have kt := r1.top _ (lnI_its r1 _ (first_mem hn2))
          have ea : (l.next kd sz sl).a = l.a + stepQ kd sz sl := by show l.a + l.st kd sz sl = _; rw [hst]
          generalize hS : stepQ kd sz sl = st at *
          by_cases hd : (nthI l.its 0).t < l.a + st
          · have hlt : (l.next kd sz sl).its.length ≤ l.its.length - 1 := by
              have e : (l.next kd sz sl).its = cutT (l.a + l.st kd sz sl) l.its := rfl
              rw [e, hst]
              cases hc : l.its with
              | nil => exact absurd hc hne
              | cons y r =>
                rw [hc] at hd
                unfold cutT
                rw [List.dropWhile_cons_of_pos (by exact decide_eq_true hd)]
                have := (List.dropWhile_sublist (fun x : It => decide (x.t < l.a + st)) (l := r)).length_le
                simp only [List.length_cons]
                omega
            have hb : ((nthI (l.next kd sz sl).its 0).t - (l.next kd sz sl).a) / st ≤ 63 := by
              have a1 : (nthI (l.next kd sz sl).its 0).t - (l.next kd sz sl).a < 64 * st := by
                have a2 := Int.lt_ediv_add_one_mul_self (sz + st - 1) (show 0 < st by omega)
                have a3 : ((sz + st - 1) / st + 1) * st ≤ 65 * st := Int.mul_le_mul_of_nonneg_right (by omega) (by omega)
                omega
              have := Int.ediv_lt_of_lt_mul (show 0 < st by omega) a1
              omega
            have hp : 1 ≤ (l.next kd sz sl).its.length := List.length_pos_iff.2 hn2
            omega
          · have hsame : (l.next kd sz sl).its = l.its := by
              have e : (l.next kd sz sl).its = cutT (l.a + l.st kd sz sl) l.its := rfl
              rw [e, hst]
              cases hc : l.its with
              | nil => rfl
              | cons y r =>
                rw [hc] at hd
                unfold cutT
                rw [List.dropWhile_cons_of_neg (by have hd2 : ¬ y.t < l.a + st := hd; simpa using hd2)]
            rw [hsame, ea] at hI
            have e3 : ((nthI l.its 0).t - (l.a + st)) / st = ((nthI l.its 0).t - l.a) / st - 1 := by
              have : (nthI l.its 0).t - (l.a + st) = (nthI l.its 0).t - l.a + (-1) * st := by omega
              rw [this, Int.add_mul_ediv_right _ _ (by omega)]; omega
            have e4 : 1 ≤ ((nthI l.its 0).t - l.a) / st := (Int.le_ediv_iff_mul_le (by omega)).2 (by omega)
            rw [e3] at hI
            omega
theorem tell_cap (hq : QnOk kd sz sl) (hm : kd ≠ 2 → (sz + stepQ kd sz sl - 1) / stepQ kd sz sl ≤ 64) (h : LnI kd sz sl s R ℓ l) (hl : ℓ ≤ line) : (tellLn k kd sz sl line l).1.length ≤ 64 * l.its.length := by
  by_cases hn : l.its = []
  · rw [tellLn_none (.inl hn)]; simp
  · have h1 := tell_len (k := k) hq hm _ ℓ l (Nat.le_refl _) h hl hn
    have hp : 1 ≤ l.its.length := List.length_pos_iff.2 hn
    by_cases h2 : kd = 2
    · rw [if_pos h2] at h1; omega
    · rw [if_neg h2] at h1
      obtain ⟨_, k2, k3, k4, _⟩ := (h.win h2).nx _ (ne_head hn)
      have kt := h.top _ (lnI_its h _ (first_mem hn))
      have hs := hq.s1 h2
      have hm2 := hm h2
      generalize stepQ kd sz sl = st at *
      have hb : ((nthI l.its 0).t - l.a) / st ≤ 63 := by
        have a1 : (nthI l.its 0).t - l.a < 64 * st := by
          have a2 := Int.lt_ediv_add_one_mul_self (sz + st - 1) (show 0 < st by omega)
          have a3 : ((sz + st - 1) / st + 1) * st ≤ 65 * st := Int.mul_le_mul_of_nonneg_right (by omega) (by omega)
          omega
        have := Int.ediv_lt_of_lt_mul (show 0 < st by omega) a1
        omega
      omega
end
end Go.Proofs.YtbpaepkcchpmbaaGreat
namespace Go.Proofs.YtbpaepkcchpmbaaGreat
open Go.RowKit
structure Rv where
  k : Int
  s : Int
  a : Int
  b : Int
  v : Int
  o : Bool
  hs : List Int
def Rz.val (z : Rz) : Rv := ⟨z.k, z.s, z.a, z.b, z.v, z.o, z.hs⟩
def valW (q : Qu) (s : Int) (p : Wn) : Rv := ⟨p.k, s, p.a, p.b, tolV q (foldA q.bs p.xs), tolO q (foldA q.bs p.xs), tolH q (foldA q.bs p.xs)⟩
abbrev AcT : TypeId := 144
theorem Ints.butO {O : Nat → Prop} {w w' : World} {A : Option Addr} {n : Nat} {xs : List Int} (h : Ints w A n xs) (hb : ButO O w w') (hne : ∀ ad, A = some ad → ¬ O ad.block) : Ints w' A n xs :=
  ⟨h.1, fun hn => by
    obtain ⟨b, o, rfl, hi⟩ := h.2 hn
    refine ⟨b, o, rfl, fun k hk => ?_⟩
    have hc := hi k hk
    rw [← hc]
    exact World.cell?_of_block (w := w) (w' := w') (a := ⟨b, o + k, none⟩) (hb.other b (block_lt_of_cell hc) (hne _ rfl))⟩
theorem own_base {w : World} {base k : Nat} {v : Value} {xs : List Int} (h : OwnI w base v xs) (hk : v.ownBlock = some k) : base ≤ k := by
  rcases h.2 with ⟨e, _⟩ | ⟨g, cap, cur, e, hg, _⟩
  · rw [e] at hk; simp [Value.ownBlock] at hk
  · rw [e] at hk
    obtain rfl : g = k := by simpa [Value.ownBlock] using hk
    exact hg
theorem item_time {x : It} (h : itemB x = true) : -1099511627776 ≤ x.t ∧ x.t ≤ 1099511627776 := by
  unfold itemB at h
  simp only [Bool.and_eq_true] at h
  exact wi_true h.2.1
structure TlM (E O : Nat → Prop) (w0 : World) (L lo : Nat) (cur : Array Value) (r : Lr) (V0 : Value) (y : Nat) (its : List It) (a b : Int) (O' : Nat → Prop) (V : Value) (zs : List Rz) (w : World) : Prop where
  lw : Has w L LT (laneA cur lo a b)
  pq : PQ O' r.g r.q.bs (ones r.q.bs its) w
  out : OutZ (fun k => E k ∨ O' k) w V zs
  acc : ∃ H, Has w y AcT (accC (foldA r.q.bs its) (some ⟨H, 0, none⟩) (foldA r.q.bs its).h.length (foldA r.q.bs its).h.length) ∧ Has w H 3 (ints (foldA r.q.bs its).h)
  oin : ∀ k, O' k → O k ∨ (w0.heap.size ≤ k ∧ k < w.heap.size)
  kp : ButO (fun k => O k ∨ k = L ∨ V0.ownBlock = some k) w0 w
  vb : V.ownBlock = V0.ownBlock ∨ ∃ k, V.ownBlock = some k ∧ w0.heap.size ≤ k
  ny : ¬ O' y ∧ w0.heap.size ≤ y
structure TlC (E O : Nat → Prop) (w0 : World) (L : Nat) : Prop where
  el : E L
  e0 : ∀ k, E k → k < w0.heap.size
  o0 : ∀ k, O k → k < w0.heap.size
  ol : ¬ O L
section
variable {E O O' : Nat → Prop} {w0 w w' : World} {L lo y : Nat} {cur : Array Value} {r : Lr} {V0 V : Value} {its : List It} {a b : Int} {zs : List Rz}
theorem TlC.nl (c : TlC E O w0 L) (h : TlM E O w0 L lo cur r V0 y its a b O' V zs w) : ¬ O' L := fun e => by
  rcases h.oin L e with h1 | h1
  · exact c.ol h1
  · have := c.e0 L c.el; omega
theorem TlM.below (h : TlM E O w0 L lo cur r V0 y its a b O' V zs w) (hb : Below w.heap.size w w') : TlM E O w0 L lo cur r V0 y its a b O' V zs w' := by
  obtain ⟨H, h1, h2⟩ := h.acc
  exact ⟨h.lw.below hb h.lw.lt, h.pq.below hb, h.out.below hb, ⟨H, h1.below hb h1.lt, h2.below hb h2.lt⟩, fun k hk => (h.oin k hk).imp id fun e => ⟨e.1, Nat.lt_of_lt_of_le e.2 hb.size⟩,
    h.kp.andThen (below_butO hb (fun _ => False)) fun k e _ => e.elim, h.vb, h.ny⟩
theorem TlM.lim (c : TlC E O w0 L) (h : TlM E O w0 L lo cur r V0 y its a b O' V zs w) : ∀ k, (E k ∨ O' k) → k < w.heap.size := fun k hk => by
  have := h.kp.size
  rcases hk with hk | hk
  · have := c.e0 k hk; omega
  · rcases h.oin k hk with h3 | h3
    · have := c.o0 k h3; omega
    · exact h3.2
theorem TlM.step (c : TlC E O w0 L) (h : TlM E O w0 L lo cur r V0 y its a b O' V zs w) {a' b' : Int} (hl : Has w' L LT (laneA cur lo a' b')) (hb : ButS [L] w w') : TlM E O w0 L lo cur r V0 y its a' b' O' V zs w' := by
  obtain ⟨H, h1, h2⟩ := h.acc
  have hL := c.nl h
  have hbO : ButO (fun k => k = L) w w' := butS_butO hb fun k hk => by simpa using hk
  have hpq := (h.pq.mono (O' := fun k => O' k ∧ k < w.heap.size) fun k hk ho => ⟨ho, hk⟩).same fun k hk => hbO.other k hk.2 fun e => hL (e ▸ hk.1)
  exact ⟨hl, hpq.mono fun k _ hk => hk.1, h.out.butO hbO fun k e => .inl (e ▸ c.el), ⟨H, h1.butO hbO fun e => has_types h1 (e ▸ h.lw) (by decide), h2.butO hbO fun e => has_types h2 (e ▸ h.lw) (by decide)⟩,
    fun k hk => (h.oin k hk).imp id fun e => ⟨e.1, Nat.lt_of_lt_of_le e.2 hb.size⟩, h.kp.andThen hbO fun k e _ => .inr (.inl e), h.vb, h.ny⟩
theorem TlM.app (c : TlC E O w0 L) (h : TlM E O w0 L lo cur r V0 y its a b O' V zs w) {V' : Value} {z : Rz} (hr : OwnZ w' V' (zs ++ [z])) (hg : w.grownBy w' V.ownBlock) (hv : V'.ownBlock = V.ownBlock ∨ V'.ownBlock = some w.heap.size)
    (hz : OwnI w 0 (.slice z.A z.hs.length z.c) z.hs) (hzN : ∀ k, (Value.slice z.A z.hs.length z.c).ownBlock = some k → ¬ (E k ∨ O' k)) : TlM E O w0 L lo cur r V0 y its a b O' V' (zs ++ [z]) w' := by
  obtain ⟨H, h1, h2⟩ := h.acc
  have hN : ∀ k, (E k ∨ O' k) → k < w.heap.size := fun k hk => by
    have := h.kp.size
    rcases hk with hk | hk
    · have := c.e0 k hk; omega
    · rcases h.oin k hk with h3 | h3
      · have := c.o0 k h3; omega
      · exact h3.2
  have hlt := h.out.lt.1
  have hbO : ButO (fun k => V.ownBlock = some k) w w' := ⟨hg.os, hg.tape, hg.output, hg.size, fun k hk hn => hg.block k hk (fun e => hn e.symm)⟩
  have hoff : ∀ {k t cs}, Has w k t cs → t ≠ 71 → ¬ V.ownBlock = some k := fun hh ht => h.out.row.apart hh ht
  have hpq := (h.pq.mono (O' := fun k => O' k ∧ k < w.heap.size) fun k hk ho => ⟨ho, hk⟩).same fun k hk => hbO.other k hk.2 fun e => h.out.off k e (.inr hk.1)
  refine ⟨h.lw.butO hbO (hoff h.lw (by decide)), hpq.mono fun k _ hk => hk.1, h.out.app hN hr hg hv hz hzN, ⟨H, h1.butO hbO (hoff h1 (by decide)), h2.butO hbO (hoff h2 (by decide))⟩,
    fun k hk => (h.oin k hk).imp id fun e => ⟨e.1, Nat.lt_of_lt_of_le e.2 hg.size⟩, h.kp.andThen hbO fun k e hk => ?_, ?_, h.ny⟩
  · rcases h.vb with hv2 | ⟨j, hj, h3⟩
    · exact .inr (.inr (hv2 ▸ e))
    · rw [hj] at e; injection e with e; omega
  · rcases hv with hv | hv
    · rw [hv]; exact h.vb
    · exact .inr ⟨_, hv, h.kp.size⟩
theorem TlM.popped {x : It} {O2 : Nat → Prop} {w2 : World} (c : TlC E O w0 L) (h : TlM E O w0 L lo cur r V0 y (x :: its) a b O' V zs w) (h5 : PQ O2 r.g r.q.bs (ones r.q.bs its) w') (hO2 : ∀ k, O2 k → O' k ∨ (w.heap.size ≤ k ∧ k < w'.heap.size)) (hb : ButO O' w w')
    {H : Nat} (hH : Has w2 H 3 (ints (foldA r.q.bs its).h)) (hb2 : Below w'.heap.size w' w2) :
    TlM E O w0 L lo cur r V0 y its a b O2 V zs (w2.setRow y (accC (foldA r.q.bs its) (some ⟨H, 0, none⟩) (foldA r.q.bs its).h.length (foldA r.q.bs its).h.length)) ∧ Has w2 y AcT (accC (foldA r.q.bs (x :: its)) (some ⟨h.acc.choose, 0, none⟩) (foldA r.q.bs (x :: its)).h.length (foldA r.q.bs (x :: its)).h.length) := by
  obtain ⟨h1, h2⟩ := h.acc.choose_spec
  generalize h.acc.choose = H0 at h1 h2 ⊢
  have hyw : y < w.heap.size := h1.lt
  have hL := c.nl h
  have hy' : Has w' y AcT _ := h1.butO hb h.ny.1
  have hy2 := hy'.below hb2 hy'.lt
  have hl2 := (h.lw.butO hb hL).below hb2 (h.lw.butO hb hL).lt
  have hsz : ∀ cs, (w2.setRow y cs).heap.size = w2.heap.size := fun cs => by simp
  have hs1 := hb.size
  have hs2 := hb2.size
  have hO2y : ¬ O2 y := fun e => by
    rcases hO2 y e with h3 | h3
    · exact h.ny.1 h3
    · omega
  have hrow : ∀ cs k, k ≠ y → (w2.setRow y cs).heap[k]? = w2.heap[k]? := fun cs k hk => setRow_other _ _ _ _ hk
  have hpq2 := h5.below hb2
  have hout : OutZ (fun k => E k ∨ O2 k) w2 V zs := by
    have h6 := h.out.butO hb fun k hk => .inr hk
    have h7 : OutZ (fun k => E k ∨ O2 k) w' V zs := by
      refine ⟨h6.row, fun k hk e => ?_, h6.hist, fun z hz k hk e => ?_⟩
      · rcases e with e | e
        · exact h6.off k hk (.inl e)
        · rcases hO2 k e with h3 | h3
          · exact h6.off k hk (.inr h3)
          · have := h.out.lt.1 k hk; omega
      · rcases e with e | e
        · exact h6.offH z hz k hk (.inl e)
        · rcases hO2 k e with h3 | h3
          · exact h6.offH z hz k hk (.inr h3)
          · have := h.out.lt.2 z hz k hk; omega
    exact h7.below hb2
  refine ⟨⟨hl2.rowFar (fun e => has_types (e ▸ hl2) hy2 (by decide)) _, hpq2.same fun k hk => hrow _ k fun e => hO2y (e ▸ hk), ?_, ⟨H, hy2.row _, hH.rowFar (fun e => has_types (e ▸ hH) hy2 (by decide)) _⟩, fun k hk => ?_, ?_, h.vb, hO2y, h.ny.2⟩, hy2⟩
  · refine ⟨hout.row.same fun k e => hrow _ k fun e2 => hout.row.apart hy2 (by decide) (e2 ▸ e), hout.off, fun z hz => (hout.hist z hz).same fun k e => hrow _ k fun e2 => (hout.hist z hz).apart hy2 (by decide) (e2 ▸ e), hout.offH⟩
  · rcases hO2 k hk with h3 | h3
    · exact (h.oin k h3).imp id fun e => ⟨e.1, by rw [hsz]; omega⟩
    · exact .inr ⟨by have := h.kp.size; omega, by rw [hsz]; omega⟩
  · have h8 : ButO (fun k => O' k ∨ k = y) w (w2.setRow y (accC (foldA r.q.bs its) (some ⟨H, 0, none⟩) (foldA r.q.bs its).h.length (foldA r.q.bs its).h.length)) :=
      ⟨hb2.os.trans hb.os, hb2.tape.trans hb.tape, hb2.output.trans hb.output, by rw [hsz]; omega, fun k hk hn => (hrow _ k fun e => hn (.inr e)).trans ((hb2.block k (by omega)).trans (hb.other k hk fun e => hn (.inl e)))⟩
    refine h.kp.andThen h8 fun k hk hlt => ?_
    rcases hk with hk | rfl
    · rcases h.oin k hk with h3 | h3
      · exact .inl h3
      · omega
    · have := h.ny.2; omega
end
end Go.Proofs.YtbpaepkcchpmbaaGreat
namespace Go.Proofs.YtbpaepkcchpmbaaGreat
open Go.RowKit
def rslX (k s a b v : Int) (oo : Bool) (hs : List Int) (z : Nat) : Fact := fun u w => ∃ A n c, u = .agg (rslC k s a b v oo A n c) ∧ OutP w hs z A n c
theorem rslX_mono (k s a b v : Int) (oo : Bool) (hs : List Int) (z : Nat) : Mono (rslX k s a b v oo hs z) := fun _ _ _ hb ⟨A, n, c, e, h⟩ => ⟨A, n, c, e, h.below hb⟩
def litX (k s a b v : Int) (oo : Bool) (hs : List Int) (z : Nat) : Fact := fun u w => ∃ g A c, u = .slice (some ⟨g, 0, none⟩) 1 1 ∧ (Has w g 71 (rzC ⟨k, s, a, b, v, oo, hs, A, c⟩) ∧ OutP w hs z A hs.length c)
theorem litX_mono (k s a b v : Int) (oo : Bool) (hs : List Int) (z : Nat) : Mono (litX k s a b v oo hs z) := fun _ _ _ hb ⟨g, A, c, e, h, h2⟩ => ⟨g, A, c, e, h.below hb h.lt, h2.below hb⟩
theorem rf_litR {D : List (Option Tmp)} {Φ : Fact} {o : Oper} {a : Act} {w : World} (hw : Region.wanted o (yieldD D a.tmps) = true) {t : Tmp} (hd : o.dst = some t) (x : Operand) (ho : o.op = .buildSlice 46 1 #[(0, x)]) (z : Rz) (hx : a.eval x = .agg (rzC z))
    (h : Φ (.slice (some ⟨w.heap.size, 0, none⟩) 1 1) (w.alloc (.cells (rzC z) 71))) : StepD Tryz.prog D Φ o a w := by
  refine step_val hw hd _ (w.alloc (.cells (rzC z) 71)) ?_ ((Below.refl _ _).alloc (Nat.le_refl _) _) h
  unfold execOp
  rw [ho]
  generalize a.eval = ev at hx ⊢
  simp only [List.map_toArray, List.map_cons, List.map_nil, hx, Sem.run_bind, run_oneZ, Result.andThen_ok]
  rfl
def lte5D : List (Option Tmp) := [some 41, some 42, some 43, some 44, some 45, some 46, some 47, some 48, some 49, some 50, some 51, some 52, some 2]
def lte5F (_T0 : TypeId) (L lo : Nat) (_cur : Array Value) (r : Lr) (_y z k c : Nat) (A : Option Addr) (u : Ac) (V : Value) (sa sb v : Int) (oo : Bool) (hs : List Int) : List Fact := [isV (V), isV (.pointer (some ⟨L, lo, none⟩)), isV (.pointer (some ⟨L, lo, none⟩)), isV (.pointer (some ⟨L, lo, none⟩)), isV (.pointer (some ⟨L, lo, none⟩)), isV (.pointer (some ⟨L, lo, none⟩)), isV (.pointer (some ⟨L, lo + 9, none⟩)), isV (.agg #[.int .i64 sa, .int .i64 sb]), isV (.agg (accC u A k c)), rslX r.k r.s sa sb v oo hs z, litX r.k r.s sa sb v oo hs z]
theorem lte5F_mono (T0 : TypeId) (L lo : Nat) (cur : Array Value) (r : Lr) (y z k c : Nat) (A : Option Addr) (u : Ac) (V : Value) (sa sb v : Int) (oo : Bool) (hs : List Int) : ∀ φ ∈ lte5F T0 L lo cur r y z k c A u V sa sb v oo hs, Mono φ := by
  unfold lte5F
  refine monos_cons (mono_isV _) ?_
  refine monos_cons (mono_isV _) ?_
  refine monos_cons (mono_isV _) ?_
  refine monos_cons (mono_isV _) ?_
  refine monos_cons (mono_isV _) ?_
  refine monos_cons (mono_isV _) ?_
  refine monos_cons (mono_isV _) ?_
  refine monos_cons (mono_isV _) ?_
  refine monos_cons (mono_isV _) ?_
  refine monos_cons (rslX_mono _ _ _ _ _ _ _ _) ?_
  refine monos_cons (litX_mono _ _ _ _ _ _ _ _) ?_
  exact monos_nil
structure lte5S (T0 : TypeId) (L lo : Nat) (cur : Array Value) (r : Lr) (y z k c : Nat) (A : Option Addr) (u : Ac) (V : Value) (sa sb v : Int) (oo : Bool) (hs : List Int) (a0 : Act) (w0 : World) : Prop where
  size : a0.tmps.size = 80
  v0 : a0.tmps.getD 0 undef = .pointer (some ⟨L, lo, none⟩)
  v2 : a0.tmps.getD 2 undef = V
  v7 : a0.tmps.getD 7 undef = .pointer (some ⟨y, 0, none⟩)
  lw : Has w0 L T0 cur
  lc : LnC cur lo r
  ea : r.a = sa
  eb : r.b = sb
  ez : z ≤ w0.heap.size
  by_ : Has w0 y 144 (accC u A k c)
  cr : ∀ w, Below w0.heap.size w0 w → Calls Tryz.prog 143 #[.pointer (some ⟨L, lo, none⟩), .agg #[.int .i64 sa, .int .i64 sb], .agg (accC u A k c)] w fun e w1 => ∃ A n c, e = .returned (.agg (rslC r.k r.s sa sb v oo A n c)) ∧ OutP w1 hs w.heap.size A n c ∧ Below w.heap.size w w1
section
variable {T0 : TypeId} {L lo : Nat} {cur : Array Value} {r : Lr} {y z k c : Nat} {A : Option Addr} {u : Ac} {V : Value} {sa sb v : Int} {oo : Bool} {hs : List Int} {a0 : Act} {w0 : World} (S : lte5S T0 L lo cur r y z k c A u V sa sb v oo hs a0 w0)
include S
set_option maxRecDepth 100000 in
set_option maxHeartbeats 8000000 in
theorem lte5_ok : AllOps (fun j o => ∀ (a : Act) (w : World), Below w0.heap.size w0 w → FrD (lte5D.take 11) a0 a → needs lte5D (lte5F T0 L lo cur r y z k c A u V sa sb v oo hs) a w o.after.toList → StepD Tryz.prog lte5D (factAt (lte5F T0 L lo cur r y z k c A u V sa sb v oo hs) j) o a w) 0 ((opsOf 5 Tryz.f111).take 11) := by
  simp only [opsOf, Tryz.f111, opsAt, Option.bind, Option.or, Option.getD, reduceCtorEq, if_true, if_false]
  refine ⟨?_, ?_⟩
  · intro _a _w _hB hF _hd
    exact step_move (guard_none rfl) rfl _ rfl ((hF.other 2 rfl).trans S.v2)
  refine ⟨?_, ?_⟩
  · intro _a _w _hB hF _hd
    exact step_move (guard_none rfl) rfl _ rfl ((hF.other 0 rfl).trans S.v0)
  refine ⟨?_, ?_⟩
  · intro a _w _hB _hF hd
    have h42 : a.tmps.getD 42 undef = .pointer (some ⟨L, lo, none⟩) := hd.1 rfl
    exact rf_nilck (guard_none rfl) rfl _ rfl _ h42 rfl
  refine ⟨?_, ?_⟩
  · intro a _w _hB _hF hd
    have h43 : a.tmps.getD 43 undef = .pointer (some ⟨L, lo, none⟩) := hd.1 rfl
    exact rf_faddr (guard_none rfl) rfl _ _ _ rfl _ _ 0 _ h43 (by omega) (fun _ _ => by kernel_rfl) rfl
  refine ⟨?_, ?_⟩
  · intro _a _w _hB hF _hd
    exact step_move (guard_none rfl) rfl _ rfl ((hF.other 0 rfl).trans S.v0)
  refine ⟨?_, ?_⟩
  · intro a _w _hB _hF hd
    have h45 : a.tmps.getD 45 undef = .pointer (some ⟨L, lo, none⟩) := hd.1 rfl
    exact rf_nilck (guard_none rfl) rfl _ rfl _ h45 rfl
  refine ⟨?_, ?_⟩
  · intro a _w _hB _hF hd
    have h46 : a.tmps.getD 46 undef = .pointer (some ⟨L, lo, none⟩) := hd.1 rfl
    exact rf_faddr (guard_none rfl) rfl _ _ _ rfl _ _ 9 _ h46 (by omega) (fun _ _ => by kernel_rfl) rfl
  refine ⟨?_, ?_⟩
  · intro a _w hB _hF hd
    have h47 : a.tmps.getD 47 undef = .pointer (some ⟨L, lo + 9, none⟩) := hd.1 rfl
    exact rf_loadS (guard_none rfl) rfl _ _ rfl _ _ h47 [.int .i64 sa, .int .i64 sb] (S.ea ▸ S.eb ▸ S.lc.sp (S.lw.below hB S.lw.lt)) Tryz.underlying67 rfl (by kernel_rfl) rfl
  refine ⟨?_, ?_⟩
  · intro _a _w hB hF _hd
    exact rf_loadA (guard_none rfl) rfl _ rfl y ((hF.other 7 rfl).trans S.v7) (S.by_.below hB S.by_.lt) rfl
  refine ⟨?_, ?_⟩
  · intro a w hB _hF hd
    have h44 : a.tmps.getD 44 undef = .pointer (some ⟨L, lo, none⟩) := hd.1 rfl
    have h48 : a.tmps.getD 48 undef = .agg #[.int .i64 sa, .int .i64 sb] := hd.2.1 rfl
    have h49 : a.tmps.getD 49 undef = .agg (accC u A k c) := hd.2.2.1 rfl
    refine step_call (guard_none rfl) rfl _ _ (rf_call_run Tryz.func143 (by kernel_rfl) (by kernel_rfl) _ _ rfl) ?_
    simp only [List.map_toArray, List.map_cons, List.map_nil, Act.eval, h44, h48, h49]
    exact (S.cr w hB).mono (by rintro e w1 ⟨A, n, c, rfl, p, hb⟩; exact ⟨_, rfl, hb, A, n, c, rfl, p.1, p.2.1, p.2.2.1, p.2.2.2.mono (Nat.le_trans S.ez hB.size)⟩)
  refine ⟨?_, ?_⟩
  · intro a w _hB _hF hd
    obtain ⟨A50, n50, c50, h50, p50⟩ : rslX r.k r.s sa sb v oo hs z (a.tmps.getD 50 undef) w := hd.1 rfl
    obtain rfl : hs.length = n50 := p50.1.1
    exact rf_litR (guard_none rfl) rfl _ rfl ⟨r.k, r.s, sa, sb, v, oo, hs, A50, c50⟩ h50 ⟨_, A50, c50, rfl, Has.made _ _ _, p50.below ((Below.refl _ _).alloc (Nat.le_refl _) _)⟩
  trivial
set_option maxRecDepth 100000 in
set_option maxHeartbeats 2000000 in
theorem lte5_any {Q : Exit → Act → World → Prop} {l : List Oper} (hl : opsOf 5 Tryz.f111 = l) (hend : ∀ (A50 : Option Addr) (n50 : Nat) (c50 : Nat), ∀ (g51 : Nat) (A51 : Option Addr) (c51 : Nat), ∀ w : World, Below w0.heap.size w0 w → OutP w hs z A50 n50 c50 → (Has w g51 71 (rzC ⟨r.k, r.s, sa, sb, v, oo, hs, A51, c51⟩) ∧ OutP w hs z A51 hs.length c51) → wpList Tryz.prog l.toArray Q (l.drop 11) (putAll a0 [(41, V), (42, .pointer (some ⟨L, lo, none⟩)), (43, .pointer (some ⟨L, lo, none⟩)), (44, .pointer (some ⟨L, lo, none⟩)), (45, .pointer (some ⟨L, lo, none⟩)), (46, .pointer (some ⟨L, lo, none⟩)), (47, .pointer (some ⟨L, lo + 9, none⟩)), (48, .agg #[.int .i64 sa, .int .i64 sb]), (49, .agg (accC u A k c)), (50, .agg (rslC r.k r.s sa sb v oo A50 n50 c50)), (51, .slice (some ⟨g51, 0, none⟩) 1 1)]) w) :
    (Code.region 5 l.toArray true).wp Tryz.prog Q a0 w0 := by
  subst hl
  refine region_head2 (lte5F T0 L lo cur r y z k c A u V sa sb v oo hs) lte5D 11 80 S.size rfl (by kernel_rfl) (by kernel_rfl) (by kernel_rfl) (lte5F_mono _ _ _ _ _ _ _ _ _ _ _ _ _ _ _ _ _) (lte5_ok S) fun a w hB hF h => ?_
  obtain ⟨A50, n50, c50, h50, p50⟩ : rslX r.k r.s sa sb v oo hs z (a.tmps.getD 50 undef) w := h 9 (some 50) (by omega) rfl
  obtain ⟨g51, A51, c51, h51, p51⟩ : litX r.k r.s sa sb v oo hs z (a.tmps.getD 51 undef) w := h 10 (some 51) (by omega) rfl
  have hv : valsAre a [(41, V), (42, .pointer (some ⟨L, lo, none⟩)), (43, .pointer (some ⟨L, lo, none⟩)), (44, .pointer (some ⟨L, lo, none⟩)), (45, .pointer (some ⟨L, lo, none⟩)), (46, .pointer (some ⟨L, lo, none⟩)), (47, .pointer (some ⟨L, lo + 9, none⟩)), (48, .agg #[.int .i64 sa, .int .i64 sb]), (49, .agg (accC u A k c)), (50, .agg (rslC r.k r.s sa sb v oo A50 n50 c50)), (51, .slice (some ⟨g51, 0, none⟩) 1 1)] := by
    refine ⟨?_, ?_, ?_, ?_, ?_, ?_, ?_, ?_, ?_, ?_, ?_, trivial⟩
    · exact h 0 (some 41) (by omega) rfl
    · exact h 1 (some 42) (by omega) rfl
    · exact h 2 (some 43) (by omega) rfl
    · exact h 3 (some 44) (by omega) rfl
    · exact h 4 (some 45) (by omega) rfl
    · exact h 5 (some 46) (by omega) rfl
    · exact h 6 (some 47) (by omega) rfl
    · exact h 7 (some 48) (by omega) rfl
    · exact h 8 (some 49) (by omega) rfl
    · exact h50
    · exact h51
  rw [frame_is hF _ hv (by rfl) (by rfl)]
  exact hend A50 n50 c50 g51 A51 c51 w hB p50 p51
end
end Go.Proofs.YtbpaepkcchpmbaaGreat
