/-
  Sessions in memory: a slice of sessions that reads as a list; whole sessions loaded and stored; rows of parts and of sessions that a call owns.
-/
import Derived.Test.YtgdeaddfkcokpaaG7g
import Derived.Test.YtgdeaddfkcokpaaG7j
import Derived.Maps.AppendAt
namespace Go.Proofs.Ytgdeaddfkcokpaa
open Go.RowKit

/-- A session's value. -/
def sesC (s : Se) (A : Option Addr) (k c : Nat) : Array Value := #[.int .i64 s.f, .int .i64 s.l, .int .i64 s.a.n, .int .i64 s.a.s, .int .i64 s.a.mn, .int .i64 s.a.mx, .int .i64 s.a.f.s, .int .i64 s.a.f.t, .int .i64 s.a.f.q, .int .i64 s.a.f.v, .int .i64 s.a.l.s, .int .i64 s.a.l.t, .int .i64 s.a.l.q, .int .i64 s.a.l.v, .slice A k c]
theorem sesC_one (s : Se) (A : Option Addr) (k c : Nat) : (sesC s A k c).all (·.oneCell') = true := by simp [sesC, Value.oneCell']
theorem sesC_size (s : Se) (A : Option Addr) (k c : Nat) : (sesC s A k c).size = 15 := rfl
theorem sesC_len (s : Se) (A : Option Addr) (k c : Nat) : (sesC s A k c).toList.length = 15 := rfl
@[go_sem] theorem sesC_0 (s : Se) (A : Option Addr) (k c : Nat) : (sesC s A k c)[0]? = some (.int .i64 s.f) := rfl
@[go_sem] theorem sesC_1 (s : Se) (A : Option Addr) (k c : Nat) : (sesC s A k c)[1]? = some (.int .i64 s.l) := rfl
@[go_sem] theorem sesC_2 (s : Se) (A : Option Addr) (k c : Nat) : (sesC s A k c)[2]? = some (.int .i64 s.a.n) := rfl
@[go_sem] theorem sesC_3 (s : Se) (A : Option Addr) (k c : Nat) : (sesC s A k c)[3]? = some (.int .i64 s.a.s) := rfl
@[go_sem] theorem sesC_4 (s : Se) (A : Option Addr) (k c : Nat) : (sesC s A k c)[4]? = some (.int .i64 s.a.mn) := rfl
@[go_sem] theorem sesC_5 (s : Se) (A : Option Addr) (k c : Nat) : (sesC s A k c)[5]? = some (.int .i64 s.a.mx) := rfl
@[go_sem] theorem sesC_6 (s : Se) (A : Option Addr) (k c : Nat) : (sesC s A k c)[6]? = some (.int .i64 s.a.f.s) := rfl
@[go_sem] theorem sesC_7 (s : Se) (A : Option Addr) (k c : Nat) : (sesC s A k c)[7]? = some (.int .i64 s.a.f.t) := rfl
@[go_sem] theorem sesC_8 (s : Se) (A : Option Addr) (k c : Nat) : (sesC s A k c)[8]? = some (.int .i64 s.a.f.q) := rfl
@[go_sem] theorem sesC_9 (s : Se) (A : Option Addr) (k c : Nat) : (sesC s A k c)[9]? = some (.int .i64 s.a.f.v) := rfl
@[go_sem] theorem sesC_10 (s : Se) (A : Option Addr) (k c : Nat) : (sesC s A k c)[10]? = some (.int .i64 s.a.l.s) := rfl
@[go_sem] theorem sesC_11 (s : Se) (A : Option Addr) (k c : Nat) : (sesC s A k c)[11]? = some (.int .i64 s.a.l.t) := rfl
@[go_sem] theorem sesC_12 (s : Se) (A : Option Addr) (k c : Nat) : (sesC s A k c)[12]? = some (.int .i64 s.a.l.q) := rfl
@[go_sem] theorem sesC_13 (s : Se) (A : Option Addr) (k c : Nat) : (sesC s A k c)[13]? = some (.int .i64 s.a.l.v) := rfl
@[go_sem] theorem sesC_14 (s : Se) (A : Option Addr) (k c : Nat) : (sesC s A k c)[14]? = some (.slice A k c) := rfl
theorem sesC_acc (s : Se) (A : Option Addr) (k c j : Nat) : (sesC s A k c)[j + 2]? = (accC s.a A k c)[j]? := by
  simp only [sesC, accC, List.getElem?_toArray, List.getElem?_cons_succ]
theorem Try.sizeSes : (Try.prog.info? 60).map (·.size) = some 15 := by kernel_rfl
def zeroSe : Se := ⟨0, 0, zeroAc⟩
theorem Try.infoSes : (Try.prog.info? 60).map (fun i => (i.zero, i.size, i.bytes)) = some (some (.agg (sesC zeroSe none 0 0)), 15, 136) := by kernel_rfl

/-- At offset o of block b lies a session. -/
def SesAt (w : World) (b o : Nat) (s : Se) (A : Option Addr) (k c : Nat) : Prop := w.rangeAt b o (sesC s A k c).toList ∧ Ints w A k s.a.h ∧ k ≤ c ∧ c ≤ maxLen
/-- The slice value '.slice A n _' reads as the sessions ss. -/
def Sess (w : World) (A : Option Addr) (n : Nat) (ss : List Se) : Prop :=
  ss.length = n ∧ (0 < n → ∃ b o : Nat, A = some ⟨b, o, none⟩ ∧ ∀ i, i < n → ∃ B k c, SesAt w b (o + i * 15) (nthE ss i) B k c)
theorem SesAt.cell {w : World} {b o : Nat} {s : Se} {A : Option Addr} {k c : Nat} (h : SesAt w b o s A k c) : w.cell? ⟨b, o, none⟩ = some (.int .i64 s.f) := h.1 0 _ rfl
theorem SesAt.lt {w : World} {b o : Nat} {s : Se} {A : Option Addr} {k c : Nat} (h : SesAt w b o s A k c) : b < w.heap.size := block_lt_of_cell h.cell
theorem SesAt.at_ {w : World} {b o : Nat} {s : Se} {A : Option Addr} {k c : Nat} (h : SesAt w b o s A k c) (j : Nat) {v : Value} (hv : (sesC s A k c)[j]? = some v) : w.cell? ⟨b, o + j, none⟩ = some v := h.1 j v (by simpa using hv)
theorem SesAt.acc {w : World} {b o : Nat} {s : Se} {A : Option Addr} {k c : Nat} (h : SesAt w b o s A k c) : AccAt w b (o + 2) s.a A k c :=
  ⟨fun j v hv => by
    have := h.at_ (j + 2) (v := v) (by rw [sesC_acc]; simpa using hv)
    rwa [show o + 2 + j = o + (j + 2) by omega], h.2⟩
theorem SesAt.keep {w w' : World} {b o : Nat} {s : Se} {A : Option Addr} {k c : Nat} (h : SesAt w b o s A k c) (hk : ∀ p : Addr, p.block < w.heap.size → w'.cell? p = w.cell? p) : SesAt w' b o s A k c :=
  ⟨fun j v hv => (hk _ h.lt).trans (h.1 j v hv), h.2.1.keep hk, h.2.2⟩
theorem SesAt.below {w w' : World} {b o : Nat} {s : Se} {A : Option Addr} {k c : Nat} (h : SesAt w b o s A k c) (hb : Below w.heap.size w w') : SesAt w' b o s A k c := h.keep fun _ hp => hb.cell hp
theorem Sess.keep {w w' : World} {A : Option Addr} {n : Nat} {ss : List Se} (h : Sess w A n ss) (hk : ∀ p : Addr, p.block < w.heap.size → w'.cell? p = w.cell? p) : Sess w' A n ss :=
  ⟨h.1, fun hn => by
    obtain ⟨b, o, e, hi⟩ := h.2 hn
    exact ⟨b, o, e, fun i hlt => by obtain ⟨B, k, c, hx⟩ := hi i hlt; exact ⟨B, k, c, hx.keep hk⟩⟩⟩
theorem Sess.below {w w' : World} {A : Option Addr} {n : Nat} {ss : List Se} (h : Sess w A n ss) (hb : Below w.heap.size w w') : Sess w' A n ss := h.keep fun _ hp => hb.cell hp
theorem Sess.nil (w : World) (A : Option Addr) : Sess w A 0 [] := ⟨rfl, fun h => absurd h (by omega)⟩
theorem nthE_drop (ss : List Se) (k i : Nat) : nthE (ss.drop k) i = nthE ss (k + i) := by simp [nthE, List.getElem?_drop]
theorem nthE_mem {ss : List Se} {i : Nat} (h : i < ss.length) : nthE ss i ∈ ss := by
  have : nthE ss i = ss[i] := by simp [nthE, h]
  rw [this]; exact List.getElem_mem h
theorem drop_nthE {ss : List Se} {j : Nat} (h : j < ss.length) : ss.drop j = nthE ss j :: ss.drop (j + 1) := by
  rw [List.drop_eq_getElem_cons h]
  simp [nthE, h]
theorem Sess.drop {w : World} {b o : Nat} {n : Nat} {ss : List Se} (h : Sess w (some ⟨b, o, none⟩) n ss) {k : Nat} (hk : k ≤ n) : Sess w (some ⟨b, o + k * 15, none⟩) (n - k) (ss.drop k) := by
  refine ⟨by rw [List.length_drop, h.1], fun hpos => ?_⟩
  obtain ⟨b2, o2, e, hr⟩ := h.2 (by omega)
  injection e with e
  injection e with e1 e2
  subst e1 e2
  refine ⟨b, o + k * 15, rfl, fun i hi => ?_⟩
  rw [nthE_drop, show o + k * 15 + i * 15 = o + (k + i) * 15 by omega]
  exact hr (k + i) (by omega)

/-- A session in a block of its own. -/
theorem has_ses {w : World} {g : Nat} {s : Se} {A : Option Addr} {k c : Nat} (h : Has w g 60 (sesC s A k c)) (hI : Ints w A k s.a.h) (h2 : k ≤ c ∧ c ≤ maxLen) : SesAt w g 0 s A k c :=
  ⟨fun j v hv => by rw [Nat.zero_add, h.cell]; simpa using hv, hI, h2⟩
/-- The load of a whole session out of a row. -/
theorem load_ses {ops : Array Oper} {rest : List Oper} {op : Oper} {a : Act} {w : World} {Q : Exit → Act → World → Prop} (hgd : op.guard = none) (x : Operand) (ho : op.op = .load 60 x)
    (b o : Nat) (hx : a.eval x = .pointer (some ⟨b, o, none⟩)) {s : Se} {A : Option Addr} {k c : Nat} (hc : SesAt w b o s A k c)
    (h : wpList Try.prog ops Q rest (a.put op.dst (.agg (sesC s A k c))) w) : wpList Try.prog ops Q (op :: rest) a w :=
  wpList_load_mid hgd 60 x ho b o hx _ _ hc.1 Try.underlying60 rfl Try.sizeSes (by simpa using h)
/-- The load of a whole session out of a variable. -/
theorem load_hasS {ops : Array Oper} {rest : List Oper} {op : Oper} {a : Act} {w : World} {Q : Exit → Act → World → Prop} (hgd : op.guard = none) (x : Operand) (ho : op.op = .load 60 x)
    (g : Nat) (hx : a.eval x = .pointer (some ⟨g, 0, none⟩)) {s : Se} {A : Option Addr} {k c : Nat} (hc : Has w g 60 (sesC s A k c))
    (h : wpList Try.prog ops Q rest (a.put op.dst (.agg (sesC s A k c))) w) : wpList Try.prog ops Q (op :: rest) a w :=
  wpList_load_row hgd 60 x ho g hx 60 _ (0, 0) _ hc Try.underlying60 rfl Try.sizeSes h
/-- The store of a whole session into a variable that was made last. -/
theorem store_madeS {ops : Array Oper} {rest : List Oper} {op : Oper} {a : Act} {w : World} {Q : Exit → Act → World → Prop} (hgd : op.guard = none) (x y : Operand) (ho : op.op = .store 60 x y)
    {old : Array Value} {s : Se} {A : Option Addr} {k c : Nat} (hx : a.eval x = .pointer (some ⟨w.heap.size, 0, none⟩)) (hy : a.eval y = .agg (sesC s A k c)) (hold : old.size = 15)
    (h : wpList Try.prog ops Q rest (a.put op.dst undef) (w.alloc (.cells (sesC s A k c) 60))) : wpList Try.prog ops Q (op :: rest) a (w.alloc (.cells old 60)) :=
  wpList_store_row hgd 60 x y ho w.heap.size _ hx hy 60 old (Has.made _ _ _) Try.sizeSes hold (sesC_one _ _ _ _) (by rw [World.setRow_alloc_new]; exact h)
/-- The same, of the world nothing said but what the rest needs. -/
theorem store_newS {ops : Array Oper} {rest : List Oper} {op : Oper} {a : Act} {w : World} {Q : Exit → Act → World → Prop} (hgd : op.guard = none) (x y : Operand) (ho : op.op = .store 60 x y)
    {old : Array Value} {s : Se} {A : Option Addr} {k c : Nat} (hx : a.eval x = .pointer (some ⟨w.heap.size, 0, none⟩)) (hy : a.eval y = .agg (sesC s A k c)) (hold : old.size = 15)
    (h : ∀ w', Below w.heap.size w w' → Has w' w.heap.size 60 (sesC s A k c) → wpList Try.prog ops Q rest (a.put op.dst undef) w') : wpList Try.prog ops Q (op :: rest) a (w.alloc (.cells old 60)) :=
  store_madeS hgd x y ho hx hy hold (h _ ((Below.refl _ _).alloc (Nat.le_refl _) _) (Has.made _ _ _))
theorem lit1s_run (s : Se) (A : Option Addr) (k c : Nat) (w : World) :
    (Instr.buildSlice 45 1 #[(0, .agg (sesC s A k c))]).run Try.prog w = .ok (.slice (some ⟨w.heap.size, 0, none⟩) 1 1) (w.alloc (.cells (sesC s A k c) 60)) := by kernel_rfl
/-- '[]Session{s}' in a walk. -/
theorem lit1s {ops : Array Oper} {rest : List Oper} {op : Oper} {p : Act} {w : World} {Q : Exit → Act → World → Prop} (hgd : op.guard = none) (x : Operand) (ho : op.op = .buildSlice 45 1 #[(0, x)])
    {s : Se} {A : Option Addr} {k c : Nat} (hx : p.eval x = .agg (sesC s A k c))
    (h : ∀ w', Below w.heap.size w w' → Has w' w.heap.size 60 (sesC s A k c) → wpList Try.prog ops Q rest (p.put op.dst (.slice (some ⟨w.heap.size, 0, none⟩) 1 1)) w') : wpList Try.prog ops Q (op :: rest) p w :=
  wpList_plain hgd fun _ hK => by
    unfold Oper.wp execOp
    simp only [ho, List.map_toArray, List.map_cons, List.map_nil, hx, Sem.run_bind, lit1s_run, Result.andThen_ok]
    exact hK _ _ (h _ ((Below.refl _ _).alloc (Nat.le_refl _) _) (Has.made _ _ _))

structure Rs where
  s : Se
  A : Option Addr
  k : Nat
  c : Nat
def rowE (rs : List Rs) : List Value := rs.flatMap fun r => (sesC r.s r.A r.k r.c).toList
theorem rowE_len (rs : List Rs) : (rowE rs).length = rs.length * 15 := by
  induction rs with
  | nil => rfl
  | cons p r ih =>
    have e : rowE (p :: r) = (sesC p.s p.A p.k p.c).toList ++ rowE r := rfl
    rw [e, List.length_append, ih, sesC_len, List.length_cons]; omega
theorem rowE_snoc (rs : List Rs) (r : Rs) : rowE (rs ++ [r]) = rowE rs ++ (sesC r.s r.A r.k r.c).toList := by simp [rowE]
theorem rowE_append (rs ts : List Rs) : rowE (rs ++ ts) = rowE rs ++ rowE ts := by simp [rowE]
theorem rowE_at (rs : List Rs) {i j : Nat} (hi : i < rs.length) (hj : j < 15) : (rowE rs)[i * 15 + j]? = (sesC (rs[i]).s (rs[i]).A (rs[i]).k (rs[i]).c).toList[j]? := by
  induction rs generalizing i with
  | nil => simp at hi
  | cons p r ih =>
    have e : rowE (p :: r) = (sesC p.s p.A p.k p.c).toList ++ rowE r := rfl
    rw [e]
    cases i with
    | zero => rw [List.getElem?_append_left (by rw [sesC_len]; omega)]; simp
    | succ i =>
      rw [List.getElem?_append_right (by rw [sesC_len]; omega), sesC_len, show (i + 1) * 15 + j - 15 = i * 15 + j by omega, ih (by simpa using hi)]
      simp

/-- A row of aggregates that the call owns; their buckets lie elsewhere. -/
structure RowP (w : World) (base : Nat) (v : Value) (rs : List Rw) : Prop where
  row : w.ownsRow base 29 13 v rs.length (rowG rs)
  hist : ∀ r, r ∈ rs → Ints w r.A r.k r.a.h ∧ r.k ≤ r.c ∧ r.c ≤ maxLen
  far : ∀ r, r ∈ rs → 0 < r.k → ∀ ad, r.A = some ad → v.ownBlock ≠ some ad.block
theorem RowP.nil (w : World) (base : Nat) : RowP w base (.slice none 0 0) [] := ⟨World.ownsRow_nil _ _ _ _, (fun p hp => by cases hp), (fun p hp => by cases hp)⟩
theorem RowP.below {w w' : World} {base : Nat} {v : Value} {rs : List Rw} (h : RowP w base v rs) (hb : Below w.heap.size w w') : RowP w' base v rs :=
  ⟨h.row.kept (row := none) ⟨hb.os, hb.tape, hb.output, hb.size, fun k hk _ => hb.block k hk⟩ (by
    cases e : v.ownBlock with
    | none => exact .inl rfl
    | some k => exact .inr (by simp)), fun p hp => ⟨(h.hist p hp).1.below hb, (h.hist p hp).2⟩, h.far⟩
theorem RowP.form {w : World} {base : Nat} {v : Value} {rs : List Rw} (h : RowP w base v rs) : ∃ A c, v = .slice A rs.length c ∧ (∀ ad, A = some ad → base ≤ ad.block) := by
  rcases h.row.2 with ⟨e, h0⟩ | ⟨g, cap, cur, e, hg, _⟩
  · exact ⟨none, 0, by rw [e, h0], fun ad h => by cases h⟩
  · exact ⟨some ⟨g, 0, none⟩, cap, e, fun ad h => by injection h with h; subst h; exact hg⟩
theorem RowP.mono {w : World} {base base' : Nat} {v : Value} {rs : List Rw} (h : RowP w base v rs) (hb : base' ≤ base) : RowP w base' v rs := by
  refine ⟨⟨h.row.1, ?_⟩, h.hist, h.far⟩
  rcases h.row.2 with h0 | ⟨g, cap, cur, e, hg, rest⟩
  · exact .inl h0
  · exact .inr ⟨g, cap, cur, e, by omega, rest⟩
theorem RowP.cells {w : World} {base : Nat} {A : Option Addr} {n c : Nat} {rs : List Rw} (h : RowP w base (.slice A n c) rs) (hpos : 0 < n) :
    rs.length = n ∧ ∃ g, A = some ⟨g, 0, none⟩ ∧ base ≤ g ∧ ∀ (i : Nat) (hi : i < rs.length), AccAt w g (i * 13) (rs[i]).a (rs[i]).A (rs[i]).k (rs[i]).c := by
  rcases h.row.2 with ⟨e, h0⟩ | ⟨g, cap, cur, e, hg, hh, hn, hc, hs, ht⟩
  · injection e with e1 e2 e3
    omega
  · injection e with e1 e2 e3
    subst e1; subst e2; subst e3
    refine ⟨rfl, g, rfl, hg, fun i hi => ?_⟩
    have hp : rs[i] ∈ rs := List.getElem_mem hi
    refine ⟨?_, (h.hist _ hp).1, (h.hist _ hp).2⟩
    intro j v hv
    have hj : j < 13 := by have := (List.getElem?_eq_some_iff.1 hv).1; rwa [accC_len] at this
    rw [h.row.cellAt _ (by omega), rowG_at _ hi hj]
    exact hv
theorem RowP.reads {w : World} {base : Nat} {A : Option Addr} {n c : Nat} {rs : List Rw} (h : RowP w base (.slice A n c) rs) : Accs w A n (rs.map (·.a)) := by
  rcases Nat.eq_zero_or_pos n with h0 | hpos
  · subst h0
    rcases h.row.2 with ⟨e, h0⟩ | ⟨g, cap, cur, e, _⟩
    · rw [List.eq_nil_of_length_eq_zero h0]; exact Accs.nil _ _
    · injection e with _ e2 _
      rw [List.eq_nil_of_length_eq_zero e2.symm]; exact Accs.nil _ _
  · obtain ⟨hl, g, e, _, hc⟩ := h.cells hpos
    refine ⟨by simpa using hl, fun _ => ⟨g, 0, e, fun i hi => ?_⟩⟩
    have hi2 : i < rs.length := by omega
    have en : nthA (rs.map (·.a)) i = (rs[i]).a := by simp [nthA, hi2]
    rw [en, Nat.zero_add]
    exact ⟨_, _, _, hc i hi2⟩
theorem RowP.put {w : World} {base : Nat} {v : Value} {rs : List Rw} (h : RowP w base v rs) {r : Rw} {w' : World} {v' : Value} (hI : Ints w r.A r.k r.a.h) (hc : r.k ≤ r.c ∧ r.c ≤ maxLen) (hf : 0 < r.k → ∀ ad, r.A = some ad → v.ownBlock ≠ some ad.block)
    (hrow : w'.ownsRow base 29 13 v' (rs.length + 1) (rowG rs ++ (accC r.a r.A r.k r.c).toList)) (hg : w.grownBy w' v.ownBlock) (ho : v'.ownBlock = v.ownBlock ∨ v'.ownBlock = some w.heap.size) : RowP w' base v' (rs ++ [r]) := by
  have kI : ∀ z : Rw, Ints w z.A z.k z.a.h → (0 < z.k → ∀ ad, z.A = some ad → v.ownBlock ≠ some ad.block) → Ints w' z.A z.k z.a.h ∧ (0 < z.k → ∀ ad, z.A = some ad → v'.ownBlock ≠ some ad.block) := fun z hz hzf => by
    refine ⟨⟨hz.1, fun hk => ?_⟩, fun hk ad hA => ?_⟩
    · obtain ⟨b, o, e, hcell⟩ := hz.2 hk
      refine ⟨b, o, e, fun i hi => ?_⟩
      have hlt : b < w.heap.size := block_lt_of_cell (hcell i hi)
      have hne : some b ≠ v.ownBlock := fun e2 => hzf hk _ e e2.symm
      have hb : w'.heap[b]? = w.heap[b]? := hg.block b hlt hne
      rw [← hcell i hi]
      unfold World.cell?
      rw [hb]
    · obtain ⟨b, o, e, hcell⟩ := hz.2 hk
      have hlt : b < w.heap.size := block_lt_of_cell (hcell 0 hk)
      rw [hA] at e
      injection e with e
      subst e
      rcases ho with ho | ho
      · rw [ho]; exact hzf hk _ hA
      · rw [ho]; intro e3; injection e3 with e3; have : w.heap.size = b := e3; omega
  refine ⟨by rw [rowG_snoc, List.length_append]; exact hrow, fun q hq => ?_, fun q hq => ?_⟩
  · rcases List.mem_append.1 hq with hq | hq
    · exact ⟨(kI q (h.hist q hq).1 (h.far q hq)).1, (h.hist q hq).2⟩
    · obtain rfl : q = r := by simpa using hq
      exact ⟨(kI q hI hf).1, hc⟩
  · rcases List.mem_append.1 hq with hq | hq
    · exact (kI q (h.hist q hq).1 (h.far q hq)).2
    · obtain rfl : q = r := by simpa using hq
      exact (kI q hI hf).2
/-- What 's = append(s, a)' leaves: all old blocks but the row's. -/
structure Grew (w w' : World) (base : Nat) (v v' : Value) : Prop where
  below : Below base w w'
  far : ∀ k, k < w.heap.size → v.ownBlock ≠ some k → w'.heap[k]? = w.heap[k]?
  own : v'.ownBlock = v.ownBlock ∨ v'.ownBlock = some w.heap.size
/-- 's = append(s, a)' in a walk, a laid into a new row of one first. -/
theorem app_rowP {ops : Array Oper} {rest : List Oper} {op : Oper} {p : Act} {w : World} {Q : Exit → Act → World → Prop} (hgd : op.guard = none) (s x : Operand)
    (ho : op.op = .call { callee := .builtin .append, args := #[s, x], argTypes := #[24, 24] })
    {base g : Nat} {v : Value} {rs : List Rw} {r : Rw} (hs : p.eval s = v) (hown : RowP w base v rs) (hx : p.eval x = .slice (some ⟨g, 0, none⟩) 1 1) (hg : Has w g 29 (accC r.a r.A r.k r.c)) (hI : Ints w r.A r.k r.a.h) (hc : r.k ≤ r.c ∧ r.c ≤ maxLen)
    (hf : 0 < r.k → ∀ ad, r.A = some ad → v.ownBlock ≠ some ad.block) (hn : rs.length ≤ 1000000000) (hbase : base ≤ w.heap.size)
    (h : ∀ v' w', RowP w' base v' (rs ++ [r]) → Grew w w' base v v' → wpList Try.prog ops Q rest (p.put op.dst v') w') : wpList Try.prog ops Q (op :: rest) p w := by
  obtain ⟨i0, hi, hz, hs0, hy0⟩ := info_parts Try.infoAcc
  refine wpList_append_own_at w hgd s x 24 ho base 29 i0 _ 13 120 Try.underlying24 hi hz hs0 hy0 rfl (by omega) v rs.length (rowG rs) hs hown.row ⟨g, 0, none⟩ 1 1 (accC r.a r.A r.k r.c).toList hx rfl
    (fun j u hu => ?_) (fun u hu => ?_) (by unfold maxLen; omega) (by omega) hbase (fun v' w' h1 h2 _ h4 => ?_)
  · rw [Addr.add_mid, hg.cell]
    simpa using hu
  · have := accC_one r.a r.A r.k r.c
    rw [Array.all_eq_true_iff_forall_mem] at this
    exact this u (by simpa using hu)
  · refine h v' w' (hown.put hI hc hf h1 h2 h4) ⟨⟨h2.os, h2.tape, h2.output, h2.size, fun k hk => h2.block k (by omega) (fun e => ?_)⟩, fun k hk hne => h2.block k hk (fun e => hne e.symm), h4⟩
    have := hown.row.lt k e.symm
    omega

/-- A row of sessions that the call owns; their buckets lie elsewhere. -/
structure RowE (w : World) (base : Nat) (v : Value) (rs : List Rs) : Prop where
  row : w.ownsRow base 60 15 v rs.length (rowE rs)
  hist : ∀ r, r ∈ rs → Ints w r.A r.k r.s.a.h ∧ r.k ≤ r.c ∧ r.c ≤ maxLen
  far : ∀ r, r ∈ rs → 0 < r.k → ∀ ad, r.A = some ad → v.ownBlock ≠ some ad.block
theorem RowE.nil (w : World) (base : Nat) : RowE w base (.slice none 0 0) [] := ⟨World.ownsRow_nil _ _ _ _, (fun p hp => by cases hp), (fun p hp => by cases hp)⟩
theorem RowE.below {w w' : World} {base : Nat} {v : Value} {rs : List Rs} (h : RowE w base v rs) (hb : Below w.heap.size w w') : RowE w' base v rs :=
  ⟨h.row.kept (row := none) ⟨hb.os, hb.tape, hb.output, hb.size, fun k hk _ => hb.block k hk⟩ (by
    cases e : v.ownBlock with
    | none => exact .inl rfl
    | some k => exact .inr (by simp)), fun p hp => ⟨(h.hist p hp).1.below hb, (h.hist p hp).2⟩, h.far⟩
theorem RowE.form {w : World} {base : Nat} {v : Value} {rs : List Rs} (h : RowE w base v rs) : ∃ A c, v = .slice A rs.length c ∧ (∀ ad, A = some ad → base ≤ ad.block) := by
  rcases h.row.2 with ⟨e, h0⟩ | ⟨g, cap, cur, e, hg, _⟩
  · exact ⟨none, 0, by rw [e, h0], fun ad h => by cases h⟩
  · exact ⟨some ⟨g, 0, none⟩, cap, e, fun ad h => by injection h with h; subst h; exact hg⟩
theorem RowE.mono {w : World} {base base' : Nat} {v : Value} {rs : List Rs} (h : RowE w base v rs) (hb : base' ≤ base) : RowE w base' v rs := by
  refine ⟨⟨h.row.1, ?_⟩, h.hist, h.far⟩
  rcases h.row.2 with h0 | ⟨g, cap, cur, e, hg, rest⟩
  · exact .inl h0
  · exact .inr ⟨g, cap, cur, e, by omega, rest⟩
theorem RowE.cells {w : World} {base : Nat} {A : Option Addr} {n c : Nat} {rs : List Rs} (h : RowE w base (.slice A n c) rs) (hpos : 0 < n) :
    rs.length = n ∧ ∃ g, A = some ⟨g, 0, none⟩ ∧ base ≤ g ∧ ∀ (i : Nat) (hi : i < rs.length), SesAt w g (i * 15) (rs[i]).s (rs[i]).A (rs[i]).k (rs[i]).c := by
  rcases h.row.2 with ⟨e, h0⟩ | ⟨g, cap, cur, e, hg, hh, hn, hc, hs, ht⟩
  · injection e with e1 e2 e3
    omega
  · injection e with e1 e2 e3
    subst e1; subst e2; subst e3
    refine ⟨rfl, g, rfl, hg, fun i hi => ?_⟩
    have hp : rs[i] ∈ rs := List.getElem_mem hi
    refine ⟨?_, (h.hist _ hp).1, (h.hist _ hp).2⟩
    intro j v hv
    have hj : j < 15 := by have := (List.getElem?_eq_some_iff.1 hv).1; rwa [sesC_len] at this
    rw [h.row.cellAt _ (by omega), rowE_at _ hi hj]
    exact hv
theorem RowE.reads {w : World} {base : Nat} {A : Option Addr} {n c : Nat} {rs : List Rs} (h : RowE w base (.slice A n c) rs) : Sess w A n (rs.map (·.s)) := by
  rcases Nat.eq_zero_or_pos n with h0 | hpos
  · subst h0
    rcases h.row.2 with ⟨e, h0⟩ | ⟨g, cap, cur, e, _⟩
    · rw [List.eq_nil_of_length_eq_zero h0]; exact Sess.nil _ _
    · injection e with _ e2 _
      rw [List.eq_nil_of_length_eq_zero e2.symm]; exact Sess.nil _ _
  · obtain ⟨hl, g, e, _, hc⟩ := h.cells hpos
    refine ⟨by simpa using hl, fun _ => ⟨g, 0, e, fun i hi => ?_⟩⟩
    have hi2 : i < rs.length := by omega
    have en : nthE (rs.map (·.s)) i = (rs[i]).s := by simp [nthE, hi2]
    rw [en, Nat.zero_add]
    exact ⟨_, _, _, hc i hi2⟩
theorem RowE.put {w : World} {base : Nat} {v : Value} {rs : List Rs} (h : RowE w base v rs) {r : Rs} {w' : World} {v' : Value} (hI : Ints w r.A r.k r.s.a.h) (hc : r.k ≤ r.c ∧ r.c ≤ maxLen) (hf : 0 < r.k → ∀ ad, r.A = some ad → v.ownBlock ≠ some ad.block)
    (hrow : w'.ownsRow base 60 15 v' (rs.length + 1) (rowE rs ++ (sesC r.s r.A r.k r.c).toList)) (hg : w.grownBy w' v.ownBlock) (ho : v'.ownBlock = v.ownBlock ∨ v'.ownBlock = some w.heap.size) : RowE w' base v' (rs ++ [r]) := by
  have kI : ∀ z : Rs, Ints w z.A z.k z.s.a.h → (0 < z.k → ∀ ad, z.A = some ad → v.ownBlock ≠ some ad.block) → Ints w' z.A z.k z.s.a.h ∧ (0 < z.k → ∀ ad, z.A = some ad → v'.ownBlock ≠ some ad.block) := fun z hz hzf => by
    refine ⟨⟨hz.1, fun hk => ?_⟩, fun hk ad hA => ?_⟩
    · obtain ⟨b, o, e, hcell⟩ := hz.2 hk
      refine ⟨b, o, e, fun i hi => ?_⟩
      have hlt : b < w.heap.size := block_lt_of_cell (hcell i hi)
      have hne : some b ≠ v.ownBlock := fun e2 => hzf hk _ e e2.symm
      have hb : w'.heap[b]? = w.heap[b]? := hg.block b hlt hne
      rw [← hcell i hi]
      unfold World.cell?
      rw [hb]
    · obtain ⟨b, o, e, hcell⟩ := hz.2 hk
      have hlt : b < w.heap.size := block_lt_of_cell (hcell 0 hk)
      rw [hA] at e
      injection e with e
      subst e
      rcases ho with ho | ho
      · rw [ho]; exact hzf hk _ hA
      · rw [ho]; intro e3; injection e3 with e3; have : w.heap.size = b := e3; omega
  refine ⟨by rw [rowE_snoc, List.length_append]; exact hrow, fun q hq => ?_, fun q hq => ?_⟩
  · rcases List.mem_append.1 hq with hq | hq
    · exact ⟨(kI q (h.hist q hq).1 (h.far q hq)).1, (h.hist q hq).2⟩
    · obtain rfl : q = r := by simpa using hq
      exact ⟨(kI q hI hf).1, hc⟩
  · rcases List.mem_append.1 hq with hq | hq
    · exact (kI q (h.hist q hq).1 (h.far q hq)).2
    · obtain rfl : q = r := by simpa using hq
      exact (kI q hI hf).2
/-- 's = append(s, a)' in a walk, a laid into a new row of one first. -/
theorem app_rowE {ops : Array Oper} {rest : List Oper} {op : Oper} {p : Act} {w : World} {Q : Exit → Act → World → Prop} (hgd : op.guard = none) (s x : Operand)
    (ho : op.op = .call { callee := .builtin .append, args := #[s, x], argTypes := #[45, 45] })
    {base g : Nat} {v : Value} {rs : List Rs} {r : Rs} (hs : p.eval s = v) (hown : RowE w base v rs) (hx : p.eval x = .slice (some ⟨g, 0, none⟩) 1 1) (hg : Has w g 60 (sesC r.s r.A r.k r.c)) (hI : Ints w r.A r.k r.s.a.h) (hc : r.k ≤ r.c ∧ r.c ≤ maxLen)
    (hf : 0 < r.k → ∀ ad, r.A = some ad → v.ownBlock ≠ some ad.block) (hn : rs.length ≤ 1000000000) (hbase : base ≤ w.heap.size)
    (h : ∀ v' w', RowE w' base v' (rs ++ [r]) → Grew w w' base v v' → wpList Try.prog ops Q rest (p.put op.dst v') w') : wpList Try.prog ops Q (op :: rest) p w := by
  obtain ⟨i0, hi, hz, hs0, hy0⟩ := info_parts Try.infoSes
  refine wpList_append_own_at w hgd s x 45 ho base 60 i0 _ 15 136 Try.underlying45 hi hz hs0 hy0 rfl (by omega) v rs.length (rowE rs) hs hown.row ⟨g, 0, none⟩ 1 1 (sesC r.s r.A r.k r.c).toList hx rfl
    (fun j u hu => ?_) (fun u hu => ?_) (by unfold maxLen; omega) (by omega) hbase (fun v' w' h1 h2 _ h4 => ?_)
  · rw [Addr.add_mid, hg.cell]
    simpa using hu
  · have := sesC_one r.s r.A r.k r.c
    rw [Array.all_eq_true_iff_forall_mem] at this
    exact this u (by simpa using hu)
  · refine h v' w' (hown.put hI hc hf h1 h2 h4) ⟨⟨h2.os, h2.tape, h2.output, h2.size, fun k hk => h2.block k (by omega) (fun e => ?_)⟩, fun k hk hne => h2.block k hk (fun e => hne e.symm), h4⟩
    have := hown.row.lt k e.symm
    omega

end Go.Proofs.Ytgdeaddfkcokpaa
