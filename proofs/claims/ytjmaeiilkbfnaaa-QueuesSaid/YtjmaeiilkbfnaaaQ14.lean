/-
  The memory of the statement's own queue: a row of aggregates, appends and parts of it; single operations of its drawn regions.
  The drawn regions of the statement's own queue (written by gen/strq.py).
  Walks: the statement's own queue: NewQueue, Total, Push, Pop.
  Walks: Push of the statement's own queue.
  The statement's own queue as a law sees it.
-/
import Derived.Test.YtjmaeiilkbfnaaaQ10
import Derived.Laws.Slices
import Derived.Test.YtjmaeiilkbfnaaaQ11
import Derived.Test.YtjmaeiilkbfnaaaQ12
import Derived.Test.YtjmaeiilkbfnaaaQ7
import Derived.Test.YtjmaeiilkbfnaaaQ13
namespace Go.Proofs.Ytjmaeiilkbfnaaa
open Go.RowKit

abbrev RT : TypeId := 59
def OwnA (w : World) (v : Value) (rs : List Rw) : Prop := w.ownsRow 0 29 13 v rs.length (rowG rs)
section
variable {w w' : World} {v : Value} {A : Option Addr} {b n c : Nat} {rs : List Rw} {r : Rw}
theorem OwnA.nil (w : World) : OwnA w (.slice none 0 0) [] := World.ownsRow_nil _ _ _ _
theorem OwnA.form (h : OwnA w v rs) : ∃ A c, v = .slice A rs.length c ∧ rs.length ≤ c ∧ c ≤ maxLen := by
  rcases h.2 with ⟨e, h0⟩ | ⟨g, cap, cur, e, hg, _, h3, h4, _⟩
  · exact ⟨none, 0, by rw [e, h0], by omega, Nat.zero_le _⟩
  · exact ⟨some ⟨g, 0, none⟩, cap, e, h3, h4⟩
theorem OwnA.same (h : OwnA w v rs) (hk : ∀ k, v.ownBlock = some k → w'.heap[k]? = w.heap[k]?) : OwnA w' v rs := by
  refine ⟨h.1, ?_⟩
  rcases h.2 with h0 | ⟨g, cap, cur, e, hg, hh, r⟩
  · exact .inl h0
  · refine .inr ⟨g, cap, cur, e, hg, ?_, r⟩
    rw [hk g (by rw [e]; rfl)]
    exact hh
theorem OwnA.has (h : OwnA w v rs) {k : Nat} (hk : v.ownBlock = some k) : ∃ cur, Has w k 29 cur := by
  rcases h.2 with ⟨e, h0⟩ | ⟨g, cap, cur, e, hg, hh, _⟩
  · rw [e] at hk; simp [Value.ownBlock] at hk
  · rw [e] at hk
    obtain rfl : g = k := by simpa [Value.ownBlock] using hk
    exact ⟨cur, hh⟩
theorem OwnA.below (h : OwnA w v rs) (hb : Below w.heap.size w w') : OwnA w' v rs := h.same fun k hk => by
  obtain ⟨cur, hh⟩ := h.has hk
  exact hb.block k hh.lt
theorem OwnA.butS {gs : List Nat} (h : OwnA w v rs) (hb : ButS gs w w') (hn : ∀ k, v.ownBlock = some k → k ∉ gs) : OwnA w' v rs := h.same fun k hk => by
  obtain ⟨cur, h2⟩ := h.has hk
  exact hb.other k h2.lt (hn k hk)
theorem OwnA.apart (h : OwnA w v rs) {k : Nat} {t : TypeId} {cs : Array Value} (hh : Has w k t cs) (ht : t ≠ 29) : v.ownBlock ≠ some k := fun e => by
  obtain ⟨cur, h2⟩ := h.has e
  exact has_types hh h2 ht
theorem OwnA.accs (h : OwnA w (.slice A n c) rs) (hh : ∀ r ∈ rs, OwnI w 0 (.slice r.A r.k r.c) r.a.h) : Accs w A n (rs.map (·.a)) := OwnG.accs (base := 0) ⟨h, hh⟩
theorem OwnA.head (h : OwnA w (.slice A n c) (r :: rs)) : ∃ b, A = some ⟨b, 0, none⟩ ∧ n = rs.length + 1 ∧ n ≤ c ∧ c ≤ maxLen ∧ w.rangeAt b 0 (accC r.a r.A r.k r.c).toList ∧ ∀ j u, (rowG rs)[j]? = some u → w.cell? ⟨b, 13 + j, none⟩ = some u := by
  rcases h.2 with ⟨e, h0⟩ | ⟨g, cap, cur, e, hg, hh, hn, hc, hs, ht⟩
  · simp at h0
  · injection e with e1 e2 e3
    subst e1; subst e2; subst e3
    have key : ∀ j u, (rowG (r :: rs))[j]? = some u → w.cell? ⟨g, j, none⟩ = some u := fun j u hu => by
      have hj : j < (r :: rs).length * 13 := by have := (List.getElem?_eq_some_iff.1 hu).1; rwa [rowG_len] at this
      rw [h.cellAt j hj, hu]
    have e : rowG (r :: rs) = (accC r.a r.A r.k r.c).toList ++ rowG rs := rfl
    rw [e] at key
    refine ⟨g, rfl, rfl, hn, hc, fun j u hu => ?_, fun j u hu => ?_⟩
    · rw [Nat.zero_add]
      exact key j u (by rw [List.getElem?_append_left (List.getElem?_eq_some_iff.1 hu).1]; exact hu)
    · refine key (13 + j) u ?_
      rw [List.getElem?_append_right (by rw [accC_len]; omega), accC_len, show 13 + j - 13 = j by omega]
      exact hu
end
set_option maxRecDepth 100000 in
theorem ra_empty (w : World) : OwnA (w.alloc (.cells #[] 29)) (.slice (some ⟨w.heap.size, 0, none⟩) 0 0) [] :=
  ⟨rfl, Or.inr ⟨w.heap.size, 0, #[], rfl, Nat.zero_le _, Has.made w 29 #[], Nat.le_refl _, Nat.zero_le _, rfl, rfl⟩⟩
/-- 's = append(s, a)' of aggregates in a walk: where the new row lies; every block but the old row's stays. -/
theorem app_accW {ops : Array Oper} {rest : List Oper} {op : Oper} {p : Act} {w : World} {Q : Exit → Act → World → Prop} (hgd : op.guard = none) (s x : Operand)
    (ho : op.op = .call { callee := .builtin .append, args := #[s, x], argTypes := #[24, 24] })
    {g : Nat} {v : Value} {rs : List Rw} {r : Rw} (hs : p.eval s = v) (hown : OwnA w v rs) (hx : p.eval x = .slice (some ⟨g, 0, none⟩) 1 1) (hg : Has w g 29 (accC r.a r.A r.k r.c)) (hn : rs.length ≤ 65536)
    (h : ∀ v' w', OwnA w' v' (rs ++ [r]) → w.grownBy w' v.ownBlock → (v'.ownBlock = v.ownBlock ∨ v'.ownBlock = some w.heap.size) → wpList Try.prog ops Q rest (p.put op.dst v') w') : wpList Try.prog ops Q (op :: rest) p w := by
  obtain ⟨i0, hi, hz, hs0, hy0⟩ := info_parts Try.infoAcc
  refine wpList_append_own_at w hgd s x 24 ho 0 29 i0 _ 13 120 Try.underlying24 hi hz hs0 hy0 rfl (by omega) v rs.length (rowG rs) hs hown ⟨g, 0, none⟩ 1 1 (accC r.a r.A r.k r.c).toList hx rfl
    (fun j u hu => ?_) (fun u hu => ?_) (by unfold maxLen; omega) (by omega) (Nat.zero_le _) (fun v' w' h1 h2 _ h4 => ?_)
  · rw [Addr.add_mid, hg.cell]
    simpa using hu
  · have := accC_one r.a r.A r.k r.c
    rw [Array.all_eq_true_iff_forall_mem] at this
    exact this u (by simpa using hu)
  · refine h v' w' ?_ h2 h4
    unfold OwnA
    rw [rowG_snoc, List.length_append]
    exact h1
/-- 's = append(s, xs[1:]...)' of aggregates in a walk, s empty. -/
theorem app_tailA {ops : Array Oper} {rest : List Oper} {op : Oper} {p : Act} {w : World} {Q : Exit → Act → World → Prop} (hgd : op.guard = none) (s x : Operand)
    (ho : op.op = .call { callee := .builtin .append, args := #[s, x], argTypes := #[24, 24] })
    {v : Value} {ad : Addr} {n c : Nat} {rs : List Rw} (hs : p.eval s = v) (hown : OwnA w v []) (hx : p.eval x = .slice (some ad) n c) (hl : rs.length = n) (hg : ∀ j u, (rowG rs)[j]? = some u → w.cell? (ad.add j) = some u) (hn : n ≤ 65536)
    (h : ∀ v' w', OwnA w' v' rs → w.grownBy w' v.ownBlock → (v'.ownBlock = v.ownBlock ∨ v'.ownBlock = some w.heap.size) → wpList Try.prog ops Q rest (p.put op.dst v') w') : wpList Try.prog ops Q (op :: rest) p w := by
  obtain ⟨i0, hi, hz, hs0, hy0⟩ := info_parts Try.infoAcc
  refine wpList_append_own_at w hgd s x 24 ho 0 29 i0 _ 13 120 Try.underlying24 hi hz hs0 hy0 rfl (by omega) v 0 [] hs hown ad n c (rowG rs) hx (by rw [rowG_len, hl])
    hg (fun u hu => ?_) (by unfold maxLen; omega) (by omega) (Nat.zero_le _) (fun v' w' h1 h2 _ h4 => ?_)
  · obtain ⟨r, _, hr⟩ := List.mem_flatMap.1 hu
    have := accC_one r.a r.A r.k r.c
    rw [Array.all_eq_true_iff_forall_mem] at this
    exact this u (by simpa using hr)
  · refine h v' w' ?_ h2 h4
    unfold OwnA
    rw [hl]
    simpa using h1
set_option maxRecDepth 100000 in
theorem size_acE (w : World) : (sizeOf (Try.prog.elem 24)).run Try.prog w = .ok 13 w := by kernel_rfl
set_option maxRecDepth 100000 in
theorem elem_ac : Try.prog.underlying 24 = some (.slice (Try.prog.elem 24)) := by kernel_rfl
/-- 'xs[1:]' of aggregates: where it lies. -/
theorem cut_tailA {ops : Array Oper} {rest : List Oper} {op : Oper} {p : Act} {w : World} {Q : Exit → Act → World → Prop} (hgd : op.guard = none) (x y : Operand) (ho : op.op = .slice 24 x (some y) none none)
    {b n e : Nat} (hx : p.eval x = .slice (some ⟨b, 0, none⟩) (n + 1) e) (hy : p.eval y = .int .i64 1) (hn : n + 1 ≤ e)
    (h : ∀ ad : Addr, (0 < n → ad = ⟨b, 13, none⟩) → wpList Try.prog ops Q rest (p.put op.dst (.slice (some ad) n (e - 1))) w) : wpList Try.prog ops Q (op :: rest) p w :=
  wpList_plain hgd fun _ hK => by
    have hs : (Instr.sliceAt 24 (.slice (some ⟨b, 0, none⟩) (n + 1) e) (some (.int .i64 1)) none none).run Try.prog w = .ok (.slice (if e = 1 then some ⟨b, 0, none⟩ else some ⟨b, 13, none⟩) n (e - 1)) w := by
      have h1 := run_slice_l w 24 (some (⟨b, 0, none⟩ : Addr)) (n + 1) e elem_ac .i64 ((1 : Nat) : Int) (by omega) (by omega)
      rw [run_sliceAt_slice w _ _ _ _ _ elem_ac, show (1 : Int) = ((1 : Nat) : Int) from rfl, h1, size_acE]
      simp only [Result.andThen_ok, sliced, Int.toNat_natCast]
      by_cases he : e = 1
      · subst he; simp
      · simp [he, Addr.add]
    unfold Oper.wp execOp
    simp only [ho, Option.map_some, Option.map_none, hx, hy, Sem.run_bind, hs, Result.andThen_ok]
    by_cases he : e = 1
    · rw [if_pos he]
      exact hK _ _ (h _ (fun h0 => by omega))
    · rw [if_neg he]
      exact hK _ _ (h _ (fun _ => rfl))

/-! Facts of the drawn regions. -/
def accI (V : Ac) : Fact := fun v w => ∃ A n c, v = .agg (accC V A n c) ∧ AccIn w 0 V A n c
theorem accI_mono (V : Ac) : Mono (accI V) := fun _ _ _ hb ⟨A, n, c, he, h⟩ => ⟨A, n, c, he, h.below hb⟩
def tupI (V : Ac) : Fact := fun v w => ∃ A n c, v = .tuple #[.agg (accC V A n c), .int .i64 0] ∧ AccIn w 0 V A n c
theorem tupI_mono (V : Ac) : Mono (tupI V) := fun _ _ _ hb ⟨A, n, c, he, h⟩ => ⟨A, n, c, he, h.below hb⟩
def accO (z : Nat) (V : Ac) : Fact := fun v w => ∃ A n c, v = .agg (accC V A n c) ∧ OwnI w z (.slice A n c) V.h
theorem accO_mono (z : Nat) (V : Ac) : Mono (accO z V) := fun _ _ _ hb ⟨A, n, c, he, h⟩ => ⟨A, n, c, he, h.below hb⟩
def row1O (z : Nat) (V : Ac) : Fact := fun v w => ∃ e A n c, v = .slice (some ⟨e, 0, none⟩) 1 1 ∧ Has w e 29 (accC V A n c) ∧ OwnI w z (.slice A n c) V.h
theorem row1O_mono (z : Nat) (V : Ac) : Mono (row1O z V) := fun _ _ _ hb ⟨e, A, n, c, he, h1, h⟩ => ⟨e, A, n, c, he, h1.below hb h1.lt, h.below hb⟩
/-- The call hands out this aggregate with code 0, told of its buckets. -/
def OutI (V : Ac) (w : World) (e : Ending) (w' : World) : Prop := ∃ A n c, e = .returned (.tuple #[accV V A n c, .int .i64 0]) ∧ AccIn w' 0 V A n c ∧ Below w.heap.size w w'
/-- The same, alone. -/
def OutJ (V : Ac) (w : World) (e : Ending) (w' : World) : Prop := ∃ A n c, e = .returned (accV V A n c) ∧ AccIn w' 0 V A n c ∧ Below w.heap.size w w'
theorem run_ldA {g k : Nat} {A : Option Addr} {m c : Nat} {w : World} (h : w.cell? ⟨g, k, none⟩ = some (.slice A m c)) : (Instr.loadAt 24 (.pointer (some ⟨g, k, none⟩))).run Try.prog w = .ok (.slice A m c) w := by simp [go_sem, h, Instr.loadAt]
section
variable {D : List (Option Tmp)} {Φ : Fact} {o : Oper} {a : Act} {w : World}
set_option maxRecDepth 100000 in
theorem run_oneA (V : Ac) (A : Option Addr) (k c : Nat) (w : World) : (Instr.buildSlice 24 1 #[(0, .agg (accC V A k c))]).run Try.prog w = .ok (.slice (some ⟨w.heap.size, 0, none⟩) 1 1) (w.alloc (.cells (accC V A k c) 29)) := by kernel_rfl
theorem rf_oneO (hw : Region.wanted o (yieldD D a.tmps) = true) {t : Tmp} (hd : o.dst = some t) (x : Operand) (ho : o.op = .buildSlice 24 1 #[(0, x)]) (z : Nat) (V : Ac) (A : Option Addr) (k c : Nat) (hx : a.eval x = .agg (accC V A k c)) (hV : OwnI w z (.slice A k c) V.h) (h : ∀ v w', row1O z V v w' → Φ v w') : StepD Try.prog D Φ o a w := by
  have hb : Below w.heap.size w (w.alloc (.cells (accC V A k c) 29)) := (Below.refl _ w).alloc (Nat.le_refl _) _
  refine step_val hw hd (.slice (some ⟨w.heap.size, 0, none⟩) 1 1) (w.alloc (.cells (accC V A k c) 29)) ?_ hb (h _ _ ⟨_, A, k, c, rfl, Has.made _ _ _, hV.below hb⟩)
  unfold execOp
  rw [ho]
  generalize a.eval = ev at hx ⊢
  simp only [List.map_toArray, List.map_cons, List.map_nil, hx, Sem.run_bind, run_oneA, Result.andThen_ok]
  rfl
end

end Go.Proofs.Ytjmaeiilkbfnaaa

namespace Go.Proofs.Ytjmaeiilkbfnaaa
open Go.RowKit

def rtt1D : List (Option Tmp) := [some 6, some 7, some 8, some 9, some 10, some 11, some 12, some 13, some 14, some 5, some 15, some 16, some 3, none, some 4]
def rtt1F (g m d ln lc z : Nat) (bA LA : Option Addr) (V : Ac) : List Fact := [isV (.pointer (some ⟨g, 0, none⟩)), isV (.pointer (some ⟨g, 0, none⟩)), isV (.pointer (some ⟨g, 0, none⟩)), isV (.slice bA m d), isV (.pointer (some ⟨g, 0, none⟩)), isV (.pointer (some ⟨g, 0, none⟩)), isV (.pointer (some ⟨g, 1, none⟩)), isV (.slice LA ln lc), tupI V, tupI V, accI V, isV (.int .i64 0), newA z]
theorem rtt1F_mono (g m d ln lc z : Nat) (bA LA : Option Addr) (V : Ac) : ∀ φ ∈ rtt1F g m d ln lc z bA LA V, Mono φ := by
  unfold rtt1F
  refine monos_cons (mono_isV _) ?_
  refine monos_cons (mono_isV _) ?_
  refine monos_cons (mono_isV _) ?_
  refine monos_cons (mono_isV _) ?_
  refine monos_cons (mono_isV _) ?_
  refine monos_cons (mono_isV _) ?_
  refine monos_cons (mono_isV _) ?_
  refine monos_cons (mono_isV _) ?_
  refine monos_cons (tupI_mono _) ?_
  refine monos_cons (tupI_mono _) ?_
  refine monos_cons (accI_mono _) ?_
  refine monos_cons (mono_isV _) ?_
  refine monos_cons (newA_mono _) ?_
  exact monos_nil
structure rtt1S (g m d ln lc z : Nat) (bA LA : Option Addr) (V : Ac) (a0 : Act) (w0 : World) : Prop where
  size : a0.tmps.size = 18
  v0 : a0.tmps.getD 0 undef = .pointer (some ⟨g, 0, none⟩)
  st : Has w0 g 59 #[.slice bA m d, .slice LA ln lc]
  ez : z ≤ w0.heap.size
  cj : ∀ w, Below w0.heap.size w0 w → Calls Try.prog 12 #[.slice bA m d, .slice LA ln lc] w (OutI V w)
section
variable {g m d ln lc z : Nat} {bA LA : Option Addr} {V : Ac} {a0 : Act} {w0 : World} (S : rtt1S g m d ln lc z bA LA V a0 w0)
include S
set_option maxRecDepth 100000 in
set_option maxHeartbeats 8000000 in
theorem rtt1_ok : AllOps (fun j o => ∀ (a : Act) (w : World), Below w0.heap.size w0 w → FrD (rtt1D.take 13) a0 a → needs rtt1D (rtt1F g m d ln lc z bA LA V) a w o.after.toList → StepD Try.prog rtt1D (factAt (rtt1F g m d ln lc z bA LA V) j) o a w) 0 ((opsOf 1 Try.f30).take 13) := by
  simp only [opsOf, Try.f30, opsAt, Option.bind, Option.or, Option.getD, reduceCtorEq, if_true, if_false, List.take_succ_cons, List.take_zero]
  refine ⟨?_, ?_⟩
  · intro _a _w _hB hF _hd
    exact step_move (guard_none rfl) rfl _ rfl ((hF.other 0 rfl).trans S.v0)
  refine ⟨?_, ?_⟩
  · intro a _w _hB _hF hd
    have h6 : a.tmps.getD 6 undef = .pointer (some ⟨g, 0, none⟩) := hd.1 rfl
    exact rf_nilck (guard_none rfl) rfl _ rfl _ h6 rfl
  refine ⟨?_, ?_⟩
  · intro a _w _hB _hF hd
    have h7 : a.tmps.getD 7 undef = .pointer (some ⟨g, 0, none⟩) := hd.1 rfl
    exact rf_faddr (guard_none rfl) rfl _ _ _ rfl _ _ 0 _ h7 (by omega) (fun _ _ => by kernel_rfl) rfl
  refine ⟨?_, ?_⟩
  · intro a _w hB _hF hd
    have h8 : a.tmps.getD 8 undef = .pointer (some ⟨g, 0, none⟩) := hd.1 rfl
    exact rf_load1 (guard_none rfl) rfl _ _ rfl _ _ h8 (run_ldN ((Has.cell (S.st.below hB S.st.lt) 0).trans rfl)) rfl
  refine ⟨?_, ?_⟩
  · intro _a _w _hB hF _hd
    exact step_move (guard_none rfl) rfl _ rfl ((hF.other 0 rfl).trans S.v0)
  refine ⟨?_, ?_⟩
  · intro a _w _hB _hF hd
    have h10 : a.tmps.getD 10 undef = .pointer (some ⟨g, 0, none⟩) := hd.1 rfl
    exact rf_nilck (guard_none rfl) rfl _ rfl _ h10 rfl
  refine ⟨?_, ?_⟩
  · intro a _w _hB _hF hd
    have h11 : a.tmps.getD 11 undef = .pointer (some ⟨g, 0, none⟩) := hd.1 rfl
    exact rf_faddr (guard_none rfl) rfl _ _ _ rfl _ _ 1 _ h11 (by omega) (fun _ _ => by kernel_rfl) rfl
  refine ⟨?_, ?_⟩
  · intro a _w hB _hF hd
    have h12 : a.tmps.getD 12 undef = .pointer (some ⟨g, 1, none⟩) := hd.1 rfl
    exact rf_load1 (guard_none rfl) rfl _ _ rfl _ _ h12 (run_ldA ((Has.cell (S.st.below hB S.st.lt) 1).trans rfl)) rfl
  refine ⟨?_, ?_⟩
  · intro a w hB _hF hd
    have h9 : a.tmps.getD 9 undef = .slice bA m d := hd.1 rfl
    have h13 : a.tmps.getD 13 undef = .slice LA ln lc := hd.2.1 rfl
    refine step_call (guard_none rfl) rfl _ _ (rf_call_run Try.func12 (by kernel_rfl) (by kernel_rfl) _ _ rfl) ?_
    simp only [List.map_toArray, List.map_cons, List.map_nil, Act.eval, h9, h13]
    exact (S.cj w hB).mono (by rintro e w1 ⟨A, n, c, rfl, hh, hb⟩; exact ⟨_, rfl, hb, A, n, c, rfl, hh⟩)
  refine ⟨?_, ?_⟩
  · intro a w _hB _hF hd
    obtain ⟨A14, n14, c14, h14, p14⟩ : tupI V (a.tmps.getD 14 undef) w := hd.1 rfl
    exact step_move (guard_none rfl) rfl _ rfl ⟨A14, n14, c14, h14, p14⟩
  refine ⟨?_, ?_⟩
  · intro a w _hB _hF hd
    obtain ⟨A5, n5, c5, h5, p5⟩ : tupI V (a.tmps.getD 5 undef) w := hd.1 rfl
    exact rf_extract (guard_none rfl) rfl _ 0 rfl _ _ h5 rfl ⟨A5, n5, c5, rfl, p5⟩
  refine ⟨?_, ?_⟩
  · intro a w _hB _hF hd
    obtain ⟨A5, n5, c5, h5, p5⟩ : tupI V (a.tmps.getD 5 undef) w := hd.1 rfl
    exact rf_extract (guard_none rfl) rfl _ 1 rfl _ _ h5 rfl rfl
  refine ⟨?_, ?_⟩
  · intro _a _w hB _hF _hd
    exact rf_newA (guard_none rfl) rfl rfl (Nat.le_trans S.ez hB.size) (fun _ _ h => h)
  trivial
theorem rtt1_any {Q : Exit → Act → World → Prop} {l : List Oper} (hl : opsOf 1 Try.f30 = l) (hend : ∀ (A14 : Option Addr) (n14 : Nat) (c14 : Nat), ∀ (A5 : Option Addr) (n5 : Nat) (c5 : Nat), ∀ (A15 : Option Addr) (n15 : Nat) (c15 : Nat), ∀ (y3 : Nat), ∀ w : World, Below w0.heap.size w0 w → AccIn w 0 V A14 n14 c14 → AccIn w 0 V A5 n5 c5 → AccIn w 0 V A15 n15 c15 → Has w y3 29 (accC zeroAc none 0 0) ∧ z ≤ y3 → wpList Try.prog l.toArray Q (l.drop 13) (putAll a0 [(6, .pointer (some ⟨g, 0, none⟩)), (7, .pointer (some ⟨g, 0, none⟩)), (8, .pointer (some ⟨g, 0, none⟩)), (9, .slice bA m d), (10, .pointer (some ⟨g, 0, none⟩)), (11, .pointer (some ⟨g, 0, none⟩)), (12, .pointer (some ⟨g, 1, none⟩)), (13, .slice LA ln lc), (14, .tuple #[.agg (accC V A14 n14 c14), .int .i64 0]), (5, .tuple #[.agg (accC V A5 n5 c5), .int .i64 0]), (15, .agg (accC V A15 n15 c15)), (16, .int .i64 0), (3, .pointer (some ⟨y3, 0, none⟩))]) w)
    (hendQ : ∀ (A14 : Option Addr) (n14 : Nat) (c14 : Nat), ∀ (A5 : Option Addr) (n5 : Nat) (c5 : Nat), ∀ (A15 : Option Addr) (n15 : Nat) (c15 : Nat), ∀ (y3 : Nat), ∀ w : World, Below w0.heap.size w0 w → AccIn w 0 V A14 n14 c14 → AccIn w 0 V A5 n5 c5 → AccIn w 0 V A15 n15 c15 → Has w y3 29 (accC zeroAc none 0 0) ∧ z ≤ y3 → wpList Try.prog l.toArray Q (pickL l [13, 11, 14]) (putAll a0 [(6, .pointer (some ⟨g, 0, none⟩)), (7, .pointer (some ⟨g, 0, none⟩)), (8, .pointer (some ⟨g, 0, none⟩)), (9, .slice bA m d), (10, .pointer (some ⟨g, 0, none⟩)), (11, .pointer (some ⟨g, 0, none⟩)), (12, .pointer (some ⟨g, 1, none⟩)), (13, .slice LA ln lc), (14, .tuple #[.agg (accC V A14 n14 c14), .int .i64 0]), (5, .tuple #[.agg (accC V A5 n5 c5), .int .i64 0]), (15, .agg (accC V A15 n15 c15)), (16, a0.tmps.getD 16 undef), (3, .pointer (some ⟨y3, 0, none⟩))]) w) :
    (Code.region 1 l.toArray true).wp Try.prog Q a0 w0 := by
  subst hl
  refine region_head3 (rtt1F g m d ln lc z bA LA V) rtt1D 13 18 11 [11, 14] S.size rfl (by kernel_rfl) (by kernel_rfl) (by kernel_rfl) (rtt1F_mono _ _ _ _ _ _ _ _ _) (rtt1_ok S) ?_ ?_
  · intro a w hB hF h
    obtain ⟨A14, n14, c14, h14, p14⟩ : tupI V (a.tmps.getD 14 undef) w := h 8 (some 14) (by omega) rfl
    obtain ⟨A5, n5, c5, h5, p5⟩ : tupI V (a.tmps.getD 5 undef) w := h 9 (some 5) (by omega) rfl
    obtain ⟨A15, n15, c15, h15, p15⟩ : accI V (a.tmps.getD 15 undef) w := h 10 (some 15) (by omega) rfl
    obtain ⟨y3, h3, p3⟩ : newA z (a.tmps.getD 3 undef) w := h 12 (some 3) (by omega) rfl
    have hv : valsAre a [(6, .pointer (some ⟨g, 0, none⟩)), (7, .pointer (some ⟨g, 0, none⟩)), (8, .pointer (some ⟨g, 0, none⟩)), (9, .slice bA m d), (10, .pointer (some ⟨g, 0, none⟩)), (11, .pointer (some ⟨g, 0, none⟩)), (12, .pointer (some ⟨g, 1, none⟩)), (13, .slice LA ln lc), (14, .tuple #[.agg (accC V A14 n14 c14), .int .i64 0]), (5, .tuple #[.agg (accC V A5 n5 c5), .int .i64 0]), (15, .agg (accC V A15 n15 c15)), (16, .int .i64 0), (3, .pointer (some ⟨y3, 0, none⟩))] := by
      refine ⟨?_, ?_, ?_, ?_, ?_, ?_, ?_, ?_, ?_, ?_, ?_, ?_, ?_, trivial⟩
      · exact h 0 (some 6) (by omega) rfl
      · exact h 1 (some 7) (by omega) rfl
      · exact h 2 (some 8) (by omega) rfl
      · exact h 3 (some 9) (by omega) rfl
      · exact h 4 (some 10) (by omega) rfl
      · exact h 5 (some 11) (by omega) rfl
      · exact h 6 (some 12) (by omega) rfl
      · exact h 7 (some 13) (by omega) rfl
      · exact h14
      · exact h5
      · exact h15
      · exact h 11 (some 16) (by omega) rfl
      · exact h3
    rw [frame_is hF _ hv (by rfl) (by rfl)]
    exact hend A14 n14 c14 A5 n5 c5 A15 n15 c15 y3 w hB p14 p5 p15 p3
  · intro a w hB hF h hq
    obtain ⟨A14, n14, c14, h14, p14⟩ : tupI V (a.tmps.getD 14 undef) w := h 8 (some 14) (by omega) (by omega) rfl
    obtain ⟨A5, n5, c5, h5, p5⟩ : tupI V (a.tmps.getD 5 undef) w := h 9 (some 5) (by omega) (by omega) rfl
    obtain ⟨A15, n15, c15, h15, p15⟩ : accI V (a.tmps.getD 15 undef) w := h 10 (some 15) (by omega) (by omega) rfl
    obtain ⟨y3, h3, p3⟩ : newA z (a.tmps.getD 3 undef) w := h 12 (some 3) (by omega) (by omega) rfl
    have hv : valsAre a [(6, .pointer (some ⟨g, 0, none⟩)), (7, .pointer (some ⟨g, 0, none⟩)), (8, .pointer (some ⟨g, 0, none⟩)), (9, .slice bA m d), (10, .pointer (some ⟨g, 0, none⟩)), (11, .pointer (some ⟨g, 0, none⟩)), (12, .pointer (some ⟨g, 1, none⟩)), (13, .slice LA ln lc), (14, .tuple #[.agg (accC V A14 n14 c14), .int .i64 0]), (5, .tuple #[.agg (accC V A5 n5 c5), .int .i64 0]), (15, .agg (accC V A15 n15 c15)), (16, a0.tmps.getD 16 undef), (3, .pointer (some ⟨y3, 0, none⟩))] := by
      refine ⟨?_, ?_, ?_, ?_, ?_, ?_, ?_, ?_, ?_, ?_, ?_, ?_, ?_, trivial⟩
      · exact h 0 (some 6) (by omega) (by omega) rfl
      · exact h 1 (some 7) (by omega) (by omega) rfl
      · exact h 2 (some 8) (by omega) (by omega) rfl
      · exact h 3 (some 9) (by omega) (by omega) rfl
      · exact h 4 (some 10) (by omega) (by omega) rfl
      · exact h 5 (some 11) (by omega) (by omega) rfl
      · exact h 6 (some 12) (by omega) (by omega) rfl
      · exact h 7 (some 13) (by omega) (by omega) rfl
      · exact h14
      · exact h5
      · exact h15
      · exact hq (some 16) rfl
      · exact h3
    rw [frame_is hF _ hv (by rfl) (by rfl)]
    exact hendQ A14 n14 c14 A5 n5 c5 A15 n15 c15 y3 w hB p14 p5 p15 p3
end

def rtp1D : List (Option Tmp) := [some 8, some 9, some 10, some 11, some 12, some 13, some 14, some 15, some 16, some 7, some 17, some 18, some 5, none, some 6]
def rtp1F (g m d _ln _lc z : Nat) (bA _LA : Option Addr) (k c _x : Nat) (A : Option Addr) (T u U : Ac) (code : Int) : List Fact := [isV (.pointer (some ⟨g, 0, none⟩)), isV (.pointer (some ⟨g, 0, none⟩)), isV (.pointer (some ⟨g, 0, none⟩)), isV (.slice bA m d), isV (.pointer (some ⟨g, 0, none⟩)), accI T, isV (.agg (accC u A k c)), row2A T u, tupX U code, tupX U code, accX U, isV (.int .i64 code), newA z]
theorem rtp1F_mono (g m d ln lc z : Nat) (bA LA : Option Addr) (k c x : Nat) (A : Option Addr) (T u U : Ac) (code : Int) : ∀ φ ∈ rtp1F g m d ln lc z bA LA k c x A T u U code, Mono φ := by
  unfold rtp1F
  refine monos_cons (mono_isV _) ?_
  refine monos_cons (mono_isV _) ?_
  refine monos_cons (mono_isV _) ?_
  refine monos_cons (mono_isV _) ?_
  refine monos_cons (mono_isV _) ?_
  refine monos_cons (accI_mono _) ?_
  refine monos_cons (mono_isV _) ?_
  refine monos_cons (row2A_mono _ _) ?_
  refine monos_cons (tupX_mono _ _) ?_
  refine monos_cons (tupX_mono _ _) ?_
  refine monos_cons (accX_mono _) ?_
  refine monos_cons (mono_isV _) ?_
  refine monos_cons (newA_mono _) ?_
  exact monos_nil
structure rtp1S (g m d ln lc z : Nat) (bA LA : Option Addr) (k c x : Nat) (A : Option Addr) (T u U : Ac) (code : Int) (a0 : Act) (w0 : World) : Prop where
  size : a0.tmps.size = 32
  v0 : a0.tmps.getD 0 undef = .pointer (some ⟨g, 0, none⟩)
  v3 : a0.tmps.getD 3 undef = .pointer (some ⟨x, 0, none⟩)
  st : Has w0 g 59 #[.slice bA m d, .slice LA ln lc]
  ez : z ≤ w0.heap.size
  bx : Has w0 x 29 (accC u A k c)
  bu : Ints w0 A k u.h
  kc : k ≤ c
  cm : c ≤ maxLen
  ct : ∀ w, Below w0.heap.size w0 w → Calls Try.prog 30 #[.pointer (some ⟨g, 0, none⟩)] w (OutJ T w)
  cj : ∀ (w : World) (e : Nat), Below w0.heap.size w0 w → Accs w (some ⟨e, 0, none⟩) 2 [T, u] → Calls Try.prog 12 #[.slice bA m d, .slice (some ⟨e, 0, none⟩) 2 2] w (OutX U code w)
section
variable {g m d ln lc z : Nat} {bA LA : Option Addr} {k c x : Nat} {A : Option Addr} {T u U : Ac} {code : Int} {a0 : Act} {w0 : World} (S : rtp1S g m d ln lc z bA LA k c x A T u U code a0 w0)
include S
set_option maxRecDepth 100000 in
set_option maxHeartbeats 8000000 in
theorem rtp1_ok : AllOps (fun j o => ∀ (a : Act) (w : World), Below w0.heap.size w0 w → FrD (rtp1D.take 13) a0 a → needs rtp1D (rtp1F g m d ln lc z bA LA k c x A T u U code) a w o.after.toList → StepD Try.prog rtp1D (factAt (rtp1F g m d ln lc z bA LA k c x A T u U code) j) o a w) 0 ((opsOf 1 Try.f28).take 13) := by
  simp only [opsOf, Try.f28, opsAt, Option.bind, Option.or, Option.getD, reduceCtorEq, if_true, if_false, List.take_succ_cons, List.take_zero]
  refine ⟨?_, ?_⟩
  · intro _a _w _hB hF _hd
    exact step_move (guard_none rfl) rfl _ rfl ((hF.other 0 rfl).trans S.v0)
  refine ⟨?_, ?_⟩
  · intro a _w _hB _hF hd
    have h8 : a.tmps.getD 8 undef = .pointer (some ⟨g, 0, none⟩) := hd.1 rfl
    exact rf_nilck (guard_none rfl) rfl _ rfl _ h8 rfl
  refine ⟨?_, ?_⟩
  · intro a _w _hB _hF hd
    have h9 : a.tmps.getD 9 undef = .pointer (some ⟨g, 0, none⟩) := hd.1 rfl
    exact rf_faddr (guard_none rfl) rfl _ _ _ rfl _ _ 0 _ h9 (by omega) (fun _ _ => by kernel_rfl) rfl
  refine ⟨?_, ?_⟩
  · intro a _w hB _hF hd
    have h10 : a.tmps.getD 10 undef = .pointer (some ⟨g, 0, none⟩) := hd.1 rfl
    exact rf_load1 (guard_none rfl) rfl _ _ rfl _ _ h10 (run_ldN ((Has.cell (S.st.below hB S.st.lt) 0).trans rfl)) rfl
  refine ⟨?_, ?_⟩
  · intro _a _w _hB hF _hd
    exact step_move (guard_none rfl) rfl _ rfl ((hF.other 0 rfl).trans S.v0)
  refine ⟨?_, ?_⟩
  · intro a w hB _hF hd
    have h12 : a.tmps.getD 12 undef = .pointer (some ⟨g, 0, none⟩) := hd.1 rfl
    refine step_call (guard_none rfl) rfl _ _ (rf_call_run Try.func30 (by kernel_rfl) (by kernel_rfl) _ _ rfl) ?_
    simp only [List.map_toArray, List.map_cons, List.map_nil, Act.eval, h12]
    exact (S.ct w hB).mono (by rintro e w1 ⟨A, n, c, rfl, hh, hb⟩; exact ⟨_, rfl, hb, A, n, c, rfl, hh⟩)
  refine ⟨?_, ?_⟩
  · intro _a _w hB hF _hd
    exact rf_loadA (guard_none rfl) rfl _ rfl x ((hF.other 3 rfl).trans S.v3) (S.bx.below hB S.bx.lt) rfl
  refine ⟨?_, ?_⟩
  · intro a w hB _hF hd
    obtain ⟨A13, n13, c13, h13, p13⟩ : accI T (a.tmps.getD 13 undef) w := hd.1 rfl
    have h14 : a.tmps.getD 14 undef = .agg (accC u A k c) := hd.2.1 rfl
    exact rf_twoG (guard_none rfl) rfl _ _ rfl T u _ _ _ _ k c h13 h14 p13.hist (S.bu.below hB) p13.cap p13.most S.kc S.cm (fun _ _ h => h)
  refine ⟨?_, ?_⟩
  · intro a w hB _hF hd
    have h11 : a.tmps.getD 11 undef = .slice bA m d := hd.1 rfl
    obtain ⟨e15, h15, p15⟩ : row2A T u (a.tmps.getD 15 undef) w := hd.2.1 rfl
    refine step_call (guard_none rfl) rfl _ _ (rf_call_run Try.func12 (by kernel_rfl) (by kernel_rfl) _ _ rfl) ?_
    simp only [List.map_toArray, List.map_cons, List.map_nil, Act.eval, h11, h15]
    exact (S.cj w e15 hB p15).mono (by rintro e w1 ⟨A, n, c, rfl, hb⟩; exact ⟨_, rfl, hb, A, n, c, rfl, trivial⟩)
  refine ⟨?_, ?_⟩
  · intro a w _hB _hF hd
    obtain ⟨A16, n16, c16, h16, p16⟩ : tupX U code (a.tmps.getD 16 undef) w := hd.1 rfl
    exact step_move (guard_none rfl) rfl _ rfl ⟨A16, n16, c16, h16, p16⟩
  refine ⟨?_, ?_⟩
  · intro a w _hB _hF hd
    obtain ⟨A7, n7, c7, h7, p7⟩ : tupX U code (a.tmps.getD 7 undef) w := hd.1 rfl
    exact rf_extract (guard_none rfl) rfl _ 0 rfl _ _ h7 rfl ⟨A7, n7, c7, rfl, p7⟩
  refine ⟨?_, ?_⟩
  · intro a w _hB _hF hd
    obtain ⟨A7, n7, c7, h7, p7⟩ : tupX U code (a.tmps.getD 7 undef) w := hd.1 rfl
    exact rf_extract (guard_none rfl) rfl _ 1 rfl _ _ h7 rfl rfl
  refine ⟨?_, ?_⟩
  · intro _a _w hB _hF _hd
    exact rf_newA (guard_none rfl) rfl rfl (Nat.le_trans S.ez hB.size) (fun _ _ h => h)
  trivial
theorem rtp1_any {Q : Exit → Act → World → Prop} {l : List Oper} (hl : opsOf 1 Try.f28 = l) (hend : ∀ (A13 : Option Addr) (n13 : Nat) (c13 : Nat), ∀ (e15 : Nat), ∀ (A16 : Option Addr) (n16 : Nat) (c16 : Nat), ∀ (A7 : Option Addr) (n7 : Nat) (c7 : Nat), ∀ (A17 : Option Addr) (n17 : Nat) (c17 : Nat), ∀ (y5 : Nat), ∀ w : World, Below w0.heap.size w0 w → AccIn w 0 T A13 n13 c13 → Accs w (some ⟨e15, 0, none⟩) 2 [T, u] → True → True → True → Has w y5 29 (accC zeroAc none 0 0) ∧ z ≤ y5 → wpList Try.prog l.toArray Q (l.drop 13) (putAll a0 [(8, .pointer (some ⟨g, 0, none⟩)), (9, .pointer (some ⟨g, 0, none⟩)), (10, .pointer (some ⟨g, 0, none⟩)), (11, .slice bA m d), (12, .pointer (some ⟨g, 0, none⟩)), (13, .agg (accC T A13 n13 c13)), (14, .agg (accC u A k c)), (15, .slice (some ⟨e15, 0, none⟩) 2 2), (16, .tuple #[.agg (accC U A16 n16 c16), .int .i64 code]), (7, .tuple #[.agg (accC U A7 n7 c7), .int .i64 code]), (17, .agg (accC U A17 n17 c17)), (18, .int .i64 code), (5, .pointer (some ⟨y5, 0, none⟩))]) w)
    (hendQ : ∀ (A13 : Option Addr) (n13 : Nat) (c13 : Nat), ∀ (e15 : Nat), ∀ (A16 : Option Addr) (n16 : Nat) (c16 : Nat), ∀ (A7 : Option Addr) (n7 : Nat) (c7 : Nat), ∀ (A17 : Option Addr) (n17 : Nat) (c17 : Nat), ∀ (y5 : Nat), ∀ w : World, Below w0.heap.size w0 w → AccIn w 0 T A13 n13 c13 → Accs w (some ⟨e15, 0, none⟩) 2 [T, u] → True → True → True → Has w y5 29 (accC zeroAc none 0 0) ∧ z ≤ y5 → wpList Try.prog l.toArray Q (pickL l [13, 11, 14]) (putAll a0 [(8, .pointer (some ⟨g, 0, none⟩)), (9, .pointer (some ⟨g, 0, none⟩)), (10, .pointer (some ⟨g, 0, none⟩)), (11, .slice bA m d), (12, .pointer (some ⟨g, 0, none⟩)), (13, .agg (accC T A13 n13 c13)), (14, .agg (accC u A k c)), (15, .slice (some ⟨e15, 0, none⟩) 2 2), (16, .tuple #[.agg (accC U A16 n16 c16), .int .i64 code]), (7, .tuple #[.agg (accC U A7 n7 c7), .int .i64 code]), (17, .agg (accC U A17 n17 c17)), (18, a0.tmps.getD 18 undef), (5, .pointer (some ⟨y5, 0, none⟩))]) w) :
    (Code.region 1 l.toArray true).wp Try.prog Q a0 w0 := by
  subst hl
  refine region_head3 (rtp1F g m d ln lc z bA LA k c x A T u U code) rtp1D 13 32 11 [11, 14] S.size rfl (by kernel_rfl) (by kernel_rfl) (by kernel_rfl) (rtp1F_mono _ _ _ _ _ _ _ _ _ _ _ _ _ _ _ _) (rtp1_ok S) ?_ ?_
  · intro a w hB hF h
    obtain ⟨A13, n13, c13, h13, p13⟩ : accI T (a.tmps.getD 13 undef) w := h 5 (some 13) (by omega) rfl
    obtain ⟨e15, h15, p15⟩ : row2A T u (a.tmps.getD 15 undef) w := h 7 (some 15) (by omega) rfl
    obtain ⟨A16, n16, c16, h16, p16⟩ : tupX U code (a.tmps.getD 16 undef) w := h 8 (some 16) (by omega) rfl
    obtain ⟨A7, n7, c7, h7, p7⟩ : tupX U code (a.tmps.getD 7 undef) w := h 9 (some 7) (by omega) rfl
    obtain ⟨A17, n17, c17, h17, p17⟩ : accX U (a.tmps.getD 17 undef) w := h 10 (some 17) (by omega) rfl
    obtain ⟨y5, h5, p5⟩ : newA z (a.tmps.getD 5 undef) w := h 12 (some 5) (by omega) rfl
    have hv : valsAre a [(8, .pointer (some ⟨g, 0, none⟩)), (9, .pointer (some ⟨g, 0, none⟩)), (10, .pointer (some ⟨g, 0, none⟩)), (11, .slice bA m d), (12, .pointer (some ⟨g, 0, none⟩)), (13, .agg (accC T A13 n13 c13)), (14, .agg (accC u A k c)), (15, .slice (some ⟨e15, 0, none⟩) 2 2), (16, .tuple #[.agg (accC U A16 n16 c16), .int .i64 code]), (7, .tuple #[.agg (accC U A7 n7 c7), .int .i64 code]), (17, .agg (accC U A17 n17 c17)), (18, .int .i64 code), (5, .pointer (some ⟨y5, 0, none⟩))] := by
      refine ⟨?_, ?_, ?_, ?_, ?_, ?_, ?_, ?_, ?_, ?_, ?_, ?_, ?_, trivial⟩
      · exact h 0 (some 8) (by omega) rfl
      · exact h 1 (some 9) (by omega) rfl
      · exact h 2 (some 10) (by omega) rfl
      · exact h 3 (some 11) (by omega) rfl
      · exact h 4 (some 12) (by omega) rfl
      · exact h13
      · exact h 6 (some 14) (by omega) rfl
      · exact h15
      · exact h16
      · exact h7
      · exact h17
      · exact h 11 (some 18) (by omega) rfl
      · exact h5
    rw [frame_is hF _ hv (by rfl) (by rfl)]
    exact hend A13 n13 c13 e15 A16 n16 c16 A7 n7 c7 A17 n17 c17 y5 w hB p13 p15 p16 p7 p17 p5
  · intro a w hB hF h hq
    obtain ⟨A13, n13, c13, h13, p13⟩ : accI T (a.tmps.getD 13 undef) w := h 5 (some 13) (by omega) (by omega) rfl
    obtain ⟨e15, h15, p15⟩ : row2A T u (a.tmps.getD 15 undef) w := h 7 (some 15) (by omega) (by omega) rfl
    obtain ⟨A16, n16, c16, h16, p16⟩ : tupX U code (a.tmps.getD 16 undef) w := h 8 (some 16) (by omega) (by omega) rfl
    obtain ⟨A7, n7, c7, h7, p7⟩ : tupX U code (a.tmps.getD 7 undef) w := h 9 (some 7) (by omega) (by omega) rfl
    obtain ⟨A17, n17, c17, h17, p17⟩ : accX U (a.tmps.getD 17 undef) w := h 10 (some 17) (by omega) (by omega) rfl
    obtain ⟨y5, h5, p5⟩ : newA z (a.tmps.getD 5 undef) w := h 12 (some 5) (by omega) (by omega) rfl
    have hv : valsAre a [(8, .pointer (some ⟨g, 0, none⟩)), (9, .pointer (some ⟨g, 0, none⟩)), (10, .pointer (some ⟨g, 0, none⟩)), (11, .slice bA m d), (12, .pointer (some ⟨g, 0, none⟩)), (13, .agg (accC T A13 n13 c13)), (14, .agg (accC u A k c)), (15, .slice (some ⟨e15, 0, none⟩) 2 2), (16, .tuple #[.agg (accC U A16 n16 c16), .int .i64 code]), (7, .tuple #[.agg (accC U A7 n7 c7), .int .i64 code]), (17, .agg (accC U A17 n17 c17)), (18, a0.tmps.getD 18 undef), (5, .pointer (some ⟨y5, 0, none⟩))] := by
      refine ⟨?_, ?_, ?_, ?_, ?_, ?_, ?_, ?_, ?_, ?_, ?_, ?_, ?_, trivial⟩
      · exact h 0 (some 8) (by omega) (by omega) rfl
      · exact h 1 (some 9) (by omega) (by omega) rfl
      · exact h 2 (some 10) (by omega) (by omega) rfl
      · exact h 3 (some 11) (by omega) (by omega) rfl
      · exact h 4 (some 12) (by omega) (by omega) rfl
      · exact h13
      · exact h 6 (some 14) (by omega) (by omega) rfl
      · exact h15
      · exact h16
      · exact h7
      · exact h17
      · exact hq (some 18) rfl
      · exact h5
    rw [frame_is hF _ hv (by rfl) (by rfl)]
    exact hendQ A13 n13 c13 e15 A16 n16 c16 A7 n7 c7 A17 n17 c17 y5 w hB p13 p15 p16 p7 p17 p5
end

def rtp4D : List (Option Tmp) := [some 21, some 22, some 23, some 24, some 25, some 26, some 27, some 28, some 29, some 30, some 31, none]
def rtp4F (g _m _d ln lc z : Nat) (_bA LA : Option Addr) (k c _x : Nat) (A : Option Addr) (u : Ac) : List Fact := [isV (.pointer (some ⟨g, 0, none⟩)), isV (.pointer (some ⟨g, 0, none⟩)), isV (.pointer (some ⟨g, 0, none⟩)), isV (.pointer (some ⟨g, 1, none⟩)), isV (.slice LA ln lc), isV (.agg (accC u A k c)), accO z u, row1O z u]
theorem rtp4F_mono (g m d ln lc z : Nat) (bA LA : Option Addr) (k c x : Nat) (A : Option Addr) (u : Ac) : ∀ φ ∈ rtp4F g m d ln lc z bA LA k c x A u, Mono φ := by
  unfold rtp4F
  refine monos_cons (mono_isV _) ?_
  refine monos_cons (mono_isV _) ?_
  refine monos_cons (mono_isV _) ?_
  refine monos_cons (mono_isV _) ?_
  refine monos_cons (mono_isV _) ?_
  refine monos_cons (mono_isV _) ?_
  refine monos_cons (accO_mono _ _) ?_
  refine monos_cons (row1O_mono _ _) ?_
  exact monos_nil
structure rtp4S (g m d ln lc z : Nat) (bA LA : Option Addr) (k c x : Nat) (A : Option Addr) (u : Ac) (a0 : Act) (w0 : World) : Prop where
  size : a0.tmps.size = 32
  v0 : a0.tmps.getD 0 undef = .pointer (some ⟨g, 0, none⟩)
  v3 : a0.tmps.getD 3 undef = .pointer (some ⟨x, 0, none⟩)
  st : Has w0 g 59 #[.slice bA m d, .slice LA ln lc]
  ez : z ≤ w0.heap.size
  bx : Has w0 x 29 (accC u A k c)
  cc : ∀ w, Below w0.heap.size w0 w → Calls Try.prog 45 #[.agg (accC u A k c)] w (CopyOut u w)
section
variable {g m d ln lc z : Nat} {bA LA : Option Addr} {k c x : Nat} {A : Option Addr} {u : Ac} {a0 : Act} {w0 : World} (S : rtp4S g m d ln lc z bA LA k c x A u a0 w0)
include S
set_option maxRecDepth 100000 in
set_option maxHeartbeats 8000000 in
theorem rtp4_ok : AllOps (fun j o => ∀ (a : Act) (w : World), Below w0.heap.size w0 w → FrD (rtp4D.take 8) a0 a → needs rtp4D (rtp4F g m d ln lc z bA LA k c x A u) a w o.after.toList → StepD Try.prog rtp4D (factAt (rtp4F g m d ln lc z bA LA k c x A u) j) o a w) 0 ((opsOf 4 Try.f28).take 8) := by
  simp only [opsOf, Try.f28, opsAt, Option.bind, Option.or, Option.getD, reduceCtorEq, if_true, if_false, Nat.reduceEqDiff, List.take_succ_cons, List.take_zero]
  refine ⟨?_, ?_⟩
  · intro _a _w _hB hF _hd
    exact step_move (guard_none rfl) rfl _ rfl ((hF.other 0 rfl).trans S.v0)
  refine ⟨?_, ?_⟩
  · intro _a _w _hB hF _hd
    exact step_move (guard_none rfl) rfl _ rfl ((hF.other 0 rfl).trans S.v0)
  refine ⟨?_, ?_⟩
  · intro a _w _hB _hF hd
    have h22 : a.tmps.getD 22 undef = .pointer (some ⟨g, 0, none⟩) := hd.1 rfl
    exact rf_nilck (guard_none rfl) rfl _ rfl _ h22 rfl
  refine ⟨?_, ?_⟩
  · intro a _w _hB _hF hd
    have h23 : a.tmps.getD 23 undef = .pointer (some ⟨g, 0, none⟩) := hd.1 rfl
    exact rf_faddr (guard_none rfl) rfl _ _ _ rfl _ _ 1 _ h23 (by omega) (fun _ _ => by kernel_rfl) rfl
  refine ⟨?_, ?_⟩
  · intro a _w hB _hF hd
    have h24 : a.tmps.getD 24 undef = .pointer (some ⟨g, 1, none⟩) := hd.1 rfl
    exact rf_load1 (guard_none rfl) rfl _ _ rfl _ _ h24 (run_ldA ((Has.cell (S.st.below hB S.st.lt) 1).trans rfl)) rfl
  refine ⟨?_, ?_⟩
  · intro _a _w hB hF _hd
    exact rf_loadA (guard_none rfl) rfl _ rfl x ((hF.other 3 rfl).trans S.v3) (S.bx.below hB S.bx.lt) rfl
  refine ⟨?_, ?_⟩
  · intro a w hB _hF hd
    have h26 : a.tmps.getD 26 undef = .agg (accC u A k c) := hd.1 rfl
    refine step_call (guard_none rfl) rfl _ _ (rf_call_run Try.func45 (by kernel_rfl) (by kernel_rfl) _ _ rfl) ?_
    simp only [List.map_toArray, List.map_cons, List.map_nil, Act.eval, h26]
    exact (S.cc w hB).mono (by rintro e w1 ⟨A, n, c, rfl, hh, hb⟩; exact ⟨_, rfl, hb, A, n, c, rfl, hh.mono (Nat.le_trans S.ez hB.size)⟩)
  refine ⟨?_, ?_⟩
  · intro a w _hB _hF hd
    obtain ⟨A27, n27, c27, h27, p27⟩ : accO z u (a.tmps.getD 27 undef) w := hd.1 rfl
    exact rf_oneO (guard_none rfl) rfl _ rfl z u _ _ _ h27 p27 (fun _ _ h => h)
  trivial
theorem rtp4_any {Q : Exit → Act → World → Prop} {l : List Oper} (hl : opsOf 4 Try.f28 = l) (hend : ∀ (A27 : Option Addr) (n27 : Nat) (c27 : Nat), ∀ (e28 : Nat) (A28 : Option Addr) (n28 : Nat) (c28 : Nat), ∀ w : World, Below w0.heap.size w0 w → OwnI w z (.slice A27 n27 c27) u.h → (Has w e28 29 (accC u A28 n28 c28) ∧ OwnI w z (.slice A28 n28 c28) u.h) → wpList Try.prog l.toArray Q (l.drop 8) (putAll a0 [(21, .pointer (some ⟨g, 0, none⟩)), (22, .pointer (some ⟨g, 0, none⟩)), (23, .pointer (some ⟨g, 0, none⟩)), (24, .pointer (some ⟨g, 1, none⟩)), (25, .slice LA ln lc), (26, .agg (accC u A k c)), (27, .agg (accC u A27 n27 c27)), (28, .slice (some ⟨e28, 0, none⟩) 1 1)]) w)
    (hendQ : ∀ (A27 : Option Addr) (n27 : Nat) (c27 : Nat), ∀ (e28 : Nat) (A28 : Option Addr) (n28 : Nat) (c28 : Nat), ∀ w : World, Below w0.heap.size w0 w → OwnI w z (.slice A27 n27 c27) u.h → (Has w e28 29 (accC u A28 n28 c28) ∧ OwnI w z (.slice A28 n28 c28) u.h) → wpList Try.prog l.toArray Q (pickL l [8, 0, 9, 10, 11]) (putAll a0 [(21, a0.tmps.getD 21 undef), (22, .pointer (some ⟨g, 0, none⟩)), (23, .pointer (some ⟨g, 0, none⟩)), (24, .pointer (some ⟨g, 1, none⟩)), (25, .slice LA ln lc), (26, .agg (accC u A k c)), (27, .agg (accC u A27 n27 c27)), (28, .slice (some ⟨e28, 0, none⟩) 1 1)]) w) :
    (Code.region 4 l.toArray true).wp Try.prog Q a0 w0 := by
  subst hl
  refine region_head3 (rtp4F g m d ln lc z bA LA k c x A u) rtp4D 8 32 0 [0, 9, 10, 11] S.size rfl (by kernel_rfl) (by kernel_rfl) (by kernel_rfl) (rtp4F_mono _ _ _ _ _ _ _ _ _ _ _ _ _) (rtp4_ok S) ?_ ?_
  · intro a w hB hF h
    obtain ⟨A27, n27, c27, h27, p27⟩ : accO z u (a.tmps.getD 27 undef) w := h 6 (some 27) (by omega) rfl
    obtain ⟨e28, A28, n28, c28, h28, p28⟩ : row1O z u (a.tmps.getD 28 undef) w := h 7 (some 28) (by omega) rfl
    have hv : valsAre a [(21, .pointer (some ⟨g, 0, none⟩)), (22, .pointer (some ⟨g, 0, none⟩)), (23, .pointer (some ⟨g, 0, none⟩)), (24, .pointer (some ⟨g, 1, none⟩)), (25, .slice LA ln lc), (26, .agg (accC u A k c)), (27, .agg (accC u A27 n27 c27)), (28, .slice (some ⟨e28, 0, none⟩) 1 1)] := by
      refine ⟨?_, ?_, ?_, ?_, ?_, ?_, ?_, ?_, trivial⟩
      · exact h 0 (some 21) (by omega) rfl
      · exact h 1 (some 22) (by omega) rfl
      · exact h 2 (some 23) (by omega) rfl
      · exact h 3 (some 24) (by omega) rfl
      · exact h 4 (some 25) (by omega) rfl
      · exact h 5 (some 26) (by omega) rfl
      · exact h27
      · exact h28
    rw [frame_is hF _ hv (by rfl) (by rfl)]
    exact hend A27 n27 c27 e28 A28 n28 c28 w hB p27 p28
  · intro a w hB hF h hq
    obtain ⟨A27, n27, c27, h27, p27⟩ : accO z u (a.tmps.getD 27 undef) w := h 6 (some 27) (by omega) (by omega) rfl
    obtain ⟨e28, A28, n28, c28, h28, p28⟩ : row1O z u (a.tmps.getD 28 undef) w := h 7 (some 28) (by omega) (by omega) rfl
    have hv : valsAre a [(21, a0.tmps.getD 21 undef), (22, .pointer (some ⟨g, 0, none⟩)), (23, .pointer (some ⟨g, 0, none⟩)), (24, .pointer (some ⟨g, 1, none⟩)), (25, .slice LA ln lc), (26, .agg (accC u A k c)), (27, .agg (accC u A27 n27 c27)), (28, .slice (some ⟨e28, 0, none⟩) 1 1)] := by
      refine ⟨?_, ?_, ?_, ?_, ?_, ?_, ?_, ?_, trivial⟩
      · exact hq (some 21) rfl
      · exact h 1 (some 22) (by omega) (by omega) rfl
      · exact h 2 (some 23) (by omega) (by omega) rfl
      · exact h 3 (some 24) (by omega) (by omega) rfl
      · exact h 4 (some 25) (by omega) (by omega) rfl
      · exact h 5 (some 26) (by omega) (by omega) rfl
      · exact h27
      · exact h28
    rw [frame_is hF _ hv (by rfl) (by rfl)]
    exact hendQ A27 n27 c27 e28 A28 n28 c28 w hB p27 p28
end

end Go.Proofs.Ytjmaeiilkbfnaaa

namespace Go.Proofs.Ytjmaeiilkbfnaaa
open Go.RowKit

theorem rjoin_ok17 {bs : List Int} {xs : List Ac} {B A : Option Addr} {m d n c : Nat} {w : World} (hI : Ints w B m bs) (hA : Accs w A n xs) (hn : n ≤ 17592186044416) (hJ : RowJ bs xs) :
    Calls Try.prog 12 #[.slice B m d, .slice A n c] w (OutI (joinAc bs xs) w) := by
  have h8 := (boundsB_true hJ.bd).1
  have hm := hI.1
  refine (rjoin_any B m d bs A n c xs w hI (by unfold maxLen; omega) hA hn).mono ?_
  have hok : (boundsB bs && togB (bs.length + 1) (-1) xs) = true := by rw [hJ.bd, hJ.tog]; rfl
  have htot := hJ.tot
  rintro e w' (⟨h, _⟩ | ⟨_, _, A', n', c', he, hin, hb⟩ | ⟨_, h, _⟩)
  · rw [hok] at h; cases h
  · exact ⟨A', n', c', he, hin.mono (Nat.zero_le _), hb⟩
  · omega
theorem rjoin_bad17 {bs : List Int} {xs : List Ac} {m n : Nat} (hm : m ≤ maxLen) (hn : n ≤ 17592186044416) (h : ¬ RowJ bs xs) : ∃ code : Int, ¬ code = 0 ∧ ∀ W B d A c, Ints W B m bs → Accs W A n xs → Calls Try.prog 12 #[.slice B m d, .slice A n c] W (OutX zeroAc code W) := by
  cases h2 : (boundsB bs && togB (bs.length + 1) (-1) xs)
  · refine ⟨100, by decide, fun W B d A c hI hA => (rjoin_any B m d bs A n c xs W hI hm hA hn).mono ?_⟩
    rintro e w' (⟨_, hb⟩ | ⟨h3, _⟩ | ⟨h3, _⟩)
    · exact ⟨none, 0, 0, hb.1, hb.2⟩
    · rw [h2] at h3; cases h3
    · rw [h2] at h3; cases h3
  · have ht : ¬ totalA xs ≤ 8192 := fun h3 => by
      have h4 := h2
      simp only [Bool.and_eq_true] at h4
      exact h ⟨h4.1, h4.2, h3⟩
    refine ⟨101, by decide, fun W B d A c hI hA => (rjoin_any B m d bs A n c xs W hI hm hA hn).mono ?_⟩
    rintro e w' (⟨h3, _⟩ | ⟨_, h3, _⟩ | ⟨_, _, hb⟩)
    · rw [h2] at h3; cases h3
    · exact absurd h3 ht
    · exact ⟨none, 0, 0, hb.1, hb.2⟩

/-- A result stays where a block of another kind is laid anew. -/
theorem AccIn.rowFar {w : World} {B n c : Nat} {V : Ac} {A : Option Addr} (h : AccIn w B V A n c) {y : Nat} {cs : Array Value} (hy : Has w y 29 cs) (cs' : Array Value) : AccIn (w.setRow y cs') B V A n c := by
  have hne : ∀ ad, A = some ad → ad.block ≠ y := fun ad e e2 => by
    obtain ⟨c2, hh⟩ := h.typ ad e
    exact has_types (e2 ▸ hh) hy (by decide)
  exact ⟨h.hist.row hne _, h.cap, h.most, h.new, fun ad e => by obtain ⟨c2, hh⟩ := h.typ ad e; exact ⟨c2, hh.rowFar (hne ad e) _⟩⟩
/-- The statement's queue in memory; it lies in blocks out of O. -/
structure RqM (O : Nat → Prop) (w : World) (g : Nat) (bs : List Int) (bv L : Value) (rs : List Rw) : Prop where
  st : Has w g RT #[bv, L]
  bd : OwnI w 0 bv bs
  row : OwnA w L rs
  hist : ∀ r ∈ rs, OwnI w 0 (.slice r.A r.k r.c) r.a.h
  inG : O g
  inD : ∀ k, bv.ownBlock = some k → O k
  inL : ∀ k, L.ownBlock = some k → O k
  inH : ∀ r ∈ rs, ∀ k, (Value.slice r.A r.k r.c).ownBlock = some k → O k
section
variable {O O' : Nat → Prop} {w w' w1 : World} {g : Nat} {bs : List Int} {bv L : Value} {rs : List Rw} {r : Rw}
theorem RqM.same (h : RqM O w g bs bv L rs) (hk : ∀ k, O k → w'.heap[k]? = w.heap[k]?) : RqM O w' g bs bv L rs :=
  ⟨(hk g h.inG).trans h.st, h.bd.same fun k e => hk k (h.inD k e), h.row.same fun k e => hk k (h.inL k e), fun r hr => (h.hist r hr).same fun k e => hk k (h.inH r hr k e), h.inG, h.inD, h.inL, h.inH⟩
theorem RqM.mono (h : RqM O w g bs bv L rs) (ho : ∀ k, k < w.heap.size → O k → O' k) : RqM O' w g bs bv L rs :=
  ⟨h.st, h.bd, h.row, h.hist, ho _ h.st.lt h.inG, (fun k e => by obtain ⟨c, hh⟩ := h.bd.has e; exact ho k hh.lt (h.inD k e)), (fun k e => by obtain ⟨c, hh⟩ := h.row.has e; exact ho k hh.lt (h.inL k e)),
   fun r hr k e => by obtain ⟨c, hh⟩ := (h.hist r hr).has e; exact ho k hh.lt (h.inH r hr k e)⟩
theorem RqM.below (h : RqM O w g bs bv L rs) (hb : Below w.heap.size w w') : RqM O w' g bs bv L rs := by
  have h2 : RqM (fun k => O k ∧ k < w.heap.size) w g bs bv L rs := h.mono fun k hk ho => ⟨ho, hk⟩
  have h3 := h2.same (w' := w') fun k hk => hb.block k hk.2
  exact h3.mono fun k _ hk => hk.1
theorem RqM.forms (h : RqM O w g bs bv L rs) : ∃ bA d LA lc, bv = .slice bA bs.length d ∧ L = .slice LA rs.length lc := by
  obtain ⟨bA, d, e1, _⟩ := h.bd.form
  obtain ⟨LA, lc, e2, _⟩ := h.row.form
  exact ⟨bA, d, LA, lc, e1, e2⟩

set_option maxRecDepth 100000 in
set_option maxHeartbeats 1000000 in
theorem rqtotal_any (h : RqM O w g bs bv L rs) (hJ : RowJ bs (rs.map (·.a))) (hn : rs.length ≤ 65536) :
    Calls Try.prog 30 #[.pointer (some ⟨g, 0, none⟩)] w (OutJ (joinAc bs (rs.map (·.a))) w) := by
  obtain ⟨bA, d, LA, lc, rfl, rfl⟩ := h.forms
  have HAL := Lib.hid (show ∀ o, Below w.heap.size w (w.alloc o) from fun o => (Below.refl _ _).alloc (Nat.le_refl _) o)
  have HST := Lib.hid h.st
  have HCJ := Lib.hid (show ∀ w', Below w.heap.size w w' → Calls Try.prog 12 #[.slice bA bs.length d, .slice LA rs.length lc] w' (OutI (joinAc bs (rs.map (·.a))) w') from fun w' hb => by
    have h2 := h.below hb
    exact rjoin_ok17 h2.bd.ints (h2.row.accs h2.hist) (by omega) hJ)
  clear h hJ
  generalize joinAc bs (rs.map (·.a)) = V at HCJ ⊢
  generalize rs.length = n at HST HCJ hn
  generalize bs.length = m at HST HCJ
  go_enter Try.func30, Try.ntmps30
  go_upto_region 1 with fail
  refine rtt1_any (g := g) (m := m) (d := d) (ln := n) (lc := lc) (z := w.heap.size + 1) (bA := bA) (LA := LA) (V := V) ⟨rfl, rfl, HST.out.alloc _, by simp, fun w' hb => HCJ.out w' ((HAL.out _).trans (hb.mono (by simp)))⟩ (by kernel_rfl) ?_ ?_
  all_goals
    intro A14 n14 c14 A5 n5 c5 A15 n15 c15 y3 w9 hB9 _ _ hI hY
    have H4 := Lib.hid (show Has w9 w.heap.size 29 (accC zeroAc none 0 0) from (Has.made w _ _).below hB9 (by simp))
    have HB9 := Lib.hid ((HAL.out _).trans (hB9.mono (by simp)))
    have HY := Lib.hid hY
    have HIN := Lib.hid hI
    clear hB9 hY hI HCJ HAL HST
    simp only [putAll, Act.put, List.setIfInBounds_toArray, List.set_cons_succ, List.set_cons_zero, List.drop_succ_cons, List.drop_zero, pickL, List.filterMap_cons, List.getElem?_cons_succ, List.getElem?_cons_zero, List.filterMap_nil]
    refine store_has rfl _ _ rfl y3 (ac := V) (A := A15) (k := n15) (c := c15) rfl rfl HY.out.1 rfl ?_
    have hyz := HY.out.2
    have HX1 := Lib.hid (show Has (w9.setRow y3 (accC V A15 n15 c15)) y3 29 (accC V A15 n15 c15) ∧ Has (w9.setRow y3 (accC V A15 n15 c15)) w.heap.size 29 (accC zeroAc none 0 0) ∧ AccIn (w9.setRow y3 (accC V A15 n15 c15)) 0 V A15 n15 c15 ∧ Below w.heap.size w (w9.setRow y3 (accC V A15 n15 c15)) from
      ⟨HY.out.1.row _, H4.out.rowFar (by omega) _, HIN.out.rowFar HY.out.1 _, below_row HB9.out (by omega) _⟩)
    clear HY H4 HIN HB9
    generalize w9.setRow _ _ = w10 at HX1 ⊢
    go_wp2_with (first | (refine load_has rfl _ rfl y3 rfl HX1.out.1 ?_) | (refine store_has rfl _ _ rfl w.heap.size rfl rfl HX1.out.2.1 rfl ?_))
    refine bodyPost_ret (ret_row1 rfl _ _ _ 29 (accC V A15 n15 c15) _ rfl (HX1.out.2.1.row _) Try.underlying29 rfl (by exact Try.sizeAcc)) rfl ?_
    exact ⟨A15, n15, c15, rfl, HX1.out.2.2.1.rowFar HX1.out.2.1 _, below_row HX1.out.2.2.2 (Nat.le_refl _) _⟩
/-- What an append of one leaves: the row lies where the old one did, or in a new block. -/
def PushedR (g : Nat) (bv L : Value) (rs : List Rw) (w w' : World) : Prop :=
  ∃ L', Has w' g RT #[bv, L'] ∧ OwnA w' L' rs ∧ ButS (g :: L.ownBlock.toList) w w' ∧ (L'.ownBlock = L.ownBlock ∨ ∃ k, L'.ownBlock = some k ∧ w.heap.size ≤ k)
theorem grown_pushedR {L' : Value} (hst : Has w g RT #[bv, L]) (ho : OwnA w L rs) (hb : Below w.heap.size w w1) (ho' : OwnA w' L' (rs ++ [r])) (hg : w1.grownBy w' L.ownBlock) (hv : L'.ownBlock = L.ownBlock ∨ L'.ownBlock = some w1.heap.size) :
    Has w' g RT #[bv, L] ∧ PushedR g bv L (rs ++ [r]) w (w'.setCell ⟨g, 1, none⟩ L') := by
  have hne := ho.apart hst (by decide)
  have h1 := hst.below hb hst.lt
  have h2 : Has w' g RT #[bv, L] := (hg.block g h1.lt (fun e => hne e.symm)).trans h1
  have hne' := ho'.apart h2 (by decide)
  have hs := hb.size
  have hs2 := hg.size
  refine ⟨h2, L', h2.put 1 L', ho'.same fun k hk => heap_setCell_other _ _ _ _ (fun e => hne' (by simp only at e; rw [hk, e])), ⟨hg.os.trans hb.os, hg.tape.trans hb.tape, hg.output.trans hb.output, by simp [World.setCell]; omega, fun k hk hn => ?_⟩, ?_⟩
  · have hkg : k ≠ g := fun e => hn (by simp [e])
    have hkv : some k ≠ L.ownBlock := fun e => hn (by rw [← e]; simp)
    exact (heap_setCell_other w' ⟨g, 1, none⟩ k L' hkg).trans ((hg.block k (by omega) hkv).trans (hb.block k hk))
  · rcases hv with hv | hv
    · exact .inl hv
    · exact .inr ⟨_, hv, hs⟩
theorem RqM.put (h : RqM O w g bs bv L rs) (hb : Below w.heap.size w w1) (hr : OwnI w1 w.heap.size (.slice r.A r.k r.c) r.a.h) (hp : PushedR g bv L (rs ++ [r]) w1 w') : (∃ L', RqM (GrowO O w w') w' g bs bv L' (rs ++ [r])) ∧ ButO O w w' := by
  obtain ⟨L', k1, k2, k3, k4⟩ := hp
  have hst1 := h.st.below hb h.st.lt
  have hrow1 := h.row.below hb
  have hs1 := hb.size
  have hs2 := k3.size
  have hI : ∀ k cur, Has w1 k 3 cur → k ∉ g :: L.ownBlock.toList := fun k cur hk e => by
    rcases List.mem_cons.1 e with rfl | e
    · exact has_types hk hst1 (by decide)
    · exact hrow1.apart hk (by decide) (by simpa using e)
  have keepI : ∀ {base : Nat} {v : Value} {xs : List Int}, OwnI w1 base v xs → OwnI w' base v xs := fun {base v xs} ho => ho.butS k3 fun k e => by
    obtain ⟨c, hh⟩ := ho.has e
    exact hI k c hh
  refine ⟨⟨L', k1, keepI (h.bd.below hb), k2, fun q hq => ?_, .inl h.inG, fun k e => .inl (h.inD k e), fun k e => ?_, fun q hq k e => ?_⟩, ?_⟩
  · rcases List.mem_append.1 hq with hq | hq
    · exact keepI ((h.hist q hq).below hb)
    · obtain rfl : q = r := by simpa using hq
      exact keepI (hr.mono (Nat.zero_le _))
  · rcases k4 with k4 | ⟨j, k4, k5⟩
    · exact .inl (h.inL k (k4 ▸ e))
    · rw [k4] at e
      injection e with e
      obtain ⟨c, hh⟩ := k2.has k4
      exact .inr ⟨by omega, by rw [← e]; exact hh.lt⟩
  · rcases List.mem_append.1 hq with hq | hq
    · exact .inl (h.inH q hq k e)
    · obtain rfl : q = r := by simpa using hq
      obtain ⟨c, hh⟩ := hr.has e
      refine .inr ⟨?_, by have := hh.lt; omega⟩
      cases hA : q.A with
      | none => rw [hA] at e; cases e
      | some ad =>
        have := hr.new ad hA
        rw [hA] at e
        simp [Value.ownBlock] at e
        omega
  · exact (below_butO hb O).andThen (butS_butO (O := fun k => k = g ∨ L.ownBlock = some k) k3 (fun k hk => by
      rcases List.mem_cons.1 hk with rfl | hk
      · exact .inl rfl
      · exact .inr (by simpa using hk))) (fun i hi _ => by
      rcases hi with rfl | hi
      · exact h.inG
      · exact h.inL i hi)
theorem RqM.taken {v' : Value} (h : RqM O w g bs bv L (r :: rs)) (hst : Has w' g RT #[bv, v']) (ho : OwnA w' v' rs) (hv : ∀ k, v'.ownBlock = some k → w.heap.size ≤ k) (hk : ButS [g] w w') :
    RqM (GrowO O w w') w' g bs bv v' rs ∧ OwnI w' 0 (.slice r.A r.k r.c) r.a.h ∧ ButO O w w' := by
  have keepI : ∀ {v : Value} {xs : List Int}, OwnI w 0 v xs → OwnI w' 0 v xs := fun {v xs} ho => ho.butS hk fun k e e2 => by
    obtain ⟨c, hh⟩ := ho.has e
    obtain rfl : k = g := by simpa using e2
    exact has_types hh h.st (by decide)
  exact ⟨⟨hst, keepI h.bd, ho, fun q hq => keepI (h.hist q (by simp [hq])), .inl h.inG, fun k e => .inl (h.inD k e), fun k e => .inr ⟨hv k e, by obtain ⟨c, hh⟩ := ho.has e; exact hh.lt⟩, fun q hq k e => .inl (h.inH q (by simp [hq]) k e)⟩, keepI (h.hist r (by simp)), butS_butO hk fun k hk => by
    obtain rfl : k = g := by simpa using hk
    exact h.inG⟩

set_option maxRecDepth 100000 in
set_option maxHeartbeats 1000000 in
theorem rqnew_no (B : Option Addr) (m d : Nat) (bs : List Int) (w : World) (hbs : Ints w B m bs) (hm : m ≤ maxLen) (h : boundsB bs = false) :
    Calls Try.prog 22 #[.slice B m d] w fun e w' => e = .returned (.tuple #[.pointer none, .int .i64 1700]) ∧ Below w.heap.size w w' := by
  have HBS := Lib.hid hbs
  have H1 := Lib.hid h
  clear hbs h
  go_enter Try.func22, Try.ntmps22
  go_wp2_with fail
  refine (rbounds_any B m d bs _ HBS.out hm).mono ?_
  rintro e w1 ⟨rfl, k, rfl⟩
  rw [H1.out]
  go_wp2_with fail
  go_ret2
  exact ⟨rfl, below_drewN (Below.refl _ _) _⟩
set_option maxRecDepth 100000 in
set_option maxHeartbeats 1000000 in
theorem rqnew_ok (B : Option Addr) (m d : Nat) (bs : List Int) (w : World) (hbs : Ints w B m bs) (hnil : B = none → d = 0) (h : boundsB bs = true) :
    Calls Try.prog 22 #[.slice B m d] w (NewQ RT (fun bv => #[bv, .slice none 0 0]) bs w) := by
  obtain rfl : bs.length = m := hbs.1
  have h8 : bs.length ≤ 8 := (boundsB_true h).1
  have HBS := Lib.hid hbs
  have H1 := Lib.hid h
  have HNIL := Lib.hid hnil
  clear hbs h hnil
  go_enter Try.func22, Try.ntmps22
  go_wp2_with fail
  refine (rbounds_any B bs.length d bs _ HBS.out (by unfold maxLen; omega)).mono ?_
  rintro e w1 ⟨rfl, k, hk⟩
  have HB1 := Lib.hid (show Below w.heap.size w w1 from hk ▸ below_drewN (Below.refl _ _) _)
  clear hk
  rw [H1.out]
  go_wp2_with (refine app_intsA rfl _ _ rfl rfl (own_empty w1) rfl ((HBS.out.below HB1.out).below ((Below.refl _ _).alloc (Nat.le_refl _) _)) HNIL.out (by omega) (by simp) ?_; intro A2 c2 wn hwn hbn; have HO := Lib.hid (hwn.mono HB1.out.size); have HB2 := Lib.hid (HB1.out.trans ((((Below.refl w1.heap.size w1).alloc (Nat.le_refl _) _).trans hbn).mono HB1.out.size)); clear hwn hbn)
  go_ret2
  exact ⟨_, A2, c2, rfl, HB2.out.size, Has.made _ _ _, HO.out.below ((Below.refl _ _).alloc (Nat.le_refl _) _), below_alloc HB2.out (Nat.le_refl _) _⟩

set_option maxRecDepth 100000 in
set_option maxHeartbeats 1000000 in
theorem rqpop_none (h : RqM O w g bs bv L []) :
    Calls Try.prog 25 #[.pointer (some ⟨g, 0, none⟩)] w fun e w' => e = .returned (.tuple #[accV zeroAc none 0 0, .int .i64 1701]) ∧ Below w.heap.size w w' := by
  obtain ⟨bA, d, LA, lc, rfl, rfl⟩ := h.forms
  have HAL := Lib.hid (show ∀ o, Below w.heap.size w (w.alloc o) from fun o => (Below.refl _ _).alloc (Nat.le_refl _) o)
  have c1 : ∀ o, (w.alloc o).cell? ⟨g, 1, none⟩ = some (.slice LA 0 lc) := fun o => (h.st.alloc o).cell 1
  clear h
  go_enter Try.func25, Try.ntmps25
  go_wp2_with (refine store_made rfl _ _ rfl (ac := zeroAc) (A := none) (k := 0) (c := 0) rfl rfl rfl ?_)
  refine bodyPost_ret (ret_row rfl _ _ _ 29 (accC zeroAc none 0 0) _ rfl (Has.made _ _ _) Try.underlying29 rfl (by exact Try.sizeAcc)) rfl ?_
  exact ⟨rfl, HAL.out _⟩
/-- What the queue's Pop reads and where it stands: the head in y. -/
structure RpS (w : World) (g b n c : Nat) (r : Rw) (rs : List Rw) (cs : Array Value) (y : Nat) (wr : World) : Prop where
  st : Has wr g RT cs
  row : OwnA wr (.slice (some ⟨b, 0, none⟩) n c) (r :: rs)
  res : Has wr w.heap.size 29 (accC zeroAc none 0 0)
  box : Has wr y 29 (accC r.a r.A r.k r.c)
  ne : y ≠ w.heap.size
  keep : Below w.heap.size w wr
set_option maxRecDepth 100000 in
set_option maxHeartbeats 4000000 in
theorem rqpop_some (h : RqM O w g bs bv L (r :: rs)) (hn : rs.length ≤ 65536) :
    Calls Try.prog 25 #[.pointer (some ⟨g, 0, none⟩)] w fun e w' => e = .returned (.tuple #[accV r.a r.A r.k r.c, .int .i64 0]) ∧ (∃ L', RqM (GrowO O w w') w' g bs bv L' rs) ∧ OwnI w' 0 (.slice r.A r.k r.c) r.a.h ∧ ButO O w w' := by
  have h0 := Lib.hid h
  obtain ⟨bA, d, LA, lc, rfl, rfl⟩ := h.forms
  rw [List.length_cons] at h
  obtain ⟨b, rfl, _, hlc, _, hh, _⟩ := h.row.head
  have HLC := Lib.hid hlc
  have HW1 := Lib.hid (show Has (w.alloc (.cells (accC zeroAc none 0 0) 29)) g RT #[.slice bA bs.length d, .slice (some ⟨b, 0, none⟩) (rs.length + 1) lc] ∧ OwnA (w.alloc (.cells (accC zeroAc none 0 0) 29)) (.slice (some ⟨b, 0, none⟩) (rs.length + 1) lc) (r :: rs) ∧ Has (w.alloc (.cells (accC zeroAc none 0 0) 29)) w.heap.size 29 (accC zeroAc none 0 0) ∧ Below w.heap.size w (w.alloc (.cells (accC zeroAc none 0 0) 29)) from
    ⟨h.st.alloc _, h.row.below ((Below.refl _ _).alloc (Nat.le_refl _) _), Has.made _ _ _, (Below.refl _ _).alloc (Nat.le_refl _) _⟩)
  have hlen : ¬ ((rs.length + 1 : Nat) : Int) = 0 := by omega
  have h00 : (0 : Int) < ((rs.length + 1 : Nat) : Int) := by omega
  clear h hh hlc
  go_enter Try.func25, Try.ntmps25
  go_upto_region 1 with fail
  generalize hw0 : w.alloc (.cells #[.int .i64 0, .int .i64 0, .int .i64 0, .int .i64 0, .int .i64 0, .int .i64 0, .int .i64 0, .int .i64 0, .int .i64 0, .int .i64 0, .int .i64 0, .int .i64 0, .slice none 0 0] 29) = w1
  have HW2 := Lib.hid (show Has w1 g RT #[.slice bA bs.length d, .slice (some ⟨b, 0, none⟩) (rs.length + 1) lc] ∧ OwnA w1 (.slice (some ⟨b, 0, none⟩) (rs.length + 1) lc) (r :: rs) ∧ Has w1 w.heap.size 29 (accC zeroAc none 0 0) ∧ Below w.heap.size w w1 by rw [← hw0]; exact HW1.out)
  clear HW1 hw0
  have c1 : w1.cell? ⟨g, 1, none⟩ = some (.slice (some ⟨b, 0, none⟩) (rs.length + 1) lc) := HW2.out.1.cell 1
  have HR := Lib.hid (show w1.rangeAt b 0 (accC r.a r.A r.k r.c).toList by
    obtain ⟨b', e, _, _, _, hh, _⟩ := HW2.out.2.1.head
    injection e with e
    injection e with e
    subst e
    exact hh)
  go_upto_region 4 with (first | (refine load_accR rfl _ rfl b 0 (by simp [go_sem]) HR.out ?_) | (refine store_made rfl _ _ rfl rfl rfl rfl ?_))
  have HS := Lib.hid (show RpS w g b (rs.length + 1) lc r rs #[.slice bA bs.length d, .slice (some ⟨b, 0, none⟩) (rs.length + 1) lc] w1.heap.size (w1.alloc (.cells (accC r.a r.A r.k r.c) 29)) from by
    obtain ⟨k1, k2, k3, k4⟩ := HW2.out
    exact ⟨k1.alloc _, k2.below ((Below.refl _ _).alloc (Nat.le_refl _) _), k3.alloc _, Has.made _ _ _, by have := k3.lt; omega, below_alloc k4 (Nat.le_refl _) _⟩)
  clear HW2 HR c1
  generalize w1.alloc _ = w2 at HS ⊢
  generalize w1.heap.size = y at HS ⊢
  have c2 : ∀ o, (w2.alloc o).cell? ⟨g, 1, none⟩ = some (.slice (some ⟨b, 0, none⟩) (rs.length + 1) lc) := fun o => (HS.out.st.alloc o).cell 1
  have HCL := Lib.hid (show ∀ o j u, (rowG rs)[j]? = some u → (w2.alloc o).cell? ⟨b, 13 + j, none⟩ = some u from fun o => by
    obtain ⟨b', e, _, _, _, _, hh⟩ := (HS.out.row.below ((Below.refl _ _).alloc (Nat.le_refl _) o)).head
    injection e with e
    injection e with e
    subst e
    exact hh)
  go_upto_region 5 with (refine cut_tailA rfl _ _ rfl rfl rfl HLC.out ?_; intro ad had; refine Hid.out ?_)
  refine Lib.hid ?_
  refine app_tailA (rs := rs) rfl _ _ rfl rfl (ra_empty _) rfl rfl (fun j u hu => ?_) hn ?_
  · have hj : 0 < rs.length := by
      rcases Nat.eq_zero_or_pos rs.length with h | h
      · rw [List.length_eq_zero_iff.1 h] at hu; simp [rowG] at hu
      · exact h
    rw [had hj, Addr.add_mid]
    exact HCL.out _ j u hu
  intro v3 w3 k1 k2 k3
  have hgl := HS.out.st.lt
  have k4 : Has w3 g RT #[.slice bA bs.length d, .slice (some ⟨b, 0, none⟩) (rs.length + 1) lc] := (k2.block g (by simp; omega) (fun e => by have e2 : some g = some w2.heap.size := e; injection e2 with e3; omega)).trans (HS.out.st.alloc _)
  have kb : Below w2.heap.size w2 w3 := ((Below.refl w2.heap.size w2).alloc (Nat.le_refl _) (.cells #[] 29)).trans ⟨k2.os, k2.tape, k2.output, k2.size, fun k hk => k2.block k (by simp; omega) (fun e => by have e2 : some k = some w2.heap.size := e; injection e2 with e3; omega)⟩
  have kn : ∀ k, v3.ownBlock = some k → w2.heap.size ≤ k := fun k e => by
    rcases k3 with k3 | k3
    · have e2 : some k = some w2.heap.size := e.symm.trans k3
      injection e2 with e3
      omega
    · have e2 : some k = some (w2.alloc (.cells #[] 29)).heap.size := e.symm.trans k3
      injection e2 with e3
      have e4 : (w2.alloc (.cells #[] 29)).heap.size = w2.heap.size + 1 := by simp
      omega
  obtain ⟨A3, c3, rfl, _⟩ := k1.form
  have hc3 := k4.cell 1
  have hm3 := k4.mark 1
  simp only [List.getElem?_toArray, List.getElem?_cons_succ, List.getElem?_cons_zero] at hc3
  have hyg : y ≠ g := fun e => has_types (e ▸ HS.out.box) HS.out.st (by decide)
  have hwg : w.heap.size ≠ g := fun e => has_types (e ▸ HS.out.res) HS.out.st (by decide)
  have hk : ButS [g] w (w3.setCell ⟨g, 1, none⟩ (.slice A3 rs.length c3)) := (below_butS (HS.out.keep.trans (kb.mono HS.out.keep.size)) [g]).trans (setCell_butS1 _ _ _ _)
  have HF := Lib.hid (h0.out.taken (k4.put 1 (.slice A3 rs.length c3)) (k1.same fun k e => heap_setCell_other _ _ _ _ (fun e2 => k1.apart k4 (by decide) (by simp only at e2; rw [e, e2]))) (fun k e => Nat.le_trans HS.out.keep.size (kn k e)) hk)
  have HB4 := Lib.hid (show Has (w3.setCell ⟨g, 1, none⟩ (.slice A3 rs.length c3)) y 29 (accC r.a r.A r.k r.c) ∧ Has (w3.setCell ⟨g, 1, none⟩ (.slice A3 rs.length c3)) w.heap.size 29 (accC zeroAc none 0 0) from
    ⟨(HS.out.box.below kb HS.out.box.lt).putFar (show y ≠ (⟨g, 1, none⟩ : Addr).block from hyg) _, (HS.out.res.below kb HS.out.res.lt).putFar (show w.heap.size ≠ (⟨g, 1, none⟩ : Addr).block from hwg) _⟩)
  have HKN := Lib.hid (show ∀ k, (Value.slice A3 rs.length c3).ownBlock = some k → k ≠ w.heap.size from fun k e => by have := kn k e; have := HS.out.res.lt; omega)
  clear k1 k2 k3 k4 kb kn hk HCL HS hyg hwg had HLC h0 c2 hgl
  go_upto_region 5 with fail
  clear hc3 hm3
  generalize w3.setCell _ _ = w4 at HF HB4 ⊢
  go_wp2_with (first | (refine load_has rfl _ rfl y rfl HB4.out.1 ?_) | (refine store_has rfl _ _ rfl w.heap.size rfl rfl HB4.out.2 rfl ?_))
  refine bodyPost_ret (ret_row rfl _ _ _ 29 (accC r.a r.A r.k r.c) _ rfl (HB4.out.2.row _) Try.underlying29 rfl (by exact Try.sizeAcc)) rfl ?_
  obtain ⟨f1, f2, f3⟩ := HF.out
  have hset : ∀ k, k ≠ w.heap.size → (w4.setRow w.heap.size (accC r.a r.A r.k r.c)).heap[k]? = w4.heap[k]? := fun k hk => setRow_other _ _ _ _ hk
  have hsz : (w4.setRow w.heap.size (accC r.a r.A r.k r.c)).heap.size = w4.heap.size := by simp
  have hres := HB4.out.2
  have hint : ∀ {k cur}, Has w4 k 3 cur → k ≠ w.heap.size := fun hh e => has_types (e ▸ hh) hres (by decide)
  have g1 : RqM (fun k => GrowO O w w4 k ∧ k ≠ w.heap.size) w4 g bs (.slice bA bs.length d) (.slice A3 rs.length c3) rs :=
    ⟨f1.st, f1.bd, f1.row, f1.hist, ⟨f1.inG, fun e => has_types (e ▸ f1.st) hres (by decide)⟩, (fun k e => ⟨f1.inD k e, by obtain ⟨c, hh⟩ := f1.bd.has e; exact hint hh⟩), (fun k e => ⟨f1.inL k e, HKN.out k e⟩), fun q hq k e => ⟨f1.inH q hq k e, by obtain ⟨c, hh⟩ := (f1.hist q hq).has e; exact hint hh⟩⟩
  have hs4 := f3.size
  refine ⟨rfl, ⟨_, (g1.same (w' := w4.setRow w.heap.size (accC r.a r.A r.k r.c)) fun k hk => hset k hk.2).mono fun k hk ho => ?_⟩, f2.same fun k e => hset k (by obtain ⟨c, hh⟩ := f2.has e; exact hint hh), f3.andThen (⟨rfl, rfl, rfl, by rw [hsz]; exact Nat.le_refl _, fun k hk hn => hset k hn⟩ : ButO (fun k => k = w.heap.size) w4 (w4.setRow w.heap.size (accC r.a r.A r.k r.c))) fun i hi hl => by omega⟩
  rcases ho.1 with h4 | h4
  · exact .inl h4
  · exact .inr ⟨h4.1, hk⟩
end

end Go.Proofs.Ytjmaeiilkbfnaaa

namespace Go.Proofs.Ytjmaeiilkbfnaaa
open Go.RowKit

section
variable {O O' : Nat → Prop} {w w' w1 : World} {g k c : Nat} {bs : List Int} {bv L : Value} {rs : List Rw} {A : Option Addr} {u : Ac}
/-- What Push's look leaves. -/
structure RuS (w : World) (A : Option Addr) (k c : Nat) (u : Ac) (wr : World) : Prop where
  box : Has wr w.heap.size 29 (accC u A k c)
  keep : Below w.heap.size w wr
set_option maxRecDepth 100000 in
set_option maxHeartbeats 2000000 in
theorem rqpush_no (h : RqM O w g bs bv L rs) (hJ : RowJ bs (rs.map (·.a))) (hn : rs.length ≤ 65536) (hu : Ints w A k u.h) (hk : k ≤ c) (hc : c ≤ maxLen) (hno : ¬ RowJ bs (rs.map (·.a) ++ [u])) :
    Calls Try.prog 28 #[.pointer (some ⟨g, 0, none⟩), .agg (accC u A k c)] w fun e w' => e = .returned (.int .i64 1700) ∧ Below w.heap.size w w' := by
  have HCT := Lib.hid (show ∀ w', Below w.heap.size w w' → Calls Try.prog 30 #[.pointer (some ⟨g, 0, none⟩)] w' (OutJ (joinAc bs (rs.map (·.a))) w') from fun w' hb => rqtotal_any (h.below hb) hJ hn)
  have HBD := Lib.hid h.bd
  obtain ⟨bA, d, LA, lc, rfl, rfl⟩ := h.forms
  have h8 := (boundsB_true hJ.bd).1
  obtain ⟨code, hcode, hj⟩ := rjoin_bad17 (m := bs.length) (n := 2) (by unfold maxLen; omega) (by omega) (fun h2 => hno ((RowJ.snoc_iff hJ).1 h2))
  have HCJ := Lib.hid (show ∀ (w' : World) (e : Nat), Below w.heap.size w w' → Accs w' (some ⟨e, 0, none⟩) 2 [joinAc bs (rs.map (·.a)), u] → Calls Try.prog 12 #[.slice bA bs.length d, .slice (some ⟨e, 0, none⟩) 2 2] w' (OutX zeroAc code w') from fun w' e hb hx => hj w' _ _ _ _ (bd_ints HBD.out hb) hx)
  have HST := Lib.hid h.st
  have HU := Lib.hid hu
  have HB0 := Lib.hid (show Below w.heap.size w (w.alloc (.cells (accC u A k c) 29)) from (Below.refl _ _).alloc (Nat.le_refl _) _)
  clear h hJ hu hno hj
  generalize joinAc bs (rs.map (·.a)) = T at HCT HCJ
  generalize bs.length = m at HST HCJ
  generalize rs.length = ln at HST
  go_enter Try.func28, Try.ntmps28
  go_upto_region 1 with fail
  refine rtp1_any (g := g) (m := m) (d := d) (ln := ln) (lc := lc) (z := w.heap.size + 1) (bA := bA) (LA := LA) (k := k) (c := c) (x := w.heap.size) (A := A) (T := T) (u := u) (U := zeroAc) (code := code) ⟨rfl, rfl, rfl, HST.out.alloc _, by simp, Has.made _ _ _, HU.out.below HB0.out, hk, hc, fun w' hb => HCT.out w' (HB0.out.trans (hb.mono (by simp))), fun w' e hb ha => HCJ.out w' e (HB0.out.trans (hb.mono (by simp))) ha⟩ (by kernel_rfl) ?_ ?_
  all_goals
    intro A13 n13 c13 e15 A16 n16 c16 A7 n7 c7 A17 n17 c17 y5 w9 hB9 _ _ _ _ _ hY
    have HB9 := Lib.hid (HB0.out.trans (hB9.mono (by simp)))
    have HY := Lib.hid hY
    clear hB9 hY HCT HCJ HB0 HU HST
    simp only [putAll, Act.put, List.setIfInBounds_toArray, List.set_cons_succ, List.set_cons_zero, List.drop_succ_cons, List.drop_zero, pickL, List.filterMap_cons, List.getElem?_cons_succ, List.getElem?_cons_zero, List.filterMap_nil]
    refine store_has rfl _ _ rfl y5 (ac := zeroAc) (A := A17) (k := n17) (c := c17) rfl rfl HY.out.1 rfl ?_
    go_wp2_with fail
    go_ret
    have hlo := HY.out.2
    exact ⟨rfl, below_row HB9.out (by omega) _⟩

set_option maxRecDepth 100000 in
set_option maxHeartbeats 4000000 in
theorem rqpush_ok (h : RqM O w g bs bv L rs) (hn : rs.length ≤ 65536) (hu : Ints w A k u.h) (hk : k ≤ c) (hc : c ≤ maxLen) (hnil : A = none → c = 0) (hk8 : k * 8 ≤ 140737488351232) (hJ2 : RowJ bs (rs.map (·.a) ++ [u])) :
    Calls Try.prog 28 #[.pointer (some ⟨g, 0, none⟩), .agg (accC u A k c)] w fun e w' => e = .returned (.int .i64 0) ∧ (∃ L' r, r.a = u ∧ RqM (GrowO O w w') w' g bs bv L' (rs ++ [r])) ∧ ButO O w w' := by
  have hJ := RowJ.left hJ2
  have HQ := Lib.hid h
  have HCT := Lib.hid (show ∀ w', Below w.heap.size w w' → Calls Try.prog 30 #[.pointer (some ⟨g, 0, none⟩)] w' (OutJ (joinAc bs (rs.map (·.a))) w') from fun w' hb => rqtotal_any (h.below hb) hJ hn)
  have HBD := Lib.hid h.bd
  obtain ⟨bA, d, LA, lc, rfl, rfl⟩ := h.forms
  have hp := (RowJ.snoc_iff hJ).2 hJ2
  have HCJ := Lib.hid (show ∀ (w' : World) (e : Nat), Below w.heap.size w w' → Accs w' (some ⟨e, 0, none⟩) 2 [joinAc bs (rs.map (·.a)), u] → Calls Try.prog 12 #[.slice bA bs.length d, .slice (some ⟨e, 0, none⟩) 2 2] w' (OutX (joinAc bs [joinAc bs (rs.map (·.a)), u]) 0 w') from fun w' e hb hx => (rjoin_ok17 (bd_ints HBD.out hb) hx (by omega) hp).mono fun _ _ ⟨A, n, c, h1, _, h3⟩ => ⟨A, n, c, h1, h3⟩)
  have HST := Lib.hid h.st
  have HROW := Lib.hid h.row
  have HU := Lib.hid hu
  have HN := Lib.hid hn
  have HB0 := Lib.hid (show Below w.heap.size w (w.alloc (.cells (accC u A k c) 29)) from (Below.refl _ _).alloc (Nat.le_refl _) _)
  have HCC := Lib.hid (show ∀ w', Below w.heap.size w w' → Calls Try.prog 45 #[.agg (accC u A k c)] w' (CopyOut u w') from fun w' hb => rcopyown_any u A k c w' (hu.below hb) hk8 hnil)
  clear h hJ hu hJ2 hp hn
  generalize joinAc bs [joinAc bs (rs.map (·.a)), u] = U at HCJ
  generalize joinAc bs (rs.map (·.a)) = T at HCT HCJ
  go_enter Try.func28, Try.ntmps28
  go_upto_region 1 with fail
  refine rtp1_any (g := g) (m := bs.length) (d := d) (ln := rs.length) (lc := lc) (z := w.heap.size + 1) (bA := bA) (LA := LA) (k := k) (c := c) (x := w.heap.size) (A := A) (T := T) (u := u) (U := U) (code := 0) ⟨rfl, rfl, rfl, HST.out.alloc _, by simp, Has.made _ _ _, HU.out.below HB0.out, hk, hc, fun w' hb => HCT.out w' (HB0.out.trans (hb.mono (by simp))), fun w' e hb ha => HCJ.out w' e (HB0.out.trans (hb.mono (by simp))) ha⟩ (by kernel_rfl) ?_ ?_
  all_goals
    intro A13 n13 c13 e15 A16 n16 c16 A7 n7 c7 A17 n17 c17 y5 w9 hB9 _ _ _ _ _ hY
    have HP1 := Lib.hid (show RuS w A k c u (w9.setRow y5 (accC U A17 n17 c17)) from ⟨((Has.made w _ _).below hB9 (by simp)).rowFar (by have := hY.2; omega) _, below_row (HB0.out.trans (hB9.mono (by simp))) (by have := hY.2; omega) _⟩)
    have HY := Lib.hid hY
    clear hB9 hY HCT HCJ HB0 HU
    simp only [putAll, Act.put, List.setIfInBounds_toArray, List.set_cons_succ, List.set_cons_zero, List.drop_succ_cons, List.drop_zero, pickL, List.filterMap_cons, List.getElem?_cons_succ, List.getElem?_cons_zero, List.filterMap_nil]
    refine store_has rfl _ _ rfl y5 (ac := U) (A := A17) (k := n17) (c := c17) rfl rfl HY.out.1 rfl ?_
    generalize w9.setRow _ _ = w10 at HP1 ⊢
    clear HY
    go_upto_region 4 with fail
    refine rtp4_any (g := g) (m := bs.length) (d := d) (ln := rs.length) (lc := lc) (z := w.heap.size) (bA := bA) (LA := LA) (k := k) (c := c) (x := w.heap.size) (A := A) (u := u) ⟨rfl, rfl, rfl, HST.out.below HP1.out.keep HST.out.lt, HP1.out.keep.size, HP1.out.box, fun w' hb => HCC.out w' (HP1.out.keep.trans (hb.mono HP1.out.keep.size))⟩ (by kernel_rfl) ?_ ?_
    all_goals
      intro A27 n27 c27 e28 A28 n28 c28 w11 hB11 _ hR
      have HB11 := Lib.hid (HP1.out.keep.trans (hB11.mono HP1.out.keep.size))
      have HR := Lib.hid hR
      clear hB11 hR
      simp only [putAll, Act.put, List.setIfInBounds_toArray, List.set_cons_succ, List.set_cons_zero, List.drop_succ_cons, List.drop_zero, pickL, List.filterMap_cons, List.getElem?_cons_succ, List.getElem?_cons_zero, List.filterMap_nil]
      refine app_accW (r := ⟨u, A28, n28, c28⟩) rfl _ _ rfl rfl (HROW.out.below HB11.out) rfl HR.out.1 HN.out ?_
      intro v2 w2 h1 h2 h3
      obtain ⟨k1, k2⟩ := grown_pushedR (HST.out.below HB11.out HST.out.lt) (HROW.out.below HB11.out) (Below.refl _ _) h1 h2 h3
      obtain ⟨A2, c2, rfl, _⟩ := h1.form
      generalize (rs ++ [(⟨u, A28, n28, c28⟩ : Rw)]).length = n2 at h1 h3 k2 ⊢
      have hci := k1.cell 1
      have hmi := k1.mark 1
      simp only [List.getElem?_toArray, List.getElem?_cons_succ, List.getElem?_cons_zero] at hci
      have HF := Lib.hid (HQ.out.put HB11.out HR.out.2 k2)
      clear h1 h2 h3 k1 k2
      go_wp2_with fail
      go_ret
      obtain ⟨⟨L', q1⟩, q2⟩ := HF.out
      exact ⟨rfl, ⟨L', _, rfl, q1⟩, q2⟩
end

end Go.Proofs.Ytjmaeiilkbfnaaa

namespace Go.Proofs.Ytjmaeiilkbfnaaa
open Go.RowKit

/-- The statement's queue at g holds the row xs; it lies in blocks out of O, all made since w0; nothing older was turned. -/
structure LR (w0 : World) (O : Nat → Prop) (g : Nat) (bs : List Int) (xs : List Ac) (w : World) : Prop where
  q : ∃ bv L rs, RqM O w g bs bv L rs ∧ rs.map (·.a) = xs
  lo : ∀ k, O k → w0.heap.size ≤ k
  hi : ∀ k, O k → k < w.heap.size
section
variable {w0 w w' : World} {O O' : Nat → Prop} {g : Nat} {bs : List Int} {xs ys : List Ac} {a : Ac}
theorem LR.same (h : LR w0 O g bs xs w) (hk : ∀ k, O k → w'.heap[k]? = w.heap[k]?) (hs : w.heap.size ≤ w'.heap.size) : LR w0 O g bs xs w' := by
  obtain ⟨bv, L, rs, h1, h2⟩ := h.q
  exact ⟨⟨bv, L, rs, h1.same hk, h2⟩, h.lo, fun k hk => Nat.lt_of_lt_of_le (h.hi k hk) hs⟩
theorem LR.below (h : LR w0 O g bs xs w) (hb : Below w.heap.size w w') : LR w0 O g bs xs w' := h.same (fun k hk => hb.block k (h.hi k hk)) hb.size
theorem LR.butO (h : LR w0 O g bs xs w) (hb : ButO O' w w') (hd : ∀ k, O k → ¬ O' k) : LR w0 O g bs xs w' := h.same (fun k hk => hb.other k (h.hi k hk) (hd k hk)) hb.size
theorem LR.grown (h : LR w0 O g bs xs w) (hw : w0.heap.size ≤ w.heap.size) (hs : w.heap.size ≤ w'.heap.size) {bv L : Value} {rs : List Rw} (hq : RqM (GrowO O w w') w' g bs bv L rs) (he : rs.map (·.a) = ys) : LR w0 (GrowO O w w') g bs ys w' :=
  ⟨⟨bv, L, rs, hq, he⟩, fun k hk => by
    rcases hk with hk | hk
    · exact h.lo k hk
    · omega, fun k hk => by
    rcases hk with hk | hk
    · have := h.hi k hk; omega
    · exact hk.2⟩
theorem LR.total (h : LR w0 O g bs xs w) (hJ : RowJ bs xs) (hn : xs.length ≤ 65536) :
    Calls Try.prog 30 #[.pointer (some ⟨g, 0, none⟩)] w (OutJ (joinAc bs xs) w) := by
  obtain ⟨bv, L, rs, h1, rfl⟩ := h.q
  exact rqtotal_any h1 hJ (by rwa [List.length_map] at hn)
theorem LR.push_no {A : Option Addr} {k c : Nat} (h : LR w0 O g bs xs w) (hJ : RowJ bs xs) (hn : xs.length ≤ 65536) (hu : Ints w A k a.h) (hk : k ≤ c) (hc : c ≤ maxLen) (hno : ¬ RowJ bs (xs ++ [a])) :
    Calls Try.prog 28 #[.pointer (some ⟨g, 0, none⟩), .agg (accC a A k c)] w fun e w' => e = .returned (.int .i64 1700) ∧ Below w.heap.size w w' := by
  obtain ⟨bv, L, rs, h1, rfl⟩ := h.q
  exact rqpush_no h1 hJ (by rwa [List.length_map] at hn) hu hk hc hno
theorem LR.push {A : Option Addr} {k c : Nat} (h : LR w0 O g bs xs w) (hw : w0.heap.size ≤ w.heap.size) (hn : xs.length ≤ 65536) (hu : Ints w A k a.h) (hk : k ≤ c) (hc : c ≤ maxLen) (hnil : A = none → c = 0) (hk8 : k * 8 ≤ 140737488351232) (hJ2 : RowJ bs (xs ++ [a])) :
    Calls Try.prog 28 #[.pointer (some ⟨g, 0, none⟩), .agg (accC a A k c)] w fun e w' => e = .returned (.int .i64 0) ∧ LR w0 (GrowO O w w') g bs (xs ++ [a]) w' ∧ ButO O w w' := by
  have h9 := h
  obtain ⟨bv, L, rs, h1, rfl⟩ := h.q
  refine (rqpush_ok h1 (by rwa [List.length_map] at hn) hu hk hc hnil hk8 hJ2).mono ?_
  rintro e w' ⟨rfl, ⟨L', r, rfl, h3⟩, h4⟩
  exact ⟨rfl, h9.grown hw h4.size h3 (by simp), h4⟩
theorem LR.popNone (h : LR w0 O g bs [] w) :
    Calls Try.prog 25 #[.pointer (some ⟨g, 0, none⟩)] w fun e w' => e = .returned (.tuple #[accV zeroAc none 0 0, .int .i64 1701]) ∧ Below w.heap.size w w' := by
  obtain ⟨bv, L, rs, h1, h2⟩ := h.q
  obtain rfl : rs = [] := List.map_eq_nil_iff.1 h2
  exact rqpop_none h1
/-- What a pop of it hands out and leaves. -/
def RPop (w0 : World) (O : Nat → Prop) (g : Nat) (bs : List Int) (a : Ac) (ys : List Ac) (w : World) (e : Ending) (w' : World) : Prop :=
  ∃ A k c, e = .returned (.tuple #[accV a A k c, .int .i64 0]) ∧ OwnI w' 0 (.slice A k c) a.h ∧ LR w0 (GrowO O w w') g bs ys w' ∧ ButO O w w'
theorem LR.pop (h : LR w0 O g bs (a :: ys) w) (hw : w0.heap.size ≤ w.heap.size) (hn : ys.length ≤ 65536) :
    Calls Try.prog 25 #[.pointer (some ⟨g, 0, none⟩)] w (RPop w0 O g bs a ys w) := by
  have h9 := h
  obtain ⟨bv, L, rs, h1, h2⟩ := h.q
  cases rs with
  | nil => cases h2
  | cons r rs =>
    rw [List.map_cons] at h2
    injection h2 with e1 e2
    subst e1 e2
    refine (rqpop_some h1 (by rwa [List.length_map] at hn)).mono ?_
    rintro e w' ⟨rfl, ⟨L', h3⟩, h4, h5⟩
    exact ⟨r.A, r.k, r.c, rfl, h4, h9.grown hw h5.size h3 rfl, h5⟩
theorem lr_new {e : Ending} (hw : w0.heap.size ≤ w.heap.size) (h : NewQ RT (fun bv => #[bv, .slice none 0 0]) bs w e w') : ∃ g, e = .returned (.tuple #[.pointer (some ⟨g, 0, none⟩), .int .i64 0]) ∧ LR w0 (fun k => w.heap.size ≤ k ∧ k < w'.heap.size) g bs [] w' ∧ Below w.heap.size w w' := by
  obtain ⟨g, A, c, rfl, h1, h2, h3, h4⟩ := h
  refine ⟨g, rfl, ⟨⟨.slice A bs.length c, .slice none 0 0, [], ⟨h2, h3.mono (Nat.zero_le _), OwnA.nil _, (fun r hr => by cases hr), ⟨h1, h2.lt⟩, fun k e => ?_, (fun k e => by simp [Value.ownBlock] at e), (fun r hr => by cases hr)⟩, rfl⟩, fun k hk => by omega, fun k hk => hk.2⟩, h4⟩
  obtain ⟨cur, hh⟩ := h3.has e
  refine ⟨?_, hh.lt⟩
  cases A with
  | none => simp [Value.ownBlock] at e
  | some ad =>
    have := h3.new ad rfl
    simp [Value.ownBlock] at e
    omega
/-- How many it holds, as its field tells. -/
theorem LR.field (h : LR w0 O g bs xs w) : ∃ A c, w.cell? ⟨g, 1, none⟩ = some (.slice A xs.length c) := by
  obtain ⟨bv, L, rs, h1, rfl⟩ := h.q
  obtain ⟨bA, d, LA, lc, rfl, rfl⟩ := h1.forms
  exact ⟨LA, lc, by rw [List.length_map]; exact h1.st.cell 1⟩
end

end Go.Proofs.Ytjmaeiilkbfnaaa
