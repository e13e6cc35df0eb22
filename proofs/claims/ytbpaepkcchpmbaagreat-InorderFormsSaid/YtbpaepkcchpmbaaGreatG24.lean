import Derived.Test.YtbpaepkcchpmbaaGreatG22
import Derived.Test.YtbpaepkcchpmbaaGreatHead3
import Derived.Test.YtbpaepkcchpmbaaGreatG12
namespace Go.Proofs.YtbpaepkcchpmbaaGreat
open Go.RowKit
def row1P (q : Pt) : Fact := fun v w => ∃ e, v = .slice (some ⟨e, 0, none⟩) 1 1 ∧ Has w e 271 (partC q)
theorem row1P_mono (q : Pt) : Mono (row1P q) := fun _ _ _ hb ⟨e, he, h⟩ => ⟨e, he, h.below hb h.lt⟩
set_option maxRecDepth 100000 in
theorem run_ldK {g k : Nat} {A : Option Addr} {m c : Nat} {w : World} (h : w.cell? ⟨g, k, none⟩ = some (.slice A m c)) : (Instr.loadAt 205 (.pointer (some ⟨g, k, none⟩))).run Tryz.prog w = .ok (.slice A m c) w := by simp [go_sem, h, Instr.loadAt]
theorem rf_loadP {D : List (Option Tmp)} {Φ : Fact} {o : Oper} {a : Act} {w : World} (hw : Region.wanted o (yieldD D a.tmps) = true) {t : Tmp} (hd : o.dst = some t) (x : Operand) (ho : o.op = .load 271 x) (g k : Nat) (hx : a.eval x = .pointer (some ⟨g, k, none⟩)) (q : Pt) (hc : w.rangeAt g k (partL q)) (h : Φ (.agg (partC q)) w) : StepD Tryz.prog D Φ o a w :=
  rf_loadS hw hd 271 x ho g k hx (partL q) hc Tryz.underlying271 rfl (by rw [partL_len]; exact Tryz.sizePart) (by unfold partL; simpa using h)
theorem rf_oneP {D : List (Option Tmp)} {Φ : Fact} {o : Oper} {a : Act} {w : World} (hw : Region.wanted o (yieldD D a.tmps) = true) {t : Tmp} (hd : o.dst = some t) (x : Operand) (ho : o.op = .buildSlice 205 1 #[(0, x)]) (q : Pt) (hx : a.eval x = .agg (partC q)) (h : ∀ v w', row1P q v w' → Φ v w') : StepD Tryz.prog D Φ o a w := by
  have e : (Instr.buildSlice 205 1 #[(0, .agg (partC q))]).run Tryz.prog w = .ok (.slice (some ⟨w.heap.size, 0, none⟩) 1 1) (w.alloc (.cells (partC q) 271)) := by kernel_rfl
  refine step_val hw hd (.slice (some ⟨w.heap.size, 0, none⟩) 1 1) (w.alloc (.cells (partC q) 271)) ?_ ((Below.refl _ w).alloc (Nat.le_refl _) _) (h _ _ ⟨_, rfl, Has.made _ _ _⟩)
  unfold execOp
  rw [ho]
  generalize a.eval = ev at hx ⊢
  simp only [List.map_toArray, List.map_cons, List.map_nil, hx, Sem.run_bind, e, Result.andThen_ok]
  rfl
def spu1D : List (Option Tmp) := [some 4, some 5, some 6, some 7, some 8, some 9, some 10, some 11, none]
def spu1F (g i _x n c : Nat) (A : Option Addr) (q : Pt) : List Fact := [isV (.pointer (some ⟨g, i, none⟩)), isV (.pointer (some ⟨g, i, none⟩)), isV (.pointer (some ⟨g, i, none⟩)), isV (.slice A n c), isV (.agg (partC q)), row1P q]
theorem spu1F_mono (g i x n c : Nat) (A : Option Addr) (q : Pt) : ∀ φ ∈ spu1F g i x n c A q, Mono φ := by
  unfold spu1F
  repeat (first | exact monos_nil | (refine monos_cons (mono_isV _) ?_) | (refine monos_cons (row1P_mono _) ?_))
structure spu1S (g i x n c : Nat) (A : Option Addr) (q : Pt) (a0 : Act) (w0 : World) : Prop where
  size : a0.tmps.size = 12
  v0 : a0.tmps.getD 0 undef = .pointer (some ⟨g, i, none⟩)
  v3 : a0.tmps.getD 3 undef = .pointer (some ⟨x, 0, none⟩)
  ci : w0.cell? ⟨g, i, none⟩ = some (.slice A n c)
  bx : Has w0 x 271 (partC q)
section
variable {g i x n c : Nat} {A : Option Addr} {q : Pt} {a0 : Act} {w0 : World} (S : spu1S g i x n c A q a0 w0)
include S
set_option maxRecDepth 100000 in
set_option maxHeartbeats 8000000 in
theorem spu1_ok : AllOps (fun j o => ∀ (a : Act) (w : World), Below w0.heap.size w0 w → FrD (spu1D.take 6) a0 a → needs spu1D (spu1F g i x n c A q) a w o.after.toList → StepD Tryz.prog spu1D (factAt (spu1F g i x n c A q) j) o a w) 0 ((opsOf 1 Tryz.f220).take 6) := by
  simp only [opsOf, Tryz.f220, opsAt, Option.bind, Option.or, Option.getD, reduceCtorEq, if_true, if_false, List.take_succ_cons, List.take_zero]
  refine ⟨?_, ?_⟩
  · intro _a _w _hB hF _hd
    exact step_move (guard_none rfl) rfl _ rfl ((hF.other 0 rfl).trans S.v0)
  refine ⟨?_, ?_⟩
  · intro _a _w _hB hF _hd
    exact step_move (guard_none rfl) rfl _ rfl ((hF.other 0 rfl).trans S.v0)
  refine ⟨?_, ?_⟩
  · intro a _w _hB _hF hd
    have h5 : a.tmps.getD 5 undef = .pointer (some ⟨g, i, none⟩) := hd.1 rfl
    exact rf_nilck (guard_none rfl) rfl _ rfl _ h5 rfl
  refine ⟨?_, ?_⟩
  · intro a _w hB _hF hd
    have h6 : a.tmps.getD 6 undef = .pointer (some ⟨g, i, none⟩) := hd.1 rfl
    exact rf_load1 (guard_none rfl) rfl _ _ rfl _ _ h6 (run_ldK ((hB.cell (block_lt_of_cell S.ci)).trans S.ci)) rfl
  refine ⟨?_, ?_⟩
  · intro _a _w hB hF _hd
    exact rf_loadP (guard_none rfl) rfl _ rfl x 0 ((hF.other 3 rfl).trans S.v3) q (rf_range (S.bx.below hB S.bx.lt)) rfl
  refine ⟨?_, ?_⟩
  · intro a _w _hB _hF hd
    have h8 : a.tmps.getD 8 undef = .agg (partC q) := hd.1 rfl
    exact rf_oneP (guard_none rfl) rfl _ rfl q h8 (fun _ _ h => h)
  trivial
theorem spu1_any {Q : Exit → Act → World → Prop} {l : List Oper} (hl : opsOf 1 Tryz.f220 = l) (hend : ∀ (e9 : Nat), ∀ w : World, Below w0.heap.size w0 w → Has w e9 271 (partC q) → wpList Tryz.prog l.toArray Q (l.drop 6) (putAll a0 [(4, .pointer (some ⟨g, i, none⟩)), (5, .pointer (some ⟨g, i, none⟩)), (6, .pointer (some ⟨g, i, none⟩)), (7, .slice A n c), (8, .agg (partC q)), (9, .slice (some ⟨e9, 0, none⟩) 1 1)]) w)
    (hendQ : ∀ (e9 : Nat), ∀ w : World, Below w0.heap.size w0 w → Has w e9 271 (partC q) → wpList Tryz.prog l.toArray Q (pickL l [6, 0, 7, 8]) (putAll a0 [(4, a0.tmps.getD 4 undef), (5, .pointer (some ⟨g, i, none⟩)), (6, .pointer (some ⟨g, i, none⟩)), (7, .slice A n c), (8, .agg (partC q)), (9, .slice (some ⟨e9, 0, none⟩) 1 1)]) w) :
    (Code.region 1 l.toArray true).wp Tryz.prog Q a0 w0 := by
  subst hl
  refine region_head3 (spu1F g i x n c A q) spu1D 6 12 0 [0, 7, 8] S.size rfl (by kernel_rfl) (by kernel_rfl) (by kernel_rfl) (spu1F_mono _ _ _ _ _ _ _) (spu1_ok S) ?_ ?_
  · intro a w hB hF h
    obtain ⟨e9, h9, p9⟩ : row1P q (a.tmps.getD 9 undef) w := h 5 (some 9) (by omega) rfl
    have hv : valsAre a [(4, .pointer (some ⟨g, i, none⟩)), (5, .pointer (some ⟨g, i, none⟩)), (6, .pointer (some ⟨g, i, none⟩)), (7, .slice A n c), (8, .agg (partC q)), (9, .slice (some ⟨e9, 0, none⟩) 1 1)] := by
      refine ⟨?_, ?_, ?_, ?_, ?_, ?_, trivial⟩
      · exact h 0 (some 4) (by omega) rfl
      · exact h 1 (some 5) (by omega) rfl
      · exact h 2 (some 6) (by omega) rfl
      · exact h 3 (some 7) (by omega) rfl
      · exact h 4 (some 8) (by omega) rfl
      · exact h9
    rw [frame_is hF _ hv (by rfl) (by rfl)]
    exact hend e9 w hB p9
  · intro a w hB hF h hq
    obtain ⟨e9, h9, p9⟩ : row1P q (a.tmps.getD 9 undef) w := h 5 (some 9) (by omega) (by omega) rfl
    have hv : valsAre a [(4, a0.tmps.getD 4 undef), (5, .pointer (some ⟨g, i, none⟩)), (6, .pointer (some ⟨g, i, none⟩)), (7, .slice A n c), (8, .agg (partC q)), (9, .slice (some ⟨e9, 0, none⟩) 1 1)] := by
      refine ⟨?_, ?_, ?_, ?_, ?_, ?_, trivial⟩
      · exact hq (some 4) rfl
      · exact h 1 (some 5) (by omega) (by omega) rfl
      · exact h 2 (some 6) (by omega) (by omega) rfl
      · exact h 3 (some 7) (by omega) (by omega) rfl
      · exact h 4 (some 8) (by omega) (by omega) rfl
      · exact h9
    rw [frame_is hF _ hv (by rfl) (by rfl)]
    exact hendQ e9 w hB p9
end
end Go.Proofs.YtbpaepkcchpmbaaGreat
namespace Go.Proofs.YtbpaepkcchpmbaaGreat
open Go.RowKit
def OutX (U : Ac) (code : Int) (w : World) (e : Ending) (w' : World) : Prop := ∃ A n c, e = .returned (.tuple #[accV U A n c, .int .i64 code]) ∧ Below w.heap.size w w'
def accN (V : Ac) : Fact := fun v w => ∃ H, v = .agg (accC V (some ⟨H, 0, none⟩) V.h.length V.h.length) ∧ Has w H 3 (ints V.h)
theorem accN_mono (V : Ac) : Mono (accN V) := fun _ _ _ hb ⟨e, he, h⟩ => ⟨e, he, h.below hb h.lt⟩
def row2A (V W : Ac) : Fact := fun v w => ∃ e, v = .slice (some ⟨e, 0, none⟩) 2 2 ∧ Accs w (some ⟨e, 0, none⟩) 2 [V, W]
theorem row2A_mono (V W : Ac) : Mono (row2A V W) := fun _ _ _ hb ⟨e, he, h⟩ => ⟨e, he, h.below hb⟩
def accX (V : Ac) : Fact := fun v _ => ∃ A n c, v = .agg (accC V A n c) ∧ True
theorem accX_mono (V : Ac) : Mono (accX V) := fun _ _ _ _ h => h
def tupX (V : Ac) (code : Int) : Fact := fun v _ => ∃ A n c, v = .tuple #[.agg (accC V A n c), .int .i64 code] ∧ True
theorem tupX_mono (V : Ac) (code : Int) : Mono (tupX V code) := fun _ _ _ _ h => h
def newA (B : Nat) : Fact := fun v w => ∃ y, v = .pointer (some ⟨y, 0, none⟩) ∧ Has w y 144 (accC zeroAc none 0 0) ∧ B ≤ y
theorem newA_mono (B : Nat) : Mono (newA B) := fun _ _ _ hb ⟨e, he, h, h2⟩ => ⟨e, he, h.below hb h.lt, h2⟩
def partV (z hk c : Nat) (a T : Ac) : Fact := fun v w => ∃ H, v = .agg (partC ⟨a, hk, c, T, H⟩) ∧ Has w H 3 (ints T.h) ∧ z ≤ H
theorem partV_mono (z hk c : Nat) (a T : Ac) : Mono (partV z hk c a T) := fun _ _ _ hb ⟨e, he, h, h2⟩ => ⟨e, he, h.below hb h.lt, h2⟩
def accZ (z : Nat) (V : Ac) : Fact := fun v w => ∃ H, v = .agg (accC V (some ⟨H, 0, none⟩) V.h.length V.h.length) ∧ Has w H 3 (ints V.h) ∧ z ≤ H
theorem accZ_mono (z : Nat) (V : Ac) : Mono (accZ z V) := fun _ _ _ hb ⟨e, he, h, h2⟩ => ⟨e, he, h.below hb h.lt, h2⟩
theorem run_ldN {g k : Nat} {A : Option Addr} {m c : Nat} {w : World} (h : w.cell? ⟨g, k, none⟩ = some (.slice A m c)) : (Instr.loadAt 57 (.pointer (some ⟨g, k, none⟩))).run Tryz.prog w = .ok (.slice A m c) w := by simp [go_sem, h, Instr.loadAt]
section
variable {D : List (Option Tmp)} {Φ : Fact} {o : Oper} {a : Act} {w : World}
theorem rf_loadA (hw : Region.wanted o (yieldD D a.tmps) = true) {t : Tmp} (hd : o.dst = some t) (x : Operand) (ho : o.op = .load 144 x) (g : Nat) (hx : a.eval x = .pointer (some ⟨g, 0, none⟩)) {V : Ac} {A : Option Addr} {k c : Nat} (hc : Has w g 144 (accC V A k c)) (h : Φ (.agg (accC V A k c)) w) : StepD Tryz.prog D Φ o a w :=
  rf_loadS hw hd 144 x ho g 0 hx (accC V A k c).toList (rf_range hc) Tryz.underlying144 rfl Tryz.sizeAcc (by simpa using h)
set_option maxRecDepth 100000 in
theorem run_two (V W : Ac) (A B : Option Addr) (k c l d : Nat) (w : World) : (Instr.buildSlice 272 2 #[(0, .agg (accC V A k c)), (1, .agg (accC W B l d))]).run Tryz.prog w = .ok (.slice (some ⟨w.heap.size, 0, none⟩) 2 2) (w.alloc (.cells (accC V A k c ++ accC W B l d) 144)) := by kernel_rfl
theorem rf_twoG (hw : Region.wanted o (yieldD D a.tmps) = true) {t : Tmp} (hd : o.dst = some t) (x y : Operand) (ho : o.op = .buildSlice 272 2 #[(0, x), (1, y)]) (V W : Ac) (A B : Option Addr) (k c l d : Nat) (hx : a.eval x = .agg (accC V A k c)) (hy : a.eval y = .agg (accC W B l d)) (hV : Ints w A k V.h) (hW : Ints w B l W.h) (h1 : k ≤ c) (h2 : c ≤ maxLen) (h3 : l ≤ d) (h4 : d ≤ maxLen) (h : ∀ v w', row2A V W v w' → Φ v w') : StepD Tryz.prog D Φ o a w := by
  have hb : Below w.heap.size w (w.alloc (.cells (accC V A k c ++ accC W B l d) 144)) := (Below.refl _ w).alloc (Nat.le_refl _) _
  refine step_val hw hd (.slice (some ⟨w.heap.size, 0, none⟩) 2 2) (w.alloc (.cells (accC V A k c ++ accC W B l d) 144)) ?_ hb (h _ _ ⟨_, rfl, accs_two (Has.made _ _ _) rfl (hV.below hb) (hW.below hb) ⟨h1, h2⟩ ⟨h3, h4⟩⟩)
  unfold execOp
  rw [ho]
  generalize a.eval = ev at hx hy ⊢
  simp only [List.map_toArray, List.map_cons, List.map_nil, hx, hy, Sem.run_bind, run_two, Result.andThen_ok]
  rfl
theorem rf_2n (hw : Region.wanted o (yieldD D a.tmps) = true) {t : Tmp} (hd : o.dst = some t) (x y : Operand) (ho : o.op = .buildSlice 272 2 #[(0, x), (1, y)]) (V W : Ac) (H G : Nat) (hx : a.eval x = .agg (accC V (some ⟨H, 0, none⟩) V.h.length V.h.length)) (hy : a.eval y = .agg (accC W (some ⟨G, 0, none⟩) W.h.length W.h.length)) (hV : Has w H 3 (ints V.h)) (hW : Has w G 3 (ints W.h)) (h1 : V.h.length ≤ maxLen) (h2 : W.h.length ≤ maxLen) (h : ∀ v w', row2A V W v w' → Φ v w') : StepD Tryz.prog D Φ o a w :=
  rf_twoG hw hd x y ho V W _ _ _ _ _ _ hx hy (ints_of_has hV rfl) (ints_of_has hW rfl) (Nat.le_refl _) h1 (Nat.le_refl _) h2 h
theorem rf_twoA (hw : Region.wanted o (yieldD D a.tmps) = true) {t : Tmp} (hd : o.dst = some t) (x y : Operand) (ho : o.op = .buildSlice 272 2 #[(0, x), (1, y)]) (V W : Ac) (H : Nat) (B : Option Addr) (l d : Nat) (hx : a.eval x = .agg (accC V (some ⟨H, 0, none⟩) V.h.length V.h.length)) (hy : a.eval y = .agg (accC W B l d)) (hV : Has w H 3 (ints V.h)) (hW : Ints w B l W.h) (h1 : V.h.length ≤ maxLen) (h2 : l ≤ d) (h3 : d ≤ maxLen) (h : ∀ v w', row2A V W v w' → Φ v w') : StepD Tryz.prog D Φ o a w :=
  rf_twoG hw hd x y ho V W _ _ _ _ _ _ hx hy (ints_of_has hV rfl) hW (Nat.le_refl _) h1 h2 h3 h
theorem rf_twoB (hw : Region.wanted o (yieldD D a.tmps) = true) {t : Tmp} (hd : o.dst = some t) (x y : Operand) (ho : o.op = .buildSlice 272 2 #[(0, x), (1, y)]) (V W : Ac) (B : Option Addr) (l d : Nat) (H : Nat) (hx : a.eval x = .agg (accC V B l d)) (hy : a.eval y = .agg (accC W (some ⟨H, 0, none⟩) W.h.length W.h.length)) (hV : Ints w B l V.h) (hW : Has w H 3 (ints W.h)) (h1 : l ≤ d) (h2 : d ≤ maxLen) (h3 : W.h.length ≤ maxLen) (h : ∀ v w', row2A V W v w' → Φ v w') : StepD Tryz.prog D Φ o a w :=
  rf_twoG hw hd x y ho V W _ _ _ _ _ _ hx hy hV (ints_of_has hW rfl) h1 h2 (Nat.le_refl _) h3 h
set_option maxRecDepth 100000 in
theorem run_part (V W : Ac) (A B : Option Addr) (k c l d : Nat) (w : World) : (Instr.build 271 #[(0, .agg (accC V A k c)), (1, .agg (accC W B l d))]).run Tryz.prog w = .ok (.agg (accC V A k c ++ accC W B l d)) w := by kernel_rfl
theorem rf_part (hw : Region.wanted o (yieldD D a.tmps) = true) {t : Tmp} (hd : o.dst = some t) (x y : Operand) (ho : o.op = .build 271 #[(0, x), (1, y)]) (hk c : Nat) (V T : Ac) (H : Nat) (hx : a.eval x = .agg (accC V (some ⟨hk, 0, none⟩) V.h.length c)) (hy : a.eval y = .agg (accC T (some ⟨H, 0, none⟩) T.h.length T.h.length)) (hT : Has w H 3 (ints T.h)) {z : Nat} (hz : z ≤ H) (h : ∀ v w', partV z hk c V T v w' → Φ v w') : StepD Tryz.prog D Φ o a w := by
  refine step_val hw hd (.agg (partC ⟨V, hk, c, T, H⟩)) w ?_ (Below.refl _ _) (h _ _ ⟨H, rfl, hT, hz⟩)
  unfold execOp
  rw [ho]
  generalize a.eval = ev at hx hy ⊢
  simp only [List.map_toArray, List.map_cons, List.map_nil, hx, hy, Sem.run_bind, run_part, Result.andThen_ok]
  rfl
theorem runNewA (w : World) : (Instr.alloc 144 true (.tuple #[])).run Tryz.prog w = .ok (.pointer (some ⟨w.heap.size, 0, none⟩)) (w.alloc (.cells (accC zeroAc none 0 0) 144)) := by kernel_rfl
theorem rf_newA (hw : Region.wanted o (yieldD D a.tmps) = true) {t : Tmp} (hd : o.dst = some t) (ho : o.op = .alloc 144) {B : Nat} (hB : B ≤ w.heap.size) (h : ∀ v w', newA B v w' → Φ v w') : StepD Tryz.prog D Φ o a w := by
  refine step_val hw hd _ (w.alloc (.cells (accC zeroAc none 0 0) 144)) ?_ ((Below.refl _ _).alloc (Nat.le_refl _) _) (h _ _ ⟨_, rfl, Has.made _ _ _, hB⟩)
  unfold execOp
  rw [ho]
  simp only [Sem.run_bind, runNewA, Result.andThen_ok]
  rfl
end
end Go.Proofs.YtbpaepkcchpmbaaGreat
namespace Go.Proofs.YtbpaepkcchpmbaaGreat
open Go.RowKit
def earlyOk (l : List Oper) (q1 : Nat) (es : List Nat) : Bool :=
  match l[q1]? with
  | some o => es.all fun j => o.after.any fun e => Region.binds .any e && e.on == j
  | none => false
theorem early_of {l : List Oper} {q1 : Nat} {es : List Nat} (h : earlyOk l q1 es = true) {L : Nat → Bool} (hc : ∀ (i : Nat) (oi : Oper), l.toArray[i]? = some oi → L i = true → ∀ e ∈ oi.after, Region.binds .any e = true → L e.on = true) :
    ∀ j, j ∈ es → L j = false → L q1 = false := fun j hj hf => by
  cases h1 : L q1 with
  | false => rfl
  | true =>
    unfold earlyOk at h
    cases ho : l[q1]? with
    | none => rw [ho] at h; cases h
    | some o =>
      rw [ho] at h
      have h2 := List.all_eq_true.1 h j hj
      obtain ⟨i, hi, he⟩ := Array.any_eq_true.1 h2
      rw [Bool.and_eq_true] at he
      have := hc q1 o (by simpa using ho) h1 _ (Array.getElem_mem hi) he.1
      rw [(by simpa using he.2 : o.after[i].on = j), hf] at this
      cases this
section
variable {P : Program} {ops : Array Oper} {Q : Exit → Act → World → Prop} {a0 : Act} {Φ : Nat → Value → World → Prop} {N q1 q2 : Nat} {K : Nat → World → World → Prop} {I : Bool → Bool → World → Prop}
theorem head_invE (hback : ∀ (j : Nat) (o : Oper), ops[j]? = some o → ∀ e ∈ o.after, Region.binds .any e = true → e.on < j)
    (hdst : ∀ (i j : Nat) (oi oj : Oper) (t : Tmp), ops[i]? = some oi → ops[j]? = some oj → oi.dst = some t → oj.dst = some t → i = j)
    (hsz : ∀ (j : Nat) (o : Oper) (t : Tmp), ops[j]? = some o → o.dst = some t → t < a0.tmps.size)
    (mono : ∀ (i j : Nat) (v : Value) (w w' : World), i ≠ j → K i w w' → Φ j v w → Φ j v w')
    (hK : ∀ i w, K i w w) (hqN : q1 < N) (_ : q1 < q2) (hqq : ∀ o, ops[q2]? = some o → ∃ e ∈ o.after, Region.binds .any e = true ∧ e.on = q1)
    (hn : N < ops.size) (hsink : Region.sinkB .any ops N = true) (hchain : Region.chainB .any ops N = true) (hseq : Region.seqB .any ops (ops.size - N) N (canonL ops.size N) = true)
    (hstep : ∀ (j : Nat) (o : Oper), j < N → ops[j]? = some o → ∀ (a : Act) (w : World) (b1 b2 : Bool), (j = q1 → b1 = false ∧ b2 = false) → (j = q2 → b1 = true ∧ b2 = false) → (∃ L : Nat → Bool, b1 = L q1 ∧ b2 = L q2 ∧ L j = false ∧ (∀ (i : Nat) (oi : Oper), ops[i]? = some oi → L i = true → ∀ e ∈ oi.after, Region.binds .any e = true → L e.on = true) ∧ ∀ e ∈ o.after, Region.binds .any e = true → L e.on = true) → I b1 b2 w → FrN ops N a0 a → (∀ e ∈ o.after, Region.binds .any e = true → ∀ (oe : Oper), ops[e.on]? = some oe → Φ e.on (slotOf a oe.dst) w) → StepM P ops Q Φ K I q1 q2 j o a w b1 b2)
    (hend : ∀ (a : Act) (w : World), I true (decide (q2 < N)) w → FrN ops N a0 a → (∀ (j : Nat) (o : Oper), j < N → ops[j]? = some o → Φ j (slotOf a o.dst) w) → wpList P ops Q (ops.toList.drop N) a w) :
    ∀ (fuel : Nat) (listed : Array Bool) (a : Act) (w : World), HeadInv .any ops N listed → I (listed.getD q1 false) (listed.getD q2 false) w → FrN ops N a0 a →
      (∀ (j : Nat) (o : Oper), j < N → ops[j]? = some o → listed.getD j false = true → Φ j (slotOf a o.dst) w) →
      (listed.toList.filter (fun b => !b)).length = fuel → wpAny P .any ops Q fuel listed a w := by
  intro fuel
  induction fuel with
  | zero =>
    intro listed a w inv hB hF hfacts hcount
    exfalso
    have h1 := inv.tail N (Nat.le_refl _) hn
    have hjl : N < listed.size := by rw [inv.size]; exact hn
    have hm : listed[N] = false := by simpa [Array.getD, hjl] using h1
    have : false ∈ listed.toList.filter (fun b => !b) := List.mem_filter.2 ⟨by rw [← hm]; simp, rfl⟩
    have hpos := List.length_pos_of_mem this
    omega
  | succ fuel ih =>
    intro listed a w inv hB hF hfacts hcount
    by_cases hall : ∀ j, j < N → listed.getD j false = true
    · have e := canon_eq (Nat.le_of_lt hn) inv.size hall inv.tail
      have hc := canon_count ops.size N
      rw [← e, hcount] at hc
      have hl : (ops.toList.drop N).length = fuel + 1 := by simp; omega
      have e2 : listed.getD q2 false = decide (q2 < N) := by
        by_cases h2 : q2 < N
        · rw [hall q2 h2]; simp [h2]
        · rw [decide_eq_false h2]
          by_cases h3 : q2 < ops.size
          · have := inv.tail q2 (by omega) h3
            have hl2 : q2 < listed.size := by rw [inv.size]; exact h3
            simpa [Array.getD, hl2] using this
          · simp [Array.getD, inv.size, h3]
      rw [← hl]
      refine wpAny_of_seq (ops.toList.drop N) N listed a w (fun j => by simp) ?_ (hend a w (by rw [hall q1 hqN, e2] at hB; exact hB) hF fun j o hj ho => hfacts j o hj ho (hall j hj))
      rw [hl, e, hc]
      exact hseq
    · obtain ⟨i, hiN, hif⟩ : ∃ i, i < N ∧ listed.getD i true = false := by
        apply Classical.byContradiction
        intro hno
        apply hall
        intro j hj
        have hjl : j < listed.size := by rw [inv.size]; omega
        cases h : listed.getD j false with
        | true => rfl
        | false => exact absurd ⟨j, hj, getD_in hjl h⟩ hno
      have hlow : ∀ t, t ∈ Region.ready .any ops listed → t < N := fun t ht => by
        rcases Nat.lt_or_ge t N with h | h
        · exact h
        · exact absurd ht (tail_waits hsink hchain hn inv _ i rfl hiN hif t h)
      have hne : Region.ready .any ops listed ≠ [] := by
        intro hr
        have hall2 : ∀ j, j < ops.size → listed.getD j false = true := by
          intro j
          induction j using Nat.strongRecOn with
          | _ j ih2 =>
            intro hj
            cases h : listed.getD j false with
            | true => rfl
            | false =>
              have hjl : j < listed.size := by rw [inv.size]; exact hj
              have : j ∈ Region.ready .any ops listed := mem_ready.2 ⟨getD_in hjl h, ops[j], Array.getElem?_eq_getElem hj, fun e he hbd => by
                have hlt := hback j _ (Array.getElem?_eq_getElem hj) e he hbd
                exact ih2 e.on hlt (by omega)⟩
              rw [hr] at this
              cases this
        have := hall2 i (by omega)
        rw [getD_both hif] at this
        cases this
      refine ⟨fun hr => absurd hr hne, fun j hj => ?_⟩
      have hjN := hlow j hj
      obtain ⟨h0, o, ho, hdeps⟩ := mem_ready.1 hj
      have hil : j < listed.size := by rw [inv.size]; omega
      have hm : listed[j] = false := by simpa [Array.getD, hil] using h0
      have hjf : listed.getD j false = false := by simp [Array.getD, hil, hm]
      have hclose : listed.getD q2 false = true → listed.getD q1 false = true := fun h => by
        by_cases h3 : q2 < ops.size
        · obtain ⟨e, he, hb, hon⟩ := hqq ops[q2] (Array.getElem?_eq_getElem h3)
          have := inv.closed q2 ops[q2] (Array.getElem?_eq_getElem h3) h e he hb
          rwa [hon] at this
        · simp [Array.getD, inv.size, h3] at h
      have hun1 : j = q1 → listed.getD q1 false = false ∧ listed.getD q2 false = false := fun e => by
        have h1 : listed.getD q1 false = false := by rw [← e]; exact hjf
        refine ⟨h1, ?_⟩
        cases h : listed.getD q2 false with
        | false => rfl
        | true => rw [hclose h] at h1; cases h1
      have hun2 : j = q2 → listed.getD q1 false = true ∧ listed.getD q2 false = false := fun e => by
        refine ⟨?_, by rw [← e]; exact hjf⟩
        obtain ⟨e2, he, hb, hon⟩ := hqq o (by rw [← e]; exact ho)
        have := hdeps e2 he hb
        rwa [hon] at this
      have hst := hstep j o hjN ho a w _ _ hun1 hun2 ⟨fun i => listed.getD i false, rfl, rfl, hjf, fun i oi hi hl => inv.closed i oi hi hl, hdeps⟩ hB hF fun e he hb oe hoe => hfacts e.on oe (by have := hback j o ho e he hb; omega) hoe (hdeps e he hb)
      have hset1 : (listed.setIfInBounds j true).getD q1 false = (listed.getD q1 false || decide (j = q1)) := getD_or (by rw [inv.size]; omega)
      have hset2 : (listed.setIfInBounds j true).getD q2 false = (listed.getD q2 false || decide (j = q2)) := getD_or (by rw [inv.size]; omega)
      have next : ∀ v w', (o.dst = none → v = undef) → K j w w' → I (listed.getD q1 false || decide (j = q1)) (listed.getD q2 false || decide (j = q2)) w' → Φ j v w' → wpAny P .any ops Q fuel (listed.setIfInBounds j true) (a.put o.dst v) w' := by
        intro v w' hv hb hI hΦ
        refine ih _ _ _ (inv.set hj hjN) (by rw [hset1, hset2]; exact hI) ⟨?_, ?_, ?_⟩ ?_ ?_
        · cases hd : o.dst <;> simpa [Act.put] using hF.defers
        · cases hd : o.dst <;> simpa [Act.put] using hF.size
        · intro s hs
          rw [← hF.other s hs]
          cases hd : o.dst with
          | none => rfl
          | some t =>
            have hne : t ≠ s := fun e => hs j o hjN ho (by rw [hd, e])
            simp [Act.put, hne]
        · intro k ok hk hok hlk
          by_cases e : j = k
          · subst e
            obtain rfl : o = ok := by rw [ho] at hok; exact Option.some.inj hok
            cases hd : o.dst with
            | none => rw [hv hd] at hΦ; exact hΦ
            | some t => rw [slot_put_same _ _ (by rw [hF.size]; exact hsz j o t ho hd)]; exact hΦ
          · rw [slot_put_far _ _ fun t hjt hit => e (hdst j k o ok t ho hok hit hjt)]
            refine mono j k _ w w' e hb (hfacts k ok hk hok ?_)
            have hkl : k < listed.size := by rw [inv.size]; omega
            simpa [Array.getD, hkl, Array.getElem_setIfInBounds, e] using hlk
        · have := count_set_eq listed.toList j (by simpa [hil] using hm)
          rw [Array.toList_setIfInBounds]
          omega
      unfold wpOp
      rw [ho]
      unfold StepM at hst
      by_cases hw : Region.wanted o (yielded ops a.tmps) = true
      · simp only [hw, if_true] at hst ⊢
        refine .inl (Oper.wp_mono (fun a' w' ⟨v, e, hv, hb, hI, hΦ⟩ => ?_) hst)
        rw [e]
        exact next v w' hv hb hI hΦ
      · simp only [hw] at hst ⊢
        exact next undef w (fun _ => rfl) (hK j w) hst.2 hst.1
end
theorem region_headE {P : Program} {Q : Exit → Act → World → Prop} {a0 : Act} {w0 : World} {id : Nat} {l : List Oper} (K1 K2 : World → World → Prop) (I : Bool → Bool → World → Prop) (q1 q2 : Nat) (fs : List Fact) (D : List (Option Tmp)) (N n : Nat) (hn : a0.tmps.size = n) (hm : P.follows .mixedOrders = true) (hbook : bookB2 l n = true) (hD : l.map (·.dst) = D) (htail : tailB l N = true) (ls : List Nat) (hlate : lateOk l (if q2 < N then q2 else q1) ls = true) (es : List Nat) (hearly : earlyOk l q1 es = true)
    (hK1 : ∀ w, K1 w w) (hK2 : ∀ w, K2 w w) (hqN : q1 < N) (hq12 : q1 < q2) (hqq : ((l[q2]?).map fun o => o.after.any fun e => Region.binds .any e && e.on == q1) ≠ some false)
    (hI : ∀ b1 b2 w w', I b1 b2 w → Below w.heap.size w w' → I b1 b2 w') (h0 : I false false w0.drew)
    (mono : ∀ f ∈ fs, Mono f) (mono1 : ∀ j, j ≠ q1 → ∀ (v : Value) (w w' : World), K1 w w' → factAt fs j v w → factAt fs j v w') (mono2 : ∀ j, j ≠ q2 → ∀ (v : Value) (w w' : World), K2 w w' → factAt fs j v w → factAt fs j v w')
    (hstep : AllOps (fun j o => ∀ (a : Act) (w : World) (b1 b2 : Bool), (j = q1 → b1 = false ∧ b2 = false) → (j = q2 → b1 = true ∧ b2 = false) → (j ∈ ls → b1 = true ∧ (q2 < N → b2 = true)) → (j ∈ es → b1 = false) → I b1 b2 w → FrD (D.take N) a0 a → needs D fs a w o.after.toList → AskM P D (factAt fs j) K1 K2 I q1 q2 j o a w) 0 (l.take N))
    (hend : ∀ (a : Act) (w : World), I true (decide (q2 < N)) w → FrD (D.take N) a0 a → (∀ j d, j < N → D[j]? = some d → factAt fs j (slotOf a d) w) → wpList P l.toArray Q (l.drop N) a w) :
    (Code.region id l.toArray true).wp P Q a0 w0 := by
  subst hn
  simp only [bookB2, Bool.and_eq_true] at hbook
  obtain ⟨⟨h1, h2⟩, h3⟩ := hbook
  simp only [tailB, Bool.and_eq_true, decide_eq_true_eq] at htail
  obtain ⟨⟨⟨hN, t1⟩, t2⟩, t3⟩ := htail
  have hfr : ∀ a, FrN l.toArray N a0 a → FrD (D.take N) a0 a := fun a h => ⟨h.defers, h.size, fun s hs => h.other s fun j o hj ho hd => by
    have : (D.take N).contains (some s) = true := by
      rw [← hD, List.contains_iff_mem, ← hd, ← List.map_take]
      refine List.mem_map.2 ⟨o, List.mem_of_getElem? (i := j) ?_, rfl⟩
      rw [List.getElem?_take, if_pos hj]
      simpa using ho
    rw [hs] at this; cases this⟩
  have hslot : ∀ (i : Nat) (oe : Oper), l[i]? = some oe → (D[i]?).join = oe.dst := fun i oe h => by rw [← hD]; simp [h]
  have k1 : ∀ (j : Nat) (o : Oper), l.toArray[j]? = some o → ∀ e ∈ o.after, Region.binds .any e = true → e.on < j := fun j o ho e he hb => by
    have := backB2_at h1 (j := j) (by simpa using ho) e he hb
    omega
  have k2 : ∀ (i j : Nat) (oi oj : Oper) (t : Tmp), l.toArray[i]? = some oi → l.toArray[j]? = some oj → oi.dst = some t → oj.dst = some t → i = j := fun i j oi oj t hi hj hti htj =>
    dsts_apart h2 (by simpa using hi) (by simpa using hj) hti htj
  have k3 : ∀ (j : Nat) (o : Oper) (t : Tmp), l.toArray[j]? = some o → o.dst = some t → t < a0.tmps.size := fun j o t ho ht => by
    have := List.all_eq_true.1 h3 t (mem_dsts (j := j) (by simpa using ho) ht)
    simpa using this
  have kmono : ∀ (j : Nat) (v : Value) (w w' : World), Below w.heap.size w w' → factAt fs j v w → factAt fs j v w' := fun j v w w' hb h => by
    unfold factAt at h ⊢
    by_cases hj : j < fs.length
    · have e : fs.getD j (fun _ _ => True) = fs[j] := by simp [hj]
      rw [e] at h ⊢
      exact mono _ (List.getElem_mem hj) v w w' hb h
    · have e : fs.getD j (fun _ _ => True) = fun _ _ => True := by simp [List.getElem?_eq_none (Nat.le_of_not_lt hj)]
      rw [e]; trivial
  have k4 : ∀ (i j : Nat) (v : Value) (w w' : World), i ≠ j → kindK q1 q2 K1 K2 i w w' → factAt fs j v w → factAt fs j v w' := fun i j v w w' hne hk h => by
    unfold kindK at hk
    by_cases e1 : i = q1
    · rw [if_pos e1] at hk; exact mono1 j (fun e => hne (e1.trans e.symm)) v w w' hk h
    · rw [if_neg e1] at hk
      by_cases e2 : i = q2
      · rw [if_pos e2] at hk; exact mono2 j (fun e => hne (e2.trans e.symm)) v w w' hk h
      · rw [if_neg e2] at hk; exact kmono j v w w' hk h
  have kK : ∀ (i : Nat) (w : World), kindK q1 q2 K1 K2 i w w := fun i w => by
    unfold kindK
    by_cases e1 : i = q1
    · rw [if_pos e1]; exact hK1 w
    · rw [if_neg e1]
      by_cases e2 : i = q2
      · rw [if_pos e2]; exact hK2 w
      · rw [if_neg e2]; exact Below.refl _ _
  have k7 : ∀ o, l.toArray[q2]? = some o → ∃ e ∈ o.after, Region.binds .any e = true ∧ e.on = q1 := fun o ho => by
    have ho' : l[q2]? = some o := by simpa using ho
    rw [ho'] at hqq
    have : (o.after.any fun e => Region.binds .any e && e.on == q1) = true := by simpa using hqq
    obtain ⟨i, hi, he⟩ := Array.any_eq_true.1 this
    rw [Bool.and_eq_true] at he
    exact ⟨o.after[i], Array.getElem_mem hi, he.1, by simpa using he.2⟩
  have k5 : ∀ (j : Nat) (o : Oper), j < N → l.toArray[j]? = some o → ∀ (a : Act) (w : World) (b1 b2 : Bool), (j = q1 → b1 = false ∧ b2 = false) → (j = q2 → b1 = true ∧ b2 = false) → (∃ L : Nat → Bool, b1 = L q1 ∧ b2 = L q2 ∧ L j = false ∧ (∀ (i : Nat) (oi : Oper), l.toArray[i]? = some oi → L i = true → ∀ e ∈ oi.after, Region.binds .any e = true → L e.on = true) ∧ ∀ e ∈ o.after, Region.binds .any e = true → L e.on = true) → I b1 b2 w → FrN l.toArray N a0 a → (∀ e ∈ o.after, Region.binds .any e = true → ∀ (oe : Oper), l.toArray[e.on]? = some oe → factAt fs e.on (slotOf a oe.dst) w) → StepM P l.toArray Q (factAt fs) (kindK q1 q2 K1 K2) I q1 q2 j o a w b1 b2 := fun j o hj ho a w b1 b2 hb1 hb2 hL hB hF hd => by
    have hls : j ∈ ls → b1 = true ∧ (q2 < N → b2 = true) := fun hj' => by
      obtain ⟨L, e1, e2, _, hc, hdp⟩ := hL
      have hlast := late_of hlate hc j hj' o ho hdp
      by_cases h2 : q2 < N
      · rw [if_pos h2] at hlast
        have hsz2 : q2 < l.toArray.size := by simpa using Nat.lt_trans h2 hN
        obtain ⟨eo, he, hbd, hon⟩ := k7 (l.toArray[q2]'hsz2) (Array.getElem?_eq_getElem hsz2)
        have := hc q2 _ (Array.getElem?_eq_getElem hsz2) hlast eo he hbd
        rw [hon] at this
        exact ⟨by rw [e1, this], fun _ => by rw [e2, hlast]⟩
      · rw [if_neg h2] at hlast
        exact ⟨by rw [e1, hlast], fun h => absurd h h2⟩
    have hes : j ∈ es → b1 = false := fun hj' => by
      obtain ⟨L, e1, _, hf, hc, _⟩ := hL
      rw [e1]
      exact early_of hearly hc j hj' hf
    have ho' : (l.take N)[j]? = some o := by rw [List.getElem?_take, if_pos hj]; simpa using ho
    have hs := allOps_at hstep (j := j) ho'
    rw [Nat.zero_add] at hs
    have hlt := backB2_at h1 (j := j) (by simpa using ho)
    have hs' := hs a w b1 b2 hb1 hb2 hls hes hB (hfr a hF) (needs_of _ fun e he hb => by
      have he' : e ∈ o.after := by simpa using he
      have hl : e.on < l.length := by have := hlt e he' hb; omega
      rw [hslot e.on l[e.on] (List.getElem?_eq_getElem hl)]
      exact hd e he' hb l[e.on] (by simp [hl]))
    unfold StepM
    have ey : yielded l.toArray a.tmps = yieldD D a.tmps := funext fun i => yielded_D hD a.tmps i
    rw [ey]
    unfold AskM at hs'
    unfold kindK
    by_cases e1 : j = q1
    · rw [if_pos e1] at hs'
      obtain ⟨rfl, rfl⟩ := hb1 e1
      have n2 : decide (j = q2) = false := decide_eq_false (by omega)
      have y1 : decide (j = q1) = true := decide_eq_true e1
      simp only [if_pos e1, n2, y1, Bool.false_or, Bool.or_false]
      exact hs' Q
    · rw [if_neg e1] at hs'
      have n1 : decide (j = q1) = false := decide_eq_false e1
      by_cases e2 : j = q2
      · rw [if_pos e2] at hs'
        obtain ⟨rfl, rfl⟩ := hb2 e2
        have y2 : decide (j = q2) = true := decide_eq_true e2
        simp only [if_neg e1, if_pos e2, n1, y2, Bool.false_or, Bool.or_false]
        exact hs' Q
      · rw [if_neg e2] at hs'
        have n2 : decide (j = q2) = false := decide_eq_false e2
        simp only [if_neg e1, if_neg e2, n1, n2, Bool.or_false]
        exact (StepD.toL (J := fun w => I b1 b2 w) (K := fun w w' => Below w.heap.size w w') hs' (fun _ h => h) (fun w' h => hI b1 b2 w w' hB h)) Q
  have k6 : ∀ (a : Act) (w : World), I true (decide (q2 < N)) w → FrN l.toArray N a0 a → (∀ (j : Nat) (o : Oper), j < N → l.toArray[j]? = some o → factAt fs j (slotOf a o.dst) w) → wpList P l.toArray Q (l.toArray.toList.drop N) a w := fun a w hB hF h => hend a w hB (hfr a hF) fun j d hj hjd => by
    rw [← hD, List.getElem?_map] at hjd
    obtain ⟨o, ho, rfl⟩ := Option.map_eq_some_iff.1 hjd
    exact h j o hj (by simpa using ho)
  refine wp_region_any hm ?_
  have inv0 : HeadInv .any l.toArray N (Array.replicate l.toArray.size false) :=
    ⟨by simp, fun j oj _ hl => (by rw [getD_replicate_false] at hl; cases hl), fun t _ ht => getD_in (by simpa using ht) (getD_replicate_false _ _)⟩
  exact head_invE (Φ := factAt fs) (ops := l.toArray) (N := N) k1 k2 k3 k4 kK hqN hq12 k7 (by simpa using hN) t1 t2 (by simpa using t3) k5 k6 l.toArray.size (Array.replicate l.toArray.size false) a0 _ inv0 (by rw [getD_replicate_false, getD_replicate_false]; exact h0) ⟨rfl, rfl, fun _ _ => rfl⟩
    (fun j o _ _ h => by rw [getD_replicate_false] at h; cases h) (by simp)
theorem allOps_mono {p q : Nat → Oper → Prop} (h : ∀ j o, p j o → q j o) : ∀ {l : List Oper} {k : Nat}, AllOps p k l → AllOps q k l
  | [], _, _ => trivial
  | _ :: _, _, ⟨h1, h2⟩ => ⟨h _ _ h1, allOps_mono h h2⟩
theorem region_twoE {Q : Exit → Act → World → Prop} {a0 : Act} {w0 : World} {id : Nat} {l : List Oper} {P : Program} (gs : List Nat) (I : Bool → Bool → World → Prop) (q1 q2 : Nat) (fs : List Fact) (D : List (Option Tmp)) (N n : Nat) (hn : a0.tmps.size = n) (hm : P.follows .mixedOrders = true) (hbook : bookB2 l n = true) (hD : l.map (·.dst) = D) (htail : tailB l N = true) (es : List Nat) (hearly : earlyOk l q1 es = true)
    (hqN : q1 < N) (hq12 : q1 < q2) (hqq : (((l[q2]?).map fun o => o.after.any fun e => Region.binds .any e && e.on == q1) == some false) = false)
    (hI : ∀ b1 b2 w w', I b1 b2 w → Below w.heap.size w w' → I b1 b2 w') (h0 : I false false w0)
    (mono : ∀ f ∈ fs, Mono f) (monoS : ∀ f ∈ fs, MonoS gs f)
    (hstep : AllOps (fun j o => ∀ (a : Act) (w : World) (b1 b2 : Bool), (j = q1 → b1 = false ∧ b2 = false) → (j = q2 → b1 = true ∧ b2 = false) → (j ∈ es → b1 = false) → MI gs I w0 b1 b2 w → FrD (D.take N) a0 a → needs D fs a w o.after.toList → AskM P D (factAt fs j) (ButS gs) (ButS gs) (MI gs I w0) q1 q2 j o a w) 0 (l.take N))
    (hend : ∀ (a : Act) (w : World), MI gs I w0 true (decide (q2 < N)) w → FrD (D.take N) a0 a → (∀ j d, j < N → D[j]? = some d → factAt fs j (slotOf a d) w) → wpList P l.toArray Q (l.drop N) a w) :
    (Code.region id l.toArray true).wp P Q a0 w0 :=
  region_headE (ButS gs) (ButS gs) (MI gs I w0) q1 q2 fs D N n hn hm hbook hD htail [] rfl es hearly (fun w => ButS.refl gs w) (fun w => ButS.refl gs w) hqN hq12 (fun e => by rw [e] at hqq; simp at hqq)
    (fun b1 b2 w w' h hb => ⟨h.gr.trans (below_butS hb gs), hI b1 b2 w w' h.st hb⟩) ⟨below_butS (Below.drew (Below.refl _ _)) gs, hI _ _ _ _ h0 (Below.drew (Below.refl _ _))⟩ mono (fun j _ => factS_at monoS j) (fun j _ => factS_at monoS j) (allOps_mono (fun j o h a w b1 b2 h1 h2 _ => h a w b1 b2 h1 h2) hstep) hend
end Go.Proofs.YtbpaepkcchpmbaaGreat
