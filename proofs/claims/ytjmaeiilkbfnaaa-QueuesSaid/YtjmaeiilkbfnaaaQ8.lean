/-
  An item's cells.
  Single operations in a region whose facts are shown one by one: a field's address, a number or an item out of memory, items compared. No program's own steps here.
  Single operations in a region whose facts are shown one by one: slices out of memory, an index, sums, a new slice; the frame behind a head.
  Walk: the reference's two: the statement that appends a bucket's sum, but for its tail.
-/
import Derived.Test.YtjmaeiilkbfnaaaRow
import Derived.Test.YtjmaeiilkbfnaaaIt0
import Derived.Test.YtjmaeiilkbfnaaaEnd
import Derived.Test.YtjmaeiilkbfnaaaQ3
import Derived.Test.YtjmaeiilkbfnaaaQ2
namespace Go.Proofs.Ytjmaeiilkbfnaaa
open Go.RowKit

end Go.Proofs.Ytjmaeiilkbfnaaa

namespace Go.Proofs.Ytjmaeiilkbfnaaa
open Go.RowKit

section
variable {D : List (Option Tmp)} {Φ : Fact} {o : Oper} {a : Act} {w : World}
theorem step_faddr (hw : Region.wanted o (yieldD D a.tmps) = true) {t : Tmp} (hd : o.dst = some t) (T : TypeId) (x : Operand) (f : Nat) (ho : o.op = .fieldAddr T x f) (g i j : Nat) (hx : a.eval x = .pointer (some ⟨g, i, none⟩))
    (hrun : ∀ w : World, (Instr.fieldAt T (.pointer (some ⟨g, i, none⟩)) f).run Try.prog w = .ok (.pointer (some ⟨g, j, none⟩)) w) (h : Φ (.pointer (some ⟨g, j, none⟩)) w) : StepD Try.prog D Φ o a w := by
  refine step_val hw hd _ _ ?_ (Below.refl _ _) h
  unfold execOp
  rw [ho]
  simp only [hx, Sem.run_bind, hrun, Result.andThen_ok]
  rfl
theorem loadi_run (g k : Nat) (n : Int) (w : World) (h : w.cell? ⟨g, k, none⟩ = some (.int .i64 n)) : (Instr.loadAt 3 (.pointer (some ⟨g, k, none⟩))).run Try.prog w = .ok (.int .i64 n) w := by simp [go_sem, h, Instr.loadAt]
theorem step_loadi (hw : Region.wanted o (yieldD D a.tmps) = true) {t : Tmp} (hd : o.dst = some t) (x : Operand) (ho : o.op = .load 3 x) (g k : Nat) (hx : a.eval x = .pointer (some ⟨g, k, none⟩)) (n : Int)
    (hc : w.cell? ⟨g, k, none⟩ = some (.int .i64 n)) (h : Φ (.int .i64 n) w) : StepD Try.prog D Φ o a w := by
  refine step_val hw hd _ _ ?_ (Below.refl _ _) h
  unfold execOp
  rw [ho]
  simp only [hx, Sem.run_bind, loadi_run g k n w hc, Result.andThen_ok]
  rfl
abbrev itemV (x : It) : Value := .agg #[.int .i64 x.s, .int .i64 x.t, .int .i64 x.q, .int .i64 x.v]
theorem step_loadI (hw : Region.wanted o (yieldD D a.tmps) = true) {t : Tmp} (hd : o.dst = some t) (x : Operand) (ho : o.op = .load 23 x) (g k : Nat) (hx : a.eval x = .pointer (some ⟨g, k, none⟩)) (y : It)
    (hc : w.rangeAt g k (itemL y)) (h : Φ (itemV y) w) : StepD Try.prog D Φ o a w := by
  intro Q
  rw [if_pos hw]
  exact wp_load_mid 23 x ho g k hx (itemL y) _ hc Try.underlying23 rfl (by kernel_rfl) ⟨_, rfl, (fun hn => by rw [hd] at hn; cases hn), Below.refl _ _, h⟩
theorem step_eqI (hw : Region.wanted o (yieldD D a.tmps) = true) {t : Tmp} (hd : o.dst = some t) (x y : Operand) (ho : o.op = .binOp .eql 23 x y 23) (z : It) (hx : a.eval x = itemV z) (hy : a.eval y = itemV z) (h : Φ (.bool true) w) : StepD Try.prog D Φ o a w :=
  step_val hw hd _ _ (by unfold execOp; rw [ho]; simp only [hx, hy]; simp [go_sem]) (Below.refl _ _) h
theorem range_first {g : Nat} {c : Ac} {A : Option Addr} {k m : Nat} (h : Has w g 29 (accC c A k m)) : w.rangeAt g 4 (itemL c.f) := fun j v hj => by
  rw [h.cell]
  match j, hj with
  | 0, hj => exact hj
  | 1, hj => exact hj
  | 2, hj => exact hj
  | 3, hj => exact hj
  | j + 4, hj => simp [itemL] at hj
theorem range_last {g : Nat} {c : Ac} {A : Option Addr} {k m : Nat} (h : Has w g 29 (accC c A k m)) : w.rangeAt g 8 (itemL c.l) := fun j v hj => by
  rw [h.cell]
  match j, hj with
  | 0, hj => exact hj
  | 1, hj => exact hj
  | 2, hj => exact hj
  | 3, hj => exact hj
  | j + 4, hj => simp [itemL] at hj
end

end Go.Proofs.Ytjmaeiilkbfnaaa

namespace Go.Proofs.Ytjmaeiilkbfnaaa
open Go.RowKit

section
variable {D : List (Option Tmp)} {Φ : Fact} {o : Oper} {a : Act} {w : World}
theorem loads_run (g k : Nat) (A : Option Addr) (n c : Nat) (w : World) (h : w.cell? ⟨g, k, none⟩ = some (.slice A n c)) : (Instr.loadAt 25 (.pointer (some ⟨g, k, none⟩))).run Try.prog w = .ok (.slice A n c) w := by simp [go_sem, h, Instr.loadAt]
theorem step_loads (hw : Region.wanted o (yieldD D a.tmps) = true) {t : Tmp} (hd : o.dst = some t) (x : Operand) (ho : o.op = .load 25 x) (g k : Nat) (hx : a.eval x = .pointer (some ⟨g, k, none⟩)) (A : Option Addr) (n c : Nat)
    (hc : w.cell? ⟨g, k, none⟩ = some (.slice A n c)) (h : Φ (.slice A n c) w) : StepD Try.prog D Φ o a w := by
  refine step_val hw hd _ _ ?_ (Below.refl _ _) h
  unfold execOp
  rw [ho]
  simp only [hx, Sem.run_bind, loads_run g k A n c w hc, Result.andThen_ok]
  rfl
theorem step_iaddr (hw : Region.wanted o (yieldD D a.tmps) = true) {t : Tmp} (hd : o.dst = some t) (x y : Operand) (ho : o.op = .indexAddr 25 x y) (b f n c k : Nat) (hx : a.eval x = .slice (some ⟨b, f, none⟩) n c) (hy : a.eval y = .int .i64 (k : Int)) (hk : k < n)
    (h : Φ (.pointer (some ⟨b, f + k, none⟩)) w) : StepD Try.prog D Φ o a w := by
  refine step_val hw hd _ _ ?_ (Below.refl _ _) h
  have hk2 : (k : Int) < (n : Int) := by omega
  unfold execOp
  rw [ho]
  simp only [hx, hy]
  simp [go_sem, hk2]
theorem step_add (hw : Region.wanted o (yieldD D a.tmps) = true) {t : Tmp} (hd : o.dst = some t) (x y : Operand) (ho : o.op = .binOp .add 3 x y 3) (m n : Int) (hx : a.eval x = .int .i64 m) (hy : a.eval y = .int .i64 n) (hb : -9223372036854775808 ≤ m + n ∧ m + n ≤ 9223372036854775807)
    (h : Φ (.int .i64 (m + n)) w) : StepD Try.prog D Φ o a w := by
  refine step_val hw hd _ _ ?_ (Below.refl _ _) h
  have e : IntKind.i64.wrap (m + n) = m + n := IntWalk.i64_in _ hb
  unfold execOp
  rw [ho]
  simp only [hx, hy]
  simp [go_sem, e]
theorem step_build1 (hw : Region.wanted o (yieldD D a.tmps) = true) {t : Tmp} (hd : o.dst = some t) (x : Operand) (ho : o.op = .buildSlice 25 1 #[(0, x)]) (m : Int) (hx : a.eval x = .int .i64 m)
    (h : ∀ w', Below w.heap.size w w' → Has w' w.heap.size 3 (ints [m]) → Φ (.slice (some ⟨w.heap.size, 0, none⟩) 1 1) w') : StepD Try.prog D Φ o a w := by
  refine step_val hw hd _ (w.alloc (.cells #[.int .i64 m] 3)) ?_ ((Below.refl _ _).alloc (Nat.le_refl _) _) (h _ ((Below.refl _ _).alloc (Nat.le_refl _) _) (Has.made _ _ _))
  unfold execOp
  rw [ho]
  simp only [List.map_toArray, List.map_cons, List.map_nil, hx]
  simp [go_sem]
end

end Go.Proofs.Ytjmaeiilkbfnaaa

namespace Go.Proofs.Ytjmaeiilkbfnaaa
open Go.RowKit

/-- A new row of numbers. -/
def newF (xs : List Int) (n : Nat) : Fact := fun v w => ∃ g, v = .slice (some ⟨g, 0, none⟩) n n ∧ Has w g 3 (ints xs)
theorem mono_new (xs : List Int) (n : Nat) : Mono (newF xs n) := fun _ _ _ hb ⟨g, e, h⟩ => ⟨g, e, has_below h hb⟩

section
variable (N b1 o1 b2 o2 k c d j e : Nat) (D : Option Addr) (x y : Int)
def two9F : List Fact := [isV (.pointer (some ⟨N + 3, 12, none⟩)), isV (.slice D j e), isV (.pointer (some ⟨N, 12, none⟩)), isV (.slice (some ⟨b1, o1, none⟩) k c), isV (.int .i64 j), isV (.pointer (some ⟨b1, o1 + j, none⟩)), isV (.int .i64 x),
  isV (.pointer (some ⟨N + 1, 12, none⟩)), isV (.slice (some ⟨b2, o2, none⟩) k d), isV (.int .i64 j), isV (.pointer (some ⟨b2, o2 + j, none⟩)), isV (.int .i64 y), isV (.int .i64 (x + y)), newF [x + y] 1]
def two9D : List (Option Tmp) := [some 55, some 56, some 57, some 58, some 59, some 60, some 61, some 62, some 63, some 64, some 65, some 66, some 67, some 68, some 69, some 70, none]
theorem two9F_mono : ∀ f ∈ two9F N b1 o1 b2 o2 k c d j e D x y, Mono f := by
  unfold two9F
  repeat (first | exact monos_nil | (refine monos_cons (mono_isV _) ?_) | (refine monos_cons (mono_new _ _) ?_))
structure Two9 (a0 : Act) (w0 : World) : Prop where
  size : a0.tmps.size = 72
  v2 : a0.tmps.getD 2 undef = .pointer (some ⟨N, 0, none⟩)
  v3 : a0.tmps.getD 3 undef = .pointer (some ⟨N + 1, 0, none⟩)
  v5 : a0.tmps.getD 5 undef = .pointer (some ⟨N + 3, 0, none⟩)
  v6 : a0.tmps.getD 6 undef = .int .i64 j
  cO : w0.cell? ⟨N + 3, 12, none⟩ = some (.slice D j e)
  cA : w0.cell? ⟨N, 12, none⟩ = some (.slice (some ⟨b1, o1, none⟩) k c)
  cB : w0.cell? ⟨N + 1, 12, none⟩ = some (.slice (some ⟨b2, o2, none⟩) k d)
  ca : w0.cell? ⟨b1, o1 + j, none⟩ = some (.int .i64 x)
  cb : w0.cell? ⟨b2, o2 + j, none⟩ = some (.int .i64 y)
  jk : j < k
  sum : -9223372036854775808 ≤ x + y ∧ x + y ≤ 9223372036854775807
end
theorem cell_below {w0 w : World} (hB : Below w0.heap.size w0 w) {p : Addr} {v : Value} (h : w0.cell? p = some v) : w.cell? p = some v := (hB.cell (block_lt_of_cell h)).trans h
section
variable {N b1 o1 b2 o2 k c d j e : Nat} {D : Option Addr} {x y : Int} {a0 : Act} {w0 : World} (S : Two9 N b1 o1 b2 o2 k c d j e D x y a0 w0)
include S
set_option maxRecDepth 100000 in
set_option maxHeartbeats 4000000 in
theorem two9_ok : AllOps (fun i o => ∀ (a : Act) (w : World), Below w0.heap.size w0 w → FrD (two9D.take 14) a0 a → needs two9D (two9F N b1 o1 b2 o2 k c d j e D x y) a w o.after.toList → StepD Try.prog two9D (factAt (two9F N b1 o1 b2 o2 k c d j e D x y) i) o a w) 0 ((opsOf 9 Try.f46).take 14) := by
  simp only [opsOf, Try.f46, opsAt, Option.bind, Option.or, Option.getD, reduceCtorEq, if_true, if_false, Nat.reduceEqDiff, List.take_succ_cons, List.take_zero]
  refine ⟨?_, ?_⟩
  · intro a w hB hF hd
    exact step_faddr (guard_none rfl) rfl _ _ _ rfl (N + 3) 0 12 ((hF.other 5 rfl).trans S.v5) (fun _ => by kernel_rfl) rfl
  refine ⟨?_, ?_⟩
  · intro a w hB hF hd
    have h0 : a.tmps.getD 55 undef = .pointer (some ⟨N + 3, 12, none⟩) := hd.1 rfl
    exact step_loads (guard_none rfl) rfl _ rfl _ _ h0 _ _ _ (cell_below hB S.cO) rfl
  refine ⟨?_, ?_⟩
  · intro a w hB hF hd
    exact step_faddr (guard_none rfl) rfl _ _ _ rfl N 0 12 ((hF.other 2 rfl).trans S.v2) (fun _ => by kernel_rfl) rfl
  refine ⟨?_, ?_⟩
  · intro a w hB hF hd
    have h0 : a.tmps.getD 57 undef = .pointer (some ⟨N, 12, none⟩) := hd.1 rfl
    exact step_loads (guard_none rfl) rfl _ rfl _ _ h0 _ _ _ (cell_below hB S.cA) rfl
  refine ⟨?_, ?_⟩
  · intro a w hB hF hd
    exact step_move (guard_none rfl) rfl _ rfl ((hF.other 6 rfl).trans S.v6)
  refine ⟨?_, ?_⟩
  · intro a w hB hF hd
    have h0 : a.tmps.getD 58 undef = .slice (some ⟨b1, o1, none⟩) k c := hd.1 rfl
    have h1 : a.tmps.getD 59 undef = .int .i64 j := hd.2.1 rfl
    exact step_iaddr (guard_none rfl) rfl _ _ rfl b1 o1 k c j h0 h1 S.jk rfl
  refine ⟨?_, ?_⟩
  · intro a w hB hF hd
    have h0 : a.tmps.getD 60 undef = .pointer (some ⟨b1, o1 + j, none⟩) := hd.1 rfl
    exact step_loadi (guard_none rfl) rfl _ rfl _ _ h0 _ (cell_below hB S.ca) rfl
  refine ⟨?_, ?_⟩
  · intro a w hB hF hd
    exact step_faddr (guard_none rfl) rfl _ _ _ rfl (N + 1) 0 12 ((hF.other 3 rfl).trans S.v3) (fun _ => by kernel_rfl) rfl
  refine ⟨?_, ?_⟩
  · intro a w hB hF hd
    have h0 : a.tmps.getD 62 undef = .pointer (some ⟨N + 1, 12, none⟩) := hd.1 rfl
    exact step_loads (guard_none rfl) rfl _ rfl _ _ h0 _ _ _ (cell_below hB S.cB) rfl
  refine ⟨?_, ?_⟩
  · intro a w hB hF hd
    exact step_move (guard_none rfl) rfl _ rfl ((hF.other 6 rfl).trans S.v6)
  refine ⟨?_, ?_⟩
  · intro a w hB hF hd
    have h0 : a.tmps.getD 63 undef = .slice (some ⟨b2, o2, none⟩) k d := hd.1 rfl
    have h1 : a.tmps.getD 64 undef = .int .i64 j := hd.2.1 rfl
    exact step_iaddr (guard_none rfl) rfl _ _ rfl b2 o2 k d j h0 h1 S.jk rfl
  refine ⟨?_, ?_⟩
  · intro a w hB hF hd
    have h0 : a.tmps.getD 65 undef = .pointer (some ⟨b2, o2 + j, none⟩) := hd.1 rfl
    exact step_loadi (guard_none rfl) rfl _ rfl _ _ h0 _ (cell_below hB S.cb) rfl
  refine ⟨?_, ?_⟩
  · intro a w hB hF hd
    have h0 : a.tmps.getD 61 undef = .int .i64 x := hd.1 rfl
    have h1 : a.tmps.getD 66 undef = .int .i64 y := hd.2.1 rfl
    exact step_add (guard_none rfl) rfl _ _ rfl _ _ h0 h1 S.sum rfl
  refine ⟨?_, ?_⟩
  · intro a w hB hF hd
    have h0 : a.tmps.getD 67 undef = .int .i64 (x + y) := hd.1 rfl
    exact step_build1 (guard_none rfl) rfl _ rfl _ h0 (fun w' _ hw => ⟨_, rfl, hw⟩)
  trivial
theorem two9_any {Q : Exit → Act → World → Prop} {l : List Oper} (hl : opsOf 9 Try.f46 = l)
    (hend : ∀ (g : Nat) (w : World), Below w0.heap.size w0 w → Has w g 3 (ints [x + y]) → wpList Try.prog l.toArray Q (l.drop 14) (putAll a0 [(55, .pointer (some ⟨N + 3, 12, none⟩)), (56, .slice D j e), (57, .pointer (some ⟨N, 12, none⟩)), (58, .slice (some ⟨b1, o1, none⟩) k c), (59, .int .i64 j), (60, .pointer (some ⟨b1, o1 + j, none⟩)), (61, .int .i64 x), (62, .pointer (some ⟨N + 1, 12, none⟩)), (63, .slice (some ⟨b2, o2, none⟩) k d), (64, .int .i64 j), (65, .pointer (some ⟨b2, o2 + j, none⟩)), (66, .int .i64 y), (67, .int .i64 (x + y)), (68, .slice (some ⟨g, 0, none⟩) 1 1)]) w) :
    (Code.region 9 l.toArray true).wp Try.prog Q a0 w0 := by
  subst hl
  refine region_head (two9F N b1 o1 b2 o2 k c d j e D x y) two9D 14 72 S.size rfl (by kernel_rfl) (by kernel_rfl) (by kernel_rfl) (two9F_mono _ _ _ _ _ _ _ _ _ _ _ _ _) (two9_ok S) fun a w hB hF h => ?_
  obtain ⟨g, h68, hg⟩ := h 13 (some 68) (by omega) rfl
  rw [frame_is hF [(55, .pointer (some ⟨N + 3, 12, none⟩)), (56, .slice D j e), (57, .pointer (some ⟨N, 12, none⟩)), (58, .slice (some ⟨b1, o1, none⟩) k c), (59, .int .i64 j), (60, .pointer (some ⟨b1, o1 + j, none⟩)), (61, .int .i64 x), (62, .pointer (some ⟨N + 1, 12, none⟩)), (63, .slice (some ⟨b2, o2, none⟩) k d), (64, .int .i64 j), (65, .pointer (some ⟨b2, o2 + j, none⟩)), (66, .int .i64 y), (67, .int .i64 (x + y)), (68, .slice (some ⟨g, 0, none⟩) 1 1)]
    ⟨h 0 (some 55) (by omega) rfl, h 1 (some 56) (by omega) rfl, h 2 (some 57) (by omega) rfl, h 3 (some 58) (by omega) rfl, h 4 (some 59) (by omega) rfl, h 5 (some 60) (by omega) rfl, h 6 (some 61) (by omega) rfl, h 7 (some 62) (by omega) rfl, h 8 (some 63) (by omega) rfl, h 9 (some 64) (by omega) rfl, h 10 (some 65) (by omega) rfl, h 11 (some 66) (by omega) rfl, h 12 (some 67) (by omega) rfl, h68, trivial⟩ (by rfl) (by rfl)]
  exact hend g w hB hg
end

end Go.Proofs.Ytjmaeiilkbfnaaa
