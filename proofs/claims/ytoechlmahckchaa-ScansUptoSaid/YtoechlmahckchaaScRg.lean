/-
  look's drawn end; SameOps' drawn region: their facts, one by one (written by gen/sclook.py).
-/
import Derived.Test.YtoechlmahckchaaRf
import Derived.Test.YtoechlmahckchaaG11d
import Derived.Test.YtoechlmahckchaaScMem
namespace Go.Proofs.Ytoechlmahckchaa
open Go.RowKit

def opC (o : Po) : Array Value := #[.int .i64 o.k, .int .i64 o.so, .int .i64 o.se, .int .i64 o.ti, .int .i64 o.va]
def lk9D : List (Option Tmp) := [some 32, some 33, some 4, none, some 6]
def lk9F (x : Po) (_g : Nat) (y : Int) : List Fact := [isV (.agg #[.int .i64 x.k, .int .i64 x.so, .int .i64 x.se, .int .i64 x.ti, .int .i64 x.va]), isV (.int .i64 y), isV (.int .i64 1)]
theorem lk9F_mono (x : Po) (g : Nat) (y : Int) : ∀ φ ∈ lk9F x g y, Mono φ := by
  unfold lk9F
  repeat (first | exact monos_nil | (refine monos_cons (mono_isV _) ?_))
structure lk9S (x : Po) (g : Nat) (y : Int) (a0 : Act) (w0 : World) : Prop where
  size : a0.tmps.size = 34
  v8 : a0.tmps.getD 8 undef = .int .i64 y
  v10 : a0.tmps.getD 10 undef = .pointer (some ⟨g, 0, none⟩)
  box : Has w0 g 49 (opC x)
section
variable {x : Po} {g : Nat} {y : Int} {a0 : Act} {w0 : World} (S : lk9S x g y a0 w0)
include S
set_option maxRecDepth 100000 in
set_option maxHeartbeats 8000000 in
theorem lk9_ok : AllOps (fun j o => ∀ (a : Act) (w : World), Below w0.heap.size w0 w → FrD (lk9D.take 3) a0 a → needs lk9D (lk9F x g y) a w o.after.toList → StepD Try.prog lk9D (factAt (lk9F x g y) j) o a w) 0 ((opsOf 9 Try.f38).take 3) := by
  simp only [opsOf, Try.f38, opsAt, Option.bind, Option.or, Option.getD, reduceCtorEq, if_true, if_false, Nat.reduceEqDiff, List.take_succ_cons, List.take_zero]
  refine ⟨?_, ?_⟩
  · intro _a _w hB hF _hd
    exact rf_loadS (guard_none rfl) rfl _ _ rfl _ _ ((hF.other 10 rfl).trans S.v10) (opC x).toList (rf_range (S.box.below hB S.box.lt)) Try.underlying49 rfl Try.sizeOp rfl
  refine ⟨?_, ?_⟩
  · intro _a _w _hB hF _hd
    exact step_move (guard_none rfl) rfl _ rfl ((hF.other 8 rfl).trans S.v8)
  refine ⟨?_, ?_⟩
  · intro _a _w _hB _hF _hd
    exact step_assign (guard_none rfl) rfl _ rfl rfl
  trivial
theorem lk9_any {Q : Exit → Act → World → Prop} {l : List Oper} (hl : opsOf 9 Try.f38 = l) (hend : ∀ w : World, Below w0.heap.size w0 w → wpList Try.prog l.toArray Q (l.drop 3) (putAll a0 [(32, .agg #[.int .i64 x.k, .int .i64 x.so, .int .i64 x.se, .int .i64 x.ti, .int .i64 x.va]), (33, .int .i64 y), (4, .int .i64 1)]) w)
    (hendQ : ∀ w : World, Below w0.heap.size w0 w → wpList Try.prog l.toArray Q (pickL l [3, 1, 4]) (putAll a0 [(32, .agg #[.int .i64 x.k, .int .i64 x.so, .int .i64 x.se, .int .i64 x.ti, .int .i64 x.va]), (33, a0.tmps.getD 33 undef), (4, .int .i64 1)]) w) :
    (Code.region 9 l.toArray true).wp Try.prog Q a0 w0 := by
  subst hl
  refine region_head3 (lk9F x g y) lk9D 3 34 1 [1, 4] S.size rfl (by kernel_rfl) (by kernel_rfl) (by kernel_rfl) (lk9F_mono _ _ _) (lk9_ok S) ?_ ?_
  · intro a w hB hF h
    have hv : valsAre a [(32, .agg #[.int .i64 x.k, .int .i64 x.so, .int .i64 x.se, .int .i64 x.ti, .int .i64 x.va]), (33, .int .i64 y), (4, .int .i64 1)] := by
      refine ⟨?_, ?_, ?_, trivial⟩
      · exact h 0 (some 32) (by omega) rfl
      · exact h 1 (some 33) (by omega) rfl
      · exact h 2 (some 4) (by omega) rfl
    rw [frame_is hF _ hv (by rfl) (by rfl)]
    exact hend w hB
  · intro a w hB hF h hq
    have hv : valsAre a [(32, .agg #[.int .i64 x.k, .int .i64 x.so, .int .i64 x.se, .int .i64 x.ti, .int .i64 x.va]), (33, a0.tmps.getD 33 undef), (4, .int .i64 1)] := by
      refine ⟨?_, ?_, ?_, trivial⟩
      · exact h 0 (some 32) (by omega) (by omega) rfl
      · exact hq (some 33) rfl
      · exact h 2 (some 4) (by omega) (by omega) rfl
    rw [frame_is hF _ hv (by rfl) (by rfl)]
    exact hendQ w hB
end

theorem rf_neqO {D : List (Option Tmp)} {Φ : Fact} {o : Oper} {a : Act} {w : World} (hw : Region.wanted o (yieldD D a.tmps) = true) {t : Tmp} (hd : o.dst = some t) (x y : Operand) (ho : o.op = .binOp .neq 49 x y 49) (z : Po) (hx : a.eval x = .agg #[.int .i64 z.k, .int .i64 z.so, .int .i64 z.se, .int .i64 z.ti, .int .i64 z.va]) (hy : a.eval y = .agg #[.int .i64 z.k, .int .i64 z.so, .int .i64 z.se, .int .i64 z.ti, .int .i64 z.va]) (h : Φ (.bool false) w) : StepD Try.prog D Φ o a w :=
  step_val hw hd _ _ (by unfold execOp; rw [ho]; simp only [hx, hy]; simp [go_sem]) (Below.refl _ _) h
def so6D : List (Option Tmp) := [some 17, some 18, some 19, some 20, some 21, some 22, some 23, some 24, some 25]
def so6F (x : Po) (b1 o1 b2 o2 n e1 e2 q : Nat) : List Fact := [isV (.slice (some ⟨b1, o1, none⟩) n e1), isV (.int .i64 q), isV (.pointer (some ⟨b1, o1 + q * 5, none⟩)), isV (.agg #[.int .i64 x.k, .int .i64 x.so, .int .i64 x.se, .int .i64 x.ti, .int .i64 x.va]), isV (.slice (some ⟨b2, o2, none⟩) n e2), isV (.int .i64 q), isV (.pointer (some ⟨b2, o2 + q * 5, none⟩)), isV (.agg #[.int .i64 x.k, .int .i64 x.so, .int .i64 x.se, .int .i64 x.ti, .int .i64 x.va]), isV (.bool false)]
theorem so6F_mono (x : Po) (b1 o1 b2 o2 n e1 e2 q : Nat) : ∀ φ ∈ so6F x b1 o1 b2 o2 n e1 e2 q, Mono φ := by
  unfold so6F
  repeat (first | exact monos_nil | (refine monos_cons (mono_isV _) ?_))
structure so6S (x : Po) (b1 o1 b2 o2 n e1 e2 q : Nat) (a0 : Act) (w0 : World) : Prop where
  size : a0.tmps.size = 26
  v0 : a0.tmps.getD 0 undef = .slice (some ⟨b1, o1, none⟩) n e1
  v1 : a0.tmps.getD 1 undef = .slice (some ⟨b2, o2, none⟩) n e2
  v5 : a0.tmps.getD 5 undef = .int .i64 q
  x1 : w0.rangeAt b1 (o1 + q * 5) (opL x)
  x2 : w0.rangeAt b2 (o2 + q * 5) (opL x)
  hq : q < n
section
variable {x : Po} {b1 o1 b2 o2 n e1 e2 q : Nat} {a0 : Act} {w0 : World} (S : so6S x b1 o1 b2 o2 n e1 e2 q a0 w0)
include S
set_option maxRecDepth 100000 in
set_option maxHeartbeats 8000000 in
theorem so6_ok : AllOps (fun j o => ∀ (a : Act) (w : World), Below w0.heap.size w0 w → FrD so6D a0 a → needs so6D (so6F x b1 o1 b2 o2 n e1 e2 q) a w o.after.toList → StepD Try.prog so6D (factAt (so6F x b1 o1 b2 o2 n e1 e2 q) j) o a w) 0 (opsOf 6 Try.f15) := by
  simp only [opsOf, Try.f15, opsAt, Option.bind, Option.or, Option.getD, reduceCtorEq, if_true, if_false, Nat.reduceEqDiff]
  refine ⟨?_, ?_⟩
  · intro _a _w _hB hF _hd
    exact step_move (guard_none rfl) rfl _ rfl ((hF.other 0 rfl).trans S.v0)
  refine ⟨?_, ?_⟩
  · intro _a _w _hB hF _hd
    exact step_move (guard_none rfl) rfl _ rfl ((hF.other 5 rfl).trans S.v5)
  refine ⟨?_, ?_⟩
  · intro a _w _hB _hF hd
    have h17 : a.tmps.getD 17 undef = .slice (some ⟨b1, o1, none⟩) n e1 := hd.1 rfl
    have h18 : a.tmps.getD 18 undef = .int .i64 q := hd.2.1 rfl
    exact rf_index (guard_none rfl) rfl _ _ _ rfl Try.underlying34 5 (fun _ => by kernel_rfl) _ _ _ _ q _ h17 h18 rfl S.hq rfl
  refine ⟨?_, ?_⟩
  · intro a _w hB _hF hd
    have h19 : a.tmps.getD 19 undef = .pointer (some ⟨b1, o1 + q * 5, none⟩) := hd.1 rfl
    exact rf_loadS (guard_none rfl) rfl _ _ rfl _ _ h19 _ (range_keepO S.x1 (hB.block _ (range_lt S.x1))) Try.underlying49 rfl Try.sizeOp rfl
  refine ⟨?_, ?_⟩
  · intro _a _w _hB hF _hd
    exact step_move (guard_none rfl) rfl _ rfl ((hF.other 1 rfl).trans S.v1)
  refine ⟨?_, ?_⟩
  · intro _a _w _hB hF _hd
    exact step_move (guard_none rfl) rfl _ rfl ((hF.other 5 rfl).trans S.v5)
  refine ⟨?_, ?_⟩
  · intro a _w _hB _hF hd
    have h21 : a.tmps.getD 21 undef = .slice (some ⟨b2, o2, none⟩) n e2 := hd.1 rfl
    have h22 : a.tmps.getD 22 undef = .int .i64 q := hd.2.1 rfl
    exact rf_index (guard_none rfl) rfl _ _ _ rfl Try.underlying34 5 (fun _ => by kernel_rfl) _ _ _ _ q _ h21 h22 rfl S.hq rfl
  refine ⟨?_, ?_⟩
  · intro a _w hB _hF hd
    have h23 : a.tmps.getD 23 undef = .pointer (some ⟨b2, o2 + q * 5, none⟩) := hd.1 rfl
    exact rf_loadS (guard_none rfl) rfl _ _ rfl _ _ h23 _ (range_keepO S.x2 (hB.block _ (range_lt S.x2))) Try.underlying49 rfl Try.sizeOp rfl
  refine ⟨?_, ?_⟩
  · intro a _w _hB _hF hd
    have h20 : a.tmps.getD 20 undef = .agg #[.int .i64 x.k, .int .i64 x.so, .int .i64 x.se, .int .i64 x.ti, .int .i64 x.va] := hd.1 rfl
    have h24 : a.tmps.getD 24 undef = .agg #[.int .i64 x.k, .int .i64 x.so, .int .i64 x.se, .int .i64 x.ti, .int .i64 x.va] := hd.2.1 rfl
    exact rf_neqO (guard_none rfl) rfl _ _ rfl x h20 h24 rfl
  trivial
theorem so6_any {Q : Exit → Act → World → Prop} {l : List Oper} (hl : opsOf 6 Try.f15 = l) (hend : ∀ w : World, Below w0.heap.size w0 w → Q .normal (putAll a0 [(17, .slice (some ⟨b1, o1, none⟩) n e1), (18, .int .i64 q), (19, .pointer (some ⟨b1, o1 + q * 5, none⟩)), (20, .agg #[.int .i64 x.k, .int .i64 x.so, .int .i64 x.se, .int .i64 x.ti, .int .i64 x.va]), (21, .slice (some ⟨b2, o2, none⟩) n e2), (22, .int .i64 q), (23, .pointer (some ⟨b2, o2 + q * 5, none⟩)), (24, .agg #[.int .i64 x.k, .int .i64 x.so, .int .i64 x.se, .int .i64 x.ti, .int .i64 x.va]), (25, .bool false)]) w) :
    (Code.region 6 l.toArray true).wp Try.prog Q a0 w0 := by
  subst hl
  refine region_facts2 (so6F x b1 o1 b2 o2 n e1 e2 q) so6D 26 S.size rfl (by kernel_rfl) (by kernel_rfl) (so6F_mono _ _ _ _ _ _ _ _ _) (so6_ok S) fun a w hB hF h => ?_
  have hv : valsAre a [(17, .slice (some ⟨b1, o1, none⟩) n e1), (18, .int .i64 q), (19, .pointer (some ⟨b1, o1 + q * 5, none⟩)), (20, .agg #[.int .i64 x.k, .int .i64 x.so, .int .i64 x.se, .int .i64 x.ti, .int .i64 x.va]), (21, .slice (some ⟨b2, o2, none⟩) n e2), (22, .int .i64 q), (23, .pointer (some ⟨b2, o2 + q * 5, none⟩)), (24, .agg #[.int .i64 x.k, .int .i64 x.so, .int .i64 x.se, .int .i64 x.ti, .int .i64 x.va]), (25, .bool false)] := by
    refine ⟨?_, ?_, ?_, ?_, ?_, ?_, ?_, ?_, ?_, trivial⟩
    · exact h 0 (some 17) rfl
    · exact h 1 (some 18) rfl
    · exact h 2 (some 19) rfl
    · exact h 3 (some 20) rfl
    · exact h 4 (some 21) rfl
    · exact h 5 (some 22) rfl
    · exact h 6 (some 23) rfl
    · exact h 7 (some 24) rfl
    · exact h 8 (some 25) rfl
  rw [frame_is hF _ hv (by rfl) (by rfl)]
  exact hend w hB
end

end Go.Proofs.Ytoechlmahckchaa
