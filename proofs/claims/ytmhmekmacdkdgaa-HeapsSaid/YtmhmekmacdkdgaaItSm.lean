/-
  SameItems' drawn region (written by gen/sesi.py).
-/
import Derived.Test.YtmhmekmacdkdgaaRf
import Derived.Test.YtmhmekmacdkdgaaIt0
namespace Go.Proofs.Ytmhmekmacdkdgaa
open Go.RowKit

theorem rf_neqI {D : List (Option Tmp)} {Φ : Fact} {o : Oper} {a : Act} {w : World} (hw : Region.wanted o (yieldD D a.tmps) = true) {t : Tmp} (hd : o.dst = some t) (x y : Operand) (ho : o.op = .binOp .neq 34 x y 34) (z : It) (hx : a.eval x = .agg #[.int .i64 z.s, .int .i64 z.t, .int .i64 z.q, .int .i64 z.v]) (hy : a.eval y = .agg #[.int .i64 z.s, .int .i64 z.t, .int .i64 z.q, .int .i64 z.v]) (h : Φ (.bool false) w) : StepD Try.prog D Φ o a w :=
  step_val hw hd _ _ (by unfold execOp; rw [ho]; simp only [hx, hy]; simp [go_sem]) (Below.refl _ _) h
def sitD : List (Option Tmp) := [some 17, some 18, some 19, some 20, some 21, some 22, some 23, some 24, some 25]
def sitF (x : It) (b1 o1 b2 o2 n e1 e2 q : Nat) : List Fact := [isV (.slice (some ⟨b1, o1, none⟩) n e1), isV (.int .i64 q), isV (.pointer (some ⟨b1, o1 + q * 4, none⟩)), isV (.agg #[.int .i64 x.s, .int .i64 x.t, .int .i64 x.q, .int .i64 x.v]), isV (.slice (some ⟨b2, o2, none⟩) n e2), isV (.int .i64 q), isV (.pointer (some ⟨b2, o2 + q * 4, none⟩)), isV (.agg #[.int .i64 x.s, .int .i64 x.t, .int .i64 x.q, .int .i64 x.v]), isV (.bool false)]
theorem sitF_mono (x : It) (b1 o1 b2 o2 n e1 e2 q : Nat) : ∀ φ ∈ sitF x b1 o1 b2 o2 n e1 e2 q, Mono φ := by
  unfold sitF
  repeat (first | exact monos_nil | (refine monos_cons (mono_isV _) ?_))
structure sitS (x : It) (b1 o1 b2 o2 n e1 e2 q : Nat) (a0 : Act) (w0 : World) : Prop where
  size : a0.tmps.size = 26
  v0 : a0.tmps.getD 0 undef = .slice (some ⟨b1, o1, none⟩) n e1
  v1 : a0.tmps.getD 1 undef = .slice (some ⟨b2, o2, none⟩) n e2
  v5 : a0.tmps.getD 5 undef = .int .i64 q
  x1 : w0.rangeAt b1 (o1 + q * 4) (itemL x)
  x2 : w0.rangeAt b2 (o2 + q * 4) (itemL x)
  hq : q < n
section
variable {x : It} {b1 o1 b2 o2 n e1 e2 q : Nat} {a0 : Act} {w0 : World} (S : sitS x b1 o1 b2 o2 n e1 e2 q a0 w0)
include S
set_option maxRecDepth 100000 in
set_option maxHeartbeats 8000000 in
theorem sit_ok : AllOps (fun j o => ∀ (a : Act) (w : World), Below w0.heap.size w0 w → FrD sitD a0 a → needs sitD (sitF x b1 o1 b2 o2 n e1 e2 q) a w o.after.toList → StepD Try.prog sitD (factAt (sitF x b1 o1 b2 o2 n e1 e2 q) j) o a w) 0 (opsOf 6 Try.f32) := by
  simp only [opsOf, Try.f32, opsAt, Option.bind, Option.or, Option.getD, reduceCtorEq, if_true, if_false, Nat.reduceEqDiff]
  refine ⟨?_, ?_⟩
  · intro _a _w _hB hF _hd
    exact step_move (guard_none rfl) rfl _ rfl ((hF.other 0 rfl).trans S.v0)
  refine ⟨?_, ?_⟩
  · intro _a _w _hB hF _hd
    exact step_move (guard_none rfl) rfl _ rfl ((hF.other 5 rfl).trans S.v5)
  refine ⟨?_, ?_⟩
  · intro a _w _hB _hF hd
    have h17 : a.tmps.getD 17 undef = .slice (some ⟨b1, o1, none⟩) n e1 := hd.1 rfl
    have h18 : a.tmps.getD 18 undef = .int .i64 q := hd.2.1 rfl
    exact rf_index (guard_none rfl) rfl _ _ _ rfl Try.underlying22 4 (fun _ => by kernel_rfl) _ _ _ _ q _ h17 h18 rfl S.hq rfl
  refine ⟨?_, ?_⟩
  · intro a _w hB _hF hd
    have h19 : a.tmps.getD 19 undef = .pointer (some ⟨b1, o1 + q * 4, none⟩) := hd.1 rfl
    exact rf_loadS (guard_none rfl) rfl _ _ rfl _ _ h19 _ (rangeAt_keep S.x1 (by simp [itemL]) fun _ hp => hB.cell hp) Try.underlying34 rfl Try.sizeItem rfl
  refine ⟨?_, ?_⟩
  · intro _a _w _hB hF _hd
    exact step_move (guard_none rfl) rfl _ rfl ((hF.other 1 rfl).trans S.v1)
  refine ⟨?_, ?_⟩
  · intro _a _w _hB hF _hd
    exact step_move (guard_none rfl) rfl _ rfl ((hF.other 5 rfl).trans S.v5)
  refine ⟨?_, ?_⟩
  · intro a _w _hB _hF hd
    have h21 : a.tmps.getD 21 undef = .slice (some ⟨b2, o2, none⟩) n e2 := hd.1 rfl
    have h22 : a.tmps.getD 22 undef = .int .i64 q := hd.2.1 rfl
    exact rf_index (guard_none rfl) rfl _ _ _ rfl Try.underlying22 4 (fun _ => by kernel_rfl) _ _ _ _ q _ h21 h22 rfl S.hq rfl
  refine ⟨?_, ?_⟩
  · intro a _w hB _hF hd
    have h23 : a.tmps.getD 23 undef = .pointer (some ⟨b2, o2 + q * 4, none⟩) := hd.1 rfl
    exact rf_loadS (guard_none rfl) rfl _ _ rfl _ _ h23 _ (rangeAt_keep S.x2 (by simp [itemL]) fun _ hp => hB.cell hp) Try.underlying34 rfl Try.sizeItem rfl
  refine ⟨?_, ?_⟩
  · intro a _w _hB _hF hd
    have h20 : a.tmps.getD 20 undef = .agg #[.int .i64 x.s, .int .i64 x.t, .int .i64 x.q, .int .i64 x.v] := hd.1 rfl
    have h24 : a.tmps.getD 24 undef = .agg #[.int .i64 x.s, .int .i64 x.t, .int .i64 x.q, .int .i64 x.v] := hd.2.1 rfl
    exact rf_neqI (guard_none rfl) rfl _ _ rfl x h20 h24 rfl
  trivial
theorem sit_any {Q : Exit → Act → World → Prop} {l : List Oper} (hl : opsOf 6 Try.f32 = l) (hend : ∀ w : World, Below w0.heap.size w0 w → Q .normal (putAll a0 [(17, .slice (some ⟨b1, o1, none⟩) n e1), (18, .int .i64 q), (19, .pointer (some ⟨b1, o1 + q * 4, none⟩)), (20, .agg #[.int .i64 x.s, .int .i64 x.t, .int .i64 x.q, .int .i64 x.v]), (21, .slice (some ⟨b2, o2, none⟩) n e2), (22, .int .i64 q), (23, .pointer (some ⟨b2, o2 + q * 4, none⟩)), (24, .agg #[.int .i64 x.s, .int .i64 x.t, .int .i64 x.q, .int .i64 x.v]), (25, .bool false)]) w) :
    (Code.region 6 l.toArray true).wp Try.prog Q a0 w0 := by
  subst hl
  refine region_facts2 (sitF x b1 o1 b2 o2 n e1 e2 q) sitD 26 S.size rfl (by kernel_rfl) (by kernel_rfl) (sitF_mono _ _ _ _ _ _ _ _ _) (sit_ok S) fun a w hB hF h => ?_
  have hv : valsAre a [(17, .slice (some ⟨b1, o1, none⟩) n e1), (18, .int .i64 q), (19, .pointer (some ⟨b1, o1 + q * 4, none⟩)), (20, .agg #[.int .i64 x.s, .int .i64 x.t, .int .i64 x.q, .int .i64 x.v]), (21, .slice (some ⟨b2, o2, none⟩) n e2), (22, .int .i64 q), (23, .pointer (some ⟨b2, o2 + q * 4, none⟩)), (24, .agg #[.int .i64 x.s, .int .i64 x.t, .int .i64 x.q, .int .i64 x.v]), (25, .bool false)] := by
    refine ⟨?_, ?_, ?_, ?_, ?_, ?_, ?_, ?_, ?_, trivial⟩
    · exact h 0 (some 17) rfl
    · exact h 1 (some 18) rfl
    · exact h 2 (some 19) rfl
    · exact h 3 (some 20) rfl
    · exact h 4 (some 21) rfl
    · exact h 5 (some 22) rfl
    · exact h 6 (some 23) rfl
    · exact h 7 (some 24) rfl
    · exact h 8 (some 25) rfl
  rw [frame_is hF _ hv (by rfl) (by rfl)]
  exact hend w hB
end

end Go.Proofs.Ytmhmekmacdkdgaa
