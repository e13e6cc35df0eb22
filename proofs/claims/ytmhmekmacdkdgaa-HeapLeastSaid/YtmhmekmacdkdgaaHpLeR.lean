/-
  HeapLeast's drawn test of two items (written by gen/hplaw.py).
-/
import Derived.Test.YtmhmekmacdkdgaaHpBits
import Derived.Test.YtmhmekmacdkdgaaHpLeP
import Derived.Test.YtmhmekmacdkdgaaFacts2
namespace Go.Proofs.Ytmhmekmacdkdgaa
open Go.RowKit

theorem rf_eqlS4 {D : List (Option Tmp)} {Φ : Fact} {o : Oper} {a : Act} {w : World} (hw : Region.wanted o (yieldD D a.tmps) = true) {t : Tmp} (hd : o.dst = some t) (x y : Operand) (ho : o.op = .binOp .eql 34 x y 34) (p q : It) (hx : a.eval x = itV p) (hy : a.eval y = itV q) (r : Bool) (hr : same4 p q = r) (h : Φ (.bool r) w) : StepD Try.prog D Φ o a w :=
  step_val hw hd _ _ (by subst hr; unfold execOp; rw [ho]; simp only [hx, hy]; simp [go_sem, same4]; by_cases h1 : p.s = q.s <;> by_cases h2 : p.t = q.t <;> by_cases h3 : p.q = q.q <;> by_cases h4 : p.v = q.v <;> simp [h1, h2, h3, h4]) (Below.refl _ _) h

def hle16D : List (Option Tmp) := [some 62, some 63, some 64, some 65, some 66, some 67]
def hle16F (b n c k1 _p : Nat) (y x : It) (r : Bool) : List Fact := [isV (.slice (some ⟨b, 0, none⟩) n c), isV (.int .i64 k1), isV (.pointer (some ⟨b, k1 * 4, none⟩)), isV (itV y), isV (itV x), isV (.bool r)]
theorem hle16F_mono (b n c k1 p : Nat) (y x : It) (r : Bool) : ∀ φ ∈ hle16F b n c k1 p y x r, Mono φ := by
  unfold hle16F
  repeat (first | exact monos_nil | (refine monos_cons (mono_isV _) ?_))
structure hle16S (b n c k1 p : Nat) (y x : It) (r : Bool) (a0 : Act) (w0 : World) : Prop where
  size : a0.tmps.size = 162
  v5 : a0.tmps.getD 5 undef = .slice (some ⟨b, 0, none⟩) n c
  v7 : a0.tmps.getD 7 undef = .pointer (some ⟨p, 0, none⟩)
  v10 : a0.tmps.getD 10 undef = .int .i64 k1
  iy : w0.rangeAt b (k1 * 4) (itemL y)
  bx : Has w0 p 34 (itA x)
  lk : k1 < n
  er : same4 y x = r
section
variable {b n c k1 p : Nat} {y x : It} {r : Bool} {a0 : Act} {w0 : World} (S : hle16S b n c k1 p y x r a0 w0)
include S
set_option maxRecDepth 100000 in
set_option maxHeartbeats 8000000 in
theorem hle16_ok : AllOps (fun j o => ∀ (a : Act) (w : World), Below w0.heap.size w0 w → FrD hle16D a0 a → needs hle16D (hle16F b n c k1 p y x r) a w o.after.toList → StepD Try.prog hle16D (factAt (hle16F b n c k1 p y x r) j) o a w) 0 (opsOf 16 Try.f7) := by
  simp only [opsOf, Try.f7, opsAt, Option.bind, Option.or, Option.getD, reduceCtorEq, if_true, if_false, Nat.reduceEqDiff]
  refine ⟨?_, ?_⟩
  · intro _a _w _hB hF _hd
    exact step_move (guard_none rfl) rfl _ rfl ((hF.other 5 rfl).trans S.v5)
  refine ⟨?_, ?_⟩
  · intro _a _w _hB hF _hd
    exact step_move (guard_none rfl) rfl _ rfl ((hF.other 10 rfl).trans S.v10)
  refine ⟨?_, ?_⟩
  · intro a _w _hB _hF hd
    have h62 : a.tmps.getD 62 undef = .slice (some ⟨b, 0, none⟩) n c := hd.1 rfl
    have h63 : a.tmps.getD 63 undef = .int .i64 k1 := hd.2.1 rfl
    exact rf_indexIt0 (guard_none rfl) rfl _ _ rfl b n c k1 _ h62 h63 rfl S.lk rfl
  refine ⟨?_, ?_⟩
  · intro a _w hB _hF hd
    have h64 : a.tmps.getD 64 undef = .pointer (some ⟨b, k1 * 4, none⟩) := hd.1 rfl
    exact rf_loadIt (guard_none rfl) rfl _ rfl _ _ h64 y (rangeAt_keep S.iy (by simp [itemL]) fun _ hp => hB.cell hp) rfl
  refine ⟨?_, ?_⟩
  · intro _a _w hB hF _hd
    exact rf_loadIt (guard_none rfl) rfl _ rfl p 0 ((hF.other 7 rfl).trans S.v7) x (range_item (S.bx.below hB S.bx.lt)) rfl
  refine ⟨?_, ?_⟩
  · intro a _w _hB _hF hd
    have h65 : a.tmps.getD 65 undef = itV y := hd.1 rfl
    have h66 : a.tmps.getD 66 undef = itV x := hd.2.1 rfl
    exact rf_eqlS4 (guard_none rfl) rfl _ _ rfl y x h65 h66 r S.er rfl
  trivial
theorem hle16_any {Q : Exit → Act → World → Prop} {l : List Oper} (hl : opsOf 16 Try.f7 = l) (hend : ∀ w : World, Below w0.heap.size w0 w → Q .normal (putAll a0 [(62, .slice (some ⟨b, 0, none⟩) n c), (63, .int .i64 k1), (64, .pointer (some ⟨b, k1 * 4, none⟩)), (65, itV y), (66, itV x), (67, .bool r)]) w) :
    (Code.region 16 l.toArray true).wp Try.prog Q a0 w0 := by
  subst hl
  refine region_facts2 (hle16F b n c k1 p y x r) hle16D 162 S.size rfl (by kernel_rfl) (by kernel_rfl) (hle16F_mono _ _ _ _ _ _ _ _) (hle16_ok S) fun a w hB hF h => ?_
  have hv : valsAre a [(62, .slice (some ⟨b, 0, none⟩) n c), (63, .int .i64 k1), (64, .pointer (some ⟨b, k1 * 4, none⟩)), (65, itV y), (66, itV x), (67, .bool r)] := by
    refine ⟨?_, ?_, ?_, ?_, ?_, ?_, trivial⟩
    · exact h 0 (some 62) rfl
    · exact h 1 (some 63) rfl
    · exact h 2 (some 64) rfl
    · exact h 3 (some 65) rfl
    · exact h 4 (some 66) rfl
    · exact h 5 (some 67) rfl
  rw [frame_is hF _ hv (by rfl) (by rfl)]
  exact hend w hB
end

end Go.Proofs.Ytmhmekmacdkdgaa
