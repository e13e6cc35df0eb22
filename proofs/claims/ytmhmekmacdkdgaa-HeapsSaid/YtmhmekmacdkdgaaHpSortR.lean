/-
  The drawn test of the reference's sorted (written by gen/hpsort.py).
-/
import Derived.Test.YtmhmekmacdkdgaaHpLess
import Derived.Test.YtmhmekmacdkdgaaRf
import Derived.Test.YtmhmekmacdkdgaaHpMem
namespace Go.Proofs.Ytmhmekmacdkdgaa
open Go.RowKit

def hso2D : List (Option Tmp) := [some 9, some 10, some 11, some 12, some 13, some 14, some 15, some 16, some 17, some 18, some 19]
def hso2F (_p b n c k1 : Nat) (z : Int) (x y : It) (r : Bool) : List Fact := [isV (.int .i64 z), isV (.bool true), isV (.bool true), isV (.agg #[.int .i64 x.s, .int .i64 x.t, .int .i64 x.q, .int .i64 x.v]), isV (.slice (some ⟨b, 0, none⟩) n c), isV (.int .i64 z), isV (.int .i64 k1), isV (.pointer (some ⟨b, k1 * 4, none⟩)), isV (.agg #[.int .i64 y.s, .int .i64 y.t, .int .i64 y.q, .int .i64 y.v]), isV (.bool r), isV (.bool r)]
theorem hso2F_mono (p b n c k1 : Nat) (z : Int) (x y : It) (r : Bool) : ∀ φ ∈ hso2F p b n c k1 z x y r, Mono φ := by
  unfold hso2F
  repeat (first | exact monos_nil | (refine monos_cons (mono_isV _) ?_))
structure hso2S (p b n c k1 : Nat) (z : Int) (x y : It) (r : Bool) (a0 : Act) (w0 : World) : Prop where
  size : a0.tmps.size = 37
  v0 : a0.tmps.getD 0 undef = .slice (some ⟨b, 0, none⟩) n c
  v3 : a0.tmps.getD 3 undef = .pointer (some ⟨p, 0, none⟩)
  v5 : a0.tmps.getD 5 undef = .int .i64 z
  bx : Has w0 p 34 #[.int .i64 x.s, .int .i64 x.t, .int .i64 x.q, .int .i64 x.v]
  iy : w0.rangeAt b (k1 * 4) (itemL y)
  lk : k1 < n
  hn : n ≤ 17592186044416
  ek : z - 1 = k1
  er : lt4 x y = r
section
variable {p b n c k1 : Nat} {z : Int} {x y : It} {r : Bool} {a0 : Act} {w0 : World} (S : hso2S p b n c k1 z x y r a0 w0)
include S
set_option maxRecDepth 100000 in
set_option maxHeartbeats 8000000 in
theorem hso2_ok : AllOps (fun j o => ∀ (a : Act) (w : World), Below w0.heap.size w0 w → FrD hso2D a0 a → needs hso2D (hso2F p b n c k1 z x y r) a w o.after.toList → StepD Try.prog hso2D (factAt (hso2F p b n c k1 z x y r) j) o a w) 0 (opsOf 2 Try.f31) := by
  simp only [opsOf, Try.f31, opsAt, Option.bind, Option.or, Option.getD, reduceCtorEq, if_true, if_false, Nat.reduceEqDiff]
  refine ⟨?_, ?_⟩
  · intro _a _w _hB hF _hd
    exact step_move (guard_none rfl) rfl _ rfl ((hF.other 5 rfl).trans S.v5)
  refine ⟨?_, ?_⟩
  · intro a _w _hB _hF hd
    have h9 : a.tmps.getD 9 undef = .int .i64 z := hd.1 rfl
    exact rf_gtr (guard_none rfl) rfl _ _ rfl _ _ h9 rfl true (decide_eq_true (by have := S.ek; omega)) rfl
  refine ⟨?_, ?_⟩
  · intro a _w _hB _hF hd
    have h10 : a.tmps.getD 10 undef = .bool true := hd.1 rfl
    exact step_move (guard_none rfl) rfl _ rfl h10
  refine ⟨?_, ?_⟩
  · intro a _w hB hF hd
    have h11 : a.tmps.getD 11 undef = .bool true := hd.1 rfl
    exact rf_loadS (rf_open true rfl rfl h11) rfl _ _ rfl _ _ ((hF.other 3 rfl).trans S.v3) _ (rf_range (S.bx.below hB S.bx.lt)) Try.underlying34 rfl (by kernel_rfl) rfl
  refine ⟨?_, ?_⟩
  · intro a _w _hB hF hd
    have h11 : a.tmps.getD 11 undef = .bool true := hd.1 rfl
    exact step_move (rf_open true rfl rfl h11) rfl _ rfl ((hF.other 0 rfl).trans S.v0)
  refine ⟨?_, ?_⟩
  · intro a _w _hB hF hd
    have h11 : a.tmps.getD 11 undef = .bool true := hd.1 rfl
    exact step_move (rf_open true rfl rfl h11) rfl _ rfl ((hF.other 5 rfl).trans S.v5)
  refine ⟨?_, ?_⟩
  · intro a _w _hB _hF hd
    have h11 : a.tmps.getD 11 undef = .bool true := hd.2.1 rfl
    have h14 : a.tmps.getD 14 undef = .int .i64 z := hd.1 rfl
    exact rf_subr (rf_open true rfl rfl h11) rfl _ _ rfl z 1 k1 h14 rfl S.ek (by have := S.lk; have := S.hn; omega) (by have := S.lk; have := S.hn; omega) rfl
  refine ⟨?_, ?_⟩
  · intro a _w _hB _hF hd
    have h11 : a.tmps.getD 11 undef = .bool true := hd.2.2.1 rfl
    have h13 : a.tmps.getD 13 undef = .slice (some ⟨b, 0, none⟩) n c := hd.1 rfl
    have h15 : a.tmps.getD 15 undef = .int .i64 k1 := hd.2.1 rfl
    exact rf_indexIt0 (rf_open true rfl rfl h11) rfl _ _ rfl b n c k1 _ h13 h15 rfl S.lk rfl
  refine ⟨?_, ?_⟩
  · intro a _w hB _hF hd
    have h11 : a.tmps.getD 11 undef = .bool true := hd.2.1 rfl
    have h16 : a.tmps.getD 16 undef = .pointer (some ⟨b, k1 * 4, none⟩) := hd.1 rfl
    exact rf_loadIt (rf_open true rfl rfl h11) rfl _ rfl _ _ h16 y (rangeAt_keep S.iy (by simp [itemL]) fun _ hp => hB.cell hp) rfl
  refine ⟨?_, ?_⟩
  · intro a _w _hB _hF hd
    have h11 : a.tmps.getD 11 undef = .bool true := hd.2.2.1 rfl
    have h12 : a.tmps.getD 12 undef = .agg #[.int .i64 x.s, .int .i64 x.t, .int .i64 x.q, .int .i64 x.v] := hd.1 rfl
    have h17 : a.tmps.getD 17 undef = .agg #[.int .i64 y.s, .int .i64 y.t, .int .i64 y.q, .int .i64 y.v] := hd.2.1 rfl
    refine step_call (rf_open true rfl rfl h11) rfl _ _ (rf_call_run Try.func37 (by kernel_rfl) (by kernel_rfl) _ _ rfl) ?_
    simp only [List.map_toArray, List.map_cons, List.map_nil, Act.eval, h12, h17]
    exact (rless_any x y _).mono (by rintro e w1 ⟨rfl, hb⟩; exact ⟨_, rfl, hb, by rw [S.er]; rfl⟩)
  refine ⟨?_, ?_⟩
  · intro a _w _hB _hF hd
    have h11 : a.tmps.getD 11 undef = .bool true := hd.1 rfl
    have h18 : a.tmps.getD 18 undef = .bool r := hd.2.1 rfl
    exact rf_pick (guard_none rfl) rfl _ _ _ rfl true h11 h18
  trivial
theorem hso2_any {Q : Exit → Act → World → Prop} {l : List Oper} (hl : opsOf 2 Try.f31 = l) (hend : ∀ w : World, Below w0.heap.size w0 w → Q .normal (putAll a0 [(9, .int .i64 z), (10, .bool true), (11, .bool true), (12, .agg #[.int .i64 x.s, .int .i64 x.t, .int .i64 x.q, .int .i64 x.v]), (13, .slice (some ⟨b, 0, none⟩) n c), (14, .int .i64 z), (15, .int .i64 k1), (16, .pointer (some ⟨b, k1 * 4, none⟩)), (17, .agg #[.int .i64 y.s, .int .i64 y.t, .int .i64 y.q, .int .i64 y.v]), (18, .bool r), (19, .bool r)]) w) :
    (Code.region 2 l.toArray true).wp Try.prog Q a0 w0 := by
  subst hl
  refine region_facts2 (hso2F p b n c k1 z x y r) hso2D 37 S.size rfl (by kernel_rfl) (by kernel_rfl) (hso2F_mono _ _ _ _ _ _ _ _ _) (hso2_ok S) fun a w hB hF h => ?_
  have hv : valsAre a [(9, .int .i64 z), (10, .bool true), (11, .bool true), (12, .agg #[.int .i64 x.s, .int .i64 x.t, .int .i64 x.q, .int .i64 x.v]), (13, .slice (some ⟨b, 0, none⟩) n c), (14, .int .i64 z), (15, .int .i64 k1), (16, .pointer (some ⟨b, k1 * 4, none⟩)), (17, .agg #[.int .i64 y.s, .int .i64 y.t, .int .i64 y.q, .int .i64 y.v]), (18, .bool r), (19, .bool r)] := by
    refine ⟨?_, ?_, ?_, ?_, ?_, ?_, ?_, ?_, ?_, ?_, ?_, trivial⟩
    · exact h 0 (some 9) rfl
    · exact h 1 (some 10) rfl
    · exact h 2 (some 11) rfl
    · exact h 3 (some 12) rfl
    · exact h 4 (some 13) rfl
    · exact h 5 (some 14) rfl
    · exact h 6 (some 15) rfl
    · exact h 7 (some 16) rfl
    · exact h 8 (some 17) rfl
    · exact h 9 (some 18) rfl
    · exact h 10 (some 19) rfl
  rw [frame_is hF _ hv (by rfl) (by rfl)]
  exact hend w hB
end

end Go.Proofs.Ytmhmekmacdkdgaa
