/-
  Walk: the reference's two: the statement that appends a bucket's sum, but for its tail.
-/
import Derived.Test.YtjgjbhbpndjnnaaG11
namespace Go.Proofs.Ytjgjbhbpndjnnaa
open Go.RowKit

/-- A new row of numbers. -/
def newF (xs : List Int) (n : Nat) : Fact := fun v w => ∃ g, v = .slice (some ⟨g, 0, none⟩) n n ∧ Has w g 3 (ints xs)
theorem mono_new (xs : List Int) (n : Nat) : Mono (newF xs n) := fun _ _ _ hb ⟨g, e, h⟩ => ⟨g, e, has_below h hb⟩

section
variable (N b1 o1 b2 o2 k c d j e : Nat) (D : Option Addr) (x y : Int)
def two9F : List Fact := [isV (.pointer (some ⟨N + 3, 12, none⟩)), isV (.slice D j e), isV (.pointer (some ⟨N, 12, none⟩)), isV (.slice (some ⟨b1, o1, none⟩) k c), isV (.int .i64 j), isV (.pointer (some ⟨b1, o1 + j, none⟩)), isV (.int .i64 x),
  isV (.pointer (some ⟨N + 1, 12, none⟩)), isV (.slice (some ⟨b2, o2, none⟩) k d), isV (.int .i64 j), isV (.pointer (some ⟨b2, o2 + j, none⟩)), isV (.int .i64 y), isV (.int .i64 (x + y)), newF [x + y] 1]
def two9D : List (Option Tmp) := [some 55, some 56, some 57, some 58, some 59, some 60, some 61, some 62, some 63, some 64, some 65, some 66, some 67, some 68, some 69, some 70, none]
theorem two9F_mono : ∀ f ∈ two9F N b1 o1 b2 o2 k c d j e D x y, Mono f := by
  unfold two9F
  repeat (first | exact monos_nil | (refine monos_cons (mono_isV _) ?_) | (refine monos_cons (mono_new _ _) ?_))
structure Two9 (a0 : Act) (w0 : World) : Prop where
  size : a0.tmps.size = 72
  v2 : a0.tmps.getD 2 undef = .pointer (some ⟨N, 0, none⟩)
  v3 : a0.tmps.getD 3 undef = .pointer (some ⟨N + 1, 0, none⟩)
  v5 : a0.tmps.getD 5 undef = .pointer (some ⟨N + 3, 0, none⟩)
  v6 : a0.tmps.getD 6 undef = .int .i64 j
  cO : w0.cell? ⟨N + 3, 12, none⟩ = some (.slice D j e)
  cA : w0.cell? ⟨N, 12, none⟩ = some (.slice (some ⟨b1, o1, none⟩) k c)
  cB : w0.cell? ⟨N + 1, 12, none⟩ = some (.slice (some ⟨b2, o2, none⟩) k d)
  ca : w0.cell? ⟨b1, o1 + j, none⟩ = some (.int .i64 x)
  cb : w0.cell? ⟨b2, o2 + j, none⟩ = some (.int .i64 y)
  jk : j < k
  sum : -9223372036854775808 ≤ x + y ∧ x + y ≤ 9223372036854775807
end
theorem cell_below {w0 w : World} (hB : Below w0.heap.size w0 w) {p : Addr} {v : Value} (h : w0.cell? p = some v) : w.cell? p = some v := (hB.cell (block_lt_of_cell h)).trans h
section
variable {N b1 o1 b2 o2 k c d j e : Nat} {D : Option Addr} {x y : Int} {a0 : Act} {w0 : World} (S : Two9 N b1 o1 b2 o2 k c d j e D x y a0 w0)
include S
set_option maxRecDepth 100000 in
set_option maxHeartbeats 4000000 in
theorem two9_ok : AllOps (fun i o => ∀ (a : Act) (w : World), Below w0.heap.size w0 w → FrD (two9D.take 14) a0 a → needs two9D (two9F N b1 o1 b2 o2 k c d j e D x y) a w o.after.toList → StepD Try.prog two9D (factAt (two9F N b1 o1 b2 o2 k c d j e D x y) i) o a w) 0 ((opsOf 9 Try.f50).take 14) := by
  simp only [opsOf, Try.f50, opsAt, Option.bind, Option.or, Option.getD, reduceCtorEq, if_true, if_false, Nat.reduceEqDiff, List.take_succ_cons, List.take_zero]
  refine ⟨?_, ?_⟩
  · intro a w hB hF hd
    exact step_faddr (guard_none rfl) rfl _ _ _ rfl (N + 3) 0 12 ((hF.other 5 rfl).trans S.v5) (fun _ => by kernel_rfl) rfl
  refine ⟨?_, ?_⟩
  · intro a w hB hF hd
    have h0 : a.tmps.getD 55 undef = .pointer (some ⟨N + 3, 12, none⟩) := hd.1 rfl
    exact step_loads (guard_none rfl) rfl _ rfl _ _ h0 _ _ _ (cell_below hB S.cO) rfl
  refine ⟨?_, ?_⟩
  · intro a w hB hF hd
    exact step_faddr (guard_none rfl) rfl _ _ _ rfl N 0 12 ((hF.other 2 rfl).trans S.v2) (fun _ => by kernel_rfl) rfl
  refine ⟨?_, ?_⟩
  · intro a w hB hF hd
    have h0 : a.tmps.getD 57 undef = .pointer (some ⟨N, 12, none⟩) := hd.1 rfl
    exact step_loads (guard_none rfl) rfl _ rfl _ _ h0 _ _ _ (cell_below hB S.cA) rfl
  refine ⟨?_, ?_⟩
  · intro a w hB hF hd
    exact step_move (guard_none rfl) rfl _ rfl ((hF.other 6 rfl).trans S.v6)
  refine ⟨?_, ?_⟩
  · intro a w hB hF hd
    have h0 : a.tmps.getD 58 undef = .slice (some ⟨b1, o1, none⟩) k c := hd.1 rfl
    have h1 : a.tmps.getD 59 undef = .int .i64 j := hd.2.1 rfl
    exact step_iaddr (guard_none rfl) rfl _ _ rfl b1 o1 k c j h0 h1 S.jk rfl
  refine ⟨?_, ?_⟩
  · intro a w hB hF hd
    have h0 : a.tmps.getD 60 undef = .pointer (some ⟨b1, o1 + j, none⟩) := hd.1 rfl
    exact step_loadi (guard_none rfl) rfl _ rfl _ _ h0 _ (cell_below hB S.ca) rfl
  refine ⟨?_, ?_⟩
  · intro a w hB hF hd
    exact step_faddr (guard_none rfl) rfl _ _ _ rfl (N + 1) 0 12 ((hF.other 3 rfl).trans S.v3) (fun _ => by kernel_rfl) rfl
  refine ⟨?_, ?_⟩
  · intro a w hB hF hd
    have h0 : a.tmps.getD 62 undef = .pointer (some ⟨N + 1, 12, none⟩) := hd.1 rfl
    exact step_loads (guard_none rfl) rfl _ rfl _ _ h0 _ _ _ (cell_below hB S.cB) rfl
  refine ⟨?_, ?_⟩
  · intro a w hB hF hd
    exact step_move (guard_none rfl) rfl _ rfl ((hF.other 6 rfl).trans S.v6)
  refine ⟨?_, ?_⟩
  · intro a w hB hF hd
    have h0 : a.tmps.getD 63 undef = .slice (some ⟨b2, o2, none⟩) k d := hd.1 rfl
    have h1 : a.tmps.getD 64 undef = .int .i64 j := hd.2.1 rfl
    exact step_iaddr (guard_none rfl) rfl _ _ rfl b2 o2 k d j h0 h1 S.jk rfl
  refine ⟨?_, ?_⟩
  · intro a w hB hF hd
    have h0 : a.tmps.getD 65 undef = .pointer (some ⟨b2, o2 + j, none⟩) := hd.1 rfl
    exact step_loadi (guard_none rfl) rfl _ rfl _ _ h0 _ (cell_below hB S.cb) rfl
  refine ⟨?_, ?_⟩
  · intro a w hB hF hd
    have h0 : a.tmps.getD 61 undef = .int .i64 x := hd.1 rfl
    have h1 : a.tmps.getD 66 undef = .int .i64 y := hd.2.1 rfl
    exact step_add (guard_none rfl) rfl _ _ rfl _ _ h0 h1 S.sum rfl
  refine ⟨?_, ?_⟩
  · intro a w hB hF hd
    have h0 : a.tmps.getD 67 undef = .int .i64 (x + y) := hd.1 rfl
    exact step_build1 (guard_none rfl) rfl _ rfl _ h0 (fun w' _ hw => ⟨_, rfl, hw⟩)
  trivial
theorem two9_any {Q : Exit → Act → World → Prop} {l : List Oper} (hl : opsOf 9 Try.f50 = l)
    (hend : ∀ (g : Nat) (w : World), Below w0.heap.size w0 w → Has w g 3 (ints [x + y]) → wpList Try.prog l.toArray Q (l.drop 14) (putAll a0 [(55, .pointer (some ⟨N + 3, 12, none⟩)), (56, .slice D j e), (57, .pointer (some ⟨N, 12, none⟩)), (58, .slice (some ⟨b1, o1, none⟩) k c), (59, .int .i64 j), (60, .pointer (some ⟨b1, o1 + j, none⟩)), (61, .int .i64 x), (62, .pointer (some ⟨N + 1, 12, none⟩)), (63, .slice (some ⟨b2, o2, none⟩) k d), (64, .int .i64 j), (65, .pointer (some ⟨b2, o2 + j, none⟩)), (66, .int .i64 y), (67, .int .i64 (x + y)), (68, .slice (some ⟨g, 0, none⟩) 1 1)]) w) :
    (Code.region 9 l.toArray true).wp Try.prog Q a0 w0 := by
  subst hl
  refine region_head (two9F N b1 o1 b2 o2 k c d j e D x y) two9D 14 72 S.size rfl (by kernel_rfl) (by kernel_rfl) (by kernel_rfl) (two9F_mono _ _ _ _ _ _ _ _ _ _ _ _ _) (two9_ok S) fun a w hB hF h => ?_
  obtain ⟨g, h68, hg⟩ := h 13 (some 68) (by omega) rfl
  rw [frame_is hF [(55, .pointer (some ⟨N + 3, 12, none⟩)), (56, .slice D j e), (57, .pointer (some ⟨N, 12, none⟩)), (58, .slice (some ⟨b1, o1, none⟩) k c), (59, .int .i64 j), (60, .pointer (some ⟨b1, o1 + j, none⟩)), (61, .int .i64 x), (62, .pointer (some ⟨N + 1, 12, none⟩)), (63, .slice (some ⟨b2, o2, none⟩) k d), (64, .int .i64 j), (65, .pointer (some ⟨b2, o2 + j, none⟩)), (66, .int .i64 y), (67, .int .i64 (x + y)), (68, .slice (some ⟨g, 0, none⟩) 1 1)]
    ⟨h 0 (some 55) (by omega) rfl, h 1 (some 56) (by omega) rfl, h 2 (some 57) (by omega) rfl, h 3 (some 58) (by omega) rfl, h 4 (some 59) (by omega) rfl, h 5 (some 60) (by omega) rfl, h 6 (some 61) (by omega) rfl, h 7 (some 62) (by omega) rfl, h 8 (some 63) (by omega) rfl, h 9 (some 64) (by omega) rfl, h 10 (some 65) (by omega) rfl, h 11 (some 66) (by omega) rfl, h 12 (some 67) (by omega) rfl, h68, trivial⟩ (by rfl) (by rfl)]
  exact hend g w hB hg
end

end Go.Proofs.Ytjgjbhbpndjnnaa
