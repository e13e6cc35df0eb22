/-
  Walk: AccEmpty, its last region: the answer is put together.
-/
import Derived.Test.YtohikaomoaphlaaSteps
namespace Go.Proofs.Ytohikaomoaphlaa
open Go.RowKit

def emptyEndD : List (Option Tmp) := [some 64, some 65, some 66, some 67, some 68, some 69, some 70, some 71, some 72, some 73, some 74, some 75, some 76, some 77, some 78, some 79, some 80, some 81, some 82, some 83, some 84, some 85, some 86, some 87, some 88, some 89, some 90, some 91, some 92, some 93, some 94, some 95, some 96, some 97, some 98, some 99, some 100, some 101, some 102, some 103, some 104, some 105, some 106, some 107, some 108, some 109, some 110, some 111, some 112, some 113, some 114, some 115, some 116, some 117, some 118, some 119, some 120, some 121, some 122, some 123, some 124, some 125, some 126, some 127, some 128, some 129, some 6]
def emptyEndF (x : It) (X N : Ac) (g3 g7 g9 _g12 _g14 y7 y9 y12 y14 : Nat) : List Fact := [isV (.int .i64 0),
  isV (.int .i64 0),
  isV (.bool true),
  isV (.bool true),
  isV (.int .i64 0),
  isV (.int .i64 0),
  isV (.bool true),
  isV (.bool true),
  isV (.bool true),
  isV (.agg (accC X (some ⟨y7, 0, none⟩) X.h.length X.h.length)),
  isV (.agg (accC X (some ⟨y12, 0, none⟩) X.h.length X.h.length)),
  isV (.bool true),
  isV (.bool true),
  isV (.bool true),
  isV (.int .i64 0),
  isV (.int .i64 0),
  isV (.bool true),
  isV (.bool true),
  isV (.bool true),
  isV (.agg (accC N (some ⟨y14, 0, none⟩) N.h.length N.h.length)),
  isV (.agg (accC N (some ⟨y9, 0, none⟩) N.h.length N.h.length)),
  isV (.bool true),
  isV (.bool true),
  isV (.bool true),
  isV (.pointer (some ⟨g7, 0, none⟩)),
  isV (.int .i64 X.n),
  isV (.bool true),
  isV (.bool true),
  isV (.bool true),
  isV (.pointer (some ⟨g7, 1, none⟩)),
  isV (.int .i64 X.s),
  isV (.pointer (some ⟨g3, 3, none⟩)),
  isV (.int .i64 x.v),
  isV (.bool true),
  isV (.bool true),
  isV (.bool true),
  isV (.pointer (some ⟨g7, 2, none⟩)),
  isV (.int .i64 X.mn),
  isV (.pointer (some ⟨g3, 3, none⟩)),
  isV (.int .i64 x.v),
  isV (.bool true),
  isV (.bool true),
  isV (.bool true),
  isV (.pointer (some ⟨g7, 3, none⟩)),
  isV (.int .i64 X.mx),
  isV (.pointer (some ⟨g3, 3, none⟩)),
  isV (.int .i64 x.v),
  isV (.bool true),
  isV (.bool true),
  isV (.bool true),
  isV (.pointer (some ⟨g7, 4, none⟩)),
  isV (itemV X.f),
  isV (itemV x),
  isV (.bool true),
  isV (.bool true),
  isV (.bool true),
  isV (.pointer (some ⟨g7, 8, none⟩)),
  isV (itemV X.l),
  isV (itemV x),
  isV (.bool true),
  isV (.bool true),
  isV (.bool true),
  isV (.pointer (some ⟨g9, 0, none⟩)),
  isV (.int .i64 N.n),
  isV (.bool true),
  isV (.bool true),
  isV (.bool true)]
theorem emptyEndF_mono (x : It) (X N : Ac) (g3 g7 g9 g12 g14 y7 y9 y12 y14 : Nat) : ∀ f ∈ emptyEndF x X N g3 g7 g9 g12 g14 y7 y9 y12 y14, Mono f := by
  unfold emptyEndF
  repeat (first | exact monos_nil | (refine monos_cons (mono_isV _) ?_))
structure emptyEndS (x : It) (X N : Ac) (g3 g7 g9 g12 g14 y7 y9 y12 y14 : Nat) (a0 : Act) (w0 : World) : Prop where
  size : a0.tmps.size = 130
  V7 : V w0 g7 y7 X
  V9 : V w0 g9 y9 N
  V12 : V w0 g12 y12 X
  V14 : V w0 g14 y14 N
  hx : Has w0 g3 23 #[.int .i64 x.s, .int .i64 x.t, .int .i64 x.q, .int .i64 x.v]
  x1 : X.n = 1
  x2 : X.s = x.v
  x3 : X.mn = x.v
  x4 : X.mx = x.v
  x5 : X.f = x
  x6 : X.l = x
  n0 : N.n = 0
  lX : X.h.length ≤ maxLen
  lN : N.h.length ≤ maxLen
  v3 : a0.tmps.getD 3 undef = .pointer (some ⟨g3, 0, none⟩)
  v7 : a0.tmps.getD 7 undef = .pointer (some ⟨g7, 0, none⟩)
  v9 : a0.tmps.getD 9 undef = .pointer (some ⟨g9, 0, none⟩)
  v10 : a0.tmps.getD 10 undef = .int .i64 0
  v12 : a0.tmps.getD 12 undef = .pointer (some ⟨g12, 0, none⟩)
  v13 : a0.tmps.getD 13 undef = .int .i64 0
  v14 : a0.tmps.getD 14 undef = .pointer (some ⟨g14, 0, none⟩)
  v15 : a0.tmps.getD 15 undef = .int .i64 0
section
variable {x : It} {X N : Ac} {g3 g7 g9 g12 g14 y7 y9 y12 y14 : Nat} {a0 : Act} {w0 : World} (S : emptyEndS x X N g3 g7 g9 g12 g14 y7 y9 y12 y14 a0 w0)
include S
set_option maxRecDepth 100000 in
set_option maxHeartbeats 8000000 in
theorem emptyEndF_ok : AllOps (fun j o => ∀ (a : Act) (w : World), Below w0.heap.size w0 w → FrD emptyEndD a0 a → needs emptyEndD (emptyEndF x X N g3 g7 g9 g12 g14 y7 y9 y12 y14) a w o.after.toList → StepD Try.prog emptyEndD (factAt (emptyEndF x X N g3 g7 g9 g12 g14 y7 y9 y12 y14) j) o a w) 0 (opsOf 11 Try.f6) := by
  simp only [opsOf, Try.f6, opsAt, Option.bind, Option.or, Option.getD, reduceCtorEq, if_true, if_false, Nat.reduceEqDiff]
  refine ⟨?_, ?_⟩
  · intro a w hB hF hd
    exact step_move (guard_none rfl) rfl _ rfl ((hF.other 10 rfl).trans S.v10)
  refine ⟨?_, ?_⟩
  · intro a w hB hF hd
    have h0 : a.tmps.getD 64 undef = .int .i64 0 := hd.1 rfl
    refine step_call (guard_none rfl) rfl _ _ (call_run Try.func17 (by kernel_rfl) (by kernel_rfl) _ _ rfl) ?_
    simp only [List.map_toArray, List.map_cons, List.map_nil, Act.eval, h0]
    exact (num_any _ _).mono (by rintro e w1 ⟨rfl, rfl⟩; exact ⟨_, rfl, Below.refl _ _, rfl⟩)
  refine ⟨?_, ?_⟩
  · intro a w hB hF hd
    have h1 : a.tmps.getD 65 undef = .int .i64 0 := hd.1 rfl
    exact step_eql (guard_none rfl) rfl _ _ rfl _ h1 rfl rfl
  refine ⟨?_, ?_⟩
  · intro a w hB hF hd
    have h2 : a.tmps.getD 66 undef = .bool true := hd.1 rfl
    exact step_move (guard_none rfl) rfl _ rfl h2
  refine ⟨?_, ?_⟩
  · intro a w hB hF hd
    have h3 : a.tmps.getD 67 undef = .bool true := hd.1 rfl
    exact step_move (guard_true rfl rfl h3) rfl _ rfl ((hF.other 13 rfl).trans S.v13)
  refine ⟨?_, ?_⟩
  · intro a w hB hF hd
    have h4 : a.tmps.getD 68 undef = .int .i64 0 := hd.1 rfl
    have h3 : a.tmps.getD 67 undef = .bool true := hd.2.1 rfl
    refine step_call (guard_true rfl rfl h3) rfl _ _ (call_run Try.func17 (by kernel_rfl) (by kernel_rfl) _ _ rfl) ?_
    simp only [List.map_toArray, List.map_cons, List.map_nil, Act.eval, h4]
    exact (num_any _ _).mono (by rintro e w1 ⟨rfl, rfl⟩; exact ⟨_, rfl, Below.refl _ _, rfl⟩)
  refine ⟨?_, ?_⟩
  · intro a w hB hF hd
    have h5 : a.tmps.getD 69 undef = .int .i64 0 := hd.1 rfl
    have h3 : a.tmps.getD 67 undef = .bool true := hd.2.1 rfl
    exact step_eql (guard_true rfl rfl h3) rfl _ _ rfl _ h5 rfl rfl
  refine ⟨?_, ?_⟩
  · intro a w hB hF hd
    have h3 : a.tmps.getD 67 undef = .bool true := hd.1 rfl
    have h6 : a.tmps.getD 70 undef = .bool true := hd.2.1 rfl
    exact step_pick (guard_none rfl) rfl _ _ _ rfl h3 h6
  refine ⟨?_, ?_⟩
  · intro a w hB hF hd
    have h7 : a.tmps.getD 71 undef = .bool true := hd.1 rfl
    exact step_move (guard_none rfl) rfl _ rfl h7
  refine ⟨?_, ?_⟩
  · intro a w hB hF hd
    have h8 : a.tmps.getD 72 undef = .bool true := hd.1 rfl
    exact step_load (guard_true rfl rfl h8) rfl _ rfl _ ((hF.other 7 rfl).trans S.v7) (has_below S.V7.cells hB) rfl
  refine ⟨?_, ?_⟩
  · intro a w hB hF hd
    have h8 : a.tmps.getD 72 undef = .bool true := hd.1 rfl
    exact step_load (guard_true rfl rfl h8) rfl _ rfl _ ((hF.other 12 rfl).trans S.v12) (has_below S.V12.cells hB) rfl
  refine ⟨?_, ?_⟩
  · intro a w hB hF hd
    have h9 : a.tmps.getD 73 undef = .agg (accC X (some ⟨y7, 0, none⟩) X.h.length X.h.length) := hd.1 rfl
    have h10 : a.tmps.getD 74 undef = .agg (accC X (some ⟨y12, 0, none⟩) X.h.length X.h.length) := hd.2.1 rfl
    have h8 : a.tmps.getD 72 undef = .bool true := hd.2.2.1 rfl
    refine step_call (guard_true rfl rfl h8) rfl _ _ (call_run Try.func16 (by kernel_rfl) (by kernel_rfl) _ _ rfl) ?_
    simp only [List.map_toArray, List.map_cons, List.map_nil, Act.eval, h9, h10]
    exact (sameAcc_true X _ _ _ _ _ _ (ints_of_has (has_below S.V7.hist hB) rfl) (ints_of_has (has_below S.V12.hist hB) rfl) S.lX).mono (by rintro e w1 ⟨rfl, hb⟩; exact ⟨_, rfl, hb, rfl⟩)
  refine ⟨?_, ?_⟩
  · intro a w hB hF hd
    have h8 : a.tmps.getD 72 undef = .bool true := hd.1 rfl
    have h11 : a.tmps.getD 75 undef = .bool true := hd.2.1 rfl
    exact step_pick (guard_none rfl) rfl _ _ _ rfl h8 h11
  refine ⟨?_, ?_⟩
  · intro a w hB hF hd
    have h12 : a.tmps.getD 76 undef = .bool true := hd.1 rfl
    exact step_move (guard_none rfl) rfl _ rfl h12
  refine ⟨?_, ?_⟩
  · intro a w hB hF hd
    have h13 : a.tmps.getD 77 undef = .bool true := hd.1 rfl
    exact step_move (guard_true rfl rfl h13) rfl _ rfl ((hF.other 15 rfl).trans S.v15)
  refine ⟨?_, ?_⟩
  · intro a w hB hF hd
    have h14 : a.tmps.getD 78 undef = .int .i64 0 := hd.1 rfl
    have h13 : a.tmps.getD 77 undef = .bool true := hd.2.1 rfl
    refine step_call (guard_true rfl rfl h13) rfl _ _ (call_run Try.func17 (by kernel_rfl) (by kernel_rfl) _ _ rfl) ?_
    simp only [List.map_toArray, List.map_cons, List.map_nil, Act.eval, h14]
    exact (num_any _ _).mono (by rintro e w1 ⟨rfl, rfl⟩; exact ⟨_, rfl, Below.refl _ _, rfl⟩)
  refine ⟨?_, ?_⟩
  · intro a w hB hF hd
    have h15 : a.tmps.getD 79 undef = .int .i64 0 := hd.1 rfl
    have h13 : a.tmps.getD 77 undef = .bool true := hd.2.1 rfl
    exact step_eql (guard_true rfl rfl h13) rfl _ _ rfl _ h15 rfl rfl
  refine ⟨?_, ?_⟩
  · intro a w hB hF hd
    have h13 : a.tmps.getD 77 undef = .bool true := hd.1 rfl
    have h16 : a.tmps.getD 80 undef = .bool true := hd.2.1 rfl
    exact step_pick (guard_none rfl) rfl _ _ _ rfl h13 h16
  refine ⟨?_, ?_⟩
  · intro a w hB hF hd
    have h17 : a.tmps.getD 81 undef = .bool true := hd.1 rfl
    exact step_move (guard_none rfl) rfl _ rfl h17
  refine ⟨?_, ?_⟩
  · intro a w hB hF hd
    have h18 : a.tmps.getD 82 undef = .bool true := hd.1 rfl
    exact step_load (guard_true rfl rfl h18) rfl _ rfl _ ((hF.other 14 rfl).trans S.v14) (has_below S.V14.cells hB) rfl
  refine ⟨?_, ?_⟩
  · intro a w hB hF hd
    have h18 : a.tmps.getD 82 undef = .bool true := hd.1 rfl
    exact step_load (guard_true rfl rfl h18) rfl _ rfl _ ((hF.other 9 rfl).trans S.v9) (has_below S.V9.cells hB) rfl
  refine ⟨?_, ?_⟩
  · intro a w hB hF hd
    have h19 : a.tmps.getD 83 undef = .agg (accC N (some ⟨y14, 0, none⟩) N.h.length N.h.length) := hd.1 rfl
    have h20 : a.tmps.getD 84 undef = .agg (accC N (some ⟨y9, 0, none⟩) N.h.length N.h.length) := hd.2.1 rfl
    have h18 : a.tmps.getD 82 undef = .bool true := hd.2.2.1 rfl
    refine step_call (guard_true rfl rfl h18) rfl _ _ (call_run Try.func16 (by kernel_rfl) (by kernel_rfl) _ _ rfl) ?_
    simp only [List.map_toArray, List.map_cons, List.map_nil, Act.eval, h19, h20]
    exact (sameAcc_true N _ _ _ _ _ _ (ints_of_has (has_below S.V14.hist hB) rfl) (ints_of_has (has_below S.V9.hist hB) rfl) S.lN).mono (by rintro e w1 ⟨rfl, hb⟩; exact ⟨_, rfl, hb, rfl⟩)
  refine ⟨?_, ?_⟩
  · intro a w hB hF hd
    have h18 : a.tmps.getD 82 undef = .bool true := hd.1 rfl
    have h21 : a.tmps.getD 85 undef = .bool true := hd.2.1 rfl
    exact step_pick (guard_none rfl) rfl _ _ _ rfl h18 h21
  refine ⟨?_, ?_⟩
  · intro a w hB hF hd
    have h22 : a.tmps.getD 86 undef = .bool true := hd.1 rfl
    exact step_move (guard_none rfl) rfl _ rfl h22
  refine ⟨?_, ?_⟩
  · intro a w hB hF hd
    have h23 : a.tmps.getD 87 undef = .bool true := hd.1 rfl
    exact step_faddr (guard_true rfl rfl h23) rfl _ _ _ rfl _ 0 0 ((hF.other 7 rfl).trans S.v7) (fun _ => by kernel_rfl) rfl
  refine ⟨?_, ?_⟩
  · intro a w hB hF hd
    have h24 : a.tmps.getD 88 undef = .pointer (some ⟨g7, 0, none⟩) := hd.1 rfl
    have h23 : a.tmps.getD 87 undef = .bool true := hd.2.1 rfl
    exact step_loadi (guard_true rfl rfl h23) rfl _ rfl _ 0 h24 _ ((Has.cell (has_below S.V7.cells hB) 0).trans rfl) rfl
  refine ⟨?_, ?_⟩
  · intro a w hB hF hd
    have h25 : a.tmps.getD 89 undef = .int .i64 X.n := hd.1 rfl
    have h23 : a.tmps.getD 87 undef = .bool true := hd.2.1 rfl
    exact step_eql (guard_true rfl rfl h23) rfl _ _ rfl _ h25 (show _ = _ by rw [S.x1]; rfl) rfl
  refine ⟨?_, ?_⟩
  · intro a w hB hF hd
    have h23 : a.tmps.getD 87 undef = .bool true := hd.1 rfl
    have h26 : a.tmps.getD 90 undef = .bool true := hd.2.1 rfl
    exact step_pick (guard_none rfl) rfl _ _ _ rfl h23 h26
  refine ⟨?_, ?_⟩
  · intro a w hB hF hd
    have h27 : a.tmps.getD 91 undef = .bool true := hd.1 rfl
    exact step_move (guard_none rfl) rfl _ rfl h27
  refine ⟨?_, ?_⟩
  · intro a w hB hF hd
    have h28 : a.tmps.getD 92 undef = .bool true := hd.1 rfl
    exact step_faddr (guard_true rfl rfl h28) rfl _ _ _ rfl _ 0 1 ((hF.other 7 rfl).trans S.v7) (fun _ => by kernel_rfl) rfl
  refine ⟨?_, ?_⟩
  · intro a w hB hF hd
    have h29 : a.tmps.getD 93 undef = .pointer (some ⟨g7, 1, none⟩) := hd.1 rfl
    have h28 : a.tmps.getD 92 undef = .bool true := hd.2.1 rfl
    exact step_loadi (guard_true rfl rfl h28) rfl _ rfl _ 1 h29 _ ((Has.cell (has_below S.V7.cells hB) 1).trans rfl) rfl
  refine ⟨?_, ?_⟩
  · intro a w hB hF hd
    have h28 : a.tmps.getD 92 undef = .bool true := hd.1 rfl
    exact step_faddr (guard_true rfl rfl h28) rfl _ _ _ rfl _ 0 3 ((hF.other 3 rfl).trans S.v3) (fun _ => by kernel_rfl) rfl
  refine ⟨?_, ?_⟩
  · intro a w hB hF hd
    have h31 : a.tmps.getD 95 undef = .pointer (some ⟨g3, 3, none⟩) := hd.1 rfl
    have h28 : a.tmps.getD 92 undef = .bool true := hd.2.1 rfl
    exact step_loadi (guard_true rfl rfl h28) rfl _ rfl _ 3 h31 _ ((Has.cell (has_below S.hx hB) 3).trans rfl) rfl
  refine ⟨?_, ?_⟩
  · intro a w hB hF hd
    have h30 : a.tmps.getD 94 undef = .int .i64 X.s := hd.1 rfl
    have h32 : a.tmps.getD 96 undef = .int .i64 x.v := hd.2.1 rfl
    have h28 : a.tmps.getD 92 undef = .bool true := hd.2.2.1 rfl
    exact step_eql (guard_true rfl rfl h28) rfl _ _ rfl _ h30 (h32.trans (by rw [S.x2])) rfl
  refine ⟨?_, ?_⟩
  · intro a w hB hF hd
    have h28 : a.tmps.getD 92 undef = .bool true := hd.1 rfl
    have h33 : a.tmps.getD 97 undef = .bool true := hd.2.1 rfl
    exact step_pick (guard_none rfl) rfl _ _ _ rfl h28 h33
  refine ⟨?_, ?_⟩
  · intro a w hB hF hd
    have h34 : a.tmps.getD 98 undef = .bool true := hd.1 rfl
    exact step_move (guard_none rfl) rfl _ rfl h34
  refine ⟨?_, ?_⟩
  · intro a w hB hF hd
    have h35 : a.tmps.getD 99 undef = .bool true := hd.1 rfl
    exact step_faddr (guard_true rfl rfl h35) rfl _ _ _ rfl _ 0 2 ((hF.other 7 rfl).trans S.v7) (fun _ => by kernel_rfl) rfl
  refine ⟨?_, ?_⟩
  · intro a w hB hF hd
    have h36 : a.tmps.getD 100 undef = .pointer (some ⟨g7, 2, none⟩) := hd.1 rfl
    have h35 : a.tmps.getD 99 undef = .bool true := hd.2.1 rfl
    exact step_loadi (guard_true rfl rfl h35) rfl _ rfl _ 2 h36 _ ((Has.cell (has_below S.V7.cells hB) 2).trans rfl) rfl
  refine ⟨?_, ?_⟩
  · intro a w hB hF hd
    have h35 : a.tmps.getD 99 undef = .bool true := hd.1 rfl
    exact step_faddr (guard_true rfl rfl h35) rfl _ _ _ rfl _ 0 3 ((hF.other 3 rfl).trans S.v3) (fun _ => by kernel_rfl) rfl
  refine ⟨?_, ?_⟩
  · intro a w hB hF hd
    have h38 : a.tmps.getD 102 undef = .pointer (some ⟨g3, 3, none⟩) := hd.1 rfl
    have h35 : a.tmps.getD 99 undef = .bool true := hd.2.1 rfl
    exact step_loadi (guard_true rfl rfl h35) rfl _ rfl _ 3 h38 _ ((Has.cell (has_below S.hx hB) 3).trans rfl) rfl
  refine ⟨?_, ?_⟩
  · intro a w hB hF hd
    have h37 : a.tmps.getD 101 undef = .int .i64 X.mn := hd.1 rfl
    have h39 : a.tmps.getD 103 undef = .int .i64 x.v := hd.2.1 rfl
    have h35 : a.tmps.getD 99 undef = .bool true := hd.2.2.1 rfl
    exact step_eql (guard_true rfl rfl h35) rfl _ _ rfl _ h37 (h39.trans (by rw [S.x3])) rfl
  refine ⟨?_, ?_⟩
  · intro a w hB hF hd
    have h35 : a.tmps.getD 99 undef = .bool true := hd.1 rfl
    have h40 : a.tmps.getD 104 undef = .bool true := hd.2.1 rfl
    exact step_pick (guard_none rfl) rfl _ _ _ rfl h35 h40
  refine ⟨?_, ?_⟩
  · intro a w hB hF hd
    have h41 : a.tmps.getD 105 undef = .bool true := hd.1 rfl
    exact step_move (guard_none rfl) rfl _ rfl h41
  refine ⟨?_, ?_⟩
  · intro a w hB hF hd
    have h42 : a.tmps.getD 106 undef = .bool true := hd.1 rfl
    exact step_faddr (guard_true rfl rfl h42) rfl _ _ _ rfl _ 0 3 ((hF.other 7 rfl).trans S.v7) (fun _ => by kernel_rfl) rfl
  refine ⟨?_, ?_⟩
  · intro a w hB hF hd
    have h43 : a.tmps.getD 107 undef = .pointer (some ⟨g7, 3, none⟩) := hd.1 rfl
    have h42 : a.tmps.getD 106 undef = .bool true := hd.2.1 rfl
    exact step_loadi (guard_true rfl rfl h42) rfl _ rfl _ 3 h43 _ ((Has.cell (has_below S.V7.cells hB) 3).trans rfl) rfl
  refine ⟨?_, ?_⟩
  · intro a w hB hF hd
    have h42 : a.tmps.getD 106 undef = .bool true := hd.1 rfl
    exact step_faddr (guard_true rfl rfl h42) rfl _ _ _ rfl _ 0 3 ((hF.other 3 rfl).trans S.v3) (fun _ => by kernel_rfl) rfl
  refine ⟨?_, ?_⟩
  · intro a w hB hF hd
    have h45 : a.tmps.getD 109 undef = .pointer (some ⟨g3, 3, none⟩) := hd.1 rfl
    have h42 : a.tmps.getD 106 undef = .bool true := hd.2.1 rfl
    exact step_loadi (guard_true rfl rfl h42) rfl _ rfl _ 3 h45 _ ((Has.cell (has_below S.hx hB) 3).trans rfl) rfl
  refine ⟨?_, ?_⟩
  · intro a w hB hF hd
    have h44 : a.tmps.getD 108 undef = .int .i64 X.mx := hd.1 rfl
    have h46 : a.tmps.getD 110 undef = .int .i64 x.v := hd.2.1 rfl
    have h42 : a.tmps.getD 106 undef = .bool true := hd.2.2.1 rfl
    exact step_eql (guard_true rfl rfl h42) rfl _ _ rfl _ h44 (h46.trans (by rw [S.x4])) rfl
  refine ⟨?_, ?_⟩
  · intro a w hB hF hd
    have h42 : a.tmps.getD 106 undef = .bool true := hd.1 rfl
    have h47 : a.tmps.getD 111 undef = .bool true := hd.2.1 rfl
    exact step_pick (guard_none rfl) rfl _ _ _ rfl h42 h47
  refine ⟨?_, ?_⟩
  · intro a w hB hF hd
    have h48 : a.tmps.getD 112 undef = .bool true := hd.1 rfl
    exact step_move (guard_none rfl) rfl _ rfl h48
  refine ⟨?_, ?_⟩
  · intro a w hB hF hd
    have h49 : a.tmps.getD 113 undef = .bool true := hd.1 rfl
    exact step_faddr (guard_true rfl rfl h49) rfl _ _ _ rfl _ 0 4 ((hF.other 7 rfl).trans S.v7) (fun _ => by kernel_rfl) rfl
  refine ⟨?_, ?_⟩
  · intro a w hB hF hd
    have h50 : a.tmps.getD 114 undef = .pointer (some ⟨g7, 4, none⟩) := hd.1 rfl
    have h49 : a.tmps.getD 113 undef = .bool true := hd.2.1 rfl
    exact step_loadI (guard_true rfl rfl h49) rfl _ rfl _ 4 h50 _ (range_first (has_below S.V7.cells hB)) rfl
  refine ⟨?_, ?_⟩
  · intro a w hB hF hd
    have h49 : a.tmps.getD 113 undef = .bool true := hd.1 rfl
    exact step_loadI (guard_true rfl rfl h49) rfl _ rfl _ 0 ((hF.other 3 rfl).trans S.v3) _ (range_item (has_below S.hx hB)) rfl
  refine ⟨?_, ?_⟩
  · intro a w hB hF hd
    have h51 : a.tmps.getD 115 undef = itemV X.f := hd.1 rfl
    have h52 : a.tmps.getD 116 undef = itemV x := hd.2.1 rfl
    have h49 : a.tmps.getD 113 undef = .bool true := hd.2.2.1 rfl
    exact step_eqI (guard_true rfl rfl h49) rfl _ _ rfl _ h51 (h52.trans (by rw [S.x5])) rfl
  refine ⟨?_, ?_⟩
  · intro a w hB hF hd
    have h49 : a.tmps.getD 113 undef = .bool true := hd.1 rfl
    have h53 : a.tmps.getD 117 undef = .bool true := hd.2.1 rfl
    exact step_pick (guard_none rfl) rfl _ _ _ rfl h49 h53
  refine ⟨?_, ?_⟩
  · intro a w hB hF hd
    have h54 : a.tmps.getD 118 undef = .bool true := hd.1 rfl
    exact step_move (guard_none rfl) rfl _ rfl h54
  refine ⟨?_, ?_⟩
  · intro a w hB hF hd
    have h55 : a.tmps.getD 119 undef = .bool true := hd.1 rfl
    exact step_faddr (guard_true rfl rfl h55) rfl _ _ _ rfl _ 0 8 ((hF.other 7 rfl).trans S.v7) (fun _ => by kernel_rfl) rfl
  refine ⟨?_, ?_⟩
  · intro a w hB hF hd
    have h56 : a.tmps.getD 120 undef = .pointer (some ⟨g7, 8, none⟩) := hd.1 rfl
    have h55 : a.tmps.getD 119 undef = .bool true := hd.2.1 rfl
    exact step_loadI (guard_true rfl rfl h55) rfl _ rfl _ 8 h56 _ (range_last (has_below S.V7.cells hB)) rfl
  refine ⟨?_, ?_⟩
  · intro a w hB hF hd
    have h55 : a.tmps.getD 119 undef = .bool true := hd.1 rfl
    exact step_loadI (guard_true rfl rfl h55) rfl _ rfl _ 0 ((hF.other 3 rfl).trans S.v3) _ (range_item (has_below S.hx hB)) rfl
  refine ⟨?_, ?_⟩
  · intro a w hB hF hd
    have h57 : a.tmps.getD 121 undef = itemV X.l := hd.1 rfl
    have h58 : a.tmps.getD 122 undef = itemV x := hd.2.1 rfl
    have h55 : a.tmps.getD 119 undef = .bool true := hd.2.2.1 rfl
    exact step_eqI (guard_true rfl rfl h55) rfl _ _ rfl _ h57 (h58.trans (by rw [S.x6])) rfl
  refine ⟨?_, ?_⟩
  · intro a w hB hF hd
    have h55 : a.tmps.getD 119 undef = .bool true := hd.1 rfl
    have h59 : a.tmps.getD 123 undef = .bool true := hd.2.1 rfl
    exact step_pick (guard_none rfl) rfl _ _ _ rfl h55 h59
  refine ⟨?_, ?_⟩
  · intro a w hB hF hd
    have h60 : a.tmps.getD 124 undef = .bool true := hd.1 rfl
    exact step_move (guard_none rfl) rfl _ rfl h60
  refine ⟨?_, ?_⟩
  · intro a w hB hF hd
    have h61 : a.tmps.getD 125 undef = .bool true := hd.1 rfl
    exact step_faddr (guard_true rfl rfl h61) rfl _ _ _ rfl _ 0 0 ((hF.other 9 rfl).trans S.v9) (fun _ => by kernel_rfl) rfl
  refine ⟨?_, ?_⟩
  · intro a w hB hF hd
    have h62 : a.tmps.getD 126 undef = .pointer (some ⟨g9, 0, none⟩) := hd.1 rfl
    have h61 : a.tmps.getD 125 undef = .bool true := hd.2.1 rfl
    exact step_loadi (guard_true rfl rfl h61) rfl _ rfl _ 0 h62 _ ((Has.cell (has_below S.V9.cells hB) 0).trans rfl) rfl
  refine ⟨?_, ?_⟩
  · intro a w hB hF hd
    have h63 : a.tmps.getD 127 undef = .int .i64 N.n := hd.1 rfl
    have h61 : a.tmps.getD 125 undef = .bool true := hd.2.1 rfl
    exact step_eql (guard_true rfl rfl h61) rfl _ _ rfl _ h63 (show _ = _ by rw [S.n0]; rfl) rfl
  refine ⟨?_, ?_⟩
  · intro a w hB hF hd
    have h61 : a.tmps.getD 125 undef = .bool true := hd.1 rfl
    have h64 : a.tmps.getD 128 undef = .bool true := hd.2.1 rfl
    exact step_pick (guard_none rfl) rfl _ _ _ rfl h61 h64
  refine ⟨?_, ?_⟩
  · intro a w hB hF hd
    have h65 : a.tmps.getD 129 undef = .bool true := hd.1 rfl
    exact step_assign (guard_none rfl) rfl _ rfl h65
  trivial
theorem emptyEnd_any {Q : Exit → Act → World → Prop} (hend : ∀ (a : Act) (w : World), Below w0.heap.size w0 w → a.defers = a0.defers → a.tmps.getD 6 undef = .bool true → Q .normal a w) :
    (Code.region 11 (opsOf 11 Try.f6).toArray false).wp Try.prog Q a0 w0 :=
  region_facts (emptyEndF x X N g3 g7 g9 g12 g14 y7 y9 y12 y14) emptyEndD 130 S.size rfl (by kernel_rfl) (by kernel_rfl) (emptyEndF_mono _ _ _ _ _ _ _ _ _ _ _ _) (emptyEndF_ok S) fun a w hB hF h => hend a w hB hF.defers (h 66 (some 6) rfl)
end

end Go.Proofs.Ytohikaomoaphlaa
