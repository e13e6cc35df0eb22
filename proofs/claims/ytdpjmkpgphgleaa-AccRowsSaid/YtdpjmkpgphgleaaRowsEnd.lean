/-
  Walk: AccRows, its last region: the answer is put together.
-/
import Derived.Test.YtdpjmkpgphgleaaSteps
namespace Go.Proofs.Ytdpjmkpgphgleaa
open Go.RowKit

def rowsEndD : List (Option Tmp) := [some 132, some 133, some 134, some 135, some 136, some 137, some 138, some 139, some 140, some 141, some 142, some 143, some 144, some 145, some 146, some 147, some 148, some 149, some 150, some 151, some 152, some 153, some 154, some 155, some 156, some 157, some 158, some 159, some 160, some 161, some 162, some 163, some 164, some 165, some 166, some 167, some 168, some 169, some 170, some 6]
def rowsEndF (J : Ac) (K : Int) (g17 _g19 _g25 y17 y19 y25 : Nat) : List Fact := [isV (.int .i64 0),
  isV (.int .i64 0),
  isV (.bool true),
  isV (.bool true),
  isV (.int .i64 0),
  isV (.int .i64 0),
  isV (.bool true),
  isV (.bool true),
  isV (.bool true),
  isV (.int .i64 0),
  isV (.int .i64 0),
  isV (.bool true),
  isV (.bool true),
  isV (.bool true),
  isV (.int .i64 0),
  isV (.int .i64 0),
  isV (.bool true),
  isV (.bool true),
  isV (.bool true),
  isV (.int .i64 0),
  isV (.int .i64 0),
  isV (.bool true),
  isV (.bool true),
  isV (.bool true),
  isV (.agg (accC J (some ⟨y17, 0, none⟩) J.h.length J.h.length)),
  isV (.agg (accC J (some ⟨y19, 0, none⟩) J.h.length J.h.length)),
  isV (.bool true),
  isV (.bool true),
  isV (.bool true),
  isV (.agg (accC J (some ⟨y17, 0, none⟩) J.h.length J.h.length)),
  isV (.agg (accC J (some ⟨y25, 0, none⟩) J.h.length J.h.length)),
  isV (.bool true),
  isV (.bool true),
  isV (.bool true),
  isV (.pointer (some ⟨g17, 0, none⟩)),
  isV (.int .i64 J.n),
  isV (.int .i64 K),
  isV (.bool true),
  isV (.bool true),
  isV (.bool true)]
theorem rowsEndF_mono (J : Ac) (K : Int) (g17 g19 g25 y17 y19 y25 : Nat) : ∀ f ∈ rowsEndF J K g17 g19 g25 y17 y19 y25, Mono f := by
  unfold rowsEndF
  repeat (first | exact monos_nil | (refine monos_cons (mono_isV _) ?_))
structure rowsEndS (J : Ac) (K : Int) (g17 g19 g25 y17 y19 y25 : Nat) (a0 : Act) (w0 : World) : Prop where
  size : a0.tmps.size = 171
  V17 : V w0 g17 y17 J
  V19 : V w0 g19 y19 J
  V25 : V w0 g25 y25 J
  nJ : J.n = K
  lJ : J.h.length ≤ maxLen
  v11 : a0.tmps.getD 11 undef = .int .i64 K
  v17 : a0.tmps.getD 17 undef = .pointer (some ⟨g17, 0, none⟩)
  v18 : a0.tmps.getD 18 undef = .int .i64 0
  v19 : a0.tmps.getD 19 undef = .pointer (some ⟨g19, 0, none⟩)
  v20 : a0.tmps.getD 20 undef = .int .i64 0
  v22 : a0.tmps.getD 22 undef = .int .i64 0
  v24 : a0.tmps.getD 24 undef = .int .i64 0
  v25 : a0.tmps.getD 25 undef = .pointer (some ⟨g25, 0, none⟩)
  v26 : a0.tmps.getD 26 undef = .int .i64 0
section
variable {J : Ac} {K : Int} {g17 g19 g25 y17 y19 y25 : Nat} {a0 : Act} {w0 : World} (S : rowsEndS J K g17 g19 g25 y17 y19 y25 a0 w0)
include S
set_option maxRecDepth 100000 in
set_option maxHeartbeats 8000000 in
theorem rowsEndF_ok : AllOps (fun j o => ∀ (a : Act) (w : World), Below w0.heap.size w0 w → FrD rowsEndD a0 a → needs rowsEndD (rowsEndF J K g17 g19 g25 y17 y19 y25) a w o.after.toList → StepD Try.prog rowsEndD (factAt (rowsEndF J K g17 g19 g25 y17 y19 y25) j) o a w) 0 (opsOf 25 Try.f4) := by
  simp only [opsOf, Try.f4, opsAt, Option.bind, Option.or, Option.getD, reduceCtorEq, if_true, if_false, Nat.reduceEqDiff]
  refine ⟨?_, ?_⟩
  · intro a w hB hF hd
    exact step_move (guard_none rfl) rfl _ rfl ((hF.other 18 rfl).trans S.v18)
  refine ⟨?_, ?_⟩
  · intro a w hB hF hd
    have h0 : a.tmps.getD 132 undef = .int .i64 0 := hd.1 rfl
    refine step_call (guard_none rfl) rfl _ _ (call_run Try.func22 (by kernel_rfl) (by kernel_rfl) _ _ rfl) ?_
    simp only [List.map_toArray, List.map_cons, List.map_nil, Act.eval, h0]
    exact (num_any _ _).mono (by rintro e w1 ⟨rfl, rfl⟩; exact ⟨_, rfl, Below.refl _ _, rfl⟩)
  refine ⟨?_, ?_⟩
  · intro a w hB hF hd
    have h1 : a.tmps.getD 133 undef = .int .i64 0 := hd.1 rfl
    exact step_eql (guard_none rfl) rfl _ _ rfl _ h1 rfl rfl
  refine ⟨?_, ?_⟩
  · intro a w hB hF hd
    have h2 : a.tmps.getD 134 undef = .bool true := hd.1 rfl
    exact step_move (guard_none rfl) rfl _ rfl h2
  refine ⟨?_, ?_⟩
  · intro a w hB hF hd
    have h3 : a.tmps.getD 135 undef = .bool true := hd.1 rfl
    exact step_move (guard_true rfl rfl h3) rfl _ rfl ((hF.other 20 rfl).trans S.v20)
  refine ⟨?_, ?_⟩
  · intro a w hB hF hd
    have h4 : a.tmps.getD 136 undef = .int .i64 0 := hd.1 rfl
    have h3 : a.tmps.getD 135 undef = .bool true := hd.2.1 rfl
    refine step_call (guard_true rfl rfl h3) rfl _ _ (call_run Try.func22 (by kernel_rfl) (by kernel_rfl) _ _ rfl) ?_
    simp only [List.map_toArray, List.map_cons, List.map_nil, Act.eval, h4]
    exact (num_any _ _).mono (by rintro e w1 ⟨rfl, rfl⟩; exact ⟨_, rfl, Below.refl _ _, rfl⟩)
  refine ⟨?_, ?_⟩
  · intro a w hB hF hd
    have h5 : a.tmps.getD 137 undef = .int .i64 0 := hd.1 rfl
    have h3 : a.tmps.getD 135 undef = .bool true := hd.2.1 rfl
    exact step_eql (guard_true rfl rfl h3) rfl _ _ rfl _ h5 rfl rfl
  refine ⟨?_, ?_⟩
  · intro a w hB hF hd
    have h3 : a.tmps.getD 135 undef = .bool true := hd.1 rfl
    have h6 : a.tmps.getD 138 undef = .bool true := hd.2.1 rfl
    exact step_pick (guard_none rfl) rfl _ _ _ rfl h3 h6
  refine ⟨?_, ?_⟩
  · intro a w hB hF hd
    have h7 : a.tmps.getD 139 undef = .bool true := hd.1 rfl
    exact step_move (guard_none rfl) rfl _ rfl h7
  refine ⟨?_, ?_⟩
  · intro a w hB hF hd
    have h8 : a.tmps.getD 140 undef = .bool true := hd.1 rfl
    exact step_move (guard_true rfl rfl h8) rfl _ rfl ((hF.other 22 rfl).trans S.v22)
  refine ⟨?_, ?_⟩
  · intro a w hB hF hd
    have h9 : a.tmps.getD 141 undef = .int .i64 0 := hd.1 rfl
    have h8 : a.tmps.getD 140 undef = .bool true := hd.2.1 rfl
    refine step_call (guard_true rfl rfl h8) rfl _ _ (call_run Try.func22 (by kernel_rfl) (by kernel_rfl) _ _ rfl) ?_
    simp only [List.map_toArray, List.map_cons, List.map_nil, Act.eval, h9]
    exact (num_any _ _).mono (by rintro e w1 ⟨rfl, rfl⟩; exact ⟨_, rfl, Below.refl _ _, rfl⟩)
  refine ⟨?_, ?_⟩
  · intro a w hB hF hd
    have h10 : a.tmps.getD 142 undef = .int .i64 0 := hd.1 rfl
    have h8 : a.tmps.getD 140 undef = .bool true := hd.2.1 rfl
    exact step_eql (guard_true rfl rfl h8) rfl _ _ rfl _ h10 rfl rfl
  refine ⟨?_, ?_⟩
  · intro a w hB hF hd
    have h8 : a.tmps.getD 140 undef = .bool true := hd.1 rfl
    have h11 : a.tmps.getD 143 undef = .bool true := hd.2.1 rfl
    exact step_pick (guard_none rfl) rfl _ _ _ rfl h8 h11
  refine ⟨?_, ?_⟩
  · intro a w hB hF hd
    have h12 : a.tmps.getD 144 undef = .bool true := hd.1 rfl
    exact step_move (guard_none rfl) rfl _ rfl h12
  refine ⟨?_, ?_⟩
  · intro a w hB hF hd
    have h13 : a.tmps.getD 145 undef = .bool true := hd.1 rfl
    exact step_move (guard_true rfl rfl h13) rfl _ rfl ((hF.other 24 rfl).trans S.v24)
  refine ⟨?_, ?_⟩
  · intro a w hB hF hd
    have h14 : a.tmps.getD 146 undef = .int .i64 0 := hd.1 rfl
    have h13 : a.tmps.getD 145 undef = .bool true := hd.2.1 rfl
    refine step_call (guard_true rfl rfl h13) rfl _ _ (call_run Try.func22 (by kernel_rfl) (by kernel_rfl) _ _ rfl) ?_
    simp only [List.map_toArray, List.map_cons, List.map_nil, Act.eval, h14]
    exact (num_any _ _).mono (by rintro e w1 ⟨rfl, rfl⟩; exact ⟨_, rfl, Below.refl _ _, rfl⟩)
  refine ⟨?_, ?_⟩
  · intro a w hB hF hd
    have h15 : a.tmps.getD 147 undef = .int .i64 0 := hd.1 rfl
    have h13 : a.tmps.getD 145 undef = .bool true := hd.2.1 rfl
    exact step_eql (guard_true rfl rfl h13) rfl _ _ rfl _ h15 rfl rfl
  refine ⟨?_, ?_⟩
  · intro a w hB hF hd
    have h13 : a.tmps.getD 145 undef = .bool true := hd.1 rfl
    have h16 : a.tmps.getD 148 undef = .bool true := hd.2.1 rfl
    exact step_pick (guard_none rfl) rfl _ _ _ rfl h13 h16
  refine ⟨?_, ?_⟩
  · intro a w hB hF hd
    have h17 : a.tmps.getD 149 undef = .bool true := hd.1 rfl
    exact step_move (guard_none rfl) rfl _ rfl h17
  refine ⟨?_, ?_⟩
  · intro a w hB hF hd
    have h18 : a.tmps.getD 150 undef = .bool true := hd.1 rfl
    exact step_move (guard_true rfl rfl h18) rfl _ rfl ((hF.other 26 rfl).trans S.v26)
  refine ⟨?_, ?_⟩
  · intro a w hB hF hd
    have h19 : a.tmps.getD 151 undef = .int .i64 0 := hd.1 rfl
    have h18 : a.tmps.getD 150 undef = .bool true := hd.2.1 rfl
    refine step_call (guard_true rfl rfl h18) rfl _ _ (call_run Try.func22 (by kernel_rfl) (by kernel_rfl) _ _ rfl) ?_
    simp only [List.map_toArray, List.map_cons, List.map_nil, Act.eval, h19]
    exact (num_any _ _).mono (by rintro e w1 ⟨rfl, rfl⟩; exact ⟨_, rfl, Below.refl _ _, rfl⟩)
  refine ⟨?_, ?_⟩
  · intro a w hB hF hd
    have h20 : a.tmps.getD 152 undef = .int .i64 0 := hd.1 rfl
    have h18 : a.tmps.getD 150 undef = .bool true := hd.2.1 rfl
    exact step_eql (guard_true rfl rfl h18) rfl _ _ rfl _ h20 rfl rfl
  refine ⟨?_, ?_⟩
  · intro a w hB hF hd
    have h18 : a.tmps.getD 150 undef = .bool true := hd.1 rfl
    have h21 : a.tmps.getD 153 undef = .bool true := hd.2.1 rfl
    exact step_pick (guard_none rfl) rfl _ _ _ rfl h18 h21
  refine ⟨?_, ?_⟩
  · intro a w hB hF hd
    have h22 : a.tmps.getD 154 undef = .bool true := hd.1 rfl
    exact step_move (guard_none rfl) rfl _ rfl h22
  refine ⟨?_, ?_⟩
  · intro a w hB hF hd
    have h23 : a.tmps.getD 155 undef = .bool true := hd.1 rfl
    exact step_load (guard_true rfl rfl h23) rfl _ rfl _ ((hF.other 17 rfl).trans S.v17) (has_below S.V17.cells hB) rfl
  refine ⟨?_, ?_⟩
  · intro a w hB hF hd
    have h23 : a.tmps.getD 155 undef = .bool true := hd.1 rfl
    exact step_load (guard_true rfl rfl h23) rfl _ rfl _ ((hF.other 19 rfl).trans S.v19) (has_below S.V19.cells hB) rfl
  refine ⟨?_, ?_⟩
  · intro a w hB hF hd
    have h24 : a.tmps.getD 156 undef = .agg (accC J (some ⟨y17, 0, none⟩) J.h.length J.h.length) := hd.1 rfl
    have h25 : a.tmps.getD 157 undef = .agg (accC J (some ⟨y19, 0, none⟩) J.h.length J.h.length) := hd.2.1 rfl
    have h23 : a.tmps.getD 155 undef = .bool true := hd.2.2.1 rfl
    refine step_call (guard_true rfl rfl h23) rfl _ _ (call_run Try.func21 (by kernel_rfl) (by kernel_rfl) _ _ rfl) ?_
    simp only [List.map_toArray, List.map_cons, List.map_nil, Act.eval, h24, h25]
    exact (sameAcc_true J _ _ _ _ _ _ (ints_of_has (has_below S.V17.hist hB) rfl) (ints_of_has (has_below S.V19.hist hB) rfl) S.lJ).mono (by rintro e w1 ⟨rfl, hb⟩; exact ⟨_, rfl, hb, rfl⟩)
  refine ⟨?_, ?_⟩
  · intro a w hB hF hd
    have h23 : a.tmps.getD 155 undef = .bool true := hd.1 rfl
    have h26 : a.tmps.getD 158 undef = .bool true := hd.2.1 rfl
    exact step_pick (guard_none rfl) rfl _ _ _ rfl h23 h26
  refine ⟨?_, ?_⟩
  · intro a w hB hF hd
    have h27 : a.tmps.getD 159 undef = .bool true := hd.1 rfl
    exact step_move (guard_none rfl) rfl _ rfl h27
  refine ⟨?_, ?_⟩
  · intro a w hB hF hd
    have h28 : a.tmps.getD 160 undef = .bool true := hd.1 rfl
    exact step_load (guard_true rfl rfl h28) rfl _ rfl _ ((hF.other 17 rfl).trans S.v17) (has_below S.V17.cells hB) rfl
  refine ⟨?_, ?_⟩
  · intro a w hB hF hd
    have h28 : a.tmps.getD 160 undef = .bool true := hd.1 rfl
    exact step_load (guard_true rfl rfl h28) rfl _ rfl _ ((hF.other 25 rfl).trans S.v25) (has_below S.V25.cells hB) rfl
  refine ⟨?_, ?_⟩
  · intro a w hB hF hd
    have h29 : a.tmps.getD 161 undef = .agg (accC J (some ⟨y17, 0, none⟩) J.h.length J.h.length) := hd.1 rfl
    have h30 : a.tmps.getD 162 undef = .agg (accC J (some ⟨y25, 0, none⟩) J.h.length J.h.length) := hd.2.1 rfl
    have h28 : a.tmps.getD 160 undef = .bool true := hd.2.2.1 rfl
    refine step_call (guard_true rfl rfl h28) rfl _ _ (call_run Try.func21 (by kernel_rfl) (by kernel_rfl) _ _ rfl) ?_
    simp only [List.map_toArray, List.map_cons, List.map_nil, Act.eval, h29, h30]
    exact (sameAcc_true J _ _ _ _ _ _ (ints_of_has (has_below S.V17.hist hB) rfl) (ints_of_has (has_below S.V25.hist hB) rfl) S.lJ).mono (by rintro e w1 ⟨rfl, hb⟩; exact ⟨_, rfl, hb, rfl⟩)
  refine ⟨?_, ?_⟩
  · intro a w hB hF hd
    have h28 : a.tmps.getD 160 undef = .bool true := hd.1 rfl
    have h31 : a.tmps.getD 163 undef = .bool true := hd.2.1 rfl
    exact step_pick (guard_none rfl) rfl _ _ _ rfl h28 h31
  refine ⟨?_, ?_⟩
  · intro a w hB hF hd
    have h32 : a.tmps.getD 164 undef = .bool true := hd.1 rfl
    exact step_move (guard_none rfl) rfl _ rfl h32
  refine ⟨?_, ?_⟩
  · intro a w hB hF hd
    have h33 : a.tmps.getD 165 undef = .bool true := hd.1 rfl
    exact step_faddr (guard_true rfl rfl h33) rfl _ _ _ rfl _ 0 0 ((hF.other 17 rfl).trans S.v17) (fun _ => by kernel_rfl) rfl
  refine ⟨?_, ?_⟩
  · intro a w hB hF hd
    have h34 : a.tmps.getD 166 undef = .pointer (some ⟨g17, 0, none⟩) := hd.1 rfl
    have h33 : a.tmps.getD 165 undef = .bool true := hd.2.1 rfl
    exact step_loadi (guard_true rfl rfl h33) rfl _ rfl _ 0 h34 _ ((Has.cell (has_below S.V17.cells hB) 0).trans rfl) rfl
  refine ⟨?_, ?_⟩
  · intro a w hB hF hd
    have h33 : a.tmps.getD 165 undef = .bool true := hd.1 rfl
    exact step_move (guard_true rfl rfl h33) rfl _ rfl ((hF.other 11 rfl).trans S.v11)
  refine ⟨?_, ?_⟩
  · intro a w hB hF hd
    have h35 : a.tmps.getD 167 undef = .int .i64 J.n := hd.1 rfl
    have h36 : a.tmps.getD 168 undef = .int .i64 K := hd.2.1 rfl
    have h33 : a.tmps.getD 165 undef = .bool true := hd.2.2.1 rfl
    exact step_eql (guard_true rfl rfl h33) rfl _ _ rfl _ h35 (h36.trans (by rw [S.nJ])) rfl
  refine ⟨?_, ?_⟩
  · intro a w hB hF hd
    have h33 : a.tmps.getD 165 undef = .bool true := hd.1 rfl
    have h37 : a.tmps.getD 169 undef = .bool true := hd.2.1 rfl
    exact step_pick (guard_none rfl) rfl _ _ _ rfl h33 h37
  refine ⟨?_, ?_⟩
  · intro a w hB hF hd
    have h38 : a.tmps.getD 170 undef = .bool true := hd.1 rfl
    exact step_assign (guard_none rfl) rfl _ rfl h38
  trivial
theorem rowsEnd_any {Q : Exit → Act → World → Prop} (hend : ∀ (a : Act) (w : World), Below w0.heap.size w0 w → a.defers = a0.defers → a.tmps.getD 6 undef = .bool true → Q .normal a w) :
    (Code.region 25 (opsOf 25 Try.f4).toArray false).wp Try.prog Q a0 w0 :=
  region_facts (rowsEndF J K g17 g19 g25 y17 y19 y25) rowsEndD 171 S.size rfl (by kernel_rfl) (by kernel_rfl) (rowsEndF_mono _ _ _ _ _ _ _ _) (rowsEndF_ok S) fun a w hB hF h => hend a w hB hF.defers (h 39 (some 6) rfl)
end

end Go.Proofs.Ytdpjmkpgphgleaa
