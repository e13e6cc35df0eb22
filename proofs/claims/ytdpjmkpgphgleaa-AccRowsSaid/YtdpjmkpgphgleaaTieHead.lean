/-
  Walk: AccTies: the first and the last argument joined, but for the statement's tail.
-/
import Derived.Test.YtdpjmkpgphgleaaTieP
import Derived.Test.YtdpjmkpgphgleaaHead3
import Derived.Test.YtdpjmkpgphgleaaStep2
namespace Go.Proofs.Ytdpjmkpgphgleaa
open Go.RowKit

section
variable {D : List (Option Tmp)} {Φ : Fact} {o : Oper} {a : Act} {w : World}
theorem step_iaddrA (hw : Region.wanted o (yieldD D a.tmps) = true) {t : Tmp} (hd : o.dst = some t) (x y : Operand) (ho : o.op = .indexAddr 24 x y) (b f n c k : Nat) (hx : a.eval x = .slice (some ⟨b, f, none⟩) n c) (hy : a.eval y = .int .i64 (k : Int)) (hk : k < n)
    (h : Φ (.pointer (some ⟨b, f + k * 13, none⟩)) w) : StepD Try.prog D Φ o a w := by
  refine step_val hw hd _ _ ?_ (Below.refl _ _) h
  have hk2 : (k : Int) < (n : Int) := by omega
  unfold execOp
  rw [ho]
  simp only [hx, hy]
  simp [go_sem, hk2]
theorem step_loadA (hw : Region.wanted o (yieldD D a.tmps) = true) {t : Tmp} (hd : o.dst = some t) (x : Operand) (ho : o.op = .load 29 x) (g k : Nat) (hx : a.eval x = .pointer (some ⟨g, k, none⟩)) {X : Ac} {A : Option Addr} {n c : Nat}
    (hc : AccAt w g k X A n c) (h : Φ (.agg (accC X A n c)) w) : StepD Try.prog D Φ o a w := by
  intro Q
  rw [if_pos hw]
  exact wp_load_mid 29 x ho g k hx (accC X A n c).toList _ hc.1 Try.underlying29 rfl (by exact Try.sizeAcc) ⟨_, rfl, (fun hn => by rw [hd] at hn; cases hn), Below.refl _ _, by simpa using h⟩
theorem step_sub (hw : Region.wanted o (yieldD D a.tmps) = true) {t : Tmp} (hd : o.dst = some t) (x y : Operand) (ho : o.op = .binOp .sub 3 x y 3) (m n : Int) (hx : a.eval x = .int .i64 m) (hy : a.eval y = .int .i64 n) (hb : -9223372036854775808 ≤ m - n ∧ m - n ≤ 9223372036854775807)
    (h : Φ (.int .i64 (m - n)) w) : StepD Try.prog D Φ o a w := by
  refine step_val hw hd _ _ ?_ (Below.refl _ _) h
  have e : IntKind.i64.wrap (m - n) = m - n := IntWalk.i64_in _ hb
  unfold execOp
  rw [ho]
  simp only [hx, hy]
  simp [go_sem, e]
theorem step_lit2 (hw : Region.wanted o (yieldD D a.tmps) = true) {t : Tmp} (hd : o.dst = some t) (x y : Operand) (ho : o.op = .buildSlice 24 2 #[(0, x), (1, y)]) {X Y : Ac} {A B : Option Addr} {k c l d : Nat} (hx : a.eval x = .agg (accC X A k c)) (hy : a.eval y = .agg (accC Y B l d))
    (h : ∀ w', Below w.heap.size w w' → Has w' w.heap.size 29 (accC X A k c ++ accC Y B l d) → Φ (.slice (some ⟨w.heap.size, 0, none⟩) 2 2) w') : StepD Try.prog D Φ o a w := by
  refine step_val hw hd _ (w.alloc (.cells (accC X A k c ++ accC Y B l d) 29)) ?_ ((Below.refl _ _).alloc (Nat.le_refl _) _) (h _ ((Below.refl _ _).alloc (Nat.le_refl _) _) (Has.made _ _ _))
  unfold execOp
  rw [ho]
  simp only [List.map_toArray, List.map_cons, List.map_nil, hx, hy, Sem.run_bind, lit2_run, Result.andThen_ok]
  rfl
theorem step_extract {P : Program} (hw : Region.wanted o (yieldD D a.tmps) = true) {t : Tmp} (hd : o.dst = some t) (x : Operand) (i : Nat) (ho : o.op = .extract x i) (vs : Array Value) (v : Value) (hx : a.eval x = .tuple vs) (hv : vs[i]? = some v) (h : Φ v w) : StepD P D Φ o a w := by
  refine step_val hw hd _ _ ?_ (Below.refl _ _) h
  unfold execOp
  rw [ho]
  simp only [hx]
  simp [go_sem, hv]
theorem allocA_run (w : World) : (Instr.alloc 29 true (.tuple #[])).run Try.prog w = .ok (.pointer (some ⟨w.heap.size, 0, none⟩)) (w.alloc (.cells (accC zeroAc none 0 0) 29)) := by kernel_rfl
theorem step_allocA (hw : Region.wanted o (yieldD D a.tmps) = true) {t : Tmp} (hd : o.dst = some t) (ho : o.op = .alloc 29)
    (h : ∀ w', Below w.heap.size w w' → Has w' w.heap.size 29 (accC zeroAc none 0 0) → Φ (.pointer (some ⟨w.heap.size, 0, none⟩)) w') : StepD Try.prog D Φ o a w := by
  refine step_val hw hd _ (w.alloc (.cells (accC zeroAc none 0 0) 29)) ?_ ((Below.refl _ _).alloc (Nat.le_refl _) _) (h _ ((Below.refl _ _).alloc (Nat.le_refl _) _) (Has.made _ _ _))
  unfold execOp
  rw [ho]
  simp only [Sem.run_bind, allocA_run, Result.andThen_ok]
  rfl
end
def lit2F (X Y : Ac) (A B : Option Addr) (k c l d : Nat) : Fact := fun v w => ∃ g, v = .slice (some ⟨g, 0, none⟩) 2 2 ∧ Has w g 29 (accC X A k c ++ accC Y B l d)
def joinF (J : Ac) : Fact := fun v w => ∃ y, v = .tuple #[accV J (some ⟨y, 0, none⟩) J.h.length J.h.length, .int .i64 0] ∧ Has w y 3 (ints J.h)
def accF (J : Ac) : Fact := fun v w => ∃ y, v = accV J (some ⟨y, 0, none⟩) J.h.length J.h.length ∧ Has w y 3 (ints J.h)
def varF (N : Nat) : Fact := fun v w => ∃ g, v = .pointer (some ⟨g, 0, none⟩) ∧ N ≤ g ∧ Has w g 29 (accC zeroAc none 0 0)
theorem mono_lit2 (X Y : Ac) (A B : Option Addr) (k c l d : Nat) : Mono (lit2F X Y A B k c l d) := fun _ _ _ hb ⟨g, e, h⟩ => ⟨g, e, has_below h hb⟩
theorem mono_join (J : Ac) : Mono (joinF J) := fun _ _ _ hb ⟨g, e, h⟩ => ⟨g, e, has_below h hb⟩
theorem mono_acc (J : Ac) : Mono (accF J) := fun _ _ _ hb ⟨g, e, h⟩ => ⟨g, e, has_below h hb⟩
theorem mono_var (N : Nat) : Mono (varF N) := fun _ _ _ hb ⟨g, e, h1, h⟩ => ⟨g, e, h1, has_below h hb⟩

section
variable (b f p cc : Nat) (X Y J : Ac) (A B : Option Addr) (k c l d N : Nat)
def tie15F : List Fact := [isV (.slice (some ⟨b, f, none⟩) (p + 1) cc), isV (.pointer (some ⟨b, f + 0 * 13, none⟩)), isV (.agg (accC X A k c)), isV (.slice (some ⟨b, f, none⟩) (p + 1) cc), isV (.int .i64 ((p : Int) + 1)), isV (.int .i64 ((p : Int) + 1 - 1)), isV (.pointer (some ⟨b, f + p * 13, none⟩)), isV (.agg (accC Y B l d)), lit2F X Y A B k c l d, joinF J, joinF J, accF J, isV (.int .i64 0), varF N]
def tie15D : List (Option Tmp) := [some 55, some 56, some 57, some 58, some 59, some 60, some 61, some 62, some 63, some 64, some 54, some 65, some 66, some 10, none, some 11]
theorem tie15F_mono : ∀ x ∈ tie15F b f p cc X Y J A B k c l d N, Mono x := by
  unfold tie15F
  repeat (first | exact monos_nil | (refine monos_cons (mono_isV _) ?_) | (refine monos_cons (mono_lit2 _ _ _ _ _ _ _ _) ?_) | (refine monos_cons (mono_join _) ?_) | (refine monos_cons (mono_acc _) ?_) | (refine monos_cons (mono_var _) ?_))
structure Tie15 (a0 : Act) (w0 : World) : Prop where
  size : a0.tmps.size = 117
  v3 : a0.tmps.getD 3 undef = .slice (some ⟨b, f, none⟩) (p + 1) cc
  v4 : a0.tmps.getD 4 undef = .int .i64 ((p : Int) + 1)
  x : AccAt w0 b (f + 0 * 13) X A k c
  y : AccAt w0 b (f + p * 13) Y B l d
  p12 : p ≤ 12
  tog : togB 1 (-1) [X, Y] = true
  tot : totalA [X, Y] ≤ 8192
  j : joinAc [] [X, Y] = J
end
section
variable {b f p cc : Nat} {X Y J : Ac} {A B : Option Addr} {k c l d : Nat} {a0 : Act} {w0 : World} (S : Tie15 b f p cc X Y J A B k c l d a0 w0)
include S
set_option maxRecDepth 100000 in
set_option maxHeartbeats 4000000 in
theorem tie15_ok : AllOps (fun i o => ∀ (a : Act) (w : World), Below w0.heap.size w0 w → FrD (tie15D.take 14) a0 a → needs tie15D (tie15F b f p cc X Y J A B k c l d w0.heap.size) a w o.after.toList → StepD Try.prog tie15D (factAt (tie15F b f p cc X Y J A B k c l d w0.heap.size) i) o a w) 0 ((opsOf 15 Try.f9).take 14) := by
  simp only [opsOf, Try.f9, opsAt, Option.bind, Option.or, Option.getD, reduceCtorEq, if_true, if_false, Nat.reduceEqDiff, List.take_succ_cons, List.take_zero]
  have hp12 := S.p12
  refine ⟨?_, ?_⟩
  · intro a w hB hF hd
    exact step_move (guard_none rfl) rfl _ rfl ((hF.other 3 rfl).trans S.v3)
  refine ⟨?_, ?_⟩
  · intro a w hB hF hd
    have h0 : a.tmps.getD 55 undef = .slice (some ⟨b, f, none⟩) (p + 1) cc := hd.1 rfl
    exact step_iaddrA (guard_none rfl) rfl _ _ rfl b f (p + 1) cc 0 h0 rfl (by omega) rfl
  refine ⟨?_, ?_⟩
  · intro a w hB hF hd
    have h0 : a.tmps.getD 56 undef = .pointer (some ⟨b, f + 0 * 13, none⟩) := hd.1 rfl
    exact step_loadA (guard_none rfl) rfl _ rfl _ _ h0 (S.x.keep fun _ hp => hB.cell hp) rfl
  refine ⟨?_, ?_⟩
  · intro a w hB hF hd
    exact step_move (guard_none rfl) rfl _ rfl ((hF.other 3 rfl).trans S.v3)
  refine ⟨?_, ?_⟩
  · intro a w hB hF hd
    exact step_move (guard_none rfl) rfl _ rfl ((hF.other 4 rfl).trans S.v4)
  refine ⟨?_, ?_⟩
  · intro a w hB hF hd
    have h0 : a.tmps.getD 59 undef = .int .i64 ((p : Int) + 1) := hd.1 rfl
    exact step_sub (guard_none rfl) rfl _ _ rfl _ _ h0 rfl (by omega) rfl
  refine ⟨?_, ?_⟩
  · intro a w hB hF hd
    have h0 : a.tmps.getD 58 undef = .slice (some ⟨b, f, none⟩) (p + 1) cc := hd.1 rfl
    have h1 : a.tmps.getD 60 undef = .int .i64 ((p : Int) + 1 - 1) := hd.2.1 rfl
    rw [show (p : Int) + 1 - 1 = p by omega] at h1
    exact step_iaddrA (guard_none rfl) rfl _ _ rfl b f (p + 1) cc p h0 h1 (by omega) rfl
  refine ⟨?_, ?_⟩
  · intro a w hB hF hd
    have h0 : a.tmps.getD 61 undef = .pointer (some ⟨b, f + p * 13, none⟩) := hd.1 rfl
    exact step_loadA (guard_none rfl) rfl _ rfl _ _ h0 (S.y.keep fun _ hp => hB.cell hp) rfl
  refine ⟨?_, ?_⟩
  · intro a w hB hF hd
    have h0 : a.tmps.getD 57 undef = .agg (accC X A k c) := hd.1 rfl
    have h1 : a.tmps.getD 62 undef = .agg (accC Y B l d) := hd.2.1 rfl
    exact step_lit2 (guard_none rfl) rfl _ _ rfl h0 h1 (fun w' _ hw => ⟨_, rfl, hw⟩)
  refine ⟨?_, ?_⟩
  · intro a w hB hF hd
    obtain ⟨g, h0, hg⟩ : lit2F X Y A B k c l d (a.tmps.getD 63 undef) w := hd.1 rfl
    refine step_call (guard_none rfl) rfl _ _ (call_run Try.func19 (by kernel_rfl) (by kernel_rfl) _ _ rfl) ?_
    simp only [List.map_toArray, List.map_cons, List.map_nil, Act.eval, h0]
    have hAs := accs_two hg rfl (S.x.keep fun _ hp => hB.cell hp).2.1 (S.y.keep fun _ hp => hB.cell hp).2.1 S.x.2.2 S.y.2.2
    refine (join_ok none 0 0 [] _ 2 2 [X, Y] w Ints.nil hAs (by omega) (by decide) S.tog S.tot).mono ?_
    rw [S.j]
    rintro e w1 ⟨y, _, rfl, hh, hb⟩
    exact ⟨_, rfl, hb, y, rfl, hh⟩
  refine ⟨?_, ?_⟩
  · intro a w hB hF hd
    obtain ⟨y, h0, hy⟩ : joinF J (a.tmps.getD 64 undef) w := hd.1 rfl
    exact step_move (guard_none rfl) rfl _ rfl ⟨y, h0, hy⟩
  refine ⟨?_, ?_⟩
  · intro a w hB hF hd
    obtain ⟨y, h0, hy⟩ : joinF J (a.tmps.getD 54 undef) w := hd.1 rfl
    exact step_extract (guard_none rfl) rfl _ 0 rfl _ _ h0 rfl ⟨y, rfl, hy⟩
  refine ⟨?_, ?_⟩
  · intro a w hB hF hd
    obtain ⟨y, h0, hy⟩ : joinF J (a.tmps.getD 54 undef) w := hd.1 rfl
    exact step_extract (guard_none rfl) rfl _ 1 rfl _ _ h0 rfl rfl
  refine ⟨?_, ?_⟩
  · intro a w hB hF hd
    exact step_allocA (guard_none rfl) rfl rfl (fun w' _ hw => ⟨_, rfl, hB.size, hw⟩)
  trivial
theorem tie15_any {Q : Exit → Act → World → Prop} {L : List Oper} (hl : opsOf 15 Try.f9 = L)
    (hend : ∀ (g y1 y2 y3 g10 : Nat) (w : World), Below w0.heap.size w0 w → Has w y3 3 (ints J.h) → w0.heap.size ≤ g10 → Has w g10 29 (accC zeroAc none 0 0) →
      wpList Try.prog L.toArray Q (L.drop 14) (putAll a0 [(55, .slice (some ⟨b, f, none⟩) (p + 1) cc), (56, .pointer (some ⟨b, f + 0 * 13, none⟩)), (57, .agg (accC X A k c)), (58, .slice (some ⟨b, f, none⟩) (p + 1) cc), (59, .int .i64 ((p : Int) + 1)), (60, .int .i64 ((p : Int) + 1 - 1)), (61, .pointer (some ⟨b, f + p * 13, none⟩)), (62, .agg (accC Y B l d)), (63, .slice (some ⟨g, 0, none⟩) 2 2), (64, .tuple #[accV J (some ⟨y1, 0, none⟩) J.h.length J.h.length, .int .i64 0]), (54, .tuple #[accV J (some ⟨y2, 0, none⟩) J.h.length J.h.length, .int .i64 0]), (65, accV J (some ⟨y3, 0, none⟩) J.h.length J.h.length), (66, .int .i64 0), (10, .pointer (some ⟨g10, 0, none⟩))]) w)
    (hendQ : ∀ (g y1 y2 y3 g10 : Nat) (w : World), Below w0.heap.size w0 w → Has w y3 3 (ints J.h) → w0.heap.size ≤ g10 → Has w g10 29 (accC zeroAc none 0 0) →
      wpList Try.prog L.toArray Q (pickL L [14, 12, 15]) (putAll a0 [(55, .slice (some ⟨b, f, none⟩) (p + 1) cc), (56, .pointer (some ⟨b, f + 0 * 13, none⟩)), (57, .agg (accC X A k c)), (58, .slice (some ⟨b, f, none⟩) (p + 1) cc), (59, .int .i64 ((p : Int) + 1)), (60, .int .i64 ((p : Int) + 1 - 1)), (61, .pointer (some ⟨b, f + p * 13, none⟩)), (62, .agg (accC Y B l d)), (63, .slice (some ⟨g, 0, none⟩) 2 2), (64, .tuple #[accV J (some ⟨y1, 0, none⟩) J.h.length J.h.length, .int .i64 0]), (54, .tuple #[accV J (some ⟨y2, 0, none⟩) J.h.length J.h.length, .int .i64 0]), (65, accV J (some ⟨y3, 0, none⟩) J.h.length J.h.length), (66, a0.tmps.getD 66 undef), (10, .pointer (some ⟨g10, 0, none⟩))]) w) :
    (Code.region 15 L.toArray true).wp Try.prog Q a0 w0 := by
  subst hl
  refine region_head3 (tie15F b f p cc X Y J A B k c l d w0.heap.size) tie15D 14 117 12 [12, 15] S.size rfl (by kernel_rfl) (by kernel_rfl) (by kernel_rfl) (tie15F_mono _ _ _ _ _ _ _ _ _ _ _ _ _ _) (tie15_ok S) ?_ ?_
  · intro a w hB hF h
    obtain ⟨g, h63, _⟩ := h 8 (some 63) (by omega) rfl
    obtain ⟨y1, h64, _⟩ := h 9 (some 64) (by omega) rfl
    obtain ⟨y2, h54, _⟩ := h 10 (some 54) (by omega) rfl
    obtain ⟨y3, h65, hy⟩ := h 11 (some 65) (by omega) rfl
    obtain ⟨g10, h10, hN, hg⟩ := h 13 (some 10) (by omega) rfl
    rw [frame_is hF [(55, .slice (some ⟨b, f, none⟩) (p + 1) cc), (56, .pointer (some ⟨b, f + 0 * 13, none⟩)), (57, .agg (accC X A k c)), (58, .slice (some ⟨b, f, none⟩) (p + 1) cc), (59, .int .i64 ((p : Int) + 1)), (60, .int .i64 ((p : Int) + 1 - 1)), (61, .pointer (some ⟨b, f + p * 13, none⟩)), (62, .agg (accC Y B l d)), (63, .slice (some ⟨g, 0, none⟩) 2 2), (64, .tuple #[accV J (some ⟨y1, 0, none⟩) J.h.length J.h.length, .int .i64 0]), (54, .tuple #[accV J (some ⟨y2, 0, none⟩) J.h.length J.h.length, .int .i64 0]), (65, accV J (some ⟨y3, 0, none⟩) J.h.length J.h.length), (66, .int .i64 0), (10, .pointer (some ⟨g10, 0, none⟩))]
      ⟨h 0 (some 55) (by omega) rfl, h 1 (some 56) (by omega) rfl, h 2 (some 57) (by omega) rfl, h 3 (some 58) (by omega) rfl, h 4 (some 59) (by omega) rfl, h 5 (some 60) (by omega) rfl, h 6 (some 61) (by omega) rfl, h 7 (some 62) (by omega) rfl, h63, h64, h54, h65, h 12 (some 66) (by omega) rfl, h10, trivial⟩ (by rfl) (by rfl)]
    exact hend g y1 y2 y3 g10 w hB hy hN hg
  · intro a w hB hF h hq
    obtain ⟨g, h63, _⟩ := h 8 (some 63) (by omega) (by omega) rfl
    obtain ⟨y1, h64, _⟩ := h 9 (some 64) (by omega) (by omega) rfl
    obtain ⟨y2, h54, _⟩ := h 10 (some 54) (by omega) (by omega) rfl
    obtain ⟨y3, h65, hy⟩ := h 11 (some 65) (by omega) (by omega) rfl
    obtain ⟨g10, h10, hN, hg⟩ := h 13 (some 10) (by omega) (by omega) rfl
    rw [frame_is hF [(55, .slice (some ⟨b, f, none⟩) (p + 1) cc), (56, .pointer (some ⟨b, f + 0 * 13, none⟩)), (57, .agg (accC X A k c)), (58, .slice (some ⟨b, f, none⟩) (p + 1) cc), (59, .int .i64 ((p : Int) + 1)), (60, .int .i64 ((p : Int) + 1 - 1)), (61, .pointer (some ⟨b, f + p * 13, none⟩)), (62, .agg (accC Y B l d)), (63, .slice (some ⟨g, 0, none⟩) 2 2), (64, .tuple #[accV J (some ⟨y1, 0, none⟩) J.h.length J.h.length, .int .i64 0]), (54, .tuple #[accV J (some ⟨y2, 0, none⟩) J.h.length J.h.length, .int .i64 0]), (65, accV J (some ⟨y3, 0, none⟩) J.h.length J.h.length), (66, a0.tmps.getD 66 undef), (10, .pointer (some ⟨g10, 0, none⟩))]
      ⟨h 0 (some 55) (by omega) (by omega) rfl, h 1 (some 56) (by omega) (by omega) rfl, h 2 (some 57) (by omega) (by omega) rfl, h 3 (some 58) (by omega) (by omega) rfl, h 4 (some 59) (by omega) (by omega) rfl, h 5 (some 60) (by omega) (by omega) rfl, h 6 (some 61) (by omega) (by omega) rfl, h 7 (some 62) (by omega) (by omega) rfl, h63, h64, h54, h65, hq (some 66) rfl, h10, trivial⟩ (by rfl) (by rfl)]
    exact hendQ g y1 y2 y3 g10 w hB hy hN hg
end

end Go.Proofs.Ytdpjmkpgphgleaa
