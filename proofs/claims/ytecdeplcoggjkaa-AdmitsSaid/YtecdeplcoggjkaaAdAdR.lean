/-
  Admits' drawn region: its facts, one by one (written by gen/adad.py).
-/
import Derived.Test.YtecdeplcoggjkaaRfOne
import Derived.Test.YtecdeplcoggjkaaAdSame
import Derived.Test.YtecdeplcoggjkaaAdAwake
import Derived.Test.YtecdeplcoggjkaaAdRVer
namespace Go.Proofs.Ytecdeplcoggjkaa
open Go.RowKit

section
variable {D : List (Option Tmp)} {Φ : Fact} {o : Oper} {a : Act} {w : World}
theorem rf_eqlC (hw : Region.wanted o (yieldD D a.tmps) = true) {t : Tmp} (hd : o.dst = some t) (x y : Operand) (ho : o.op = .binOp .eql 4 x y 4) (p : Bool) (hx : a.eval x = .bool p) (hy : a.eval y = .bool p) (h : Φ (.bool true) w) : StepD Try.prog D Φ o a w :=
  step_val hw hd _ w (by unfold execOp; rw [ho]; generalize a.eval = ev at hx hy ⊢; simp [hx, hy, go_sem]) (Below.refl _ _) h
end
def aadD : List (Option Tmp) := [some 40, some 41, some 42, some 43, some 44, some 45, some 46, some 47, some 48, some 49, some 50, some 51, some 52, some 53, some 54, some 55, some 56, some 57, some 58, some 59, some 60, some 61, some 62, some 63, some 12]
def aadF (A B : Option Addr) (n c d _gx _gc : Nat) (_qs : List Qu) (la ro se so v x : Int) (M : Bool) : List Fact := [isV (.int .i64 v), isV (.int .i64 v), isV (.bool true), isV (.bool true), isV (.int .i64 x), isV (.int .i64 x), isV (.int .i64 x), isV (.bool true), isV (.bool true), isV (.bool true), isV (.agg #[.slice B n d, .int .i64 la, .int .i64 ro, .int .i64 se, .int .i64 so]), isV (.bool M), isV (.agg #[.slice A n c, .int .i64 la, .int .i64 ro, .int .i64 se, .int .i64 so]), isV (.bool M), isV (.bool true), isV (.bool true), isV (.bool true), isV (.agg #[.slice B n d, .int .i64 la, .int .i64 ro, .int .i64 se, .int .i64 so]), isV (.agg #[.slice A n c, .int .i64 la, .int .i64 ro, .int .i64 se, .int .i64 so]), isV (.bool true), isV (.bool true), isV (.bool true), isV (.bool true), isV (.bool true), isV (.bool true)]
theorem aadF_mono (A B : Option Addr) (n c d gx gc : Nat) (qs : List Qu) (la ro se so v x : Int) (M : Bool) : ∀ φ ∈ aadF A B n c d gx gc qs la ro se so v x M, Mono φ := by
  unfold aadF
  repeat (first | exact monos_nil | (refine monos_cons (mono_isV _) ?_))
structure aadS (A B : Option Addr) (n c d gx gc : Nat) (qs : List Qu) (la ro se so v x : Int) (M : Bool) (a0 : Act) (w0 : World) : Prop where
  size : a0.tmps.size = 64
  v6 : a0.tmps.getD 6 undef = .pointer (some ⟨gc, 0, none⟩)
  v13 : a0.tmps.getD 13 undef = .pointer (some ⟨gx, 0, none⟩)
  v14 : a0.tmps.getD 14 undef = .int .i64 v
  v15 : a0.tmps.getD 15 undef = .int .i64 x
  v16 : a0.tmps.getD 16 undef = .int .i64 v
  v17 : a0.tmps.getD 17 undef = .int .i64 x
  r1 : Has w0 gx 24 (cfC B n d la ro se so)
  r2 : Has w0 gc 24 (cfC A n c la ro se so)
  q1 : Qus w0 B n qs
  q2 : Qus w0 A n qs
  hn : n ≤ 2199023255552
  hm : cfB qs la ro se so = M
section
variable {A B : Option Addr} {n c d gx gc : Nat} {qs : List Qu} {la ro se so v x : Int} {M : Bool} {a0 : Act} {w0 : World} (S : aadS A B n c d gx gc qs la ro se so v x M a0 w0)
include S
set_option maxRecDepth 100000 in
set_option maxHeartbeats 8000000 in
theorem aad_ok : AllOps (fun j o => ∀ (a : Act) (w : World), Below w0.heap.size w0 w → FrD aadD a0 a → needs aadD (aadF A B n c d gx gc qs la ro se so v x M) a w o.after.toList → StepD Try.prog aadD (factAt (aadF A B n c d gx gc qs la ro se so v x M) j) o a w) 0 (opsOf 4 Try.f3) := by
  simp only [opsOf, Try.f3, opsAt, Option.bind, Option.or, Option.getD, reduceCtorEq, if_true, if_false, Nat.reduceEqDiff]
  refine ⟨?_, ?_⟩
  · intro _a _w _hB hF _hd
    exact step_move (guard_none rfl) rfl _ rfl ((hF.other 14 rfl).trans S.v14)
  refine ⟨?_, ?_⟩
  · intro _a _w _hB hF _hd
    exact step_move (guard_none rfl) rfl _ rfl ((hF.other 16 rfl).trans S.v16)
  refine ⟨?_, ?_⟩
  · intro a _w _hB _hF hd
    have h40 : a.tmps.getD 40 undef = .int .i64 v := hd.1 rfl
    have h41 : a.tmps.getD 41 undef = .int .i64 v := hd.2.1 rfl
    exact rf_eql (guard_none rfl) rfl _ _ rfl _ _ h40 h41 true (by simp) rfl
  refine ⟨?_, ?_⟩
  · intro a _w _hB _hF hd
    have h42 : a.tmps.getD 42 undef = .bool true := hd.1 rfl
    exact step_move (guard_none rfl) rfl _ rfl h42
  refine ⟨?_, ?_⟩
  · intro a _w _hB hF hd
    have h43 : a.tmps.getD 43 undef = .bool true := hd.1 rfl
    exact step_move (rf_open true rfl rfl h43) rfl _ rfl ((hF.other 15 rfl).trans S.v15)
  refine ⟨?_, ?_⟩
  · intro a _w _hB _hF hd
    have h43 : a.tmps.getD 43 undef = .bool true := hd.2.1 rfl
    have h44 : a.tmps.getD 44 undef = .int .i64 x := hd.1 rfl
    refine step_call (rf_open true rfl rfl h43) rfl _ _ (rf_call_run Try.func10 (by kernel_rfl) (by kernel_rfl) _ _ rfl) ?_
    simp only [List.map_toArray, List.map_cons, List.map_nil, Act.eval, h44]
    exact (wnum_any _ _).mono (by rintro e w1 ⟨rfl, rfl⟩; exact ⟨_, rfl, Below.refl _ _, rfl⟩)
  refine ⟨?_, ?_⟩
  · intro a _w _hB hF hd
    have h43 : a.tmps.getD 43 undef = .bool true := hd.1 rfl
    exact step_move (rf_open true rfl rfl h43) rfl _ rfl ((hF.other 17 rfl).trans S.v17)
  refine ⟨?_, ?_⟩
  · intro a _w _hB _hF hd
    have h43 : a.tmps.getD 43 undef = .bool true := hd.2.2.1 rfl
    have h45 : a.tmps.getD 45 undef = .int .i64 x := hd.1 rfl
    have h46 : a.tmps.getD 46 undef = .int .i64 x := hd.2.1 rfl
    exact rf_eql (rf_open true rfl rfl h43) rfl _ _ rfl _ _ h45 h46 true (by simp) rfl
  refine ⟨?_, ?_⟩
  · intro a _w _hB _hF hd
    have h43 : a.tmps.getD 43 undef = .bool true := hd.1 rfl
    have h47 : a.tmps.getD 47 undef = .bool true := hd.2.1 rfl
    exact rf_pick (guard_none rfl) rfl _ _ _ rfl true h43 h47
  refine ⟨?_, ?_⟩
  · intro a _w _hB _hF hd
    have h48 : a.tmps.getD 48 undef = .bool true := hd.1 rfl
    exact step_move (guard_none rfl) rfl _ rfl h48
  refine ⟨?_, ?_⟩
  · intro a _w hB hF hd
    have h49 : a.tmps.getD 49 undef = .bool true := hd.1 rfl
    exact rf_loadS (rf_open true rfl rfl h49) rfl _ _ rfl _ _ ((hF.other 13 rfl).trans S.v13) _ (rf_range (S.r1.below hB S.r1.lt)) Try.underlying24 rfl (by kernel_rfl) rfl
  refine ⟨?_, ?_⟩
  · intro a _w hB _hF hd
    have h49 : a.tmps.getD 49 undef = .bool true := hd.2.1 rfl
    have h50 : a.tmps.getD 50 undef = .agg #[.slice B n d, .int .i64 la, .int .i64 ro, .int .i64 se, .int .i64 so] := hd.1 rfl
    refine step_call (rf_open true rfl rfl h49) rfl _ _ (rf_call_run Try.func11 (by kernel_rfl) (by kernel_rfl) _ _ rfl) ?_
    simp only [List.map_toArray, List.map_cons, List.map_nil, Act.eval, h50]
    exact (amay_any B n d qs la ro se so _ (S.q1.below hB) (by have := S.hn; unfold maxLen; omega)).mono (by rintro e w1 ⟨rfl, hb⟩; exact ⟨_, rfl, hb, by rw [S.hm]; exact rfl⟩)
  refine ⟨?_, ?_⟩
  · intro a _w hB hF hd
    have h49 : a.tmps.getD 49 undef = .bool true := hd.1 rfl
    exact rf_loadS (rf_open true rfl rfl h49) rfl _ _ rfl _ _ ((hF.other 6 rfl).trans S.v6) _ (rf_range (S.r2.below hB S.r2.lt)) Try.underlying24 rfl (by kernel_rfl) rfl
  refine ⟨?_, ?_⟩
  · intro a _w hB _hF hd
    have h49 : a.tmps.getD 49 undef = .bool true := hd.2.2.1 rfl
    have h52 : a.tmps.getD 52 undef = .agg #[.slice A n c, .int .i64 la, .int .i64 ro, .int .i64 se, .int .i64 so] := hd.1 rfl
    refine step_call (rf_open true rfl rfl h49) rfl _ _ (rf_call_run Try.func12 (by kernel_rfl) (by kernel_rfl) _ _ rfl) ?_
    simp only [List.map_toArray, List.map_cons, List.map_nil, Act.eval, h52]
    exact (cmay_any A n c qs la ro se so _ (S.q2.below hB) S.hn).mono (by rintro e w1 ⟨rfl, hb⟩; exact ⟨_, rfl, hb, by rw [S.hm]; exact rfl⟩)
  refine ⟨?_, ?_⟩
  · intro a _w _hB _hF hd
    have h49 : a.tmps.getD 49 undef = .bool true := hd.2.2.1 rfl
    have h51 : a.tmps.getD 51 undef = .bool M := hd.1 rfl
    have h53 : a.tmps.getD 53 undef = .bool M := hd.2.1 rfl
    exact rf_eqlC (rf_open true rfl rfl h49) rfl _ _ rfl _ h51 h53 rfl
  refine ⟨?_, ?_⟩
  · intro a _w _hB _hF hd
    have h49 : a.tmps.getD 49 undef = .bool true := hd.1 rfl
    have h54 : a.tmps.getD 54 undef = .bool true := hd.2.1 rfl
    exact rf_pick (guard_none rfl) rfl _ _ _ rfl true h49 h54
  refine ⟨?_, ?_⟩
  · intro a _w _hB _hF hd
    have h55 : a.tmps.getD 55 undef = .bool true := hd.1 rfl
    exact step_move (guard_none rfl) rfl _ rfl h55
  refine ⟨?_, ?_⟩
  · intro a _w hB hF hd
    have h56 : a.tmps.getD 56 undef = .bool true := hd.1 rfl
    exact rf_loadS (rf_open true rfl rfl h56) rfl _ _ rfl _ _ ((hF.other 13 rfl).trans S.v13) _ (rf_range (S.r1.below hB S.r1.lt)) Try.underlying24 rfl (by kernel_rfl) rfl
  refine ⟨?_, ?_⟩
  · intro a _w hB hF hd
    have h56 : a.tmps.getD 56 undef = .bool true := hd.1 rfl
    exact rf_loadS (rf_open true rfl rfl h56) rfl _ _ rfl _ _ ((hF.other 6 rfl).trans S.v6) _ (rf_range (S.r2.below hB S.r2.lt)) Try.underlying24 rfl (by kernel_rfl) rfl
  refine ⟨?_, ?_⟩
  · intro a _w hB _hF hd
    have h56 : a.tmps.getD 56 undef = .bool true := hd.2.2.1 rfl
    have h57 : a.tmps.getD 57 undef = .agg #[.slice B n d, .int .i64 la, .int .i64 ro, .int .i64 se, .int .i64 so] := hd.1 rfl
    have h58 : a.tmps.getD 58 undef = .agg #[.slice A n c, .int .i64 la, .int .i64 ro, .int .i64 se, .int .i64 so] := hd.2.1 rfl
    refine step_call (rf_open true rfl rfl h56) rfl _ _ (rf_call_run Try.func13 (by kernel_rfl) (by kernel_rfl) _ _ rfl) ?_
    simp only [List.map_toArray, List.map_cons, List.map_nil, Act.eval, h57, h58]
    exact (sameconf_true B A n d c qs la ro se so _ (S.q1.below hB) (S.q2.below hB) S.hn).mono (by rintro e w1 ⟨rfl, hb⟩; exact ⟨_, rfl, hb, rfl⟩)
  refine ⟨?_, ?_⟩
  · intro a _w _hB _hF hd
    have h56 : a.tmps.getD 56 undef = .bool true := hd.1 rfl
    have h59 : a.tmps.getD 59 undef = .bool true := hd.2.1 rfl
    exact rf_pick (guard_none rfl) rfl _ _ _ rfl true h56 h59
  refine ⟨?_, ?_⟩
  · intro a _w _hB _hF hd
    have h60 : a.tmps.getD 60 undef = .bool true := hd.1 rfl
    exact step_move (guard_none rfl) rfl _ rfl h60
  refine ⟨?_, ?_⟩
  · intro a _w _hB _hF hd
    have h61 : a.tmps.getD 61 undef = .bool true := hd.1 rfl
    refine step_call (rf_open true rfl rfl h61) rfl _ _ (rf_call_run Try.func14 (by kernel_rfl) (by kernel_rfl) _ _ rfl) ?_
    simp only [List.map_toArray, List.map_nil]
    exact (aawake_any _).mono (by rintro e w1 ⟨rfl, hb⟩; exact ⟨_, rfl, hb, rfl⟩)
  refine ⟨?_, ?_⟩
  · intro a _w _hB _hF hd
    have h61 : a.tmps.getD 61 undef = .bool true := hd.1 rfl
    have h62 : a.tmps.getD 62 undef = .bool true := hd.2.1 rfl
    exact rf_pick (guard_none rfl) rfl _ _ _ rfl true h61 h62
  refine ⟨?_, ?_⟩
  · intro a _w _hB _hF hd
    have h63 : a.tmps.getD 63 undef = .bool true := hd.1 rfl
    exact step_assign (guard_none rfl) rfl _ rfl h63
  trivial
theorem aad_any {Q : Exit → Act → World → Prop} {l : List Oper} (hl : opsOf 4 Try.f3 = l) (hend : ∀ w : World, Below w0.heap.size w0 w → Q .normal (putAll a0 [(40, .int .i64 v), (41, .int .i64 v), (42, .bool true), (43, .bool true), (44, .int .i64 x), (45, .int .i64 x), (46, .int .i64 x), (47, .bool true), (48, .bool true), (49, .bool true), (50, .agg #[.slice B n d, .int .i64 la, .int .i64 ro, .int .i64 se, .int .i64 so]), (51, .bool M), (52, .agg #[.slice A n c, .int .i64 la, .int .i64 ro, .int .i64 se, .int .i64 so]), (53, .bool M), (54, .bool true), (55, .bool true), (56, .bool true), (57, .agg #[.slice B n d, .int .i64 la, .int .i64 ro, .int .i64 se, .int .i64 so]), (58, .agg #[.slice A n c, .int .i64 la, .int .i64 ro, .int .i64 se, .int .i64 so]), (59, .bool true), (60, .bool true), (61, .bool true), (62, .bool true), (63, .bool true), (12, .bool true)]) w) :
    (Code.region 4 l.toArray true).wp Try.prog Q a0 w0 := by
  subst hl
  refine region_facts2 (aadF A B n c d gx gc qs la ro se so v x M) aadD 64 S.size rfl (by kernel_rfl) (by kernel_rfl) (aadF_mono _ _ _ _ _ _ _ _ _ _ _ _ _ _ _) (aad_ok S) fun a w hB hF h => ?_
  have hv : valsAre a [(40, .int .i64 v), (41, .int .i64 v), (42, .bool true), (43, .bool true), (44, .int .i64 x), (45, .int .i64 x), (46, .int .i64 x), (47, .bool true), (48, .bool true), (49, .bool true), (50, .agg #[.slice B n d, .int .i64 la, .int .i64 ro, .int .i64 se, .int .i64 so]), (51, .bool M), (52, .agg #[.slice A n c, .int .i64 la, .int .i64 ro, .int .i64 se, .int .i64 so]), (53, .bool M), (54, .bool true), (55, .bool true), (56, .bool true), (57, .agg #[.slice B n d, .int .i64 la, .int .i64 ro, .int .i64 se, .int .i64 so]), (58, .agg #[.slice A n c, .int .i64 la, .int .i64 ro, .int .i64 se, .int .i64 so]), (59, .bool true), (60, .bool true), (61, .bool true), (62, .bool true), (63, .bool true), (12, .bool true)] := by
    refine ⟨?_, ?_, ?_, ?_, ?_, ?_, ?_, ?_, ?_, ?_, ?_, ?_, ?_, ?_, ?_, ?_, ?_, ?_, ?_, ?_, ?_, ?_, ?_, ?_, ?_, trivial⟩
    · exact h 0 (some 40) rfl
    · exact h 1 (some 41) rfl
    · exact h 2 (some 42) rfl
    · exact h 3 (some 43) rfl
    · exact h 4 (some 44) rfl
    · exact h 5 (some 45) rfl
    · exact h 6 (some 46) rfl
    · exact h 7 (some 47) rfl
    · exact h 8 (some 48) rfl
    · exact h 9 (some 49) rfl
    · exact h 10 (some 50) rfl
    · exact h 11 (some 51) rfl
    · exact h 12 (some 52) rfl
    · exact h 13 (some 53) rfl
    · exact h 14 (some 54) rfl
    · exact h 15 (some 55) rfl
    · exact h 16 (some 56) rfl
    · exact h 17 (some 57) rfl
    · exact h 18 (some 58) rfl
    · exact h 19 (some 59) rfl
    · exact h 20 (some 60) rfl
    · exact h 21 (some 61) rfl
    · exact h 22 (some 62) rfl
    · exact h 23 (some 63) rfl
    · exact h 24 (some 12) rfl
  rw [frame_is hF _ hv (by rfl) (by rfl)]
  exact hend w hB
end

end Go.Proofs.Ytecdeplcoggjkaa
