/-
  SameRec's region: its facts, one by one (written by gen/rcsame.py).
-/
import Derived.Test.YtdbcmcdmipehgaaRcSame1
namespace Go.Proofs.Ytdbcmcdmipehgaa
open Go.RowKit

/-- A row of one result. -/
def rowX (qu sr st en va : Int) (ov : Bool) (A : Option Addr) (n c : Nat) : Fact := fun v w => ∃ g, v = .slice (some ⟨g, 0, none⟩) 1 1 ∧ Has w g 28 (resC qu sr st en va ov A n c)
theorem mono_rowX (qu sr st en va : Int) (ov : Bool) (A : Option Addr) (n c : Nat) : Mono (rowX qu sr st en va ov A n c) := fun _ _ _ hb ⟨g, e, h⟩ => ⟨g, e, h.below hb h.lt⟩
theorem rec_res {w : World} {g : Nat} {T : TypeId} {r : Rc} {A : Option Addr} {n c : Nat} (h : Has w g T (recC r A n c)) : w.rangeAt g 1 (resC r.qu r.sr r.st r.en r.va r.ov A n c).toList := fun j v hj => by
  match j, hj with
  | 0, hj => rw [h.cell]; exact hj
  | 1, hj => rw [h.cell]; exact hj
  | 2, hj => rw [h.cell]; exact hj
  | 3, hj => rw [h.cell]; exact hj
  | 4, hj => rw [h.cell]; exact hj
  | 5, hj => rw [h.cell]; exact hj
  | 6, hj => rw [h.cell]; exact hj
  | j + 7, hj => simp [resC] at hj
section
variable {D : List (Option Tmp)} {Φ : Fact} {o : Oper} {a : Act} {w : World}
theorem rf_boxR (hw : Region.wanted o (yieldD D a.tmps) = true) {t : Tmp} (hd : o.dst = some t) (x : Operand) (ho : o.op = .buildSlice 66 1 #[(0, x)]) {qu sr st en va : Int} {ov : Bool} {A : Option Addr} {n c : Nat} (hx : a.eval x = .agg (resC qu sr st en va ov A n c))
    (h : ∀ w', Below w.heap.size w w' → Has w' w.heap.size 28 (resC qu sr st en va ov A n c) → Φ (.slice (some ⟨w.heap.size, 0, none⟩) 1 1) w') : StepD Try.prog D Φ o a w := by
  refine step_val hw hd _ (w.alloc (.cells (resC qu sr st en va ov A n c) 28)) ?_ ((Below.refl _ _).alloc (Nat.le_refl _) _) (h _ ((Below.refl _ _).alloc (Nat.le_refl _) _) (Has.made _ _ _))
  unfold execOp
  rw [ho]
  simp only [List.map_toArray, List.map_cons, List.map_nil, hx]
  unfold resC
  simp [go_sem]
end
def rscD : List (Option Tmp) := [some 5, some 6, some 7, some 8, some 9, some 10, some 11, some 12, some 13, some 14, some 15, some 16, some 17, some 18, some 19, some 20, some 21, some 22, some 23, some 24, some 25, some 26, some 27, some 28, some 29, some 30, some 31, some 32, some 33, some 34, some 35, some 36, some 37, some 38, some 39, some 40, some 41, some 42, some 43, some 44, some 45, some 46, some 4]
def rscF (kd qu sr st en va : Int) (ov : Bool) (se ti sq bd : Int) (A B : Option Addr) (n c d b1 b2 : Nat) (_hs : List Int) : List Fact := [isV (.pointer (some ⟨b1, 0, none⟩)), isV (.int .i64 kd), isV (.pointer (some ⟨b2, 0, none⟩)), isV (.int .i64 kd), isV (.bool true), isV (.bool true), isV (.pointer (some ⟨b1, 8, none⟩)), isV (.int .i64 se), isV (.pointer (some ⟨b2, 8, none⟩)), isV (.int .i64 se), isV (.bool true), isV (.bool true), isV (.bool true), isV (.pointer (some ⟨b1, 9, none⟩)), isV (.int .i64 ti), isV (.pointer (some ⟨b2, 9, none⟩)), isV (.int .i64 ti), isV (.bool true), isV (.bool true), isV (.bool true), isV (.pointer (some ⟨b1, 10, none⟩)), isV (.int .i64 sq), isV (.pointer (some ⟨b2, 10, none⟩)), isV (.int .i64 sq), isV (.bool true), isV (.bool true), isV (.bool true), isV (.pointer (some ⟨b1, 11, none⟩)), isV (.int .i64 bd), isV (.pointer (some ⟨b2, 11, none⟩)), isV (.int .i64 bd), isV (.bool true), isV (.bool true), isV (.bool true), isV (.pointer (some ⟨b1, 1, none⟩)), isV (.agg (resC qu sr st en va ov A n c)), rowX qu sr st en va ov A n c, isV (.pointer (some ⟨b2, 1, none⟩)), isV (.agg (resC qu sr st en va ov B n d)), rowX qu sr st en va ov B n d, isV (.bool true), isV (.bool true), isV (.bool true)]
theorem rscF_mono (kd qu sr st en va : Int) (ov : Bool) (se ti sq bd : Int) (A B : Option Addr) (n c d b1 b2 : Nat) (hs : List Int) : ∀ φ ∈ rscF kd qu sr st en va ov se ti sq bd A B n c d b1 b2 hs, Mono φ := by
  unfold rscF
  repeat (first | exact monos_nil | (refine monos_cons (mono_isV _) ?_) | (refine monos_cons (mono_rowX _ _ _ _ _ _ _ _ _) ?_))
structure rscS (kd qu sr st en va : Int) (ov : Bool) (se ti sq bd : Int) (A B : Option Addr) (n c d b1 b2 : Nat) (hs : List Int) (a0 : Act) (w0 : World) : Prop where
  size : a0.tmps.size = 47
  v2 : a0.tmps.getD 2 undef = .pointer (some ⟨b1, 0, none⟩)
  v3 : a0.tmps.getD 3 undef = .pointer (some ⟨b2, 0, none⟩)
  x1 : Has w0 b1 30 (recC ⟨kd, qu, sr, st, en, va, ov, hs, se, ti, sq, bd⟩ A n c)
  x2 : Has w0 b2 30 (recC ⟨kd, qu, sr, st, en, va, ov, hs, se, ti, sq, bd⟩ B n d)
  i1 : Ints w0 A n hs
  i2 : Ints w0 B n hs
  hn : n ≤ maxLen
section
variable {kd qu sr st en va : Int} {ov : Bool} {se ti sq bd : Int} {A B : Option Addr} {n c d b1 b2 : Nat} {hs : List Int} {a0 : Act} {w0 : World} (S : rscS kd qu sr st en va ov se ti sq bd A B n c d b1 b2 hs a0 w0)
include S
set_option maxRecDepth 100000 in
set_option maxHeartbeats 8000000 in
theorem rsc_ok : AllOps (fun j o => ∀ (a : Act) (w : World), Below w0.heap.size w0 w → FrD rscD a0 a → needs rscD (rscF kd qu sr st en va ov se ti sq bd A B n c d b1 b2 hs) a w o.after.toList → StepD Try.prog rscD (factAt (rscF kd qu sr st en va ov se ti sq bd A B n c d b1 b2 hs) j) o a w) 0 (opsOf 1 Try.f11) := by
  simp only [opsOf, Try.f11, opsAt, Option.bind, Option.or, Option.getD, reduceCtorEq, if_true, if_false]
  refine ⟨?_, ?_⟩
  · intro _a _w _hB hF _hd
    exact rf_faddr (guard_none rfl) rfl _ _ _ rfl _ _ 0 _ ((hF.other 2 rfl).trans S.v2) (by omega) (fun _ _ => by kernel_rfl) rfl
  refine ⟨?_, ?_⟩
  · intro a _w hB _hF hd
    have h5 : a.tmps.getD 5 undef = .pointer (some ⟨b1, 0, none⟩) := hd.1 rfl
    exact rf_loadi (guard_none rfl) rfl _ rfl _ _ h5 _ ((Has.cell (S.x1.below hB S.x1.lt) 0).trans rfl) rfl
  refine ⟨?_, ?_⟩
  · intro _a _w _hB hF _hd
    exact rf_faddr (guard_none rfl) rfl _ _ _ rfl _ _ 0 _ ((hF.other 3 rfl).trans S.v3) (by omega) (fun _ _ => by kernel_rfl) rfl
  refine ⟨?_, ?_⟩
  · intro a _w hB _hF hd
    have h7 : a.tmps.getD 7 undef = .pointer (some ⟨b2, 0, none⟩) := hd.1 rfl
    exact rf_loadi (guard_none rfl) rfl _ rfl _ _ h7 _ ((Has.cell (S.x2.below hB S.x2.lt) 0).trans rfl) rfl
  refine ⟨?_, ?_⟩
  · intro a _w _hB _hF hd
    have h6 : a.tmps.getD 6 undef = .int .i64 kd := hd.1 rfl
    have h8 : a.tmps.getD 8 undef = .int .i64 kd := hd.2.1 rfl
    exact rf_eql (guard_none rfl) rfl _ _ rfl _ _ h6 h8 true (by simp) rfl
  refine ⟨?_, ?_⟩
  · intro a _w _hB _hF hd
    have h9 : a.tmps.getD 9 undef = .bool true := hd.1 rfl
    exact step_move (guard_none rfl) rfl _ rfl h9
  refine ⟨?_, ?_⟩
  · intro a _w _hB hF hd
    have h10 : a.tmps.getD 10 undef = .bool true := hd.1 rfl
    exact rf_faddr (rf_open true rfl rfl h10) rfl _ _ _ rfl _ _ 8 _ ((hF.other 2 rfl).trans S.v2) (by omega) (fun _ _ => by kernel_rfl) rfl
  refine ⟨?_, ?_⟩
  · intro a _w hB _hF hd
    have h10 : a.tmps.getD 10 undef = .bool true := hd.2.1 rfl
    have h11 : a.tmps.getD 11 undef = .pointer (some ⟨b1, 8, none⟩) := hd.1 rfl
    exact rf_loadi (rf_open true rfl rfl h10) rfl _ rfl _ _ h11 _ ((Has.cell (S.x1.below hB S.x1.lt) 8).trans rfl) rfl
  refine ⟨?_, ?_⟩
  · intro a _w _hB hF hd
    have h10 : a.tmps.getD 10 undef = .bool true := hd.1 rfl
    exact rf_faddr (rf_open true rfl rfl h10) rfl _ _ _ rfl _ _ 8 _ ((hF.other 3 rfl).trans S.v3) (by omega) (fun _ _ => by kernel_rfl) rfl
  refine ⟨?_, ?_⟩
  · intro a _w hB _hF hd
    have h10 : a.tmps.getD 10 undef = .bool true := hd.2.1 rfl
    have h13 : a.tmps.getD 13 undef = .pointer (some ⟨b2, 8, none⟩) := hd.1 rfl
    exact rf_loadi (rf_open true rfl rfl h10) rfl _ rfl _ _ h13 _ ((Has.cell (S.x2.below hB S.x2.lt) 8).trans rfl) rfl
  refine ⟨?_, ?_⟩
  · intro a _w _hB _hF hd
    have h10 : a.tmps.getD 10 undef = .bool true := hd.2.2.1 rfl
    have h12 : a.tmps.getD 12 undef = .int .i64 se := hd.1 rfl
    have h14 : a.tmps.getD 14 undef = .int .i64 se := hd.2.1 rfl
    exact rf_eql (rf_open true rfl rfl h10) rfl _ _ rfl _ _ h12 h14 true (by simp) rfl
  refine ⟨?_, ?_⟩
  · intro a _w _hB _hF hd
    have h10 : a.tmps.getD 10 undef = .bool true := hd.1 rfl
    have h15 : a.tmps.getD 15 undef = .bool true := hd.2.1 rfl
    exact rf_pick (guard_none rfl) rfl _ _ _ rfl true h10 h15
  refine ⟨?_, ?_⟩
  · intro a _w _hB _hF hd
    have h16 : a.tmps.getD 16 undef = .bool true := hd.1 rfl
    exact step_move (guard_none rfl) rfl _ rfl h16
  refine ⟨?_, ?_⟩
  · intro a _w _hB hF hd
    have h17 : a.tmps.getD 17 undef = .bool true := hd.1 rfl
    exact rf_faddr (rf_open true rfl rfl h17) rfl _ _ _ rfl _ _ 9 _ ((hF.other 2 rfl).trans S.v2) (by omega) (fun _ _ => by kernel_rfl) rfl
  refine ⟨?_, ?_⟩
  · intro a _w hB _hF hd
    have h17 : a.tmps.getD 17 undef = .bool true := hd.2.1 rfl
    have h18 : a.tmps.getD 18 undef = .pointer (some ⟨b1, 9, none⟩) := hd.1 rfl
    exact rf_loadi (rf_open true rfl rfl h17) rfl _ rfl _ _ h18 _ ((Has.cell (S.x1.below hB S.x1.lt) 9).trans rfl) rfl
  refine ⟨?_, ?_⟩
  · intro a _w _hB hF hd
    have h17 : a.tmps.getD 17 undef = .bool true := hd.1 rfl
    exact rf_faddr (rf_open true rfl rfl h17) rfl _ _ _ rfl _ _ 9 _ ((hF.other 3 rfl).trans S.v3) (by omega) (fun _ _ => by kernel_rfl) rfl
  refine ⟨?_, ?_⟩
  · intro a _w hB _hF hd
    have h17 : a.tmps.getD 17 undef = .bool true := hd.2.1 rfl
    have h20 : a.tmps.getD 20 undef = .pointer (some ⟨b2, 9, none⟩) := hd.1 rfl
    exact rf_loadi (rf_open true rfl rfl h17) rfl _ rfl _ _ h20 _ ((Has.cell (S.x2.below hB S.x2.lt) 9).trans rfl) rfl
  refine ⟨?_, ?_⟩
  · intro a _w _hB _hF hd
    have h17 : a.tmps.getD 17 undef = .bool true := hd.2.2.1 rfl
    have h19 : a.tmps.getD 19 undef = .int .i64 ti := hd.1 rfl
    have h21 : a.tmps.getD 21 undef = .int .i64 ti := hd.2.1 rfl
    exact rf_eql (rf_open true rfl rfl h17) rfl _ _ rfl _ _ h19 h21 true (by simp) rfl
  refine ⟨?_, ?_⟩
  · intro a _w _hB _hF hd
    have h17 : a.tmps.getD 17 undef = .bool true := hd.1 rfl
    have h22 : a.tmps.getD 22 undef = .bool true := hd.2.1 rfl
    exact rf_pick (guard_none rfl) rfl _ _ _ rfl true h17 h22
  refine ⟨?_, ?_⟩
  · intro a _w _hB _hF hd
    have h23 : a.tmps.getD 23 undef = .bool true := hd.1 rfl
    exact step_move (guard_none rfl) rfl _ rfl h23
  refine ⟨?_, ?_⟩
  · intro a _w _hB hF hd
    have h24 : a.tmps.getD 24 undef = .bool true := hd.1 rfl
    exact rf_faddr (rf_open true rfl rfl h24) rfl _ _ _ rfl _ _ 10 _ ((hF.other 2 rfl).trans S.v2) (by omega) (fun _ _ => by kernel_rfl) rfl
  refine ⟨?_, ?_⟩
  · intro a _w hB _hF hd
    have h24 : a.tmps.getD 24 undef = .bool true := hd.2.1 rfl
    have h25 : a.tmps.getD 25 undef = .pointer (some ⟨b1, 10, none⟩) := hd.1 rfl
    exact rf_loadi (rf_open true rfl rfl h24) rfl _ rfl _ _ h25 _ ((Has.cell (S.x1.below hB S.x1.lt) 10).trans rfl) rfl
  refine ⟨?_, ?_⟩
  · intro a _w _hB hF hd
    have h24 : a.tmps.getD 24 undef = .bool true := hd.1 rfl
    exact rf_faddr (rf_open true rfl rfl h24) rfl _ _ _ rfl _ _ 10 _ ((hF.other 3 rfl).trans S.v3) (by omega) (fun _ _ => by kernel_rfl) rfl
  refine ⟨?_, ?_⟩
  · intro a _w hB _hF hd
    have h24 : a.tmps.getD 24 undef = .bool true := hd.2.1 rfl
    have h27 : a.tmps.getD 27 undef = .pointer (some ⟨b2, 10, none⟩) := hd.1 rfl
    exact rf_loadi (rf_open true rfl rfl h24) rfl _ rfl _ _ h27 _ ((Has.cell (S.x2.below hB S.x2.lt) 10).trans rfl) rfl
  refine ⟨?_, ?_⟩
  · intro a _w _hB _hF hd
    have h24 : a.tmps.getD 24 undef = .bool true := hd.2.2.1 rfl
    have h26 : a.tmps.getD 26 undef = .int .i64 sq := hd.1 rfl
    have h28 : a.tmps.getD 28 undef = .int .i64 sq := hd.2.1 rfl
    exact rf_eql (rf_open true rfl rfl h24) rfl _ _ rfl _ _ h26 h28 true (by simp) rfl
  refine ⟨?_, ?_⟩
  · intro a _w _hB _hF hd
    have h24 : a.tmps.getD 24 undef = .bool true := hd.1 rfl
    have h29 : a.tmps.getD 29 undef = .bool true := hd.2.1 rfl
    exact rf_pick (guard_none rfl) rfl _ _ _ rfl true h24 h29
  refine ⟨?_, ?_⟩
  · intro a _w _hB _hF hd
    have h30 : a.tmps.getD 30 undef = .bool true := hd.1 rfl
    exact step_move (guard_none rfl) rfl _ rfl h30
  refine ⟨?_, ?_⟩
  · intro a _w _hB hF hd
    have h31 : a.tmps.getD 31 undef = .bool true := hd.1 rfl
    exact rf_faddr (rf_open true rfl rfl h31) rfl _ _ _ rfl _ _ 11 _ ((hF.other 2 rfl).trans S.v2) (by omega) (fun _ _ => by kernel_rfl) rfl
  refine ⟨?_, ?_⟩
  · intro a _w hB _hF hd
    have h31 : a.tmps.getD 31 undef = .bool true := hd.2.1 rfl
    have h32 : a.tmps.getD 32 undef = .pointer (some ⟨b1, 11, none⟩) := hd.1 rfl
    exact rf_loadi (rf_open true rfl rfl h31) rfl _ rfl _ _ h32 _ ((Has.cell (S.x1.below hB S.x1.lt) 11).trans rfl) rfl
  refine ⟨?_, ?_⟩
  · intro a _w _hB hF hd
    have h31 : a.tmps.getD 31 undef = .bool true := hd.1 rfl
    exact rf_faddr (rf_open true rfl rfl h31) rfl _ _ _ rfl _ _ 11 _ ((hF.other 3 rfl).trans S.v3) (by omega) (fun _ _ => by kernel_rfl) rfl
  refine ⟨?_, ?_⟩
  · intro a _w hB _hF hd
    have h31 : a.tmps.getD 31 undef = .bool true := hd.2.1 rfl
    have h34 : a.tmps.getD 34 undef = .pointer (some ⟨b2, 11, none⟩) := hd.1 rfl
    exact rf_loadi (rf_open true rfl rfl h31) rfl _ rfl _ _ h34 _ ((Has.cell (S.x2.below hB S.x2.lt) 11).trans rfl) rfl
  refine ⟨?_, ?_⟩
  · intro a _w _hB _hF hd
    have h31 : a.tmps.getD 31 undef = .bool true := hd.2.2.1 rfl
    have h33 : a.tmps.getD 33 undef = .int .i64 bd := hd.1 rfl
    have h35 : a.tmps.getD 35 undef = .int .i64 bd := hd.2.1 rfl
    exact rf_eql (rf_open true rfl rfl h31) rfl _ _ rfl _ _ h33 h35 true (by simp) rfl
  refine ⟨?_, ?_⟩
  · intro a _w _hB _hF hd
    have h31 : a.tmps.getD 31 undef = .bool true := hd.1 rfl
    have h36 : a.tmps.getD 36 undef = .bool true := hd.2.1 rfl
    exact rf_pick (guard_none rfl) rfl _ _ _ rfl true h31 h36
  refine ⟨?_, ?_⟩
  · intro a _w _hB _hF hd
    have h37 : a.tmps.getD 37 undef = .bool true := hd.1 rfl
    exact step_move (guard_none rfl) rfl _ rfl h37
  refine ⟨?_, ?_⟩
  · intro a _w _hB hF hd
    have h38 : a.tmps.getD 38 undef = .bool true := hd.1 rfl
    exact rf_faddr (rf_open true rfl rfl h38) rfl _ _ _ rfl _ _ 1 _ ((hF.other 2 rfl).trans S.v2) (by omega) (fun _ _ => by kernel_rfl) rfl
  refine ⟨?_, ?_⟩
  · intro a _w hB _hF hd
    have h38 : a.tmps.getD 38 undef = .bool true := hd.2.1 rfl
    have h39 : a.tmps.getD 39 undef = .pointer (some ⟨b1, 1, none⟩) := hd.1 rfl
    exact rf_loadS (rf_open true rfl rfl h38) rfl _ _ rfl _ _ h39 (resC qu sr st en va ov A n c).toList (rec_res (S.x1.below hB S.x1.lt)) Try.underlying28 rfl (by kernel_rfl) rfl
  refine ⟨?_, ?_⟩
  · intro a w _hB _hF hd
    have h38 : a.tmps.getD 38 undef = .bool true := hd.2.1 rfl
    have h40 : a.tmps.getD 40 undef = .agg (resC qu sr st en va ov A n c) := hd.1 rfl
    exact rf_boxR (rf_open true rfl rfl h38) rfl _ rfl h40 (fun w' hb hh => ⟨_, rfl, hh⟩)
  refine ⟨?_, ?_⟩
  · intro a _w _hB hF hd
    have h38 : a.tmps.getD 38 undef = .bool true := hd.1 rfl
    exact rf_faddr (rf_open true rfl rfl h38) rfl _ _ _ rfl _ _ 1 _ ((hF.other 3 rfl).trans S.v3) (by omega) (fun _ _ => by kernel_rfl) rfl
  refine ⟨?_, ?_⟩
  · intro a _w hB _hF hd
    have h38 : a.tmps.getD 38 undef = .bool true := hd.2.1 rfl
    have h42 : a.tmps.getD 42 undef = .pointer (some ⟨b2, 1, none⟩) := hd.1 rfl
    exact rf_loadS (rf_open true rfl rfl h38) rfl _ _ rfl _ _ h42 (resC qu sr st en va ov B n d).toList (rec_res (S.x2.below hB S.x2.lt)) Try.underlying28 rfl (by kernel_rfl) rfl
  refine ⟨?_, ?_⟩
  · intro a w _hB _hF hd
    have h38 : a.tmps.getD 38 undef = .bool true := hd.2.1 rfl
    have h43 : a.tmps.getD 43 undef = .agg (resC qu sr st en va ov B n d) := hd.1 rfl
    exact rf_boxR (rf_open true rfl rfl h38) rfl _ rfl h43 (fun w' hb hh => ⟨_, rfl, hh⟩)
  refine ⟨?_, ?_⟩
  · intro a w hB _hF hd
    have h38 : a.tmps.getD 38 undef = .bool true := hd.2.2.1 rfl
    obtain ⟨g41, h41, p41⟩ : rowX qu sr st en va ov A n c (a.tmps.getD 41 undef) w := hd.1 rfl
    obtain ⟨g44, h44, p44⟩ : rowX qu sr st en va ov B n d (a.tmps.getD 44 undef) w := hd.2.1 rfl
    refine step_call (rf_open true rfl rfl h38) rfl _ _ (rf_call_run Try.func25 (by kernel_rfl) (by kernel_rfl) _ _ rfl) ?_
    simp only [List.map_toArray, List.map_cons, List.map_nil, Act.eval, h41, h44]
    exact (sameres_one qu sr st en va ov A B n c d _ _ hs _ p41 p44 (S.i1.below hB) (S.i2.below hB) S.hn).mono (by rintro x w1 ⟨rfl, hb⟩; exact ⟨_, rfl, hb, rfl⟩)
  refine ⟨?_, ?_⟩
  · intro a _w _hB _hF hd
    have h38 : a.tmps.getD 38 undef = .bool true := hd.1 rfl
    have h45 : a.tmps.getD 45 undef = .bool true := hd.2.1 rfl
    exact rf_pick (guard_none rfl) rfl _ _ _ rfl true h38 h45
  refine ⟨?_, ?_⟩
  · intro a _w _hB _hF hd
    have h46 : a.tmps.getD 46 undef = .bool true := hd.1 rfl
    exact step_assign (guard_none rfl) rfl _ rfl h46
  trivial
theorem rsc_any {Q : Exit → Act → World → Prop} {l : List Oper} (hl : opsOf 1 Try.f11 = l) (hend : ∀ (g41 : Nat), ∀ (g44 : Nat), ∀ w : World, Below w0.heap.size w0 w → Has w g41 28 (resC qu sr st en va ov A n c) → Has w g44 28 (resC qu sr st en va ov B n d) → Q .normal (putAll a0 [(5, .pointer (some ⟨b1, 0, none⟩)), (6, .int .i64 kd), (7, .pointer (some ⟨b2, 0, none⟩)), (8, .int .i64 kd), (9, .bool true), (10, .bool true), (11, .pointer (some ⟨b1, 8, none⟩)), (12, .int .i64 se), (13, .pointer (some ⟨b2, 8, none⟩)), (14, .int .i64 se), (15, .bool true), (16, .bool true), (17, .bool true), (18, .pointer (some ⟨b1, 9, none⟩)), (19, .int .i64 ti), (20, .pointer (some ⟨b2, 9, none⟩)), (21, .int .i64 ti), (22, .bool true), (23, .bool true), (24, .bool true), (25, .pointer (some ⟨b1, 10, none⟩)), (26, .int .i64 sq), (27, .pointer (some ⟨b2, 10, none⟩)), (28, .int .i64 sq), (29, .bool true), (30, .bool true), (31, .bool true), (32, .pointer (some ⟨b1, 11, none⟩)), (33, .int .i64 bd), (34, .pointer (some ⟨b2, 11, none⟩)), (35, .int .i64 bd), (36, .bool true), (37, .bool true), (38, .bool true), (39, .pointer (some ⟨b1, 1, none⟩)), (40, .agg (resC qu sr st en va ov A n c)), (41, .slice (some ⟨g41, 0, none⟩) 1 1), (42, .pointer (some ⟨b2, 1, none⟩)), (43, .agg (resC qu sr st en va ov B n d)), (44, .slice (some ⟨g44, 0, none⟩) 1 1), (45, .bool true), (46, .bool true), (4, .bool true)]) w) :
    (Code.region 1 l.toArray false).wp Try.prog Q a0 w0 := by
  subst hl
  refine region_facts (rscF kd qu sr st en va ov se ti sq bd A B n c d b1 b2 hs) rscD 47 S.size rfl (by kernel_rfl) (by kernel_rfl) (rscF_mono _ _ _ _ _ _ _ _ _ _ _ _ _ _ _ _ _ _ _) (rsc_ok S) fun a w hB hF h => ?_
  obtain ⟨g41, h41, p41⟩ : rowX qu sr st en va ov A n c (a.tmps.getD 41 undef) w := h 36 (some 41) rfl
  obtain ⟨g44, h44, p44⟩ : rowX qu sr st en va ov B n d (a.tmps.getD 44 undef) w := h 39 (some 44) rfl
  have hv : valsAre a [(5, .pointer (some ⟨b1, 0, none⟩)), (6, .int .i64 kd), (7, .pointer (some ⟨b2, 0, none⟩)), (8, .int .i64 kd), (9, .bool true), (10, .bool true), (11, .pointer (some ⟨b1, 8, none⟩)), (12, .int .i64 se), (13, .pointer (some ⟨b2, 8, none⟩)), (14, .int .i64 se), (15, .bool true), (16, .bool true), (17, .bool true), (18, .pointer (some ⟨b1, 9, none⟩)), (19, .int .i64 ti), (20, .pointer (some ⟨b2, 9, none⟩)), (21, .int .i64 ti), (22, .bool true), (23, .bool true), (24, .bool true), (25, .pointer (some ⟨b1, 10, none⟩)), (26, .int .i64 sq), (27, .pointer (some ⟨b2, 10, none⟩)), (28, .int .i64 sq), (29, .bool true), (30, .bool true), (31, .bool true), (32, .pointer (some ⟨b1, 11, none⟩)), (33, .int .i64 bd), (34, .pointer (some ⟨b2, 11, none⟩)), (35, .int .i64 bd), (36, .bool true), (37, .bool true), (38, .bool true), (39, .pointer (some ⟨b1, 1, none⟩)), (40, .agg (resC qu sr st en va ov A n c)), (41, .slice (some ⟨g41, 0, none⟩) 1 1), (42, .pointer (some ⟨b2, 1, none⟩)), (43, .agg (resC qu sr st en va ov B n d)), (44, .slice (some ⟨g44, 0, none⟩) 1 1), (45, .bool true), (46, .bool true), (4, .bool true)] := by
    refine ⟨?_, ?_, ?_, ?_, ?_, ?_, ?_, ?_, ?_, ?_, ?_, ?_, ?_, ?_, ?_, ?_, ?_, ?_, ?_, ?_, ?_, ?_, ?_, ?_, ?_, ?_, ?_, ?_, ?_, ?_, ?_, ?_, ?_, ?_, ?_, ?_, ?_, ?_, ?_, ?_, ?_, ?_, ?_, trivial⟩
    · exact h 0 (some 5) rfl
    · exact h 1 (some 6) rfl
    · exact h 2 (some 7) rfl
    · exact h 3 (some 8) rfl
    · exact h 4 (some 9) rfl
    · exact h 5 (some 10) rfl
    · exact h 6 (some 11) rfl
    · exact h 7 (some 12) rfl
    · exact h 8 (some 13) rfl
    · exact h 9 (some 14) rfl
    · exact h 10 (some 15) rfl
    · exact h 11 (some 16) rfl
    · exact h 12 (some 17) rfl
    · exact h 13 (some 18) rfl
    · exact h 14 (some 19) rfl
    · exact h 15 (some 20) rfl
    · exact h 16 (some 21) rfl
    · exact h 17 (some 22) rfl
    · exact h 18 (some 23) rfl
    · exact h 19 (some 24) rfl
    · exact h 20 (some 25) rfl
    · exact h 21 (some 26) rfl
    · exact h 22 (some 27) rfl
    · exact h 23 (some 28) rfl
    · exact h 24 (some 29) rfl
    · exact h 25 (some 30) rfl
    · exact h 26 (some 31) rfl
    · exact h 27 (some 32) rfl
    · exact h 28 (some 33) rfl
    · exact h 29 (some 34) rfl
    · exact h 30 (some 35) rfl
    · exact h 31 (some 36) rfl
    · exact h 32 (some 37) rfl
    · exact h 33 (some 38) rfl
    · exact h 34 (some 39) rfl
    · exact h 35 (some 40) rfl
    · exact h41
    · exact h 37 (some 42) rfl
    · exact h 38 (some 43) rfl
    · exact h44
    · exact h 40 (some 45) rfl
    · exact h 41 (some 46) rfl
    · exact h 42 (some 4) rfl
  rw [frame_is hF _ hv (by rfl) (by rfl)]
  exact hend g41 g44 w hB p41 p44
end

end Go.Proofs.Ytdbcmcdmipehgaa
