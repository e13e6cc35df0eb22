/-
  Reading a Hist's numbers, one behind the other: the memory of the loop; its drawn region, in the program and in the reference (written by gen/rcloop.py).
-/
import Derived.Test.YtdbcmcdmipehgaaHeadK
import Derived.Test.YtdbcmcdmipehgaaRf
import Derived.Test.YtdbcmcdmipehgaaRcInt
import Derived.Test.YtdbcmcdmipehgaaRcRg
import Derived.Test.YtdbcmcdmipehgaaWiRd
namespace Go.Proofs.Ytdbcmcdmipehgaa
open Go.RowKit

/-- Every block below B but g is as it was. -/
structure But (B g : Nat) (w w' : World) : Prop where
  os : w'.os = w.os
  tape : w'.tape = w.tape
  output : w'.output = w.output
  size : w.heap.size ≤ w'.heap.size
  other : ∀ k, k < B → k ≠ g → w'.heap[k]? = w.heap[k]?
section
variable {B B' g : Nat} {w w' w'' : World}
theorem But.refl (B g : Nat) (w : World) : But B g w w := ⟨rfl, rfl, rfl, Nat.le_refl _, fun _ _ _ => rfl⟩
theorem But.trans (h : But B g w w') (k : But B g w' w'') : But B g w w'' := ⟨k.os.trans h.os, k.tape.trans h.tape, k.output.trans h.output, Nat.le_trans h.size k.size, fun i hi hg => (k.other i hi hg).trans (h.other i hi hg)⟩
theorem But.mono (h : But B g w w') (hB : B' ≤ B) : But B' g w w' := ⟨h.os, h.tape, h.output, h.size, fun k hk => h.other k (by omega)⟩
theorem Below.but (h : Below B w w') (g : Nat) : But B g w w' := ⟨h.os, h.tape, h.output, h.size, fun k hk _ => h.block k hk⟩
theorem Only.but (h : Only g w w') (B : Nat) : But B g w w' := ⟨h.os, h.tape, h.output, Nat.le_of_eq h.size.symm, fun k _ hk => h.other k hk⟩
theorem But.below (h : But B g w w') (hg : B ≤ g) : Below B w w' := ⟨h.os, h.tape, h.output, h.size, fun k hk => h.other k hk (by omega)⟩
theorem But.has (h : But B g w w') {k : Nat} {t : TypeId} {cs : Array Value} (hh : Has w k t cs) (hk : k < B) (hg : k ≠ g) : Has w' k t cs := (h.other k hk hg).trans hh
end
theorem OwnI.only {w w' : World} {base : Nat} {v : Value} {xs : List Int} (h : OwnI w base v xs) {g : Nat} {t : TypeId} {cs : Array Value} (hh : Has w g t cs) (ht : t ≠ 3) (ho : Only g w w') : OwnI w' base v xs :=
  h.kept1 hh ht ho.os ho.tape ho.output ho.size ho.other

/-- The loop's memory: the reader, the row that grows, the row that is handed out, the numbers so far. -/
structure LpS (B g : Nat) (R : TypeId) (s : ByteArray) (X Y : Nat) (T : TypeId) (zs : Array Value) (base : Nat) (w0 : World) (a : Int) (b : Bool) (cs : Array Value) (v : Value) (hs : List Int) (w : World) : Prop where
  old : But B g w0 w
  rd : Has w g R (rdC s a b)
  x : Has w X T cs
  res : Has w Y T zs
  own : OwnI w base v hs
  bs : base ≤ w.heap.size
section
variable {B g : Nat} {R : TypeId} {s : ByteArray} {X Y : Nat} {T : TypeId} {zs : Array Value} {base : Nat} {w0 : World} {a a' : Int} {b b' : Bool} {cs : Array Value} {v : Value} {hs : List Int} {w w' : World}
theorem LpS.below (h : LpS B g R s X Y T zs base w0 a b cs v hs w) (hB : B ≤ w0.heap.size) (hb : Below w.heap.size w w') : LpS B g R s X Y T zs base w0 a b cs v hs w' :=
  ⟨h.old.trans ((Below.but hb g).mono (by have := h.old.size; omega)), h.rd.below hb h.rd.lt, h.x.below hb h.x.lt, h.res.below hb h.res.lt, h.own.below hb, Nat.le_trans h.bs hb.size⟩
theorem LpS.next (h : LpS B g R s X Y T zs base w0 a b cs v hs w) (hR : R ≠ 3) (hX : X ≠ g) (hY : Y ≠ g) (hr : Has w' g R (rdC s a' b')) (ho : Only g w w') : LpS B g R s X Y T zs base w0 a' b' cs v hs w' :=
  ⟨h.old.trans (ho.but B), hr, ho.has h.x hX, ho.has h.res hY, h.own.only h.rd hR ho, by have := ho.size; have := h.bs; omega⟩
theorem LpS.set (h : LpS B g R s X Y T zs base w0 a b cs v hs w) (hXB : B ≤ X) (hT : T ≠ 3) (hX : X ≠ g) (hY : Y ≠ X) (i : Nat) (u : Value) : LpS B g R s X Y T zs base w0 a b (cs.setIfInBounds i u) v hs (w.setCell ⟨X, i, none⟩ u) :=
  ⟨h.old.trans ⟨rfl, rfl, rfl, by simp [World.setCell], fun k hk _ => heap_setCell_other _ _ _ _ (show k ≠ X by omega)⟩, h.rd.putFar (fun e => hX e.symm) _, h.x.put i u, h.res.putFar hY _, h.own.set h.x hT i u, by simpa [World.setCell] using h.bs⟩
theorem LpS.grown (h : LpS B g R s X Y T zs base w0 a b cs v hs w) (hT : T ≠ 3) (hg : w.grownBy w' v.ownBlock) : Has w' X T cs :=
  (hg.block X h.x.lt (fun e => (h.own.apart h.x hT) e.symm)).trans h.x
/-- The row that grows has a number more. -/
theorem LpS.put (h : LpS B g R s X Y T zs base w0 a b cs v hs w) {v' : Value} {hs' : List Int} (hB : B ≤ w0.heap.size) (hbB : B ≤ base) (hXB : B ≤ X) (hR : R ≠ 3) (hT : T ≠ 3) (hX : X ≠ g) (hY : Y ≠ X) (hg : w.grownBy w' v.ownBlock) (ho : OwnI w' base v' hs') (i : Nat) (u : Value) :
    LpS B g R s X Y T zs base w0 a b (cs.setIfInBounds i u) v' hs' (w'.setCell ⟨X, i, none⟩ u) := by
  have keep : ∀ {k : Nat} {t : TypeId} {c : Array Value}, Has w k t c → t ≠ 3 → Has w' k t c := fun {k t c} hh ht =>
    (hg.block k hh.lt (fun e => (h.own.apart hh ht) e.symm)).trans hh
  have hx := keep h.x hT
  refine ⟨h.old.trans ⟨hg.os, hg.tape, hg.output, by simpa [World.setCell] using hg.size, fun k hk hkg => ?_⟩, (keep h.rd hR).putFar (fun e => hX e.symm) _, hx.put i u, (keep h.res hT).putFar hY _, ho.set hx hT i u, by simpa [World.setCell] using Nat.le_trans h.bs hg.size⟩
  have h1 : (w'.setCell ⟨X, i, none⟩ u).heap[k]? = w'.heap[k]? := heap_setCell_other _ _ _ _ (show k ≠ X by omega)
  rw [h1]
  exact hg.block k (by have := h.old.size; omega) (fun e => by
    have := World.ownsRow.lt h.own k e.symm
    omega)
end

/-- A row of one number, in a block other than g. -/
def one1 (g : Nat) (x : Int) : Fact := fun v w => ∃ h : Nat, v = .slice (some ⟨h, 0, none⟩) 1 1 ∧ h ≠ g ∧ Has w h 3 #[.int .i64 x]
theorem step_one {D : List (Option Tmp)} {Φ : Fact} {o : Oper} {a : Act} {w : World} (hw : Region.wanted o (yieldD D a.tmps) = true) {t : Tmp} (hd : o.dst = some t) (x : Operand) (ho : o.op = .buildSlice 24 1 #[(0, x)]) (m : Int) (hx : a.eval x = .int .i64 m)
    (h : ∀ w', Below w.heap.size w w' → Has w' w.heap.size 3 #[.int .i64 m] → Φ (.slice (some ⟨w.heap.size, 0, none⟩) 1 1) w') : StepD Try.prog D Φ o a w := by
  refine step_val hw hd _ (w.alloc (.cells #[.int .i64 m] 3)) ?_ ((Below.refl _ _).alloc (Nat.le_refl _) _) (h _ ((Below.refl _ _).alloc (Nat.le_refl _) _) (Has.made _ _ _))
  unfold execOp
  rw [ho]
  simp only [List.map_toArray, List.map_cons, List.map_nil, hx]
  simp [go_sem]

def nr9D : List (Option Tmp) := [some 45, some 46, some 47, some 48, some 49, some 50, some 51, some 52, some 53, none]
def nr9F (g X : Nat) (A : Option Addr) (n c : Nat) (x : Int) : List Fact := [isV (.pointer (some ⟨X, 4, none⟩)), isV (.pointer (some ⟨X, 6, none⟩)), isV (.slice A n c), isV (.pointer (some ⟨g, 0, none⟩)), isV (.int .i64 x), one1 g x]
set_option maxRecDepth 100000 in
set_option maxHeartbeats 2000000 in
theorem nr9_any {B g : Nat} {s : ByteArray} {X Y : Nat} {zs : Array Value} {base : Nat} {w0 : World} {a0 a1 : Int} {b0 b1 : Bool} {cs : Array Value} {A : Option Addr} {n c : Nat} {hs : List Int} {x : Int} {t0 : Act} {wr : World}
    (size : t0.tmps.size = 56) (vx : t0.tmps.getD 4 undef = .pointer (some ⟨X, 0, none⟩)) (vg : t0.tmps.getD 0 undef = .pointer (some ⟨g, 0, none⟩))
    (S : LpS B g 74 s X Y 28 zs base w0 a0 b0 cs (.slice A n c) hs wr) (hB : B ≤ w0.heap.size) (hX : X ≠ g) (hY : Y ≠ g) (hc : cs[6]? = some (.slice A n c))
    (HN : ∀ w : World, Has w g 74 (rdC s a0 b0) → Calls Try.prog 21 #[.pointer (some ⟨g, 0, none⟩)] w fun en w' => en = .returned (.int .i64 x) ∧ Has w' g 74 (rdC s a1 b1) ∧ Only g w w')
    {Q : Exit → Act → World → Prop} {l : List Oper} (hl : opsOf 9 Try.f22 = l)
    (hend : ∀ (w : World) (h : Nat), LpS B g 74 s X Y 28 zs base w0 a1 b1 cs (.slice A n c) hs w → w.cell? ⟨h, 0, none⟩ = some (.int .i64 x) → wpList Try.prog l.toArray Q (l.drop 6) (putAll t0 [(45, .pointer (some ⟨X, 4, none⟩)), (46, .pointer (some ⟨X, 6, none⟩)), (47, .slice A n c), (48, .pointer (some ⟨g, 0, none⟩)), (49, .int .i64 x), (50, .slice (some ⟨h, 0, none⟩) 1 1)]) w) :
    (Code.region 9 l.toArray true).wp Try.prog Q t0 wr := by
  subst hl
  refine region_headK (fun w w' => But w.heap.size g w w') (fun b w => LpS B g 74 s X Y 28 zs base w0 (if b then a1 else a0) (if b then b1 else b0) cs (.slice A n c) hs w) 4 (nr9F g X A n c x) nr9D 6 56 size rfl (by kernel_rfl) (by kernel_rfl) (by kernel_rfl) (fun w => But.refl _ _ _) (by omega) (by simp only [Bool.false_eq_true, if_false]; exact S.below hB (Below.drew (Below.refl _ _))) ?_ ?_ ?_
  · intro f hf v w w' hk h
    simp only [nr9F, List.mem_cons, List.not_mem_nil, or_false] at hf
    rcases hf with rfl | rfl | rfl | rfl | rfl | rfl
    all_goals first | exact h | (obtain ⟨h, e, hg, hh⟩ := h; exact ⟨h, e, hg, hk.has hh hh.lt hg⟩)
  · simp only [opsOf, Try.f22, opsAt, Option.bind, Option.or, Option.getD, reduceCtorEq, if_true, if_false, Nat.reduceEqDiff, List.take_succ_cons, List.take_zero]
    refine ⟨?_, ?_⟩
    · intro a w b _hq hI hF hd
      refine StepD.toL ?_ (fun w2 b2 => Below.but b2 g) (fun w2 b2 => by simpa using hI.below hB b2)
      exact rf_faddr (guard_none rfl) rfl _ _ _ rfl _ _ 4 _ ((hF.other 4 rfl).trans vx) (by omega) (fun _ _ => by kernel_rfl) rfl
    refine ⟨?_, ?_⟩
    · intro a w b _hq hI hF hd
      refine StepD.toL ?_ (fun w2 b2 => Below.but b2 g) (fun w2 b2 => by simpa using hI.below hB b2)
      have h45 : a.tmps.getD 45 undef = .pointer (some ⟨X, 4, none⟩) := hd.1 rfl
      exact rf_faddr (guard_none rfl) rfl _ _ _ rfl _ _ 2 _ h45 (by omega) (fun _ _ => by kernel_rfl) rfl
    refine ⟨?_, ?_⟩
    · intro a w b _hq hI hF hd
      refine StepD.toL ?_ (fun w2 b2 => Below.but b2 g) (fun w2 b2 => by simpa using hI.below hB b2)
      have h46 : a.tmps.getD 46 undef = .pointer (some ⟨X, 6, none⟩) := hd.1 rfl
      exact rf_loadI (guard_none rfl) rfl _ rfl _ _ h46 ((hI.x.cell 6).trans hc) rfl
    refine ⟨?_, ?_⟩
    · intro a w b _hq hI hF hd
      refine StepD.toL ?_ (fun w2 b2 => Below.but b2 g) (fun w2 b2 => by simpa using hI.below hB b2)
      exact step_move (guard_none rfl) rfl _ rfl ((hF.other 0 rfl).trans vg)
    refine ⟨?_, ?_⟩
    · intro a w b hq hI hF hd
      obtain rfl := hq rfl
      simp only [Bool.false_eq_true, if_false] at hI
      have h48 : a.tmps.getD 48 undef = .pointer (some ⟨g, 0, none⟩) := hd.1 rfl
      refine stepL_call (guard_none rfl) rfl _ _ (rf_call_run Try.func21 (by kernel_rfl) (by kernel_rfl) _ _ rfl) ?_
      simp only [List.map_toArray, List.map_cons, List.map_nil, Act.eval, h48]
      refine (HN w hI.rd).mono ?_
      rintro e w1 ⟨rfl, hr, ho⟩
      exact ⟨_, rfl, ho.but _, by simpa using hI.next (by decide) hX hY hr ho, rfl⟩
    refine ⟨?_, ?_⟩
    · intro a w b _hq hI hF hd
      refine StepD.toL ?_ (fun w2 b2 => Below.but b2 g) (fun w2 b2 => by simpa using hI.below hB b2)
      have h49 : a.tmps.getD 49 undef = .int .i64 x := hd.1 rfl
      exact step_one (guard_none rfl) rfl _ rfl x h49 (fun w2 b2 hh => ⟨w.heap.size, rfl, by have := hI.rd.lt; omega, hh⟩)
    trivial
  · intro a w hI hF h
    simp only [if_true] at hI
    obtain ⟨h1, h50, _, hh⟩ : one1 g x (a.tmps.getD 50 undef) w := h 5 (some 50) (by omega) rfl
    have hv : valsAre a [(45, .pointer (some ⟨X, 4, none⟩)), (46, .pointer (some ⟨X, 6, none⟩)), (47, .slice A n c), (48, .pointer (some ⟨g, 0, none⟩)), (49, .int .i64 x), (50, .slice (some ⟨h1, 0, none⟩) 1 1)] := by
      refine ⟨?_, ?_, ?_, ?_, ?_, ?_, trivial⟩
      · exact h 0 (some 45) (by omega) rfl
      · exact h 1 (some 46) (by omega) rfl
      · exact h 2 (some 47) (by omega) rfl
      · exact h 3 (some 48) (by omega) rfl
      · exact h 4 (some 49) (by omega) rfl
      · exact h50
    rw [frame_is hF _ hv (by rfl) (by rfl)]
    exact hend w h1 hI (hh.cell 0)

def gr19D : List (Option Tmp) := [some 63, some 64, some 65, some 66, some 67, some 68, some 69, some 70, some 71, some 72, some 73, none]
def gr19F (g X : Nat) (A : Option Addr) (n c : Nat) (x : Int) : List Fact := [isV (.pointer (some ⟨X, 1, none⟩)), isV (.pointer (some ⟨X, 5, none⟩)), isV (.pointer (some ⟨X, 7, none⟩)), isV (.slice A n c), isV (.pointer (some ⟨g, 0, none⟩)), isV (.int .i64 x), one1 g x]
set_option maxRecDepth 100000 in
set_option maxHeartbeats 2000000 in
theorem gr19_any {B g : Nat} {s : ByteArray} {X Y : Nat} {zs : Array Value} {base : Nat} {w0 : World} {a0 a1 : Int} {b0 b1 : Bool} {cs : Array Value} {A : Option Addr} {n c : Nat} {hs : List Int} {x : Int} {t0 : Act} {wr : World}
    (size : t0.tmps.size = 120) (vx : t0.tmps.getD 5 undef = .pointer (some ⟨X, 0, none⟩)) (vg : t0.tmps.getD 4 undef = .pointer (some ⟨g, 0, none⟩))
    (S : LpS B g 64 s X Y 30 zs base w0 a0 b0 cs (.slice A n c) hs wr) (hB : B ≤ w0.heap.size) (hX : X ≠ g) (hY : Y ≠ g) (hc : cs[7]? = some (.slice A n c))
    (HN : ∀ w : World, Has w g 64 (rdC s a0 b0) → Calls Try.prog 24 #[.pointer (some ⟨g, 0, none⟩)] w fun en w' => en = .returned (.int .i64 x) ∧ Has w' g 64 (rdC s a1 b1) ∧ Only g w w')
    {Q : Exit → Act → World → Prop} {l : List Oper} (hl : opsOf 19 Try.f9 = l)
    (hend : ∀ (w : World) (h : Nat), LpS B g 64 s X Y 30 zs base w0 a1 b1 cs (.slice A n c) hs w → w.cell? ⟨h, 0, none⟩ = some (.int .i64 x) → wpList Try.prog l.toArray Q (l.drop 7) (putAll t0 [(63, .pointer (some ⟨X, 1, none⟩)), (64, .pointer (some ⟨X, 5, none⟩)), (65, .pointer (some ⟨X, 7, none⟩)), (66, .slice A n c), (67, .pointer (some ⟨g, 0, none⟩)), (68, .int .i64 x), (69, .slice (some ⟨h, 0, none⟩) 1 1)]) w) :
    (Code.region 19 l.toArray true).wp Try.prog Q t0 wr := by
  subst hl
  refine region_headK (fun w w' => But w.heap.size g w w') (fun b w => LpS B g 64 s X Y 30 zs base w0 (if b then a1 else a0) (if b then b1 else b0) cs (.slice A n c) hs w) 5 (gr19F g X A n c x) gr19D 7 120 size rfl (by kernel_rfl) (by kernel_rfl) (by kernel_rfl) (fun w => But.refl _ _ _) (by omega) (by simp only [Bool.false_eq_true, if_false]; exact S.below hB (Below.drew (Below.refl _ _))) ?_ ?_ ?_
  · intro f hf v w w' hk h
    simp only [gr19F, List.mem_cons, List.not_mem_nil, or_false] at hf
    rcases hf with rfl | rfl | rfl | rfl | rfl | rfl | rfl
    all_goals first | exact h | (obtain ⟨h, e, hg, hh⟩ := h; exact ⟨h, e, hg, hk.has hh hh.lt hg⟩)
  · simp only [opsOf, Try.f9, opsAt, Option.bind, Option.or, Option.getD, reduceCtorEq, if_true, if_false, Nat.reduceEqDiff, List.take_succ_cons, List.take_zero]
    refine ⟨?_, ?_⟩
    · intro a w b _hq hI hF hd
      refine StepD.toL ?_ (fun w2 b2 => Below.but b2 g) (fun w2 b2 => by simpa using hI.below hB b2)
      exact rf_faddr (guard_none rfl) rfl _ _ _ rfl _ _ 1 _ ((hF.other 5 rfl).trans vx) (by omega) (fun _ _ => by kernel_rfl) rfl
    refine ⟨?_, ?_⟩
    · intro a w b _hq hI hF hd
      refine StepD.toL ?_ (fun w2 b2 => Below.but b2 g) (fun w2 b2 => by simpa using hI.below hB b2)
      have h63 : a.tmps.getD 63 undef = .pointer (some ⟨X, 1, none⟩) := hd.1 rfl
      exact rf_faddr (guard_none rfl) rfl _ _ _ rfl _ _ 4 _ h63 (by omega) (fun _ _ => by kernel_rfl) rfl
    refine ⟨?_, ?_⟩
    · intro a w b _hq hI hF hd
      refine StepD.toL ?_ (fun w2 b2 => Below.but b2 g) (fun w2 b2 => by simpa using hI.below hB b2)
      have h64 : a.tmps.getD 64 undef = .pointer (some ⟨X, 5, none⟩) := hd.1 rfl
      exact rf_faddr (guard_none rfl) rfl _ _ _ rfl _ _ 2 _ h64 (by omega) (fun _ _ => by kernel_rfl) rfl
    refine ⟨?_, ?_⟩
    · intro a w b _hq hI hF hd
      refine StepD.toL ?_ (fun w2 b2 => Below.but b2 g) (fun w2 b2 => by simpa using hI.below hB b2)
      have h65 : a.tmps.getD 65 undef = .pointer (some ⟨X, 7, none⟩) := hd.1 rfl
      exact rf_loadI (guard_none rfl) rfl _ rfl _ _ h65 ((hI.x.cell 7).trans hc) rfl
    refine ⟨?_, ?_⟩
    · intro a w b _hq hI hF hd
      refine StepD.toL ?_ (fun w2 b2 => Below.but b2 g) (fun w2 b2 => by simpa using hI.below hB b2)
      exact step_move (guard_none rfl) rfl _ rfl ((hF.other 4 rfl).trans vg)
    refine ⟨?_, ?_⟩
    · intro a w b hq hI hF hd
      obtain rfl := hq rfl
      simp only [Bool.false_eq_true, if_false] at hI
      have h67 : a.tmps.getD 67 undef = .pointer (some ⟨g, 0, none⟩) := hd.1 rfl
      refine stepL_call (guard_none rfl) rfl _ _ (rf_call_run Try.func24 (by kernel_rfl) (by kernel_rfl) _ _ rfl) ?_
      simp only [List.map_toArray, List.map_cons, List.map_nil, Act.eval, h67]
      refine (HN w hI.rd).mono ?_
      rintro e w1 ⟨rfl, hr, ho⟩
      exact ⟨_, rfl, ho.but _, by simpa using hI.next (by decide) hX hY hr ho, rfl⟩
    refine ⟨?_, ?_⟩
    · intro a w b _hq hI hF hd
      refine StepD.toL ?_ (fun w2 b2 => Below.but b2 g) (fun w2 b2 => by simpa using hI.below hB b2)
      have h68 : a.tmps.getD 68 undef = .int .i64 x := hd.1 rfl
      exact step_one (guard_none rfl) rfl _ rfl x h68 (fun w2 b2 hh => ⟨w.heap.size, rfl, by have := hI.rd.lt; omega, hh⟩)
    trivial
  · intro a w hI hF h
    simp only [if_true] at hI
    obtain ⟨h1, h69, _, hh⟩ : one1 g x (a.tmps.getD 69 undef) w := h 6 (some 69) (by omega) rfl
    have hv : valsAre a [(63, .pointer (some ⟨X, 1, none⟩)), (64, .pointer (some ⟨X, 5, none⟩)), (65, .pointer (some ⟨X, 7, none⟩)), (66, .slice A n c), (67, .pointer (some ⟨g, 0, none⟩)), (68, .int .i64 x), (69, .slice (some ⟨h1, 0, none⟩) 1 1)] := by
      refine ⟨?_, ?_, ?_, ?_, ?_, ?_, ?_, trivial⟩
      · exact h 0 (some 63) (by omega) rfl
      · exact h 1 (some 64) (by omega) rfl
      · exact h 2 (some 65) (by omega) rfl
      · exact h 3 (some 66) (by omega) rfl
      · exact h 4 (some 67) (by omega) rfl
      · exact h 5 (some 68) (by omega) rfl
      · exact h69
    rw [frame_is hF _ hv (by rfl) (by rfl)]
    exact hend w h1 hI (hh.cell 0)

end Go.Proofs.Ytdbcmcdmipehgaa
