/-
  The scanner's read: its drawn region, in which a call grows the row that is handed out.
  Walk: the scanner's read.
  Walks: the scanner's Write, Close; scan.Load.
-/
import Derived.Test.YtoechlmahckchaaScTell
import Derived.Test.YtoechlmahckchaaG11i
import Derived.Test.YtoechlmahckchaaRf
namespace Go.Proofs.Ytoechlmahckchaa
open Go.RowKit

theorem tell_any (g : Nat) (l : List UInt8) (b base n c : Nat) (A : Option Addr) (os : List Po) (w : World) (hb : b ≤ 1073741823) (h : Has w g 58 (scC l b)) (ho : OwnO w base (.slice A n c) os) (hn : n ≤ 2000000000000) (hbase : base ≤ w.heap.size) :
    Calls Try.prog 32 #[.pointer (some ⟨g, 0, none⟩), .slice A n c] w fun e w' => TellO g 58 l base (.slice A n c) (os ++ tellB b) e w w' := by
  by_cases h0 : b = 0
  · subst h0
    have e : os ++ tellB 0 = os := by simp [tellB]
    rw [e]
    exact tell_none g l base n c A os w h ho
  · have e : tellB b = [badP b] := if_neg h0
    rw [e]
    exact tell_some g l b base n c A os w (by omega) hb h ho hn hbase

/-- What was there stays, but for block g and row v. -/
structure But2 (g : Nat) (v : Value) (w w' : World) : Prop where
  os : w'.os = w.os
  tape : w'.tape = w.tape
  output : w'.output = w.output
  size : w.heap.size ≤ w'.heap.size
  other : ∀ k, k < w.heap.size → k ≠ g → v.ownBlock ≠ some k → w'.heap[k]? = w.heap[k]?
section
variable {g : Nat} {v : Value} {w w' w'' : World}
theorem But2.refl (g : Nat) (v : Value) (w : World) : But2 g v w w := ⟨rfl, rfl, rfl, Nat.le_refl _, fun _ _ _ _ => rfl⟩
theorem But2.trans (h : But2 g v w w') (k : But2 g v w' w'') : But2 g v w w'' := ⟨k.os.trans h.os, k.tape.trans h.tape, k.output.trans h.output, Nat.le_trans h.size k.size, fun i hi hg hv => (k.other i (Nat.lt_of_lt_of_le hi h.size) hg hv).trans (h.other i hi hg hv)⟩
theorem below_but2 (h : Below w.heap.size w w') (g : Nat) (v : Value) : But2 g v w w' := ⟨h.os, h.tape, h.output, h.size, fun k hk _ _ => h.block k hk⟩
theorem But2.has (h : But2 g v w w') {k : Nat} {t : TypeId} {cs : Array Value} (hh : Has w k t cs) (hg : k ≠ g) (hv : v.ownBlock ≠ some k) : Has w' k t cs := (h.other k hh.lt hg hv).trans hh
theorem But2.grow (h : But2 g v w w') {w0 : World} (h0 : w0.grownBy w (some g)) (hv : ∀ k, v.ownBlock = some k → w0.heap.size ≤ k) : w0.grownBy w' (some g) :=
  ⟨h.os.trans h0.os, h.tape.trans h0.tape, h.output.trans h0.output, Nat.le_trans h0.size h.size, fun k hk hg => (h.other k (Nat.lt_of_lt_of_le hk h0.size) (fun e => hg (by rw [e])) (fun e => by have := hv k e; omega)).trans (h0.block k hk hg)⟩
end
/-- A row of operations; a row of one operation in a block behind B. -/
def rowF (base m : Nat) (os : List Po) : Fact := fun v w => ∃ (A : Option Addr) (c : Nat), v = .slice A m c ∧ OwnO w base (.slice A m c) os
def oneF (B : Nat) (o : Po) : Fact := fun v w => ∃ h : Nat, v = .slice (some ⟨h, 0, none⟩) 1 1 ∧ B ≤ h ∧ Has w h 49 (opC o)
theorem rowF_mono (base m : Nat) (os : List Po) : Mono (rowF base m os) := fun _ _ _ hb ⟨A, c, e, h⟩ => ⟨A, c, e, h.below hb⟩
theorem oneF_mono (B : Nat) (o : Po) : Mono (oneF B o) := fun _ _ _ hb ⟨h, e, hB, hh⟩ => ⟨h, e, hB, hh.below hb hh.lt⟩
theorem step_oneO {D : List (Option Tmp)} {Φ : Fact} {o : Oper} {a : Act} {w : World} (hw : Region.wanted o (yieldD D a.tmps) = true) {t : Tmp} (hd : o.dst = some t) (x : Operand) (ho : o.op = .buildSlice 34 1 #[(0, x)]) (y : Po) (hx : a.eval x = .agg #[.int .i64 y.k, .int .i64 y.so, .int .i64 y.se, .int .i64 y.ti, .int .i64 y.va])
    (h : ∀ w', Below w.heap.size w w' → Has w' w.heap.size 49 (opC y) → Φ (.slice (some ⟨w.heap.size, 0, none⟩) 1 1) w') : StepD Try.prog D Φ o a w := by
  refine step_val hw hd _ (w.alloc (.cells (opC y) 49)) ?_ ((Below.refl _ _).alloc (Nat.le_refl _) _) (h _ ((Below.refl _ _).alloc (Nat.le_refl _) _) (Has.made _ _ _))
  unfold execOp
  rw [ho]
  simp only [List.map_toArray, List.map_cons, List.map_nil, hx]
  simp [go_sem, opC]

/-- The memory of the region: one the scanner, the row, the operation that was found. -/
structure RdI (g y : Nat) (R : TypeId) (l : List UInt8) (b base : Nat) (v : Value) (os : List Po) (o : Po) (w0 : World) (b1 b2 : Bool) (w : World) : Prop where
  no2 : b2 = false
  sc : Has w g R (scC l (if b1 then 0 else b))
  op : Has w y 49 (opC o)
  but : But2 g v w0 w
  row : b1 = false → OwnO w base v os
def rd13D : List (Option Tmp) := [some 47, some 48, some 49, some 50, some 51, some 52, some 7]
def rd13F (B g : Nat) (A : Option Addr) (n c base m : Nat) (os : List Po) (o : Po) : List Fact := [isV (.pointer (some ⟨g, 0, none⟩)), isV (.slice A n c), rowF base m os, isV (.agg #[.int .i64 o.k, .int .i64 o.so, .int .i64 o.se, .int .i64 o.ti, .int .i64 o.va]), oneF B o]
set_option maxRecDepth 100000 in
set_option maxHeartbeats 2000000 in
theorem rd13_any {g y : Nat} {l : List UInt8} {b base n c m : Nat} {A : Option Addr} {os : List Po} {o : Po} {t0 : Act} {w0 : World}
    (size : t0.tmps.size = 65) (v0 : t0.tmps.getD 0 undef = .pointer (some ⟨g, 0, none⟩)) (v7 : t0.tmps.getD 7 undef = .slice A n c) (v10 : t0.tmps.getD 10 undef = .pointer (some ⟨y, 0, none⟩))
    (hb : b ≤ 1073741823) (hs : Has w0 g 58 (scC l b)) (ho : OwnO w0 base (.slice A n c) os) (hy : Has w0 y 49 (opC o)) (hne : (Value.slice A n c).ownBlock ≠ some y) (hn : n ≤ 2000000000000) (hbase : base ≤ w0.heap.size) (hm : (os ++ tellB b).length = m)
    {Q : Exit → Act → World → Prop} {ls : List Oper} (hl : opsOf 13 Try.f30 = ls)
    (hend : ∀ (w : World) (A1 : Option Addr) (c1 h : Nat), OwnO w base (.slice A1 m c1) (os ++ tellB b) → Ops w (some ⟨h, 0, none⟩) 1 [o] → Has w g 58 (scC l 0) → But2 g (.slice A n c) w0 w →
      wpList Try.prog ls.toArray Q (ls.drop 5) (putAll t0 [(47, .pointer (some ⟨g, 0, none⟩)), (48, .slice A n c), (49, .slice A1 m c1), (50, .agg #[.int .i64 o.k, .int .i64 o.so, .int .i64 o.se, .int .i64 o.ti, .int .i64 o.va]), (51, .slice (some ⟨h, 0, none⟩) 1 1)]) w) :
    (Code.region 13 ls.toArray true).wp Try.prog Q t0 w0 := by
  subst hl
  have hyg : y ≠ g := fun e => by subst e; exact has_types hy hs (by decide)
  have hvl : ∀ k, (Value.slice A n c).ownBlock = some k → k < w0.heap.size := fun k hk => (ho.lt hk).1
  refine region_headM (But2 g (.slice A n c)) (fun w w' => Below w.heap.size w w') (RdI g y 58 l b base (.slice A n c) os o w0) 2 1000 (rd13F w0.heap.size g A n c base m (os ++ tellB b) o) rd13D 5 65 size rfl (by kernel_rfl) (by kernel_rfl) (by kernel_rfl) (fun w => But2.refl _ _ _) (fun w => Below.refl _ _) (by omega) (by omega) (of_decide_eq_true (by kernel_rfl)) ?_ ?_ ?_ ?_ ?_ ?_ ?_
  · intro b1 b2 w w' h hb
    exact ⟨h.no2, h.sc.below hb h.sc.lt, h.op.below hb h.op.lt, h.but.trans (below_but2 hb _ _), fun e => (h.row e).below hb⟩
  · exact ⟨rfl, hs.drew, hy.drew, below_but2 (Below.drew (Below.refl _ _)) _ _, fun _ => ho.below (Below.drew (Below.refl _ _))⟩
  · unfold rd13F
    exact monos_cons (mono_isV _) (monos_cons (mono_isV _) (monos_cons (rowF_mono _ _ _) (monos_cons (mono_isV _) (monos_cons (oneF_mono _ _) monos_nil))))
  · intro j hj v w w' hk h
    match j, hj, h with
    | 0, _, h => exact h
    | 1, _, h => exact h
    | 2, hj, _ => exact absurd rfl hj
    | 3, _, h => exact h
    | 4, _, h =>
      obtain ⟨h1, e, hB, hh⟩ := h
      refine ⟨h1, e, hB, hk.has hh ?_ ?_⟩
      · have := hs.lt; omega
      · intro e2; have := hvl _ e2; omega
    | _ + 5, _, h => exact h
  · intro j _ v w w' hb h
    match j, h with
    | 0, h => exact h
    | 1, h => exact h
    | 2, h => exact rowF_mono _ _ _ v w w' hb h
    | 3, h => exact h
    | 4, h => exact oneF_mono _ _ v w w' hb h
    | _ + 5, h => exact h
  · simp only [opsOf, Try.f30, opsAt, Option.bind, Option.or, Option.getD, reduceCtorEq, if_true, if_false, Nat.reduceEqDiff, List.take_succ_cons, List.take_zero]
    refine ⟨?_, ?_⟩
    · intro a w b1 b2 _ _ hI hF hd
      refine askM_d (by decide) (by decide) ?_
      exact step_move (guard_none rfl) rfl _ rfl ((hF.other 0 rfl).trans v0)
    refine ⟨?_, ?_⟩
    · intro a w b1 b2 _ _ hI hF hd
      refine askM_d (by decide) (by decide) ?_
      exact step_move (guard_none rfl) rfl _ rfl ((hF.other 7 rfl).trans v7)
    refine ⟨?_, ?_⟩
    · intro a w b1 b2 h1 _ hI hF hd
      refine askM_1 rfl ?_
      obtain ⟨rfl, rfl⟩ := h1 rfl
      have h47 : a.tmps.getD 47 undef = .pointer (some ⟨g, 0, none⟩) := hd.1 rfl
      have h48 : a.tmps.getD 48 undef = .slice A n c := hd.2.1 rfl
      refine stepL_call (guard_none rfl) rfl _ _ (rf_call_run Try.func32 (by kernel_rfl) (by kernel_rfl) _ _ rfl) ?_
      simp only [List.map_toArray, List.map_cons, List.map_nil, Act.eval, h47, h48]
      refine (tell_any g l b base n c A os w hb hI.sc (hI.row rfl) hn (Nat.le_trans hbase hI.but.size)).mono ?_
      rintro e w1 ⟨A1, c1, rfl, hown, hsc, hoth, hsz, hos, htp, hou⟩
      have hB2 : But2 g (.slice A n c) w w1 := ⟨hos, htp, hou, hsz, hoth⟩
      rw [hm] at hown
      exact ⟨_, rfl, hB2, ⟨rfl, hsc, hB2.has hI.op hyg hne, hI.but.trans hB2, fun h => by cases h⟩, ⟨A1, c1, by rw [hm], hown⟩⟩
    refine ⟨?_, ?_⟩
    · intro a w b1 b2 _ _ hI hF hd
      refine askM_d (by decide) (by decide) ?_
      exact rf_loadS (guard_none rfl) rfl _ _ rfl _ _ ((hF.other 10 rfl).trans v10) (opC o).toList (rf_range hI.op) Try.underlying49 rfl Try.sizeOp rfl
    refine ⟨?_, ?_⟩
    · intro a w b1 b2 _ _ hI hF hd
      refine askM_d (by decide) (by decide) ?_
      have h50 : a.tmps.getD 50 undef = .agg #[.int .i64 o.k, .int .i64 o.so, .int .i64 o.se, .int .i64 o.ti, .int .i64 o.va] := hd.1 rfl
      exact step_oneO (guard_none rfl) rfl _ rfl o h50 (fun w2 b2 hh => ⟨w.heap.size, rfl, hI.but.size, hh⟩)
    trivial
  · intro a w hI hF h
    obtain ⟨A1, c1, h49, hown⟩ : rowF base m (os ++ tellB b) (a.tmps.getD 49 undef) w := h 2 (some 49) (by omega) rfl
    obtain ⟨h1, h51, _, hh⟩ : oneF w0.heap.size o (a.tmps.getD 51 undef) w := h 4 (some 51) (by omega) rfl
    have hv : valsAre a [(47, .pointer (some ⟨g, 0, none⟩)), (48, .slice A n c), (49, .slice A1 m c1), (50, .agg #[.int .i64 o.k, .int .i64 o.so, .int .i64 o.se, .int .i64 o.ti, .int .i64 o.va]), (51, .slice (some ⟨h1, 0, none⟩) 1 1)] := by
      refine ⟨?_, ?_, ?_, ?_, ?_, trivial⟩
      · exact h 0 (some 47) (by omega) rfl
      · exact h 1 (some 48) (by omega) rfl
      · exact h49
      · exact h 3 (some 50) (by omega) rfl
      · exact h51
    rw [frame_is hF _ hv (by rfl) (by rfl)]
    exact hend w A1 c1 h1 hown (Ops.one hh rfl) hI.sc hI.but

end Go.Proofs.Ytoechlmahckchaa

namespace Go.Proofs.Ytoechlmahckchaa
open Go.RowKit

theorem look_kinds {l : List UInt8} {st : Nat} {o : Po} {k : Nat} (h : lookL l = (st, o, k)) : (st = 2 ∧ l.length ≤ 63) ∨ (st = 0 ∧ l ≠ []) ∨ (st = 1 ∧ MayP o ∧ 5 ≤ k ∧ k ≤ l.length ∧ k = (frameO o).length ∧ ∃ t, l = frameO o ++ t) := by
  rcases look_cases l with ⟨h1, h2⟩ | ⟨h1, h2, _⟩ | ⟨o', t, hM, e, h1, _⟩
  · rw [h] at h1
    injection h1 with h1
    exact .inl ⟨h1, h2⟩
  · rw [h] at h1
    injection h1 with h1
    exact .inr (.inl ⟨h1, h2⟩)
  · rw [h] at h1
    injection h1 with h1 h3
    injection h3 with h3 h4
    subst h3 h4
    have := frameO_len hM
    exact .inr (.inr ⟨h1, hM, this.1, by rw [e]; simp, rfl, t, e⟩)

/-- What a call that reads on leaves: the row that it hands out, the scanner. -/
def WroteO (g : Nat) (R : TypeId) (os : List Po) (r : List UInt8) (b : Nat) (e : Ending) (w w' : World) : Prop :=
  ∃ A c, e = .returned (.slice A os.length c) ∧ OwnO w' w.heap.size (.slice A os.length c) os ∧ Has w' g R (scC r b) ∧ w.grownBy w' (some g)
/-- The memory at the loop's head. -/
structure RdS (g : Nat) (R : TypeId) (L : List UInt8) (last : Bool) (b0 : Nat) (wt : List UInt8) (w0 : World) (j : Nat) (A : Option Addr) (n c b : Nat) (os : List Po) (wr : World) : Prop where
  sc : Has wr g R (scC wt b)
  own : OwnO wr w0.heap.size (.slice A n c) os
  gr : w0.grownBy wr (some g)
  bd : b ≤ 1073741823
  run : runL last L b0 = (os ++ (runL last (L.drop j) b).1, (runL last (L.drop j) b).2)
section
variable {g : Nat} {R : TypeId} {L : List UInt8} {last : Bool} {b0 : Nat} {wt : List UInt8} {w0 : World} {j : Nat} {A : Option Addr} {n c b : Nat} {os : List Po} {wr w' : World}
theorem RdS.below (h : RdS g R L last b0 wt w0 j A n c b os wr) (hb : Below wr.heap.size wr w') : RdS g R L last b0 wt w0 j A n c b os w' :=
  ⟨h.sc.below hb h.sc.lt, h.own.below hb, grow_trans h.gr (below_grow hb none) (by simp), h.bd, h.run⟩
theorem RdS.room (h : RdS g R L last b0 wt w0 j A n c b os wr) (hb : b0 ≤ 1073741823) : n ≤ 2 * L.length := by
  have h1 := (runL_fits last L.length L b0 (Nat.le_refl _) hb).2.2.2.1
  rw [h.run, List.length_append] at h1
  have := h.own.slice.1
  omega
theorem RdS.none (h : RdS g R L last b0 wt w0 j A n c b os wr) (hR : R ≠ 49) {st k : Nat} {o : Po} (hl : lookL (L.drop j) = (st, o, k)) (hj : j < L.length) (hs : st = 0 ∨ (st = 2 ∧ last = true)) {u : Int} (hu : u = (upB b : Nat)) :
    RdS g R L last b0 wt w0 (j + 1) A n c (upB b) os (wr.setCell ⟨g, 1, none⟩ (.int .i64 u)) := by
  subst hu
  have e : L.drop j = L[j] :: L.drop (j + 1) := List.drop_eq_getElem_cons hj
  rw [e] at hl
  have hx := runL_none (b := b) hl hs
  refine ⟨h.sc.put 1 _, h.own.grow (row := some g) ?_ (.inr (h.own.apart h.sc hR)), grow_set h.gr (.inl rfl) _ rfl _, by unfold upB; omega, ?_⟩
  · exact grow_set (grow_refl _ _) (.inl rfl) _ rfl _
  · rw [h.run, e, hx]
theorem RdS.cut (h : RdS g R L false b0 wt w0 j A n c b os wr) {k : Nat} {o : Po} (hl : lookL (L.drop j) = (2, o, k)) : runL false L b0 = (os, L.drop j, b) := by
  rw [h.run, runL_cut hl, List.append_nil]
theorem RdS.stop (h : RdS g R L last b0 wt w0 j A n c b os wr) (hj : L.length ≤ j) : runL last L b0 = (os, [], b) := by
  rw [h.run, List.drop_eq_nil_of_le hj, runL_nil, List.append_nil]
theorem RdS.op (h : RdS g R L last b0 wt w0 j A n c b os wr) {k : Nat} {o : Po} (hl : lookL (L.drop j) = (1, o, k)) (hk : 1 ≤ k) {A2 : Option Addr} {n2 c2 : Nat} (hs : Has w' g R (scC wt 0)) (ho : OwnO w' w0.heap.size (.slice A2 n2 c2) ((os ++ tellB b) ++ [o])) (hg : w0.grownBy w' (some g)) :
    RdS g R L last b0 wt w0 (j + k) A2 n2 c2 0 ((os ++ tellB b) ++ [o]) w' := by
  refine ⟨hs, ho, hg, by omega, ?_⟩
  rw [h.run, runL_op hl hk, List.drop_drop]
  simp
end

set_option maxRecDepth 100000 in
set_option maxHeartbeats 4000000 in
theorem sread_any (g : Nat) (s : ByteArray) (last : Bool) (l : List UInt8) (b0 : Nat) (w : World) (h : Has w g 58 (scC l b0)) (hs : s.size ≤ 1000000000000) (hb : b0 ≤ 1073741823) (os : List Po) (r : List UInt8) (b : Nat) (hr : runL last s.data.toList b0 = (os, r, b)) :
    Calls Try.prog 30 #[.pointer (some ⟨g, 0, none⟩), .string s, .bool last] w fun e w' => WroteO g 58 os r b e w w' := by
  have c0 : w.cell? ⟨g, 0, none⟩ = some (.string (txt l)) := h.cell 0
  have m0 := h.mark 0
  have HR := Lib.hid hr; clear hr
  have hL : s.data.toList.length = s.size := by simp
  have HS : Hid (RdS g 58 s.data.toList last b0 [] w 0 none 0 0 b0 [] (w.setCell ⟨g, 0, none⟩ (.string ⟨#[]⟩))) :=
    Lib.hid ⟨h.put 0 _, OwnO.nil _ _, grow_set (grow_refl _ _) (.inl rfl) _ rfl _, hb, by simp⟩
  generalize txt l = t at c0
  clear h
  go_enter Try.func30, Try.ntmps30
  go_wp2_with fail
  go_loopw [7, 8] (fun v i wr => ∃ (j : Nat) (A : Option Addr) (n c b : Nat) (os : List Po), j ≤ s.size ∧ v = .slice A n c ∧ i = .int .i64 j ∧ Hid (RdS g 58 s.data.toList last b0 [] w j A n c b os wr)) (fun _ i _ => s.size - (intOf i).toNat)
  case atStart => exact ⟨0, none, 0, 0, b0, [], Nat.zero_le _, rfl, rfl, HS⟩
  case round =>
    clear HS
    obtain ⟨j, A, n, c, b1, os1, hj, rfl, rfl, HS⟩ := hrel
    by_cases hlt : j < s.size
    · have hjn : (j : Int) < (s.size : Int) := by omega
      obtain ⟨st, o, k, hk⟩ : ∃ st o k, lookL (s.data.toList.drop j) = (st, o, k) := ⟨_, _, _, rfl⟩
      obtain ⟨z, hz⟩ : ∃ z : Int, z = if st = 1 then ((j + k : Nat) : Int) else 0 := ⟨_, rfl⟩
      have HL := Lib.hid (fun w : World => look_any s j w hs hj st o k z hk hz)
      have hkind := look_kinds hk
      have HK := Lib.hid hk; clear hk
      have HZ := Lib.hid hz; clear hz
      rcases hkind with ⟨rfl, _⟩ | ⟨rfl, _⟩ | ⟨rfl, _, hk5, hkl, _⟩
      · cases last with
        | false =>
          have HL2 : Hid (∀ w : World, Calls Try.prog 38 #[.string s, .int .i64 j] w fun e w' => LookO 2 o z e w w') := HL
          clear HL
          have hsz : (s.extract j s.size).size ≤ 281474976710656 := by rw [ByteArray.size_extract]; omega
          have HCL := Lib.hid (fun w : World => clone_any (s.extract j s.size) w hsz)
          have HF : Hid (os1 = os ∧ s.data.toList.drop j = r ∧ b1 = b) := Lib.hid (by
            have h1 := HS.out.cut HK.out
            rw [HR.out] at h1
            simp only [Prod.mk.injEq] at h1
            exact ⟨h1.1.symm, h1.2.1.symm, h1.2.2.symm⟩)
          have HX : Hid (s.extract j s.size = txt (s.data.toList.drop j)) := Lib.hid (txt_drop s j)
          have HW : Hid (∀ w2 : World, Below wr.heap.size wr w2 → WroteO g 58 os r b (.returned (.slice A n c)) w (w2.setCell ⟨g, 0, none⟩ (.string (s.extract j s.size)))) := Lib.hid (fun w2 hb2 => by
            have S2 := HS.out.below hb2
            have hl := S2.own.slice.1
            obtain ⟨e1, e2, e3⟩ := HF.out
            subst e1 e2 e3
            refine ⟨A, c, by rw [hl], ?_, ?_, grow_set S2.gr (.inl rfl) _ rfl _⟩
            · rw [hl]
              exact S2.own.grow (row := some g) (grow_set (grow_refl _ _) (.inl rfl) _ rfl _) (.inr (S2.own.apart S2.sc (by decide)))
            · have := S2.sc.put 0 (.string (s.extract j s.size))
              rw [HX.out] at this ⊢
              exact this)
          have HC : Hid (∀ w2 : World, Below wr.heap.size wr w2 → w2.cell? ⟨g, 0, none⟩ = some (.string (txt [])) ∧ w2.frozen? ⟨g, 0, none⟩ = false) := Lib.hid (fun w2 hb2 => ⟨(HS.out.sc.below hb2 HS.out.sc.lt).cell 0, (HS.out.sc.below hb2 HS.out.sc.lt).mark 0⟩)
          clear HS HK HZ HX HF HR hsz
          go_wp2_with fail
          refine (HL2.out _).mono ?_; rintro e w1 ⟨rfl, hb1⟩
          have hb3 : Below wr.heap.size wr (w1.alloc (.cells #[.int .i64 o.k, .int .i64 o.so, .int .i64 o.se, .int .i64 o.ti, .int .i64 o.va] 49)) := hb1.alloc hb1.size _
          clear hb1
          go_wp2_with fail
          refine (HCL.out _).mono ?_; rintro e w2 ⟨rfl, hb2⟩
          have hb4 := hb3.trans (hb2.mono hb3.size)
          obtain ⟨c1, m1⟩ := HC.out w2 hb4
          clear hb3 hb2 HC
          go_wp2_with fail
          go_ret
          exact HW.out w2 hb4
        | true =>
          have HL2 : Hid (∀ w : World, Calls Try.prog 38 #[.string s, .int .i64 j] w fun e w' => LookO 2 o z e w w') := HL
          clear HL
          have hbd := HS.out.bd
          have HN : Hid (∀ (w1 : World) (u : Int), Below wr.heap.size wr w1 → u = (upB b1 : Nat) → RdS g 58 s.data.toList true b0 [] w (j + 1) A n c (upB b1) os1 (w1.setCell ⟨g, 1, none⟩ (.int .i64 u))) := Lib.hid (fun w1 u hb1 hu => (HS.out.below hb1).none (by decide) HK.out (by omega) (.inr ⟨rfl, rfl⟩) hu)
          have HC : Hid (∀ w1 : World, Below wr.heap.size wr w1 → (∀ ob, (w1.alloc ob).cell? ⟨g, 1, none⟩ = some (.int .i64 b1)) ∧ ∀ ob, (w1.alloc ob).frozen? ⟨g, 1, none⟩ = false) := Lib.hid (fun w1 hb1 => ⟨fun ob => ((HS.out.sc.below hb1 HS.out.sc.lt).alloc ob).cell 1, fun ob => ((HS.out.sc.below hb1 HS.out.sc.lt).alloc ob).mark 1⟩)
          clear HS HK HZ
          go_wp2_with fail
          refine (HL2.out _).mono ?_; rintro e w1 ⟨rfl, hb1⟩
          obtain ⟨c1, m1⟩ := HC.out w1 hb1
          have HN2 := Lib.hid (fun u hu => HN.out (w1.alloc (.cells #[.int .i64 o.k, .int .i64 o.so, .int .i64 o.se, .int .i64 o.ti, .int .i64 o.va] 49)) u (hb1.alloc hb1.size _) hu)
          clear HN HC hb1
          have h3 : (b1 : Int) + 1 < 1073741823 ∨ (b1 : Int) + 1 = 1073741823 ∨ 1073741823 < (b1 : Int) + 1 := by omega
          rcases h3 with h3 | h3 | h3
          all_goals
            have HU : Hid (_ = ((upB b1 : Nat) : Int)) := Lib.hid (by first | exact (show (b1 : Int) + 1 = ((upB b1 : Nat) : Int) by unfold upB; omega) | exact (show (1073741823 : Int) = ((upB b1 : Nat) : Int) by unfold upB; omega))
            go_wp2_with fail
            go_roundw
            case rel => exact ⟨j + 1, A, n, c, upB b1, os1, by omega, rfl, by go_num, Lib.hid (HN2.out _ (by unfold upB; omega))⟩
            case measure => simp [intOf]; omega
      · skip
        have HL2 : Hid (∀ w : World, Calls Try.prog 38 #[.string s, .int .i64 j] w fun e w' => LookO 0 o z e w w') := HL
        clear HL
        have hbd := HS.out.bd
        have HN : Hid (∀ (w1 : World) (u : Int), Below wr.heap.size wr w1 → u = (upB b1 : Nat) → RdS g 58 s.data.toList last b0 [] w (j + 1) A n c (upB b1) os1 (w1.setCell ⟨g, 1, none⟩ (.int .i64 u))) := Lib.hid (fun w1 u hb1 hu => (HS.out.below hb1).none (by decide) HK.out (by omega) (.inl rfl) hu)
        have HC : Hid (∀ w1 : World, Below wr.heap.size wr w1 → (∀ ob, (w1.alloc ob).cell? ⟨g, 1, none⟩ = some (.int .i64 b1)) ∧ ∀ ob, (w1.alloc ob).frozen? ⟨g, 1, none⟩ = false) := Lib.hid (fun w1 hb1 => ⟨fun ob => ((HS.out.sc.below hb1 HS.out.sc.lt).alloc ob).cell 1, fun ob => ((HS.out.sc.below hb1 HS.out.sc.lt).alloc ob).mark 1⟩)
        clear HS HK HZ
        go_wp2_with fail
        refine (HL2.out _).mono ?_; rintro e w1 ⟨rfl, hb1⟩
        obtain ⟨c1, m1⟩ := HC.out w1 hb1
        have HN2 := Lib.hid (fun u hu => HN.out (w1.alloc (.cells #[.int .i64 o.k, .int .i64 o.so, .int .i64 o.se, .int .i64 o.ti, .int .i64 o.va] 49)) u (hb1.alloc hb1.size _) hu)
        clear HN HC hb1
        have h3 : (b1 : Int) + 1 < 1073741823 ∨ (b1 : Int) + 1 = 1073741823 ∨ 1073741823 < (b1 : Int) + 1 := by omega
        rcases h3 with h3 | h3 | h3
        all_goals
          have HU : Hid (_ = ((upB b1 : Nat) : Int)) := Lib.hid (by first | exact (show (b1 : Int) + 1 = ((upB b1 : Nat) : Int) by unfold upB; omega) | exact (show (1073741823 : Int) = ((upB b1 : Nat) : Int) by unfold upB; omega))
          go_wp2_with fail
          go_roundw
          case rel => exact ⟨j + 1, A, n, c, upB b1, os1, by omega, rfl, by go_num, Lib.hid (HN2.out _ (by unfold upB; omega))⟩
          case measure => simp [intOf]; omega
      · have HL2 : Hid (∀ w : World, Calls Try.prog 38 #[.string s, .int .i64 j] w fun e w' => LookO 1 o z e w w') := HL
        clear HL
        have hz2 : z = ((j + k : Nat) : Int) := HZ.out
        clear HZ
        subst hz2
        have hjk : j + k ≤ s.size := by rw [List.length_drop, hL] at hkl; omega
        have hbd := HS.out.bd
        have hroom := HS.out.room hb
        rw [hL] at hroom
        have hlen : (os1 ++ tellB b1).length ≤ n + 1 := by
          have h1 : (tellB b1).length ≤ 1 := by unfold tellB; split <;> simp
          rw [List.length_append, HS.out.own.slice.1]; omega
        obtain ⟨m, hm⟩ : ∃ m, (os1 ++ tellB b1).length = m := ⟨_, rfl⟩
        have hml : m ≤ n + 1 := by omega
        go_wp2_with fail
        refine (HL2.out _).mono ?_; rintro e w1 ⟨rfl, hb1⟩
        have S1 := HS.out.below hb1
        have hy := Has.made w1 49 (opC o)
        have hv : ∀ kk, (Value.slice A n c).ownBlock = some kk → kk < w1.heap.size := fun kk hkk => (S1.own.lt hkk).1
        have S2 := S1.below (w' := w1.alloc (.cells (opC o) 49)) ((Below.refl _ _).alloc (Nat.le_refl _) _)
        have HP := Lib.hid (And.intro S2 (And.intro hy hv))
        clear HL2 S1 hy hv S2 HS hb1 HR
        go_upto_region 13 with fail
        refine rd13_any (g := g) (y := w1.heap.size) (l := []) (b := b1) (base := w.heap.size) (n := n) (c := c) (m := m) (A := A) (os := os1) (o := o) rfl rfl rfl rfl hbd HP.out.1.sc HP.out.1.own HP.out.2.1 (fun e => by have := HP.out.2.2 _ e; omega) (by omega) HP.out.1.gr.size hm rfl ?_
        intro w5 A1 c1 h1 hown hone hsc hbut
        have hbs : w.heap.size ≤ w5.heap.size := Nat.le_trans HP.out.1.gr.size hbut.size
        have hgr : w.grownBy w5 (some g) := hbut.grow HP.out.1.gr (fun kk hkk => (HP.out.1.own.lt hkk).2)
        have HQ : Hid (∀ (w6 : World) (A2 : Option Addr) (c2 : Nat), OwnO w6 w.heap.size (.slice A2 (m + 1) c2) ((os1 ++ tellB b1) ++ [o]) → w5.grownBy w6 (Value.slice A1 m c1).ownBlock → RdS g 58 s.data.toList last b0 [] w (j + k) A2 (m + 1) c2 0 ((os1 ++ tellB b1) ++ [o]) w6) := Lib.hid (fun w6 A2 c2 ho hg => HP.out.1.op HK.out (by omega) (hsc.grow hg (hown.apart hsc (by decide))) ho (grow_trans hgr hg (fun kk hkk => .inr (hown.lt hkk).2)))
        clear HP hbut hgr hsc
        have HO := Lib.hid (And.intro hown hone)
        clear hown hone
        simp only [putAll, Act.put, List.setIfInBounds_toArray, List.set_cons_succ, List.set_cons_zero, List.drop_succ_cons, List.drop_zero]
        refine app_ops rfl _ _ rfl rfl HO.out.1 rfl HO.out.2 (fun h => by cases h) (by omega) hbs (fun A2 c2 w6 g1 g2 _ => ?_)
        have HE := Lib.hid (HQ.out w6 A2 c2 g1 g2)
        clear g1 g2 HQ HO
        go_wp2_with fail
        go_roundw
        case rel => exact ⟨j + k, A2, m + 1, c2, 0, (os1 ++ tellB b1) ++ [o], hjk, rfl, by go_num, HE⟩
        case measure => simp [intOf]; omega
    · have HF : Hid (os1 = os ∧ [] = r ∧ b1 = b) := Lib.hid (by
        have h1 := HS.out.stop (by omega)
        rw [HR.out] at h1
        simp only [Prod.mk.injEq] at h1
        exact ⟨h1.1.symm, h1.2.1.symm, h1.2.2.symm⟩)
      have hjn : ¬ (j : Int) < (s.size : Int) := by omega
      go_wp2_with fail
      go_ret
      obtain ⟨e1, e2, e3⟩ := HF.out
      subst e1 e2 e3
      have hl := HS.out.own.slice.1
      exact ⟨A, c, by rw [hl]; rfl, by rw [hl]; exact HS.out.own, HS.out.sc, HS.out.gr⟩

end Go.Proofs.Ytoechlmahckchaa

namespace Go.Proofs.Ytoechlmahckchaa
open Go.RowKit

set_option maxRecDepth 100000 in
set_option maxHeartbeats 1000000 in
theorem swrite_any (g : Nat) (l : List UInt8) (b0 : Nat) (s : ByteArray) (w : World) (h : Has w g 58 (scC l b0)) (hs : l.length + s.size ≤ 1000000000000) (hb : b0 ≤ 1073741823) (os : List Po) (r : List UInt8) (b : Nat) (hr : runL false (l ++ s.data.toList) b0 = (os, r, b)) :
    Calls Try.prog 13 #[.pointer (some ⟨g, 0, none⟩), .string s] w fun e w' => WroteO g 58 os r b e w w' := by
  have c0 : w.cell? ⟨g, 0, none⟩ = some (.string (txt l)) := h.cell 0
  have hsz := txt_size l
  have hcat : (txt l ++ s).data.toList = l ++ s.data.toList := by rw [txt_cat]; rfl
  have hcs : (txt l ++ s).size ≤ 1000000000000 := by rw [ByteArray.size_append]; omega
  have HR := Lib.hid (sread_any g (txt l ++ s) false l b0 w h hcs hb os r b (by rw [hcat]; exact hr))
  clear h hr hcat
  generalize txt l = t at c0 HR hsz hcs
  go_enter Try.func13, Try.ntmps13
  go_wp2_with fail
  refine (HR.out).mono ?_; rintro e w1 ⟨A, c, rfl, h1, h2, h3⟩
  go_wp2_with fail
  go_ret
  exact ⟨A, c, rfl, h1, h2, h3⟩

set_option maxRecDepth 100000 in
set_option maxHeartbeats 1000000 in
theorem sclose_any (g : Nat) (l : List UInt8) (b0 : Nat) (w : World) (h : Has w g 58 (scC l b0)) (hs : l.length ≤ 1000000000000) (hb : b0 ≤ 1073741823) (os : List Po) (hr : allL l b0 = os) :
    Calls Try.prog 19 #[.pointer (some ⟨g, 0, none⟩)] w fun e w' => WroteO g 58 os [] 0 e w w' := by
  have c0 : w.cell? ⟨g, 0, none⟩ = some (.string (txt l)) := h.cell 0
  have hsz := txt_size l
  obtain ⟨os1, r1, b1, h1⟩ : ∃ os1 r1 b1, runL true l b0 = (os1, r1, b1) := ⟨_, _, _, rfl⟩
  have hf := runL_fits true l.length l b0 (Nat.le_refl _) hb
  rw [h1] at hf
  have hr1 : r1 = [] := hf.2.1 rfl
  subst hr1
  have hb1 : b1 ≤ 1073741823 := hf.2.2.1
  have hl1 : os1.length ≤ 2000000000000 := by have := hf.2.2.2.1; simp only at this; omega
  have he := Lib.hid (show os1 ++ tellB b1 = os by unfold allL at hr; rw [h1] at hr; exact hr)
  have HR := Lib.hid (sread_any g (txt l) true l b0 w h (by omega) hb os1 [] b1 h1)
  clear h hr hf h1
  generalize txt l = t at c0 HR hsz
  go_enter Try.func19, Try.ntmps19
  go_wp2_with fail
  refine (HR.out).mono ?_; rintro e w1 ⟨A, c, rfl, h1, h2, h3⟩
  have hbs := h3.size
  have HT1 := tell_any g [] b1 w.heap.size os1.length c A os1 w1 hb1 h2 h1 hl1 hbs
  rw [he.out] at HT1
  have HT := Lib.hid HT1
  clear HT1
  have HG := Lib.hid (And.intro h1 h3)
  clear h1 h2 h3 HR
  go_wp2_with fail
  refine (HT.out).mono ?_; rintro e w2 ⟨A2, c2, rfl, k1, k2, k3, k4, k5, k6, k7⟩
  have hB : But2 g (.slice A os1.length c) w1 w2 := ⟨k5, k6, k7, k4, k3⟩
  have HE : Hid (WroteO g 58 os [] 0 (.returned (.slice A2 os.length c2)) w w2) := Lib.hid (by
    exact ⟨A2, c2, rfl, k1, k2, hB.grow HG.out.2 (fun kk hkk => (HG.out.1.lt hkk).2)⟩)
  clear k1 k2 k3 k4 k5 k6 k7 hB HT HG
  go_wp2_with fail
  go_ret
  exact HE.out

/-- May these be loaded? -/
def LoadOk (s : ByteArray) (bad : Int) : Prop := (0 ≤ bad ∧ bad ≤ 1073741823) ∧ (lookL s.data.toList).1 = 2
instance (s : ByteArray) (bad : Int) : Decidable (LoadOk s bad) := by unfold LoadOk; infer_instance
set_option maxRecDepth 100000 in
set_option maxHeartbeats 1000000 in
theorem sload_bad (s : ByteArray) (bad : Int) (w : World) (hs : s.size ≤ 1000000000000) (h : ¬ LoadOk s bad) :
    Calls Try.prog 10 #[.string s, .int .i64 bad] w fun e w' => e = .returned (.tuple #[.pointer none, .int .i64 1100]) ∧ Below w.heap.size w w' := by
  obtain ⟨st, o, k, hk⟩ : ∃ st o k, lookL s.data.toList = (st, o, k) := ⟨_, _, _, rfl⟩
  by_cases hw : 0 ≤ bad ∧ bad ≤ 1073741823
  · have hst : ((st : Int) == 2) = false := by
      have h2 : ¬ (lookL s.data.toList).1 = 2 := fun e => h ⟨hw, e⟩
      rw [hk] at h2
      have : ¬ st = 2 := h2
      simp; omega
    have HM := Lib.hid (fun w : World => maywait_any s w hs st o k hk false hst)
    have HW := Lib.hid (fun w : World => fwithin_yes bad 0 1073741823 w hw.1 hw.2)
    clear hk hst h hw
    go_enter Try.func10, Try.ntmps10
    go_wp2_with (go_at_call 26; refine (HW.out _).mono ?_; rintro e w' ⟨rfl, rfl⟩)
    refine (HM.out _).mono ?_; rintro e w1 ⟨rfl, b1⟩
    go_wp2_with fail
    go_ret2
    exact ⟨rfl, b1⟩
  · have HW := Lib.hid (fun w : World => fwithin_no bad 0 1073741823 w (by omega))
    clear hk h hw
    go_enter Try.func10, Try.ntmps10
    go_wp2_with (go_at_call 26; refine (HW.out _).mono ?_; rintro e w' ⟨rfl, rfl⟩)
    go_ret2
    exact ⟨rfl, Below.refl _ _⟩
set_option maxRecDepth 100000 in
set_option maxHeartbeats 1000000 in
theorem sload_ok (s : ByteArray) (bad : Nat) (w : World) (hs : s.size ≤ 1000000000000) (h : LoadOk s bad) :
    Calls Try.prog 10 #[.string s, .int .i64 bad] w fun e w' => ∃ g, e = .returned (.tuple #[.pointer (some ⟨g, 0, none⟩), .int .i64 0]) ∧ Has w' g 58 (scC s.data.toList bad) ∧ w.heap.size ≤ g ∧ Below w.heap.size w w' := by
  obtain ⟨st, o, k, hk⟩ : ∃ st o k, lookL s.data.toList = (st, o, k) := ⟨_, _, _, rfl⟩
  have hst : ((st : Int) == 2) = true := by
    have h2 := h.2
    rw [hk] at h2
    have : st = 2 := h2
    simp; omega
  have HM := Lib.hid (fun w : World => maywait_any s w hs st o k hk true hst)
  have HW := Lib.hid (fun w : World => fwithin_yes (bad : Int) 0 1073741823 w h.1.1 h.1.2)
  have HC := Lib.hid (fun w : World => clone_any s w (by omega))
  have HT := Lib.hid (txt_of s)
  clear hk hst h
  go_enter Try.func10, Try.ntmps10
  go_wp2_with (go_at_call 26; refine (HW.out _).mono ?_; rintro e w' ⟨rfl, rfl⟩)
  refine (HM.out _).mono ?_; rintro e w1 ⟨rfl, b1⟩
  go_wp2_with fail
  refine (HC.out _).mono ?_; rintro e w2 ⟨rfl, b2⟩
  have b3 := b1.trans (b2.mono b1.size)
  clear b1 b2
  go_wp2_with fail
  go_ret2
  refine ⟨w2.heap.size, rfl, ?_, b3.size, b3.alloc b3.size _⟩
  unfold scC
  rw [HT.out]
  exact Has.made w2 _ _

end Go.Proofs.Ytoechlmahckchaa
