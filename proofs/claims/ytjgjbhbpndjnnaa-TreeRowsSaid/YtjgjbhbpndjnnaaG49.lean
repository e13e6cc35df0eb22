/-
  The program's tree beside a law's own things: what was there stays, but for its own blocks.
  What a law's looks hold: a row of items, an aggregate.
  SameItems' drawn region (written by gen/sesi.py).
-/
import Derived.Test.YtjgjbhbpndjnnaaTrAdd
import Derived.Test.YtjgjbhbpndjnnaaTrHd
import Derived.Test.YtjgjbhbpndjnnaaRf
import Derived.Test.YtjgjbhbpndjnnaaG20
namespace Go.Proofs.Ytjgjbhbpndjnnaa
open Go.RowKit

set_option maxHeartbeats 400000 in
theorem item19_any (s t q v : Int) (w : World) :
    Calls Try.prog 37 #[.int .i64 s, .int .i64 t, .int .i64 q, .int .i64 v] w fun e w' => e = .returned (.agg #[.int .i64 s, .int .i64 t, .int .i64 q, .int .i64 v]) ∧ Below w.heap.size w w' := by
  go_enter Try.func37, Try.ntmps37
  go_wp2
  exact bodyPost_ret (v := .agg #[.int .i64 s, .int .i64 t, .int .i64 q, .int .i64 v]) (by simp [results, Try.results37, go_sem]) rfl ⟨rfl, (Below.refl _ _).alloc (Nat.le_refl _) _⟩

/-- The tree at g beside w0: it lies behind w0, and what was there stays. -/
structure LT (w0 : World) (O : Nat → Prop) (g : Nat) (bs : List Int) (R : List It) (w : World) : Prop where
  q : PTr O g bs R w
  lo : ∀ k, O k → w0.heap.size ≤ k
  hi : ∀ k, O k → k < w.heap.size
  keep : Below w0.heap.size w0 w
section
variable {w0 w w' : World} {O O' : Nat → Prop} {g h n c : Nat} {C : Option Addr} {bs bs' : List Int} {R S xs : List It}
theorem LT.below (l : LT w0 O g bs R w) (hb : Below w.heap.size w w') : LT w0 O g bs R w' := ⟨l.q.below hb, l.lo, fun k hk => Nat.lt_of_lt_of_le (l.hi k hk) hb.size, l.keep.trans (hb.mono l.keep.size)⟩
theorem LT.butS (l : LT w0 O g bs R w) (hb : ButS [h] w w') (hh : ¬ O h) (hl : w0.heap.size ≤ h) : LT w0 O g bs R w' :=
  ⟨l.q.same fun k hk ho => hb.other k hk (by simp; exact fun e => hh (e ▸ ho)), l.lo, fun k hk => Nat.lt_of_lt_of_le (l.hi k hk) hb.size, l.keep.trans ⟨hb.os, hb.tape, hb.output, hb.size, fun k hk => hb.other k (by have := l.keep.size; omega) (by simp; omega)⟩⟩
theorem LT.g_in (l : LT w0 O g bs R w) : O g ∧ w0.heap.size ≤ g ∧ g < w.heap.size := ⟨l.q.gO.1, l.lo g l.q.gO.1, l.q.gO.2⟩
theorem LT.turned (l : LT w0 O g bs R w) (hb : ButS [g] w w') (hq : PTr (GrowT O w w') g bs S w') : LT w0 (GrowT O w w') g bs S w' :=
  ⟨hq, fun k hk => by rcases hk with hk | hk; exact l.lo k hk; have := l.keep.size; omega, fun k hk => by rcases hk with hk | hk; exact Nat.lt_of_lt_of_le (l.hi k hk) hb.size; exact hk.2,
    l.keep.trans ⟨hb.os, hb.tape, hb.output, hb.size, fun k hk => hb.other k (by have := l.keep.size; omega) (by have := l.g_in.2.1; simp; omega)⟩⟩
theorem LT.new (hb0 : Below w0.heap.size w0 w) (hq : PTr (fun k => w.heap.size ≤ k ∧ k < w'.heap.size) g bs [] w') (hb : Below w.heap.size w w') : LT w0 (fun k => w.heap.size ≤ k ∧ k < w'.heap.size) g bs [] w' :=
  ⟨hq, fun k hk => by have := hb0.size; omega, fun k hk => hk.2, hb0.trans (hb.mono hb0.size)⟩
/-- An Insert of what may stand there. -/
theorem LT.insert (l : LT w0 O g bs R w) (hI : Items w C n xs) (hC : ∀ ad, C = some ad → ad.block ≠ g) (hf : fitT R xs = true) (ht : NewS R xs) :
    Calls Try.prog 27 #[.pointer (some ⟨g, 0, none⟩), .slice C n c] w fun e w' => e = .returned (.int .i64 0) ∧ LT w0 (GrowT O w w') g bs (insAll R xs) w' ∧ ButS [g] w w' :=
  (l.q.insert hI hC ((fitT_iff l.q.its).1 hf) ht).mono fun _ _ ⟨e, h1, h2⟩ => ⟨e, l.turned h1 h2, h1⟩
theorem LT.insert_form (l : LT w0 O g bs R w) (hI : Items w C n xs) (hn : n ≤ 17592186044416) (hf : fitT R xs = false) :
    Calls Try.prog 27 #[.pointer (some ⟨g, 0, none⟩), .slice C n c] w fun e w' => e = .returned (.int .i64 1900) ∧ LT w0 O g bs R w' ∧ Below w.heap.size w w' :=
  (l.q.insert_form hI hn (fun e => by have := (fitT_iff l.q.its).2 e; rw [hf] at this; cases this)).mono fun _ _ ⟨e, hb⟩ => ⟨e, l.below hb, hb⟩
theorem LT.insert_twice (l : LT w0 O g bs R w) (hI : Items w C n xs) (hf : fitT R xs = true) (ht : ¬ NewS R xs) :
    Calls Try.prog 27 #[.pointer (some ⟨g, 0, none⟩), .slice C n c] w fun e w' => e = .returned (.int .i64 1901) ∧ LT w0 O g bs R w' ∧ Below w.heap.size w w' :=
  (l.q.insert_twice hI ((fitT_iff l.q.its).1 hf) ht).mono fun _ _ ⟨e, hb⟩ => ⟨e, l.below hb, hb⟩
theorem LT.evict (l : LT w0 O g bs R w) (u : Int) :
    Calls Try.prog 33 #[.pointer (some ⟨g, 0, none⟩), .int .i64 u] w fun e w' => e = .returned (.int .i64 ((R.length : Nat) - ((stay u R).length : Nat))) ∧ LT w0 (GrowT O w w') g bs (stay u R) w' ∧ ButS [g] w w' :=
  (l.q.evict u).mono fun _ _ ⟨e, h1, h2⟩ => ⟨e, l.turned h1 h2, h1⟩
/-- A block of items is not the tree's own. -/
theorem LT.apart (l : LT w0 O g bs R w) {b : Nat} {cs : Array Value} (hb : Has w b 23 cs) : b ≠ g := fun e => by
  obtain ⟨_, _, _, _, h1, _⟩ := l.q
  exact has_types (e ▸ hb) h1.st (by decide)
end

end Go.Proofs.Ytjgjbhbpndjnnaa

namespace Go.Proofs.Ytjgjbhbpndjnnaa
open Go.RowKit

def itsX (xs : List It) : Fact := fun v w => ∃ A n c, v = .slice A n c ∧ Items w A n xs
theorem itsX_mono (xs : List It) : Mono (itsX xs) := fun _ _ _ hb ⟨A, n, c, h1, h2⟩ => ⟨A, n, c, h1, h2.below hb⟩
def accH (V : Ac) : Fact := fun v w => ∃ H, v = .agg (accC V (some ⟨H, 0, none⟩) V.h.length V.h.length) ∧ Has w H 3 (ints V.h)
theorem accH_mono (V : Ac) : Mono (accH V) := fun _ _ _ hb ⟨e, he, h⟩ => ⟨e, he, h.below hb h.lt⟩
section
variable {D : List (Option Tmp)} {Φ : Fact} {o : Oper} {a : Act} {w : World}
theorem rf_loadAc (hw : Region.wanted o (yieldD D a.tmps) = true) {t : Tmp} (hd : o.dst = some t) (x : Operand) (ho : o.op = .load 29 x) (g : Nat) (hx : a.eval x = .pointer (some ⟨g, 0, none⟩)) {V : Ac} {A : Option Addr} {k c : Nat} (hc : Has w g 29 (accC V A k c)) (h : Φ (.agg (accC V A k c)) w) : StepD Try.prog D Φ o a w :=
  rf_loadS hw hd 29 x ho g 0 hx (accC V A k c).toList (rf_range hc) Try.underlying29 rfl Try.sizeAcc (by simpa using h)
end

end Go.Proofs.Ytjgjbhbpndjnnaa

namespace Go.Proofs.Ytjgjbhbpndjnnaa
open Go.RowKit

set_option maxRecDepth 100000 in
theorem rf_neqI {D : List (Option Tmp)} {Φ : Fact} {o : Oper} {a : Act} {w : World} (hw : Region.wanted o (yieldD D a.tmps) = true) {t : Tmp} (hd : o.dst = some t) (x y : Operand) (ho : o.op = .binOp .neq 23 x y 23) (z : It) (hx : a.eval x = .agg #[.int .i64 z.s, .int .i64 z.t, .int .i64 z.q, .int .i64 z.v]) (hy : a.eval y = .agg #[.int .i64 z.s, .int .i64 z.t, .int .i64 z.q, .int .i64 z.v]) (h : Φ (.bool false) w) : StepD Try.prog D Φ o a w :=
  step_val hw hd _ _ (by unfold execOp; rw [ho]; simp only [hx, hy]; simp [go_sem]) (Below.refl _ _) h
def sitD : List (Option Tmp) := [some 17, some 18, some 19, some 20, some 21, some 22, some 23, some 24, some 25]
def sitF (x : It) (b1 o1 b2 o2 n e1 e2 q : Nat) : List Fact := [isV (.slice (some ⟨b1, o1, none⟩) n e1), isV (.int .i64 q), isV (.pointer (some ⟨b1, o1 + q * 4, none⟩)), isV (.agg #[.int .i64 x.s, .int .i64 x.t, .int .i64 x.q, .int .i64 x.v]), isV (.slice (some ⟨b2, o2, none⟩) n e2), isV (.int .i64 q), isV (.pointer (some ⟨b2, o2 + q * 4, none⟩)), isV (.agg #[.int .i64 x.s, .int .i64 x.t, .int .i64 x.q, .int .i64 x.v]), isV (.bool false)]
set_option maxRecDepth 100000 in
theorem sitF_mono (x : It) (b1 o1 b2 o2 n e1 e2 q : Nat) : ∀ φ ∈ sitF x b1 o1 b2 o2 n e1 e2 q, Mono φ := by
  unfold sitF
  repeat (first | exact monos_nil | (refine monos_cons (mono_isV _) ?_))
structure sitS (x : It) (b1 o1 b2 o2 n e1 e2 q : Nat) (a0 : Act) (w0 : World) : Prop where
  size : a0.tmps.size = 26
  v0 : a0.tmps.getD 0 undef = .slice (some ⟨b1, o1, none⟩) n e1
  v1 : a0.tmps.getD 1 undef = .slice (some ⟨b2, o2, none⟩) n e2
  v5 : a0.tmps.getD 5 undef = .int .i64 q
  x1 : w0.rangeAt b1 (o1 + q * 4) (itemL x)
  x2 : w0.rangeAt b2 (o2 + q * 4) (itemL x)
  hq : q < n
section
variable {x : It} {b1 o1 b2 o2 n e1 e2 q : Nat} {a0 : Act} {w0 : World} (S : sitS x b1 o1 b2 o2 n e1 e2 q a0 w0)
include S
set_option maxRecDepth 100000 in
set_option maxHeartbeats 8000000 in
theorem sit_ok : AllOps (fun j o => ∀ (a : Act) (w : World), Below w0.heap.size w0 w → FrD sitD a0 a → needs sitD (sitF x b1 o1 b2 o2 n e1 e2 q) a w o.after.toList → StepD Try.prog sitD (factAt (sitF x b1 o1 b2 o2 n e1 e2 q) j) o a w) 0 (opsOf 6 Try.f36) := by
  simp only [opsOf, Try.f36, opsAt, Option.bind, Option.or, Option.getD, reduceCtorEq, if_true, if_false, Nat.reduceEqDiff]
  refine ⟨?_, ?_⟩
  · intro _a _w _hB hF _hd
    exact step_move (guard_none rfl) rfl _ rfl ((hF.other 0 rfl).trans S.v0)
  refine ⟨?_, ?_⟩
  · intro _a _w _hB hF _hd
    exact step_move (guard_none rfl) rfl _ rfl ((hF.other 5 rfl).trans S.v5)
  refine ⟨?_, ?_⟩
  · intro a _w _hB _hF hd
    have h17 : a.tmps.getD 17 undef = .slice (some ⟨b1, o1, none⟩) n e1 := hd.1 rfl
    have h18 : a.tmps.getD 18 undef = .int .i64 q := hd.2.1 rfl
    exact rf_index (guard_none rfl) rfl _ _ _ rfl Try.underlying52 4 (fun _ => by kernel_rfl) _ _ _ _ q _ h17 h18 rfl S.hq rfl
  refine ⟨?_, ?_⟩
  · intro a _w hB _hF hd
    have h19 : a.tmps.getD 19 undef = .pointer (some ⟨b1, o1 + q * 4, none⟩) := hd.1 rfl
    exact rf_loadS (guard_none rfl) rfl _ _ rfl _ _ h19 _ (rangeAt_keep S.x1 (by simp [itemL]) fun _ hp => hB.cell hp) Try.underlying23 rfl Try.sizeItem rfl
  refine ⟨?_, ?_⟩
  · intro _a _w _hB hF _hd
    exact step_move (guard_none rfl) rfl _ rfl ((hF.other 1 rfl).trans S.v1)
  refine ⟨?_, ?_⟩
  · intro _a _w _hB hF _hd
    exact step_move (guard_none rfl) rfl _ rfl ((hF.other 5 rfl).trans S.v5)
  refine ⟨?_, ?_⟩
  · intro a _w _hB _hF hd
    have h21 : a.tmps.getD 21 undef = .slice (some ⟨b2, o2, none⟩) n e2 := hd.1 rfl
    have h22 : a.tmps.getD 22 undef = .int .i64 q := hd.2.1 rfl
    exact rf_index (guard_none rfl) rfl _ _ _ rfl Try.underlying52 4 (fun _ => by kernel_rfl) _ _ _ _ q _ h21 h22 rfl S.hq rfl
  refine ⟨?_, ?_⟩
  · intro a _w hB _hF hd
    have h23 : a.tmps.getD 23 undef = .pointer (some ⟨b2, o2 + q * 4, none⟩) := hd.1 rfl
    exact rf_loadS (guard_none rfl) rfl _ _ rfl _ _ h23 _ (rangeAt_keep S.x2 (by simp [itemL]) fun _ hp => hB.cell hp) Try.underlying23 rfl Try.sizeItem rfl
  refine ⟨?_, ?_⟩
  · intro a _w _hB _hF hd
    have h20 : a.tmps.getD 20 undef = .agg #[.int .i64 x.s, .int .i64 x.t, .int .i64 x.q, .int .i64 x.v] := hd.1 rfl
    have h24 : a.tmps.getD 24 undef = .agg #[.int .i64 x.s, .int .i64 x.t, .int .i64 x.q, .int .i64 x.v] := hd.2.1 rfl
    exact rf_neqI (guard_none rfl) rfl _ _ rfl x h20 h24 rfl
  trivial
set_option maxRecDepth 100000 in
theorem sit_any {Q : Exit → Act → World → Prop} {l : List Oper} (hl : opsOf 6 Try.f36 = l) (hend : ∀ w : World, Below w0.heap.size w0 w → Q .normal (putAll a0 [(17, .slice (some ⟨b1, o1, none⟩) n e1), (18, .int .i64 q), (19, .pointer (some ⟨b1, o1 + q * 4, none⟩)), (20, .agg #[.int .i64 x.s, .int .i64 x.t, .int .i64 x.q, .int .i64 x.v]), (21, .slice (some ⟨b2, o2, none⟩) n e2), (22, .int .i64 q), (23, .pointer (some ⟨b2, o2 + q * 4, none⟩)), (24, .agg #[.int .i64 x.s, .int .i64 x.t, .int .i64 x.q, .int .i64 x.v]), (25, .bool false)]) w) :
    (Code.region 6 l.toArray true).wp Try.prog Q a0 w0 := by
  subst hl
  refine region_facts2 (sitF x b1 o1 b2 o2 n e1 e2 q) sitD 26 S.size rfl (by kernel_rfl) (by kernel_rfl) (sitF_mono _ _ _ _ _ _ _ _ _) (sit_ok S) fun a w hB hF h => ?_
  have hv : valsAre a [(17, .slice (some ⟨b1, o1, none⟩) n e1), (18, .int .i64 q), (19, .pointer (some ⟨b1, o1 + q * 4, none⟩)), (20, .agg #[.int .i64 x.s, .int .i64 x.t, .int .i64 x.q, .int .i64 x.v]), (21, .slice (some ⟨b2, o2, none⟩) n e2), (22, .int .i64 q), (23, .pointer (some ⟨b2, o2 + q * 4, none⟩)), (24, .agg #[.int .i64 x.s, .int .i64 x.t, .int .i64 x.q, .int .i64 x.v]), (25, .bool false)] := by
    refine ⟨?_, ?_, ?_, ?_, ?_, ?_, ?_, ?_, ?_, trivial⟩
    · exact h 0 (some 17) rfl
    · exact h 1 (some 18) rfl
    · exact h 2 (some 19) rfl
    · exact h 3 (some 20) rfl
    · exact h 4 (some 21) rfl
    · exact h 5 (some 22) rfl
    · exact h 6 (some 23) rfl
    · exact h 7 (some 24) rfl
    · exact h 8 (some 25) rfl
  rw [frame_is hF _ hv (by rfl) (by rfl)]
  exact hend w hB
end

end Go.Proofs.Ytjgjbhbpndjnnaa
