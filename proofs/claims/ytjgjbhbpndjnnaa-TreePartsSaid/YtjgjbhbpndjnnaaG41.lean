/-
  The program's tree beside a law's own things: what was there stays, but for its own blocks.
  The drawn region of TreeParts (written by gen/trlaws.py).
-/
import Derived.Test.YtjgjbhbpndjnnaaG40
import Derived.Test.YtjgjbhbpndjnnaaG22
import Derived.Test.YtjgjbhbpndjnnaaG4
namespace Go.Proofs.Ytjgjbhbpndjnnaa
open Go.RowKit

set_option maxHeartbeats 400000 in
theorem item19_any (s t q v : Int) (w : World) :
    Calls Try.prog 37 #[.int .i64 s, .int .i64 t, .int .i64 q, .int .i64 v] w fun e w' => e = .returned (.agg #[.int .i64 s, .int .i64 t, .int .i64 q, .int .i64 v]) ∧ Below w.heap.size w w' := by
  go_enter Try.func37, Try.ntmps37
  go_wp2
  exact bodyPost_ret (v := .agg #[.int .i64 s, .int .i64 t, .int .i64 q, .int .i64 v]) (by simp [results, Try.results37, go_sem]) rfl ⟨rfl, (Below.refl _ _).alloc (Nat.le_refl _) _⟩

/-- The tree at g beside w0: it lies behind w0, and what was there stays. -/
structure LT (w0 : World) (O : Nat → Prop) (g : Nat) (bs : List Int) (R : List It) (w : World) : Prop where
  q : PTr O g bs R w
  lo : ∀ k, O k → w0.heap.size ≤ k
  hi : ∀ k, O k → k < w.heap.size
  keep : Below w0.heap.size w0 w
section
variable {w0 w w' : World} {O O' : Nat → Prop} {g h n c : Nat} {C : Option Addr} {bs bs' : List Int} {R S xs : List It}
theorem LT.below (l : LT w0 O g bs R w) (hb : Below w.heap.size w w') : LT w0 O g bs R w' := ⟨l.q.below hb, l.lo, fun k hk => Nat.lt_of_lt_of_le (l.hi k hk) hb.size, l.keep.trans (hb.mono l.keep.size)⟩
theorem LT.butS (l : LT w0 O g bs R w) (hb : ButS [h] w w') (hh : ¬ O h) (hl : w0.heap.size ≤ h) : LT w0 O g bs R w' :=
  ⟨l.q.same fun k hk ho => hb.other k hk (by simp; exact fun e => hh (e ▸ ho)), l.lo, fun k hk => Nat.lt_of_lt_of_le (l.hi k hk) hb.size, l.keep.trans ⟨hb.os, hb.tape, hb.output, hb.size, fun k hk => hb.other k (by have := l.keep.size; omega) (by simp; omega)⟩⟩
theorem LT.g_in (l : LT w0 O g bs R w) : O g ∧ w0.heap.size ≤ g ∧ g < w.heap.size := ⟨l.q.gO.1, l.lo g l.q.gO.1, l.q.gO.2⟩
theorem LT.turned (l : LT w0 O g bs R w) (hb : ButS [g] w w') (hq : PTr (GrowT O w w') g bs S w') : LT w0 (GrowT O w w') g bs S w' :=
  ⟨hq, fun k hk => by rcases hk with hk | hk; exact l.lo k hk; have := l.keep.size; omega, fun k hk => by rcases hk with hk | hk; exact Nat.lt_of_lt_of_le (l.hi k hk) hb.size; exact hk.2,
    l.keep.trans ⟨hb.os, hb.tape, hb.output, hb.size, fun k hk => hb.other k (by have := l.keep.size; omega) (by have := l.g_in.2.1; simp; omega)⟩⟩
theorem LT.new (hb0 : Below w0.heap.size w0 w) (hq : PTr (fun k => w.heap.size ≤ k ∧ k < w'.heap.size) g bs [] w') (hb : Below w.heap.size w w') : LT w0 (fun k => w.heap.size ≤ k ∧ k < w'.heap.size) g bs [] w' :=
  ⟨hq, fun k hk => by have := hb0.size; omega, fun k hk => hk.2, hb0.trans (hb.mono hb0.size)⟩
/-- An Insert of what may stand there. -/
theorem LT.insert (l : LT w0 O g bs R w) (hI : Items w C n xs) (hC : ∀ ad, C = some ad → ad.block ≠ g) (hf : fitT R xs = true) (ht : NewS R xs) :
    Calls Try.prog 27 #[.pointer (some ⟨g, 0, none⟩), .slice C n c] w fun e w' => e = .returned (.int .i64 0) ∧ LT w0 (GrowT O w w') g bs (insAll R xs) w' ∧ ButS [g] w w' :=
  (l.q.insert hI hC ((fitT_iff l.q.its).1 hf) ht).mono fun _ _ ⟨e, h1, h2⟩ => ⟨e, l.turned h1 h2, h1⟩
theorem LT.insert_form (l : LT w0 O g bs R w) (hI : Items w C n xs) (hn : n ≤ 17592186044416) (hf : fitT R xs = false) :
    Calls Try.prog 27 #[.pointer (some ⟨g, 0, none⟩), .slice C n c] w fun e w' => e = .returned (.int .i64 1900) ∧ LT w0 O g bs R w' ∧ Below w.heap.size w w' :=
  (l.q.insert_form hI hn (fun e => by have := (fitT_iff l.q.its).2 e; rw [hf] at this; cases this)).mono fun _ _ ⟨e, hb⟩ => ⟨e, l.below hb, hb⟩
theorem LT.insert_twice (l : LT w0 O g bs R w) (hI : Items w C n xs) (hf : fitT R xs = true) (ht : ¬ NewS R xs) :
    Calls Try.prog 27 #[.pointer (some ⟨g, 0, none⟩), .slice C n c] w fun e w' => e = .returned (.int .i64 1901) ∧ LT w0 O g bs R w' ∧ Below w.heap.size w w' :=
  (l.q.insert_twice hI ((fitT_iff l.q.its).1 hf) ht).mono fun _ _ ⟨e, hb⟩ => ⟨e, l.below hb, hb⟩
theorem LT.evict (l : LT w0 O g bs R w) (u : Int) :
    Calls Try.prog 33 #[.pointer (some ⟨g, 0, none⟩), .int .i64 u] w fun e w' => e = .returned (.int .i64 ((R.length : Nat) - ((stay u R).length : Nat))) ∧ LT w0 (GrowT O w w') g bs (stay u R) w' ∧ ButS [g] w w' :=
  (l.q.evict u).mono fun _ _ ⟨e, h1, h2⟩ => ⟨e, l.turned h1 h2, h1⟩
/-- A block of items is not the tree's own. -/
theorem LT.apart (l : LT w0 O g bs R w) {b : Nat} {cs : Array Value} (hb : Has w b 23 cs) : b ≠ g := fun e => by
  obtain ⟨_, _, _, _, h1, _⟩ := l.q
  exact has_types (e ▸ hb) h1.st (by decide)
end

end Go.Proofs.Ytjgjbhbpndjnnaa

namespace Go.Proofs.Ytjgjbhbpndjnnaa
open Go.RowKit

def tp9D : List (Option Tmp) := [some 46, some 47, some 48, some 49, some 50, some 51, some 52, some 53, some 54, some 55, some 56, some 57, some 58, some 59, some 60, some 61, some 62, some 63, some 12]
def tp9F (b oo n c jj g : Nat) (x t1 sh v1 : Int) : List Fact := [isV (.pointer (some ⟨g, 0, none⟩)), isV (.slice (some ⟨b, oo, none⟩) n c), isV (.int .i64 ((jj : Int))), isV (.pointer (some ⟨b, oo + jj, none⟩)), isV (.int .i64 x), isV (.int .i64 t1), isV (.int .i64 ((jj : Int))), isV (.int .i64 ((jj : Int) + 1)), isV (.slice (some ⟨b, oo, none⟩) n c), isV (.int .i64 ((jj : Int))), isV (.pointer (some ⟨b, oo + jj, none⟩)), isV (.int .i64 x), isV (.int .i64 (x / 64)), isV (.int .i64 sh), isV (.int .i64 v1), isV (.agg #[.int .i64 2, .int .i64 t1, .int .i64 ((jj : Int) + 1), .int .i64 v1]), itmV (.slice none 0 0) ⟨2, t1, (jj : Int) + 1, v1⟩]
theorem tp9F_mono (b oo n c jj g : Nat) (x t1 sh v1 : Int) : ∀ φ ∈ tp9F b oo n c jj g x t1 sh v1, Mono φ := by
  unfold tp9F
  refine monos_cons (mono_isV _) ?_
  refine monos_cons (mono_isV _) ?_
  refine monos_cons (mono_isV _) ?_
  refine monos_cons (mono_isV _) ?_
  refine monos_cons (mono_isV _) ?_
  refine monos_cons (mono_isV _) ?_
  refine monos_cons (mono_isV _) ?_
  refine monos_cons (mono_isV _) ?_
  refine monos_cons (mono_isV _) ?_
  refine monos_cons (mono_isV _) ?_
  refine monos_cons (mono_isV _) ?_
  refine monos_cons (mono_isV _) ?_
  refine monos_cons (mono_isV _) ?_
  refine monos_cons (mono_isV _) ?_
  refine monos_cons (mono_isV _) ?_
  refine monos_cons (mono_isV _) ?_
  refine monos_cons (itmV_mono _ _) ?_
  exact monos_nil
structure tp9S (b oo n c jj g : Nat) (x t1 sh v1 : Int) (a0 : Act) (w0 : World) : Prop where
  size : a0.tmps.size = 131
  v0 : a0.tmps.getD 0 undef = .slice (some ⟨b, oo, none⟩) n c
  v9 : a0.tmps.getD 9 undef = .pointer (some ⟨g, 0, none⟩)
  v11 : a0.tmps.getD 11 undef = .int .i64 ((jj : Int))
  lj : jj < n
  lm : jj < 64
  cx : ∀ w, Below w0.heap.size w0 w → w.cell? ⟨b, oo + jj, none⟩ = some (.int .i64 x)
  e1 : bits .and .i64 x 63 = t1
  e2 : bits .and .i64 (x / 64) 31 = sh
  e3 : sh - 9 = v1
  bv : -1000 ≤ v1 ∧ v1 ≤ 1000
section
variable {b oo n c jj g : Nat} {x t1 sh v1 : Int} {a0 : Act} {w0 : World} (S : tp9S b oo n c jj g x t1 sh v1 a0 w0)
include S
set_option maxRecDepth 100000 in
set_option maxHeartbeats 8000000 in
theorem tp9_ok : AllOps (fun j o => ∀ (a : Act) (w : World), Below w0.heap.size w0 w → FrD (tp9D.take 17) a0 a → needs tp9D (tp9F b oo n c jj g x t1 sh v1) a w o.after.toList → StepD Try.prog tp9D (factAt (tp9F b oo n c jj g x t1 sh v1) j) o a w) 0 ((opsOf 9 Try.f5).take 17) := by
  simp only [opsOf, Try.f5, opsAt, Option.bind, Option.or, Option.getD, reduceCtorEq, if_true, if_false, Nat.reduceEqDiff, List.take_succ_cons, List.take_zero]
  refine ⟨?_, ?_⟩
  · intro _a _w _hB hF _hd
    exact step_move (guard_none rfl) rfl _ rfl ((hF.other 9 rfl).trans S.v9)
  refine ⟨?_, ?_⟩
  · intro _a _w _hB hF _hd
    exact step_move (guard_none rfl) rfl _ rfl ((hF.other 0 rfl).trans S.v0)
  refine ⟨?_, ?_⟩
  · intro _a _w _hB hF _hd
    exact step_move (guard_none rfl) rfl _ rfl ((hF.other 11 rfl).trans S.v11)
  refine ⟨?_, ?_⟩
  · intro a _w _hB _hF hd
    have h47 : a.tmps.getD 47 undef = .slice (some ⟨b, oo, none⟩) n c := hd.1 rfl
    have h48 : a.tmps.getD 48 undef = .int .i64 ((jj : Int)) := hd.2.1 rfl
    exact rf_indexN (guard_none rfl) rfl _ _ rfl b oo n c jj _ h47 h48 rfl S.lj rfl
  refine ⟨?_, ?_⟩
  · intro a w hB _hF hd
    have h49 : a.tmps.getD 49 undef = .pointer (some ⟨b, oo + jj, none⟩) := hd.1 rfl
    exact rf_loadi (guard_none rfl) rfl _ rfl _ _ h49 _ (S.cx w hB) rfl
  refine ⟨?_, ?_⟩
  · intro a _w _hB _hF hd
    have h50 : a.tmps.getD 50 undef = .int .i64 x := hd.1 rfl
    exact rf_and (guard_none rfl) rfl _ _ rfl x 63 t1 h50 rfl S.e1 rfl
  refine ⟨?_, ?_⟩
  · intro _a _w _hB hF _hd
    exact step_move (guard_none rfl) rfl _ rfl ((hF.other 11 rfl).trans S.v11)
  refine ⟨?_, ?_⟩
  · intro a _w _hB _hF hd
    have h52 : a.tmps.getD 52 undef = .int .i64 ((jj : Int)) := hd.1 rfl
    exact rf_addr (guard_none rfl) rfl _ _ rfl (jj : Int) 1 ((jj : Int) + 1) h52 rfl rfl (by omega) (by have := S.lm; omega) rfl
  refine ⟨?_, ?_⟩
  · intro _a _w _hB hF _hd
    exact step_move (guard_none rfl) rfl _ rfl ((hF.other 0 rfl).trans S.v0)
  refine ⟨?_, ?_⟩
  · intro _a _w _hB hF _hd
    exact step_move (guard_none rfl) rfl _ rfl ((hF.other 11 rfl).trans S.v11)
  refine ⟨?_, ?_⟩
  · intro a _w _hB _hF hd
    have h54 : a.tmps.getD 54 undef = .slice (some ⟨b, oo, none⟩) n c := hd.1 rfl
    have h55 : a.tmps.getD 55 undef = .int .i64 ((jj : Int)) := hd.2.1 rfl
    exact rf_indexN (guard_none rfl) rfl _ _ rfl b oo n c jj _ h54 h55 rfl S.lj rfl
  refine ⟨?_, ?_⟩
  · intro a w hB _hF hd
    have h56 : a.tmps.getD 56 undef = .pointer (some ⟨b, oo + jj, none⟩) := hd.1 rfl
    exact rf_loadi (guard_none rfl) rfl _ rfl _ _ h56 _ (S.cx w hB) rfl
  refine ⟨?_, ?_⟩
  · intro a _w _hB _hF hd
    have h57 : a.tmps.getD 57 undef = .int .i64 x := hd.1 rfl
    exact rf_shr6 (guard_none rfl) rfl _ _ rfl x h57 rfl rfl
  refine ⟨?_, ?_⟩
  · intro a _w _hB _hF hd
    have h58 : a.tmps.getD 58 undef = .int .i64 (x / 64) := hd.1 rfl
    exact rf_and (guard_none rfl) rfl _ _ rfl (x / 64) 31 sh h58 rfl S.e2 rfl
  refine ⟨?_, ?_⟩
  · intro a _w _hB _hF hd
    have h59 : a.tmps.getD 59 undef = .int .i64 sh := hd.1 rfl
    exact rf_subq (guard_none rfl) rfl _ _ rfl sh 9 v1 h59 rfl S.e3 (by have := S.bv; omega) (by have := S.bv; omega) rfl
  refine ⟨?_, ?_⟩
  · intro a _w _hB _hF hd
    have h51 : a.tmps.getD 51 undef = .int .i64 t1 := hd.1 rfl
    have h53 : a.tmps.getD 53 undef = .int .i64 ((jj : Int) + 1) := hd.2.1 rfl
    have h60 : a.tmps.getD 60 undef = .int .i64 v1 := hd.2.2.1 rfl
    refine step_call (guard_none rfl) rfl _ _ (rf_call_run Try.func37 (by kernel_rfl) (by kernel_rfl) _ _ rfl) ?_
    simp only [List.map_toArray, List.map_cons, List.map_nil, Act.eval, h51, h53, h60]
    exact (item19_any _ _ _ _ _).mono (by rintro e w1 ⟨rfl, hb⟩; exact ⟨_, rfl, hb, rfl⟩)
  refine ⟨?_, ?_⟩
  · intro a _w _hB _hF hd
    have h61 : a.tmps.getD 61 undef = .agg #[.int .i64 2, .int .i64 t1, .int .i64 ((jj : Int) + 1), .int .i64 v1] := hd.1 rfl
    exact rf_itm (guard_none rfl) rfl _ rfl ⟨2, t1, (jj : Int) + 1, v1⟩ h61 (.slice none 0 0) (fun k hk => by simp [Value.ownBlock] at hk) (fun _ _ h => h)
  trivial
set_option maxRecDepth 100000 in
set_option maxHeartbeats 2000000 in
theorem tp9_any {Q : Exit → Act → World → Prop} {l : List Oper} (hl : opsOf 9 Try.f5 = l) {W : Act → World → Prop} (hW : ∀ a w, W a w → wpList Try.prog l.toArray Q (l.drop 17) a w) (hend : ∀ (e62 : Nat), ∀ w : World, Below w0.heap.size w0 w → (Has w e62 23 (itemL ⟨2, t1, (jj : Int) + 1, v1⟩).toArray ∧ (Value.slice none 0 0).ownBlock ≠ some e62) → W (putAll a0 [(46, .pointer (some ⟨g, 0, none⟩)), (47, .slice (some ⟨b, oo, none⟩) n c), (48, .int .i64 ((jj : Int))), (49, .pointer (some ⟨b, oo + jj, none⟩)), (50, .int .i64 x), (51, .int .i64 t1), (52, .int .i64 ((jj : Int))), (53, .int .i64 ((jj : Int) + 1)), (54, .slice (some ⟨b, oo, none⟩) n c), (55, .int .i64 ((jj : Int))), (56, .pointer (some ⟨b, oo + jj, none⟩)), (57, .int .i64 x), (58, .int .i64 (x / 64)), (59, .int .i64 sh), (60, .int .i64 v1), (61, .agg #[.int .i64 2, .int .i64 t1, .int .i64 ((jj : Int) + 1), .int .i64 v1]), (62, .slice (some ⟨e62, 0, none⟩) 1 1)]) w) :
    (Code.region 9 l.toArray true).wp Try.prog Q a0 w0 := by
  subst hl
  refine region_head2 (tp9F b oo n c jj g x t1 sh v1) tp9D 17 131 S.size rfl (by kernel_rfl) (by kernel_rfl) (by kernel_rfl) (tp9F_mono _ _ _ _ _ _ _ _ _ _) (tp9_ok S) fun a w hB hF h => ?_
  obtain ⟨e62, h62, p62⟩ : itmV (.slice none 0 0) ⟨2, t1, (jj : Int) + 1, v1⟩ (a.tmps.getD 62 undef) w := h 16 (some 62) (by omega) rfl
  have hv : valsAre a [(46, .pointer (some ⟨g, 0, none⟩)), (47, .slice (some ⟨b, oo, none⟩) n c), (48, .int .i64 ((jj : Int))), (49, .pointer (some ⟨b, oo + jj, none⟩)), (50, .int .i64 x), (51, .int .i64 t1), (52, .int .i64 ((jj : Int))), (53, .int .i64 ((jj : Int) + 1)), (54, .slice (some ⟨b, oo, none⟩) n c), (55, .int .i64 ((jj : Int))), (56, .pointer (some ⟨b, oo + jj, none⟩)), (57, .int .i64 x), (58, .int .i64 (x / 64)), (59, .int .i64 sh), (60, .int .i64 v1), (61, .agg #[.int .i64 2, .int .i64 t1, .int .i64 ((jj : Int) + 1), .int .i64 v1]), (62, .slice (some ⟨e62, 0, none⟩) 1 1)] := by
    refine ⟨?_, ?_, ?_, ?_, ?_, ?_, ?_, ?_, ?_, ?_, ?_, ?_, ?_, ?_, ?_, ?_, ?_, trivial⟩
    · exact h 0 (some 46) (by omega) rfl
    · exact h 1 (some 47) (by omega) rfl
    · exact h 2 (some 48) (by omega) rfl
    · exact h 3 (some 49) (by omega) rfl
    · exact h 4 (some 50) (by omega) rfl
    · exact h 5 (some 51) (by omega) rfl
    · exact h 6 (some 52) (by omega) rfl
    · exact h 7 (some 53) (by omega) rfl
    · exact h 8 (some 54) (by omega) rfl
    · exact h 9 (some 55) (by omega) rfl
    · exact h 10 (some 56) (by omega) rfl
    · exact h 11 (some 57) (by omega) rfl
    · exact h 12 (some 58) (by omega) rfl
    · exact h 13 (some 59) (by omega) rfl
    · exact h 14 (some 60) (by omega) rfl
    · exact h 15 (some 61) (by omega) rfl
    · exact h62
  refine hW _ _ ?_
  rw [frame_is hF _ hv (by rfl) (by rfl)]
  exact hend e62 w hB p62
end

end Go.Proofs.Ytjgjbhbpndjnnaa
