/-
  The program's tree beside a law's own things: what was there stays, but for its own blocks.
  The drawn region of TreeParts (written by gen/trlaws.py).
  Plain: items whose numbers rise, laid in one by one. No program here.
  SameItems' drawn region (written by gen/sesi.py).
-/
import Derived.Test.YtjgjbhbpndjnnaaG43
import Derived.Test.YtjgjbhbpndjnnaaG25
import Derived.Test.YtjgjbhbpndjnnaaG15
import Derived.Test.YtjgjbhbpndjnnaaG10
import Derived.Test.YtjgjbhbpndjnnaaG9
namespace Go.Proofs.Ytjgjbhbpndjnnaa
open Go.RowKit

set_option maxHeartbeats 400000 in
theorem item19_any (s t q v : Int) (w : World) :
    Calls Try.prog 37 #[.int .i64 s, .int .i64 t, .int .i64 q, .int .i64 v] w fun e w' => e = .returned (.agg #[.int .i64 s, .int .i64 t, .int .i64 q, .int .i64 v]) ∧ Below w.heap.size w w' := by
  go_enter Try.func37, Try.ntmps37
  go_wp2
  exact bodyPost_ret (v := .agg #[.int .i64 s, .int .i64 t, .int .i64 q, .int .i64 v]) (by simp [results, Try.results37, go_sem]) rfl ⟨rfl, (Below.refl _ _).alloc (Nat.le_refl _) _⟩

/-- The tree at g beside w0: it lies behind w0, and what was there stays. -/
structure LT (w0 : World) (O : Nat → Prop) (g : Nat) (bs : List Int) (R : List It) (w : World) : Prop where
  q : PTr O g bs R w
  lo : ∀ k, O k → w0.heap.size ≤ k
  hi : ∀ k, O k → k < w.heap.size
  keep : Below w0.heap.size w0 w
section
variable {w0 w w' : World} {O O' : Nat → Prop} {g h n c : Nat} {C : Option Addr} {bs bs' : List Int} {R S xs : List It}
theorem LT.below (l : LT w0 O g bs R w) (hb : Below w.heap.size w w') : LT w0 O g bs R w' := ⟨l.q.below hb, l.lo, fun k hk => Nat.lt_of_lt_of_le (l.hi k hk) hb.size, l.keep.trans (hb.mono l.keep.size)⟩
theorem LT.butS (l : LT w0 O g bs R w) (hb : ButS [h] w w') (hh : ¬ O h) (hl : w0.heap.size ≤ h) : LT w0 O g bs R w' :=
  ⟨l.q.same fun k hk ho => hb.other k hk (by simp; exact fun e => hh (e ▸ ho)), l.lo, fun k hk => Nat.lt_of_lt_of_le (l.hi k hk) hb.size, l.keep.trans ⟨hb.os, hb.tape, hb.output, hb.size, fun k hk => hb.other k (by have := l.keep.size; omega) (by simp; omega)⟩⟩
theorem LT.g_in (l : LT w0 O g bs R w) : O g ∧ w0.heap.size ≤ g ∧ g < w.heap.size := ⟨l.q.gO.1, l.lo g l.q.gO.1, l.q.gO.2⟩
theorem LT.turned (l : LT w0 O g bs R w) (hb : ButS [g] w w') (hq : PTr (GrowT O w w') g bs S w') : LT w0 (GrowT O w w') g bs S w' :=
  ⟨hq, fun k hk => by rcases hk with hk | hk; exact l.lo k hk; have := l.keep.size; omega, fun k hk => by rcases hk with hk | hk; exact Nat.lt_of_lt_of_le (l.hi k hk) hb.size; exact hk.2,
    l.keep.trans ⟨hb.os, hb.tape, hb.output, hb.size, fun k hk => hb.other k (by have := l.keep.size; omega) (by have := l.g_in.2.1; simp; omega)⟩⟩
theorem LT.new (hb0 : Below w0.heap.size w0 w) (hq : PTr (fun k => w.heap.size ≤ k ∧ k < w'.heap.size) g bs [] w') (hb : Below w.heap.size w w') : LT w0 (fun k => w.heap.size ≤ k ∧ k < w'.heap.size) g bs [] w' :=
  ⟨hq, fun k hk => by have := hb0.size; omega, fun k hk => hk.2, hb0.trans (hb.mono hb0.size)⟩
/-- An Insert of what may stand there. -/
theorem LT.insert (l : LT w0 O g bs R w) (hI : Items w C n xs) (hC : ∀ ad, C = some ad → ad.block ≠ g) (hf : fitT R xs = true) (ht : NewS R xs) :
    Calls Try.prog 27 #[.pointer (some ⟨g, 0, none⟩), .slice C n c] w fun e w' => e = .returned (.int .i64 0) ∧ LT w0 (GrowT O w w') g bs (insAll R xs) w' ∧ ButS [g] w w' :=
  (l.q.insert hI hC ((fitT_iff l.q.its).1 hf) ht).mono fun _ _ ⟨e, h1, h2⟩ => ⟨e, l.turned h1 h2, h1⟩
theorem LT.insert_form (l : LT w0 O g bs R w) (hI : Items w C n xs) (hn : n ≤ 17592186044416) (hf : fitT R xs = false) :
    Calls Try.prog 27 #[.pointer (some ⟨g, 0, none⟩), .slice C n c] w fun e w' => e = .returned (.int .i64 1900) ∧ LT w0 O g bs R w' ∧ Below w.heap.size w w' :=
  (l.q.insert_form hI hn (fun e => by have := (fitT_iff l.q.its).2 e; rw [hf] at this; cases this)).mono fun _ _ ⟨e, hb⟩ => ⟨e, l.below hb, hb⟩
theorem LT.insert_twice (l : LT w0 O g bs R w) (hI : Items w C n xs) (hf : fitT R xs = true) (ht : ¬ NewS R xs) :
    Calls Try.prog 27 #[.pointer (some ⟨g, 0, none⟩), .slice C n c] w fun e w' => e = .returned (.int .i64 1901) ∧ LT w0 O g bs R w' ∧ Below w.heap.size w w' :=
  (l.q.insert_twice hI ((fitT_iff l.q.its).1 hf) ht).mono fun _ _ ⟨e, hb⟩ => ⟨e, l.below hb, hb⟩
theorem LT.evict (l : LT w0 O g bs R w) (u : Int) :
    Calls Try.prog 33 #[.pointer (some ⟨g, 0, none⟩), .int .i64 u] w fun e w' => e = .returned (.int .i64 ((R.length : Nat) - ((stay u R).length : Nat))) ∧ LT w0 (GrowT O w w') g bs (stay u R) w' ∧ ButS [g] w w' :=
  (l.q.evict u).mono fun _ _ ⟨e, h1, h2⟩ => ⟨e, l.turned h1 h2, h1⟩
/-- A block of items is not the tree's own. -/
theorem LT.apart (l : LT w0 O g bs R w) {b : Nat} {cs : Array Value} (hb : Has w b 23 cs) : b ≠ g := fun e => by
  obtain ⟨_, _, _, _, h1, _⟩ := l.q
  exact has_types (e ▸ hb) h1.st (by decide)
end

end Go.Proofs.Ytjgjbhbpndjnnaa

namespace Go.Proofs.Ytjgjbhbpndjnnaa
open Go.RowKit

def tp9D : List (Option Tmp) := [some 46, some 47, some 48, some 49, some 50, some 51, some 52, some 53, some 54, some 55, some 56, some 57, some 58, some 59, some 60, some 61, some 62, some 63, some 12]
def tp9F (b oo n c jj g : Nat) (x t1 sh v1 : Int) : List Fact := [isV (.pointer (some ⟨g, 0, none⟩)), isV (.slice (some ⟨b, oo, none⟩) n c), isV (.int .i64 ((jj : Int))), isV (.pointer (some ⟨b, oo + jj, none⟩)), isV (.int .i64 x), isV (.int .i64 t1), isV (.int .i64 ((jj : Int))), isV (.int .i64 ((jj : Int) + 1)), isV (.slice (some ⟨b, oo, none⟩) n c), isV (.int .i64 ((jj : Int))), isV (.pointer (some ⟨b, oo + jj, none⟩)), isV (.int .i64 x), isV (.int .i64 (x / 64)), isV (.int .i64 sh), isV (.int .i64 v1), isV (.agg #[.int .i64 2, .int .i64 t1, .int .i64 ((jj : Int) + 1), .int .i64 v1]), itmV (.slice none 0 0) ⟨2, t1, (jj : Int) + 1, v1⟩]
theorem tp9F_mono (b oo n c jj g : Nat) (x t1 sh v1 : Int) : ∀ φ ∈ tp9F b oo n c jj g x t1 sh v1, Mono φ := by
  unfold tp9F
  refine monos_cons (mono_isV _) ?_
  refine monos_cons (mono_isV _) ?_
  refine monos_cons (mono_isV _) ?_
  refine monos_cons (mono_isV _) ?_
  refine monos_cons (mono_isV _) ?_
  refine monos_cons (mono_isV _) ?_
  refine monos_cons (mono_isV _) ?_
  refine monos_cons (mono_isV _) ?_
  refine monos_cons (mono_isV _) ?_
  refine monos_cons (mono_isV _) ?_
  refine monos_cons (mono_isV _) ?_
  refine monos_cons (mono_isV _) ?_
  refine monos_cons (mono_isV _) ?_
  refine monos_cons (mono_isV _) ?_
  refine monos_cons (mono_isV _) ?_
  refine monos_cons (mono_isV _) ?_
  refine monos_cons (itmV_mono _ _) ?_
  exact monos_nil
structure tp9S (b oo n c jj g : Nat) (x t1 sh v1 : Int) (a0 : Act) (w0 : World) : Prop where
  size : a0.tmps.size = 131
  v0 : a0.tmps.getD 0 undef = .slice (some ⟨b, oo, none⟩) n c
  v9 : a0.tmps.getD 9 undef = .pointer (some ⟨g, 0, none⟩)
  v11 : a0.tmps.getD 11 undef = .int .i64 ((jj : Int))
  lj : jj < n
  lm : jj < 64
  cx : ∀ w, Below w0.heap.size w0 w → w.cell? ⟨b, oo + jj, none⟩ = some (.int .i64 x)
  e1 : bits .and .i64 x 63 = t1
  e2 : bits .and .i64 (x / 64) 31 = sh
  e3 : sh - 9 = v1
  bv : -1000 ≤ v1 ∧ v1 ≤ 1000
section
variable {b oo n c jj g : Nat} {x t1 sh v1 : Int} {a0 : Act} {w0 : World} (S : tp9S b oo n c jj g x t1 sh v1 a0 w0)
include S
set_option maxRecDepth 100000 in
set_option maxHeartbeats 8000000 in
theorem tp9_ok : AllOps (fun j o => ∀ (a : Act) (w : World), Below w0.heap.size w0 w → FrD (tp9D.take 17) a0 a → needs tp9D (tp9F b oo n c jj g x t1 sh v1) a w o.after.toList → StepD Try.prog tp9D (factAt (tp9F b oo n c jj g x t1 sh v1) j) o a w) 0 ((opsOf 9 Try.f5).take 17) := by
  simp only [opsOf, Try.f5, opsAt, Option.bind, Option.or, Option.getD, reduceCtorEq, if_true, if_false, Nat.reduceEqDiff, List.take_succ_cons, List.take_zero]
  refine ⟨?_, ?_⟩
  · intro _a _w _hB hF _hd
    exact step_move (guard_none rfl) rfl _ rfl ((hF.other 9 rfl).trans S.v9)
  refine ⟨?_, ?_⟩
  · intro _a _w _hB hF _hd
    exact step_move (guard_none rfl) rfl _ rfl ((hF.other 0 rfl).trans S.v0)
  refine ⟨?_, ?_⟩
  · intro _a _w _hB hF _hd
    exact step_move (guard_none rfl) rfl _ rfl ((hF.other 11 rfl).trans S.v11)
  refine ⟨?_, ?_⟩
  · intro a _w _hB _hF hd
    have h47 : a.tmps.getD 47 undef = .slice (some ⟨b, oo, none⟩) n c := hd.1 rfl
    have h48 : a.tmps.getD 48 undef = .int .i64 ((jj : Int)) := hd.2.1 rfl
    exact rf_indexN (guard_none rfl) rfl _ _ rfl b oo n c jj _ h47 h48 rfl S.lj rfl
  refine ⟨?_, ?_⟩
  · intro a w hB _hF hd
    have h49 : a.tmps.getD 49 undef = .pointer (some ⟨b, oo + jj, none⟩) := hd.1 rfl
    exact rf_loadi (guard_none rfl) rfl _ rfl _ _ h49 _ (S.cx w hB) rfl
  refine ⟨?_, ?_⟩
  · intro a _w _hB _hF hd
    have h50 : a.tmps.getD 50 undef = .int .i64 x := hd.1 rfl
    exact rf_and (guard_none rfl) rfl _ _ rfl x 63 t1 h50 rfl S.e1 rfl
  refine ⟨?_, ?_⟩
  · intro _a _w _hB hF _hd
    exact step_move (guard_none rfl) rfl _ rfl ((hF.other 11 rfl).trans S.v11)
  refine ⟨?_, ?_⟩
  · intro a _w _hB _hF hd
    have h52 : a.tmps.getD 52 undef = .int .i64 ((jj : Int)) := hd.1 rfl
    exact rf_addr (guard_none rfl) rfl _ _ rfl (jj : Int) 1 ((jj : Int) + 1) h52 rfl rfl (by omega) (by have := S.lm; omega) rfl
  refine ⟨?_, ?_⟩
  · intro _a _w _hB hF _hd
    exact step_move (guard_none rfl) rfl _ rfl ((hF.other 0 rfl).trans S.v0)
  refine ⟨?_, ?_⟩
  · intro _a _w _hB hF _hd
    exact step_move (guard_none rfl) rfl _ rfl ((hF.other 11 rfl).trans S.v11)
  refine ⟨?_, ?_⟩
  · intro a _w _hB _hF hd
    have h54 : a.tmps.getD 54 undef = .slice (some ⟨b, oo, none⟩) n c := hd.1 rfl
    have h55 : a.tmps.getD 55 undef = .int .i64 ((jj : Int)) := hd.2.1 rfl
    exact rf_indexN (guard_none rfl) rfl _ _ rfl b oo n c jj _ h54 h55 rfl S.lj rfl
  refine ⟨?_, ?_⟩
  · intro a w hB _hF hd
    have h56 : a.tmps.getD 56 undef = .pointer (some ⟨b, oo + jj, none⟩) := hd.1 rfl
    exact rf_loadi (guard_none rfl) rfl _ rfl _ _ h56 _ (S.cx w hB) rfl
  refine ⟨?_, ?_⟩
  · intro a _w _hB _hF hd
    have h57 : a.tmps.getD 57 undef = .int .i64 x := hd.1 rfl
    exact rf_shr6 (guard_none rfl) rfl _ _ rfl x h57 rfl rfl
  refine ⟨?_, ?_⟩
  · intro a _w _hB _hF hd
    have h58 : a.tmps.getD 58 undef = .int .i64 (x / 64) := hd.1 rfl
    exact rf_and (guard_none rfl) rfl _ _ rfl (x / 64) 31 sh h58 rfl S.e2 rfl
  refine ⟨?_, ?_⟩
  · intro a _w _hB _hF hd
    have h59 : a.tmps.getD 59 undef = .int .i64 sh := hd.1 rfl
    exact rf_subq (guard_none rfl) rfl _ _ rfl sh 9 v1 h59 rfl S.e3 (by have := S.bv; omega) (by have := S.bv; omega) rfl
  refine ⟨?_, ?_⟩
  · intro a _w _hB _hF hd
    have h51 : a.tmps.getD 51 undef = .int .i64 t1 := hd.1 rfl
    have h53 : a.tmps.getD 53 undef = .int .i64 ((jj : Int) + 1) := hd.2.1 rfl
    have h60 : a.tmps.getD 60 undef = .int .i64 v1 := hd.2.2.1 rfl
    refine step_call (guard_none rfl) rfl _ _ (rf_call_run Try.func37 (by kernel_rfl) (by kernel_rfl) _ _ rfl) ?_
    simp only [List.map_toArray, List.map_cons, List.map_nil, Act.eval, h51, h53, h60]
    exact (item19_any _ _ _ _ _).mono (by rintro e w1 ⟨rfl, hb⟩; exact ⟨_, rfl, hb, rfl⟩)
  refine ⟨?_, ?_⟩
  · intro a _w _hB _hF hd
    have h61 : a.tmps.getD 61 undef = .agg #[.int .i64 2, .int .i64 t1, .int .i64 ((jj : Int) + 1), .int .i64 v1] := hd.1 rfl
    exact rf_itm (guard_none rfl) rfl _ rfl ⟨2, t1, (jj : Int) + 1, v1⟩ h61 (.slice none 0 0) (fun k hk => by simp [Value.ownBlock] at hk) (fun _ _ h => h)
  trivial
set_option maxRecDepth 100000 in
set_option maxHeartbeats 2000000 in
theorem tp9_any {Q : Exit → Act → World → Prop} {l : List Oper} (hl : opsOf 9 Try.f5 = l) {W : Act → World → Prop} (hW : ∀ a w, W a w → wpList Try.prog l.toArray Q (l.drop 17) a w) (hend : ∀ (e62 : Nat), ∀ w : World, Below w0.heap.size w0 w → (Has w e62 23 (itemL ⟨2, t1, (jj : Int) + 1, v1⟩).toArray ∧ (Value.slice none 0 0).ownBlock ≠ some e62) → W (putAll a0 [(46, .pointer (some ⟨g, 0, none⟩)), (47, .slice (some ⟨b, oo, none⟩) n c), (48, .int .i64 ((jj : Int))), (49, .pointer (some ⟨b, oo + jj, none⟩)), (50, .int .i64 x), (51, .int .i64 t1), (52, .int .i64 ((jj : Int))), (53, .int .i64 ((jj : Int) + 1)), (54, .slice (some ⟨b, oo, none⟩) n c), (55, .int .i64 ((jj : Int))), (56, .pointer (some ⟨b, oo + jj, none⟩)), (57, .int .i64 x), (58, .int .i64 (x / 64)), (59, .int .i64 sh), (60, .int .i64 v1), (61, .agg #[.int .i64 2, .int .i64 t1, .int .i64 ((jj : Int) + 1), .int .i64 v1]), (62, .slice (some ⟨e62, 0, none⟩) 1 1)]) w) :
    (Code.region 9 l.toArray true).wp Try.prog Q a0 w0 := by
  subst hl
  refine region_head2 (tp9F b oo n c jj g x t1 sh v1) tp9D 17 131 S.size rfl (by kernel_rfl) (by kernel_rfl) (by kernel_rfl) (tp9F_mono _ _ _ _ _ _ _ _ _ _) (tp9_ok S) fun a w hB hF h => ?_
  obtain ⟨e62, h62, p62⟩ : itmV (.slice none 0 0) ⟨2, t1, (jj : Int) + 1, v1⟩ (a.tmps.getD 62 undef) w := h 16 (some 62) (by omega) rfl
  have hv : valsAre a [(46, .pointer (some ⟨g, 0, none⟩)), (47, .slice (some ⟨b, oo, none⟩) n c), (48, .int .i64 ((jj : Int))), (49, .pointer (some ⟨b, oo + jj, none⟩)), (50, .int .i64 x), (51, .int .i64 t1), (52, .int .i64 ((jj : Int))), (53, .int .i64 ((jj : Int) + 1)), (54, .slice (some ⟨b, oo, none⟩) n c), (55, .int .i64 ((jj : Int))), (56, .pointer (some ⟨b, oo + jj, none⟩)), (57, .int .i64 x), (58, .int .i64 (x / 64)), (59, .int .i64 sh), (60, .int .i64 v1), (61, .agg #[.int .i64 2, .int .i64 t1, .int .i64 ((jj : Int) + 1), .int .i64 v1]), (62, .slice (some ⟨e62, 0, none⟩) 1 1)] := by
    refine ⟨?_, ?_, ?_, ?_, ?_, ?_, ?_, ?_, ?_, ?_, ?_, ?_, ?_, ?_, ?_, ?_, ?_, trivial⟩
    · exact h 0 (some 46) (by omega) rfl
    · exact h 1 (some 47) (by omega) rfl
    · exact h 2 (some 48) (by omega) rfl
    · exact h 3 (some 49) (by omega) rfl
    · exact h 4 (some 50) (by omega) rfl
    · exact h 5 (some 51) (by omega) rfl
    · exact h 6 (some 52) (by omega) rfl
    · exact h 7 (some 53) (by omega) rfl
    · exact h 8 (some 54) (by omega) rfl
    · exact h 9 (some 55) (by omega) rfl
    · exact h 10 (some 56) (by omega) rfl
    · exact h 11 (some 57) (by omega) rfl
    · exact h 12 (some 58) (by omega) rfl
    · exact h 13 (some 59) (by omega) rfl
    · exact h 14 (some 60) (by omega) rfl
    · exact h 15 (some 61) (by omega) rfl
    · exact h62
  refine hW _ _ ?_
  rw [frame_is hF _ hv (by rfl) (by rfl)]
  exact hend e62 w hB p62
end

end Go.Proofs.Ytjgjbhbpndjnnaa

namespace Go.Proofs.Ytjgjbhbpndjnnaa

/-- Items of one series, numbered from one on. -/
structure Fam (σ : Int) (f : Nat → It) : Prop where
  s : ∀ i, (f i).s = σ
  q : ∀ i : Nat, (f i).q = (i : Int) + 1
  ok : ∀ i, i < 64 → itemB (f i) = true
def rowF (f : Nat → It) (n : Nat) : List It := (List.range n).map f
section
variable {σ : Int} {f : Nat → It} {n j : Nat} {bs : List Int} {R xs : List It}
theorem rowF_succ (f : Nat → It) (n : Nat) : rowF f (n + 1) = rowF f n ++ [f n] := by simp [rowF, List.range_succ]
theorem rowF_len (f : Nat → It) (n : Nat) : (rowF f n).length = n := by simp [rowF]
theorem rowF_mem {y : It} (h : y ∈ rowF f n) : ∃ i, i < n ∧ y = f i := by
  obtain ⟨i, hi, rfl⟩ := List.mem_map.1 h
  exact ⟨i, by simpa using hi, rfl⟩
theorem rowF_in {i : Nat} (h : i < n) : f i ∈ rowF f n := List.mem_map.2 ⟨i, by simpa using h, rfl⟩
theorem Fam.its (F : Fam σ f) (hb : boundsB bs = true) (hn : n ≤ 64) : ItsT bs (rowF f n) :=
  ⟨hb, fun x hx => by obtain ⟨i, hi, rfl⟩ := rowF_mem hx; exact F.ok i (by omega), fun x hx y hy => by
    obtain ⟨i, _, rfl⟩ := rowF_mem hx
    obtain ⟨k, _, rfl⟩ := rowF_mem hy
    rw [F.s, F.s], by rw [rowF_len]; omega⟩
/-- The next one may stand with some of those ahead. -/
theorem Fam.fit (F : Fam σ f) (hb : boundsB bs = true) (hj : j < 64) (hR : ∀ y, y ∈ R → y ∈ rowF f j) (hl : R.length ≤ j) : fitT R [f j] = true := by
  have h1 : ItsT bs (rowF f (j + 1)) := F.its hb (by omega)
  have hR2 : ItsT bs R := h1.sub (fun y hy => by rw [rowF_succ]; exact List.mem_append_left _ (hR y hy)) (by rw [rowF_len]; omega)
  refine (fitT_iff hR2).2 (h1.sub (fun y hy => ?_) (by rw [rowF_len, List.length_append, List.length_singleton]; omega))
  rw [rowF_succ]
  rcases List.mem_append.1 hy with hy | hy
  · exact List.mem_append_left _ (hR y hy)
  · exact List.mem_append_right _ hy
theorem Fam.new (F : Fam σ f) (hR : ∀ y, y ∈ R → y ∈ rowF f j) : NewS R [f j] :=
  ⟨fun x hx => by
    simp only [List.mem_singleton] at hx
    subst hx
    refine twinB_no.2 fun y hy h => ?_
    obtain ⟨i, hi, rfl⟩ := rowF_mem (hR y hy)
    have := h.2
    rw [F.q, F.q] at this
    omega, List.pairwise_singleton _ _⟩
theorem Fam.news (F : Fam σ f) (n : Nat) : NewS [] (rowF f n) :=
  ⟨fun _ _ => rfl, by
    refine List.pairwise_map.2 (List.Pairwise.imp ?_ List.pairwise_lt_range)
    intro a b hab e
    have := e.2
    rw [F.q, F.q] at this
    omega⟩
theorem NewS.sublist {xs ys : List It} (h : NewS R ys) (hs : xs.Sublist ys) : NewS R xs := ⟨fun x hx => h.1 x (hs.subset hx), h.2.sublist hs⟩
theorem insAll_mem {y : It} : y ∈ insAll [] xs ↔ y ∈ xs := by rw [(insAll_perm [] xs).mem_iff, List.nil_append]
theorem insAll_len (xs : List It) : (insAll [] xs).length = xs.length := by rw [(insAll_perm [] xs).length_eq, List.nil_append]
theorem stay_snoc (b : Int) (xs : List It) (x : It) : stay b (xs ++ [x]) = if x.t < b then stay b xs else stay b xs ++ [x] := by
  unfold stay
  rw [List.filter_append]
  split
  · next h => simp; omega
  · next h => simp; omega
theorem stay_mem {b : Int} {y : It} : y ∈ stay b xs ↔ y ∈ xs ∧ ¬ y.t < b := by simp [stay, List.mem_filter]
/-- What stays of all, laid in, is what stays, laid in. -/
theorem stay_all_in (b : Int) (h : NewS [] xs) : stay b (insAll [] xs) = insAll [] (stay b xs) := by
  refine StrS.eq ((insAll_str List.Pairwise.nil h).filter _) (insAll_str List.Pairwise.nil (h.sublist List.filter_sublist)) fun y => ?_
  show y ∈ stay b (insAll [] xs) ↔ _
  rw [stay_mem, insAll_mem, insAll_mem, stay_mem]
/-- A span, cut. -/
theorem inS_cut {a m b : Int} (hs : StrS R) (h1 : a ≤ m) (h2 : m ≤ b) : inS a b R = inS a m R ++ inS m b R := by
  refine StrS.eq (hs.filter _) (List.pairwise_append.2 ⟨hs.filter _, hs.filter _, fun x hx y hy => ?_⟩) fun y => ?_
  · have e1 := (List.mem_filter.1 hx).2
    have e2 := (List.mem_filter.1 hy).2
    rw [decide_eq_true_eq] at e1 e2
    rw [lt2_iff]
    omega
  · unfold inS
    rw [List.mem_append, List.mem_filter, List.mem_filter, List.mem_filter, decide_eq_true_eq, decide_eq_true_eq, decide_eq_true_eq]
    constructor
    · rintro ⟨h, h3⟩
      by_cases h4 : y.t < m
      · exact .inl ⟨h, by omega⟩
      · exact .inr ⟨h, by omega⟩
    · rintro (⟨h, h3⟩ | ⟨h, h3⟩)
      · exact ⟨h, by omega⟩
      · exact ⟨h, by omega⟩
theorem inS_none {a b : Int} (h : b ≤ a) : inS a b R = [] := List.filter_eq_nil_iff.2 fun y _ => by simp; omega
end

end Go.Proofs.Ytjgjbhbpndjnnaa

namespace Go.Proofs.Ytjgjbhbpndjnnaa
open Go.RowKit

set_option maxRecDepth 100000 in
theorem rf_neqI {D : List (Option Tmp)} {Φ : Fact} {o : Oper} {a : Act} {w : World} (hw : Region.wanted o (yieldD D a.tmps) = true) {t : Tmp} (hd : o.dst = some t) (x y : Operand) (ho : o.op = .binOp .neq 23 x y 23) (z : It) (hx : a.eval x = .agg #[.int .i64 z.s, .int .i64 z.t, .int .i64 z.q, .int .i64 z.v]) (hy : a.eval y = .agg #[.int .i64 z.s, .int .i64 z.t, .int .i64 z.q, .int .i64 z.v]) (h : Φ (.bool false) w) : StepD Try.prog D Φ o a w :=
  step_val hw hd _ _ (by unfold execOp; rw [ho]; simp only [hx, hy]; simp [go_sem]) (Below.refl _ _) h
def sitD : List (Option Tmp) := [some 17, some 18, some 19, some 20, some 21, some 22, some 23, some 24, some 25]
def sitF (x : It) (b1 o1 b2 o2 n e1 e2 q : Nat) : List Fact := [isV (.slice (some ⟨b1, o1, none⟩) n e1), isV (.int .i64 q), isV (.pointer (some ⟨b1, o1 + q * 4, none⟩)), isV (.agg #[.int .i64 x.s, .int .i64 x.t, .int .i64 x.q, .int .i64 x.v]), isV (.slice (some ⟨b2, o2, none⟩) n e2), isV (.int .i64 q), isV (.pointer (some ⟨b2, o2 + q * 4, none⟩)), isV (.agg #[.int .i64 x.s, .int .i64 x.t, .int .i64 x.q, .int .i64 x.v]), isV (.bool false)]
set_option maxRecDepth 100000 in
theorem sitF_mono (x : It) (b1 o1 b2 o2 n e1 e2 q : Nat) : ∀ φ ∈ sitF x b1 o1 b2 o2 n e1 e2 q, Mono φ := by
  unfold sitF
  repeat (first | exact monos_nil | (refine monos_cons (mono_isV _) ?_))
structure sitS (x : It) (b1 o1 b2 o2 n e1 e2 q : Nat) (a0 : Act) (w0 : World) : Prop where
  size : a0.tmps.size = 26
  v0 : a0.tmps.getD 0 undef = .slice (some ⟨b1, o1, none⟩) n e1
  v1 : a0.tmps.getD 1 undef = .slice (some ⟨b2, o2, none⟩) n e2
  v5 : a0.tmps.getD 5 undef = .int .i64 q
  x1 : w0.rangeAt b1 (o1 + q * 4) (itemL x)
  x2 : w0.rangeAt b2 (o2 + q * 4) (itemL x)
  hq : q < n
section
variable {x : It} {b1 o1 b2 o2 n e1 e2 q : Nat} {a0 : Act} {w0 : World} (S : sitS x b1 o1 b2 o2 n e1 e2 q a0 w0)
include S
set_option maxRecDepth 100000 in
set_option maxHeartbeats 8000000 in
theorem sit_ok : AllOps (fun j o => ∀ (a : Act) (w : World), Below w0.heap.size w0 w → FrD sitD a0 a → needs sitD (sitF x b1 o1 b2 o2 n e1 e2 q) a w o.after.toList → StepD Try.prog sitD (factAt (sitF x b1 o1 b2 o2 n e1 e2 q) j) o a w) 0 (opsOf 6 Try.f36) := by
  simp only [opsOf, Try.f36, opsAt, Option.bind, Option.or, Option.getD, reduceCtorEq, if_true, if_false, Nat.reduceEqDiff]
  refine ⟨?_, ?_⟩
  · intro _a _w _hB hF _hd
    exact step_move (guard_none rfl) rfl _ rfl ((hF.other 0 rfl).trans S.v0)
  refine ⟨?_, ?_⟩
  · intro _a _w _hB hF _hd
    exact step_move (guard_none rfl) rfl _ rfl ((hF.other 5 rfl).trans S.v5)
  refine ⟨?_, ?_⟩
  · intro a _w _hB _hF hd
    have h17 : a.tmps.getD 17 undef = .slice (some ⟨b1, o1, none⟩) n e1 := hd.1 rfl
    have h18 : a.tmps.getD 18 undef = .int .i64 q := hd.2.1 rfl
    exact rf_index (guard_none rfl) rfl _ _ _ rfl Try.underlying52 4 (fun _ => by kernel_rfl) _ _ _ _ q _ h17 h18 rfl S.hq rfl
  refine ⟨?_, ?_⟩
  · intro a _w hB _hF hd
    have h19 : a.tmps.getD 19 undef = .pointer (some ⟨b1, o1 + q * 4, none⟩) := hd.1 rfl
    exact rf_loadS (guard_none rfl) rfl _ _ rfl _ _ h19 _ (rangeAt_keep S.x1 (by simp [itemL]) fun _ hp => hB.cell hp) Try.underlying23 rfl Try.sizeItem rfl
  refine ⟨?_, ?_⟩
  · intro _a _w _hB hF _hd
    exact step_move (guard_none rfl) rfl _ rfl ((hF.other 1 rfl).trans S.v1)
  refine ⟨?_, ?_⟩
  · intro _a _w _hB hF _hd
    exact step_move (guard_none rfl) rfl _ rfl ((hF.other 5 rfl).trans S.v5)
  refine ⟨?_, ?_⟩
  · intro a _w _hB _hF hd
    have h21 : a.tmps.getD 21 undef = .slice (some ⟨b2, o2, none⟩) n e2 := hd.1 rfl
    have h22 : a.tmps.getD 22 undef = .int .i64 q := hd.2.1 rfl
    exact rf_index (guard_none rfl) rfl _ _ _ rfl Try.underlying52 4 (fun _ => by kernel_rfl) _ _ _ _ q _ h21 h22 rfl S.hq rfl
  refine ⟨?_, ?_⟩
  · intro a _w hB _hF hd
    have h23 : a.tmps.getD 23 undef = .pointer (some ⟨b2, o2 + q * 4, none⟩) := hd.1 rfl
    exact rf_loadS (guard_none rfl) rfl _ _ rfl _ _ h23 _ (rangeAt_keep S.x2 (by simp [itemL]) fun _ hp => hB.cell hp) Try.underlying23 rfl Try.sizeItem rfl
  refine ⟨?_, ?_⟩
  · intro a _w _hB _hF hd
    have h20 : a.tmps.getD 20 undef = .agg #[.int .i64 x.s, .int .i64 x.t, .int .i64 x.q, .int .i64 x.v] := hd.1 rfl
    have h24 : a.tmps.getD 24 undef = .agg #[.int .i64 x.s, .int .i64 x.t, .int .i64 x.q, .int .i64 x.v] := hd.2.1 rfl
    exact rf_neqI (guard_none rfl) rfl _ _ rfl x h20 h24 rfl
  trivial
set_option maxRecDepth 100000 in
theorem sit_any {Q : Exit → Act → World → Prop} {l : List Oper} (hl : opsOf 6 Try.f36 = l) (hend : ∀ w : World, Below w0.heap.size w0 w → Q .normal (putAll a0 [(17, .slice (some ⟨b1, o1, none⟩) n e1), (18, .int .i64 q), (19, .pointer (some ⟨b1, o1 + q * 4, none⟩)), (20, .agg #[.int .i64 x.s, .int .i64 x.t, .int .i64 x.q, .int .i64 x.v]), (21, .slice (some ⟨b2, o2, none⟩) n e2), (22, .int .i64 q), (23, .pointer (some ⟨b2, o2 + q * 4, none⟩)), (24, .agg #[.int .i64 x.s, .int .i64 x.t, .int .i64 x.q, .int .i64 x.v]), (25, .bool false)]) w) :
    (Code.region 6 l.toArray true).wp Try.prog Q a0 w0 := by
  subst hl
  refine region_facts2 (sitF x b1 o1 b2 o2 n e1 e2 q) sitD 26 S.size rfl (by kernel_rfl) (by kernel_rfl) (sitF_mono _ _ _ _ _ _ _ _ _) (sit_ok S) fun a w hB hF h => ?_
  have hv : valsAre a [(17, .slice (some ⟨b1, o1, none⟩) n e1), (18, .int .i64 q), (19, .pointer (some ⟨b1, o1 + q * 4, none⟩)), (20, .agg #[.int .i64 x.s, .int .i64 x.t, .int .i64 x.q, .int .i64 x.v]), (21, .slice (some ⟨b2, o2, none⟩) n e2), (22, .int .i64 q), (23, .pointer (some ⟨b2, o2 + q * 4, none⟩)), (24, .agg #[.int .i64 x.s, .int .i64 x.t, .int .i64 x.q, .int .i64 x.v]), (25, .bool false)] := by
    refine ⟨?_, ?_, ?_, ?_, ?_, ?_, ?_, ?_, ?_, trivial⟩
    · exact h 0 (some 17) rfl
    · exact h 1 (some 18) rfl
    · exact h 2 (some 19) rfl
    · exact h 3 (some 20) rfl
    · exact h 4 (some 21) rfl
    · exact h 5 (some 22) rfl
    · exact h 6 (some 23) rfl
    · exact h 7 (some 24) rfl
    · exact h 8 (some 25) rfl
  rw [frame_is hF _ hv (by rfl) (by rfl)]
  exact hend w hB
end

end Go.Proofs.Ytjgjbhbpndjnnaa
