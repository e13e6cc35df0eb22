/-
  session.May's drawn region: does a session fit, and follow the one ahead? Its facts, one by one (written by gen/sesm.py).
  Walks: session.May, session.itemsFit.
  Walk: session.itemsFit: do items fit sessions?
-/
import Derived.Test.YtgdeaddfkcokpaaG7h
import Derived.Test.YtgdeaddfkcokpaaSesT
import Derived.Test.YtgdeaddfkcokpaaG7e
import Derived.Test.YtgdeaddfkcokpaaVars
namespace Go.Proofs.Ytgdeaddfkcokpaa
open Go.RowKit

def smfD : List (Option Tmp) := [some 24, some 25, some 26, some 27, some 28, some 29, some 30, some 31, some 32, some 33, some 34, some 35, some 36, some 37, some 38, some 39, some 40, some 41, some 42]
def smfF (s _p : Se) (A B _C _E : Option Addr) (k c m d _ld _e _g _b _fo _n _r _q : Nat) (_bs : List Int) (_gap : Int) : List Fact := [isV (.agg (sesC s A k c)), isV (.slice B m d), isV (.bool false), isV (.bool true), isV (.bool true), isV (undef), isV (undef), isV (undef), isV (undef), isV (undef), isV (undef), isV (undef), isV (undef), isV (undef), isV (undef), isV (undef), isV (undef), isV (undef), isV (.bool true)]
theorem smfF_mono (s p : Se) (A B C E : Option Addr) (k c m d ld e g b fo n r q : Nat) (bs : List Int) (gap : Int) : ∀ φ ∈ smfF s p A B C E k c m d ld e g b fo n r q bs gap, Mono φ := by
  unfold smfF
  repeat (first | exact monos_nil | (refine monos_cons (mono_isV _) ?_))
structure smfS (s p : Se) (A B C E : Option Addr) (k c m d ld e g b fo n r q : Nat) (bs : List Int) (gap : Int) (a0 : Act) (w0 : World) : Prop where
  size : a0.tmps.size = 44
  v2 : a0.tmps.getD 2 undef = .slice B m d
  v8 : a0.tmps.getD 8 undef = .pointer (some ⟨g, 0, none⟩)
  box : Has w0 g 60 (sesC s A k c)
  hi : Ints w0 A k s.a.h
  kc : k ≤ c ∧ c ≤ maxLen
  hb : Ints w0 B m bs
  hm : m ≤ maxLen
  e1 : fitsS bs s = false
section
variable {s p : Se} {A B C E : Option Addr} {k c m d ld e g b fo n r q : Nat} {bs : List Int} {gap : Int} {a0 : Act} {w0 : World} (S : smfS s p A B C E k c m d ld e g b fo n r q bs gap a0 w0)
include S
set_option maxRecDepth 100000 in
set_option maxHeartbeats 8000000 in
theorem smf_ok : AllOps (fun j o => ∀ (a : Act) (w : World), Below w0.heap.size w0 w → FrD smfD a0 a → needs smfD (smfF s p A B C E k c m d ld e g b fo n r q bs gap) a w o.after.toList → StepD Try.prog smfD (factAt (smfF s p A B C E k c m d ld e g b fo n r q bs gap) j) o a w) 0 (opsOf 6 Try.f30) := by
  simp only [opsOf, Try.f30, opsAt, Option.bind, Option.or, Option.getD, reduceCtorEq, if_true, if_false, Nat.reduceEqDiff]
  refine ⟨?_, ?_⟩
  · intro _a _w hB hF _hd
    exact rf_loadS (guard_none rfl) rfl _ _ rfl g 0 ((hF.other 8 rfl).trans S.v8) _ (rf_range (S.box.below hB S.box.lt)) Try.underlying60 rfl Try.sizeSes rfl
  refine ⟨?_, ?_⟩
  · intro _a _w _hB hF _hd
    exact step_move (guard_none rfl) rfl _ rfl ((hF.other 2 rfl).trans S.v2)
  refine ⟨?_, ?_⟩
  · intro a _w hB _hF hd
    have h24 : a.tmps.getD 24 undef = .agg (sesC s A k c) := hd.1 rfl
    have h25 : a.tmps.getD 25 undef = .slice B m d := hd.2.1 rfl
    refine step_call (guard_none rfl) rfl _ _ (rf_call_run Try.func60 (by kernel_rfl) (by kernel_rfl) _ _ rfl) ?_
    simp only [List.map_toArray, List.map_cons, List.map_nil, Act.eval, h24, h25]
    exact (sfits_any s A k c B m d bs _ (S.hi.below hB) S.kc (S.hb.below hB) S.hm).mono (by rintro x w1 ⟨rfl, hb⟩; exact ⟨_, rfl, hb, by rw [S.e1]; rfl⟩)
  refine ⟨?_, ?_⟩
  · intro a _w _hB _hF hd
    have h26 : a.tmps.getD 26 undef = .bool false := hd.1 rfl
    exact step_not (guard_none rfl) rfl _ _ rfl h26 rfl
  refine ⟨?_, ?_⟩
  · intro a _w _hB _hF hd
    have h27 : a.tmps.getD 27 undef = .bool true := hd.1 rfl
    exact step_move (guard_none rfl) rfl _ rfl h27
  refine ⟨?_, ?_⟩
  · intro a _w _hB _hF hd
    have h28 : a.tmps.getD 28 undef = .bool true := hd.1 rfl
    exact rf_shut false rfl rfl h28 rfl
  refine ⟨?_, ?_⟩
  · intro a _w _hB _hF hd
    have h28 : a.tmps.getD 28 undef = .bool true := hd.2.1 rfl
    exact rf_shut false rfl rfl h28 rfl
  refine ⟨?_, ?_⟩
  · intro a _w _hB _hF hd
    have h28 : a.tmps.getD 28 undef = .bool true := hd.2.1 rfl
    exact rf_shut false rfl rfl h28 rfl
  refine ⟨?_, ?_⟩
  · intro a _w _hB _hF hd
    have h31 : a.tmps.getD 31 undef = undef := hd.1 rfl
    exact rf_shutu true rfl rfl h31 rfl
  refine ⟨?_, ?_⟩
  · intro a _w _hB _hF hd
    have h31 : a.tmps.getD 31 undef = undef := hd.1 rfl
    exact rf_shutu true rfl rfl h31 rfl
  refine ⟨?_, ?_⟩
  · intro a _w _hB _hF hd
    have h31 : a.tmps.getD 31 undef = undef := hd.1 rfl
    exact rf_shutu true rfl rfl h31 rfl
  refine ⟨?_, ?_⟩
  · intro a _w _hB _hF hd
    have h31 : a.tmps.getD 31 undef = undef := hd.2.1 rfl
    exact rf_shutu true rfl rfl h31 rfl
  refine ⟨?_, ?_⟩
  · intro a _w _hB _hF hd
    have h31 : a.tmps.getD 31 undef = undef := hd.2.2.1 rfl
    exact rf_shutu true rfl rfl h31 rfl
  refine ⟨?_, ?_⟩
  · intro a _w _hB _hF hd
    have h31 : a.tmps.getD 31 undef = undef := hd.2.1 rfl
    exact rf_shutu true rfl rfl h31 rfl
  refine ⟨?_, ?_⟩
  · intro a _w _hB _hF hd
    have h31 : a.tmps.getD 31 undef = undef := hd.1 rfl
    exact rf_shutu true rfl rfl h31 rfl
  refine ⟨?_, ?_⟩
  · intro a _w _hB _hF hd
    have h31 : a.tmps.getD 31 undef = undef := hd.2.2.2.1 rfl
    exact rf_shutu true rfl rfl h31 rfl
  refine ⟨?_, ?_⟩
  · intro a _w _hB _hF hd
    have h31 : a.tmps.getD 31 undef = undef := hd.2.1 rfl
    exact rf_shutu true rfl rfl h31 rfl
  refine ⟨?_, ?_⟩
  · intro a _w _hB _hF hd
    have h28 : a.tmps.getD 28 undef = .bool true := hd.2.2.1 rfl
    exact rf_shut false rfl rfl h28 rfl
  refine ⟨?_, ?_⟩
  · intro a _w _hB _hF hd
    have h28 : a.tmps.getD 28 undef = .bool true := hd.1 rfl
    exact rf_pick (guard_none rfl) rfl _ _ _ rfl true h28 rfl
  trivial
theorem smf_any {Q : Exit → Act → World → Prop} {l : List Oper} (hl : opsOf 6 Try.f30 = l) (hend : ∀ w : World, Below w0.heap.size w0 w → Q .normal (putAll a0 [(24, .agg (sesC s A k c)), (25, .slice B m d), (26, .bool false), (27, .bool true), (28, .bool true), (29, undef), (30, undef), (31, undef), (32, undef), (33, undef), (34, undef), (35, undef), (36, undef), (37, undef), (38, undef), (39, undef), (40, undef), (41, undef), (42, .bool true)]) w) :
    (Code.region 6 l.toArray true).wp Try.prog Q a0 w0 := by
  subst hl
  refine region_facts2 (smfF s p A B C E k c m d ld e g b fo n r q bs gap) smfD 44 S.size rfl (by kernel_rfl) (by kernel_rfl) (smfF_mono _ _ _ _ _ _ _ _ _ _ _ _ _ _ _ _ _ _ _ _) (smf_ok S) fun a w hB hF h => ?_
  have hv : valsAre a [(24, .agg (sesC s A k c)), (25, .slice B m d), (26, .bool false), (27, .bool true), (28, .bool true), (29, undef), (30, undef), (31, undef), (32, undef), (33, undef), (34, undef), (35, undef), (36, undef), (37, undef), (38, undef), (39, undef), (40, undef), (41, undef), (42, .bool true)] := by
    refine ⟨?_, ?_, ?_, ?_, ?_, ?_, ?_, ?_, ?_, ?_, ?_, ?_, ?_, ?_, ?_, ?_, ?_, ?_, ?_, trivial⟩
    · exact h 0 (some 24) rfl
    · exact h 1 (some 25) rfl
    · exact h 2 (some 26) rfl
    · exact h 3 (some 27) rfl
    · exact h 4 (some 28) rfl
    · exact h 5 (some 29) rfl
    · exact h 6 (some 30) rfl
    · exact h 7 (some 31) rfl
    · exact h 8 (some 32) rfl
    · exact h 9 (some 33) rfl
    · exact h 10 (some 34) rfl
    · exact h 11 (some 35) rfl
    · exact h 12 (some 36) rfl
    · exact h 13 (some 37) rfl
    · exact h 14 (some 38) rfl
    · exact h 15 (some 39) rfl
    · exact h 16 (some 40) rfl
    · exact h 17 (some 41) rfl
    · exact h 18 (some 42) rfl
  rw [frame_is hF _ hv (by rfl) (by rfl)]
  exact hend w hB
end

def smzD : List (Option Tmp) := [some 24, some 25, some 26, some 27, some 28, some 29, some 30, some 31, some 32, some 33, some 34, some 35, some 36, some 37, some 38, some 39, some 40, some 41, some 42]
def smzF (s _p : Se) (A B _C _E : Option Addr) (k c m d _ld _e _g _b _fo _n _r q : Nat) (_bs : List Int) (_gap : Int) : List Fact := [isV (.agg (sesC s A k c)), isV (.slice B m d), isV (.bool true), isV (.bool false), isV (.bool false), isV (.int .i64 q), isV (.bool false), isV (.bool false), isV (undef), isV (undef), isV (undef), isV (undef), isV (undef), isV (undef), isV (undef), isV (undef), isV (undef), isV (.bool false), isV (.bool false)]
theorem smzF_mono (s p : Se) (A B C E : Option Addr) (k c m d ld e g b fo n r q : Nat) (bs : List Int) (gap : Int) : ∀ φ ∈ smzF s p A B C E k c m d ld e g b fo n r q bs gap, Mono φ := by
  unfold smzF
  repeat (first | exact monos_nil | (refine monos_cons (mono_isV _) ?_))
structure smzS (s p : Se) (A B C E : Option Addr) (k c m d ld e g b fo n r q : Nat) (bs : List Int) (gap : Int) (a0 : Act) (w0 : World) : Prop where
  size : a0.tmps.size = 44
  v2 : a0.tmps.getD 2 undef = .slice B m d
  v7 : a0.tmps.getD 7 undef = .int .i64 q
  v8 : a0.tmps.getD 8 undef = .pointer (some ⟨g, 0, none⟩)
  box : Has w0 g 60 (sesC s A k c)
  hi : Ints w0 A k s.a.h
  kc : k ≤ c ∧ c ≤ maxLen
  hb : Ints w0 B m bs
  hm : m ≤ maxLen
  e1 : fitsS bs s = true
  hj : q = 0
section
variable {s p : Se} {A B C E : Option Addr} {k c m d ld e g b fo n r q : Nat} {bs : List Int} {gap : Int} {a0 : Act} {w0 : World} (S : smzS s p A B C E k c m d ld e g b fo n r q bs gap a0 w0)
include S
set_option maxRecDepth 100000 in
set_option maxHeartbeats 8000000 in
theorem smz_ok : AllOps (fun j o => ∀ (a : Act) (w : World), Below w0.heap.size w0 w → FrD smzD a0 a → needs smzD (smzF s p A B C E k c m d ld e g b fo n r q bs gap) a w o.after.toList → StepD Try.prog smzD (factAt (smzF s p A B C E k c m d ld e g b fo n r q bs gap) j) o a w) 0 (opsOf 6 Try.f30) := by
  simp only [opsOf, Try.f30, opsAt, Option.bind, Option.or, Option.getD, reduceCtorEq, if_true, if_false, Nat.reduceEqDiff]
  refine ⟨?_, ?_⟩
  · intro _a _w hB hF _hd
    exact rf_loadS (guard_none rfl) rfl _ _ rfl g 0 ((hF.other 8 rfl).trans S.v8) _ (rf_range (S.box.below hB S.box.lt)) Try.underlying60 rfl Try.sizeSes rfl
  refine ⟨?_, ?_⟩
  · intro _a _w _hB hF _hd
    exact step_move (guard_none rfl) rfl _ rfl ((hF.other 2 rfl).trans S.v2)
  refine ⟨?_, ?_⟩
  · intro a _w hB _hF hd
    have h24 : a.tmps.getD 24 undef = .agg (sesC s A k c) := hd.1 rfl
    have h25 : a.tmps.getD 25 undef = .slice B m d := hd.2.1 rfl
    refine step_call (guard_none rfl) rfl _ _ (rf_call_run Try.func60 (by kernel_rfl) (by kernel_rfl) _ _ rfl) ?_
    simp only [List.map_toArray, List.map_cons, List.map_nil, Act.eval, h24, h25]
    exact (sfits_any s A k c B m d bs _ (S.hi.below hB) S.kc (S.hb.below hB) S.hm).mono (by rintro x w1 ⟨rfl, hb⟩; exact ⟨_, rfl, hb, by rw [S.e1]; rfl⟩)
  refine ⟨?_, ?_⟩
  · intro a _w _hB _hF hd
    have h26 : a.tmps.getD 26 undef = .bool true := hd.1 rfl
    exact step_not (guard_none rfl) rfl _ _ rfl h26 rfl
  refine ⟨?_, ?_⟩
  · intro a _w _hB _hF hd
    have h27 : a.tmps.getD 27 undef = .bool false := hd.1 rfl
    exact step_move (guard_none rfl) rfl _ rfl h27
  refine ⟨?_, ?_⟩
  · intro a _w _hB hF hd
    have h28 : a.tmps.getD 28 undef = .bool false := hd.1 rfl
    exact step_move (rf_open false rfl rfl h28) rfl _ rfl ((hF.other 7 rfl).trans S.v7)
  refine ⟨?_, ?_⟩
  · intro a _w _hB _hF hd
    have h28 : a.tmps.getD 28 undef = .bool false := hd.2.1 rfl
    have h29 : a.tmps.getD 29 undef = .int .i64 q := hd.1 rfl
    exact rf_gtr (rf_open false rfl rfl h28) rfl _ _ rfl _ _ h29 rfl false (decide_eq_false (by have := S.hj; omega)) rfl
  refine ⟨?_, ?_⟩
  · intro a _w _hB _hF hd
    have h28 : a.tmps.getD 28 undef = .bool false := hd.2.1 rfl
    have h30 : a.tmps.getD 30 undef = .bool false := hd.1 rfl
    exact step_move (rf_open false rfl rfl h28) rfl _ rfl h30
  refine ⟨?_, ?_⟩
  · intro a _w _hB _hF hd
    have h31 : a.tmps.getD 31 undef = .bool false := hd.1 rfl
    exact rf_shut true rfl rfl h31 rfl
  refine ⟨?_, ?_⟩
  · intro a _w _hB _hF hd
    have h31 : a.tmps.getD 31 undef = .bool false := hd.1 rfl
    exact rf_shut true rfl rfl h31 rfl
  refine ⟨?_, ?_⟩
  · intro a _w _hB _hF hd
    have h31 : a.tmps.getD 31 undef = .bool false := hd.1 rfl
    exact rf_shut true rfl rfl h31 rfl
  refine ⟨?_, ?_⟩
  · intro a _w _hB _hF hd
    have h31 : a.tmps.getD 31 undef = .bool false := hd.2.1 rfl
    exact rf_shut true rfl rfl h31 rfl
  refine ⟨?_, ?_⟩
  · intro a _w _hB _hF hd
    have h31 : a.tmps.getD 31 undef = .bool false := hd.2.2.1 rfl
    exact rf_shut true rfl rfl h31 rfl
  refine ⟨?_, ?_⟩
  · intro a _w _hB _hF hd
    have h31 : a.tmps.getD 31 undef = .bool false := hd.2.1 rfl
    exact rf_shut true rfl rfl h31 rfl
  refine ⟨?_, ?_⟩
  · intro a _w _hB _hF hd
    have h31 : a.tmps.getD 31 undef = .bool false := hd.1 rfl
    exact rf_shut true rfl rfl h31 rfl
  refine ⟨?_, ?_⟩
  · intro a _w _hB _hF hd
    have h31 : a.tmps.getD 31 undef = .bool false := hd.2.2.2.1 rfl
    exact rf_shut true rfl rfl h31 rfl
  refine ⟨?_, ?_⟩
  · intro a _w _hB _hF hd
    have h31 : a.tmps.getD 31 undef = .bool false := hd.2.1 rfl
    exact rf_shut true rfl rfl h31 rfl
  refine ⟨?_, ?_⟩
  · intro a _w _hB _hF hd
    have h28 : a.tmps.getD 28 undef = .bool false := hd.2.2.1 rfl
    have h31 : a.tmps.getD 31 undef = .bool false := hd.1 rfl
    exact rf_pick (rf_open false rfl rfl h28) rfl _ _ _ rfl false h31 rfl
  refine ⟨?_, ?_⟩
  · intro a _w _hB _hF hd
    have h28 : a.tmps.getD 28 undef = .bool false := hd.1 rfl
    have h41 : a.tmps.getD 41 undef = .bool false := hd.2.1 rfl
    exact rf_pick (guard_none rfl) rfl _ _ _ rfl false h28 h41
  trivial
theorem smz_any {Q : Exit → Act → World → Prop} {l : List Oper} (hl : opsOf 6 Try.f30 = l) (hend : ∀ w : World, Below w0.heap.size w0 w → Q .normal (putAll a0 [(24, .agg (sesC s A k c)), (25, .slice B m d), (26, .bool true), (27, .bool false), (28, .bool false), (29, .int .i64 q), (30, .bool false), (31, .bool false), (32, undef), (33, undef), (34, undef), (35, undef), (36, undef), (37, undef), (38, undef), (39, undef), (40, undef), (41, .bool false), (42, .bool false)]) w) :
    (Code.region 6 l.toArray true).wp Try.prog Q a0 w0 := by
  subst hl
  refine region_facts2 (smzF s p A B C E k c m d ld e g b fo n r q bs gap) smzD 44 S.size rfl (by kernel_rfl) (by kernel_rfl) (smzF_mono _ _ _ _ _ _ _ _ _ _ _ _ _ _ _ _ _ _ _ _) (smz_ok S) fun a w hB hF h => ?_
  have hv : valsAre a [(24, .agg (sesC s A k c)), (25, .slice B m d), (26, .bool true), (27, .bool false), (28, .bool false), (29, .int .i64 q), (30, .bool false), (31, .bool false), (32, undef), (33, undef), (34, undef), (35, undef), (36, undef), (37, undef), (38, undef), (39, undef), (40, undef), (41, .bool false), (42, .bool false)] := by
    refine ⟨?_, ?_, ?_, ?_, ?_, ?_, ?_, ?_, ?_, ?_, ?_, ?_, ?_, ?_, ?_, ?_, ?_, ?_, ?_, trivial⟩
    · exact h 0 (some 24) rfl
    · exact h 1 (some 25) rfl
    · exact h 2 (some 26) rfl
    · exact h 3 (some 27) rfl
    · exact h 4 (some 28) rfl
    · exact h 5 (some 29) rfl
    · exact h 6 (some 30) rfl
    · exact h 7 (some 31) rfl
    · exact h 8 (some 32) rfl
    · exact h 9 (some 33) rfl
    · exact h 10 (some 34) rfl
    · exact h 11 (some 35) rfl
    · exact h 12 (some 36) rfl
    · exact h 13 (some 37) rfl
    · exact h 14 (some 38) rfl
    · exact h 15 (some 39) rfl
    · exact h 16 (some 40) rfl
    · exact h 17 (some 41) rfl
    · exact h 18 (some 42) rfl
  rw [frame_is hF _ hv (by rfl) (by rfl)]
  exact hend w hB
end

def smtD : List (Option Tmp) := [some 24, some 25, some 26, some 27, some 28, some 29, some 30, some 31, some 32, some 33, some 34, some 35, some 36, some 37, some 38, some 39, some 40, some 41, some 42]
def smtF (s p : Se) (A B C _E : Option Addr) (k c m d ld e _g b fo n r q : Nat) (_bs : List Int) (gap : Int) : List Fact := [isV (.agg (sesC s A k c)), isV (.slice B m d), isV (.bool true), isV (.bool false), isV (.bool false), isV (.int .i64 q), isV (.bool true), isV (.bool true), isV (.agg (sesC s A k c)), isV (.slice (some ⟨b, fo, none⟩) n r), isV (.int .i64 q), isV (.int .i64 (q - 1)), isV (.pointer (some ⟨b, fo + (q - 1) * 15, none⟩)), isV (.agg (sesC p C ld e)), isV (.int .i64 gap), isV (.bool true), isV (.bool false), isV (.bool false), isV (.bool false)]
theorem smtF_mono (s p : Se) (A B C E : Option Addr) (k c m d ld e g b fo n r q : Nat) (bs : List Int) (gap : Int) : ∀ φ ∈ smtF s p A B C E k c m d ld e g b fo n r q bs gap, Mono φ := by
  unfold smtF
  repeat (first | exact monos_nil | (refine monos_cons (mono_isV _) ?_))
structure smtS (s p : Se) (A B C E : Option Addr) (k c m d ld e g b fo n r q : Nat) (bs : List Int) (gap : Int) (a0 : Act) (w0 : World) : Prop where
  size : a0.tmps.size = 44
  v0 : a0.tmps.getD 0 undef = .slice (some ⟨b, fo, none⟩) n r
  v1 : a0.tmps.getD 1 undef = .int .i64 gap
  v2 : a0.tmps.getD 2 undef = .slice B m d
  v7 : a0.tmps.getD 7 undef = .int .i64 q
  v8 : a0.tmps.getD 8 undef = .pointer (some ⟨g, 0, none⟩)
  box : Has w0 g 60 (sesC s A k c)
  hi : Ints w0 A k s.a.h
  kc : k ≤ c ∧ c ≤ maxLen
  hb : Ints w0 B m bs
  hm : m ≤ maxLen
  e1 : fitsS bs s = true
  hj : 0 < q ∧ q < n ∧ n ≤ 1000000000
  pv : SesAt w0 b (fo + (q - 1) * 15) p C ld e
  hs : -1099511627776 ≤ s.f ∧ s.f ≤ 1099511627776
  hp : -1099511627776 ≤ p.l ∧ p.l ≤ 1099511627776
  e2 : follB gap s p = true
section
variable {s p : Se} {A B C E : Option Addr} {k c m d ld e g b fo n r q : Nat} {bs : List Int} {gap : Int} {a0 : Act} {w0 : World} (S : smtS s p A B C E k c m d ld e g b fo n r q bs gap a0 w0)
include S
set_option maxRecDepth 100000 in
set_option maxHeartbeats 8000000 in
theorem smt_ok : AllOps (fun j o => ∀ (a : Act) (w : World), Below w0.heap.size w0 w → FrD smtD a0 a → needs smtD (smtF s p A B C E k c m d ld e g b fo n r q bs gap) a w o.after.toList → StepD Try.prog smtD (factAt (smtF s p A B C E k c m d ld e g b fo n r q bs gap) j) o a w) 0 (opsOf 6 Try.f30) := by
  simp only [opsOf, Try.f30, opsAt, Option.bind, Option.or, Option.getD, reduceCtorEq, if_true, if_false, Nat.reduceEqDiff]
  refine ⟨?_, ?_⟩
  · intro _a _w hB hF _hd
    exact rf_loadS (guard_none rfl) rfl _ _ rfl g 0 ((hF.other 8 rfl).trans S.v8) _ (rf_range (S.box.below hB S.box.lt)) Try.underlying60 rfl Try.sizeSes rfl
  refine ⟨?_, ?_⟩
  · intro _a _w _hB hF _hd
    exact step_move (guard_none rfl) rfl _ rfl ((hF.other 2 rfl).trans S.v2)
  refine ⟨?_, ?_⟩
  · intro a _w hB _hF hd
    have h24 : a.tmps.getD 24 undef = .agg (sesC s A k c) := hd.1 rfl
    have h25 : a.tmps.getD 25 undef = .slice B m d := hd.2.1 rfl
    refine step_call (guard_none rfl) rfl _ _ (rf_call_run Try.func60 (by kernel_rfl) (by kernel_rfl) _ _ rfl) ?_
    simp only [List.map_toArray, List.map_cons, List.map_nil, Act.eval, h24, h25]
    exact (sfits_any s A k c B m d bs _ (S.hi.below hB) S.kc (S.hb.below hB) S.hm).mono (by rintro x w1 ⟨rfl, hb⟩; exact ⟨_, rfl, hb, by rw [S.e1]; rfl⟩)
  refine ⟨?_, ?_⟩
  · intro a _w _hB _hF hd
    have h26 : a.tmps.getD 26 undef = .bool true := hd.1 rfl
    exact step_not (guard_none rfl) rfl _ _ rfl h26 rfl
  refine ⟨?_, ?_⟩
  · intro a _w _hB _hF hd
    have h27 : a.tmps.getD 27 undef = .bool false := hd.1 rfl
    exact step_move (guard_none rfl) rfl _ rfl h27
  refine ⟨?_, ?_⟩
  · intro a _w _hB hF hd
    have h28 : a.tmps.getD 28 undef = .bool false := hd.1 rfl
    exact step_move (rf_open false rfl rfl h28) rfl _ rfl ((hF.other 7 rfl).trans S.v7)
  refine ⟨?_, ?_⟩
  · intro a _w _hB _hF hd
    have h28 : a.tmps.getD 28 undef = .bool false := hd.2.1 rfl
    have h29 : a.tmps.getD 29 undef = .int .i64 q := hd.1 rfl
    exact rf_gtr (rf_open false rfl rfl h28) rfl _ _ rfl _ _ h29 rfl true (decide_eq_true (by have := S.hj; omega)) rfl
  refine ⟨?_, ?_⟩
  · intro a _w _hB _hF hd
    have h28 : a.tmps.getD 28 undef = .bool false := hd.2.1 rfl
    have h30 : a.tmps.getD 30 undef = .bool true := hd.1 rfl
    exact step_move (rf_open false rfl rfl h28) rfl _ rfl h30
  refine ⟨?_, ?_⟩
  · intro a _w hB hF hd
    have h31 : a.tmps.getD 31 undef = .bool true := hd.1 rfl
    exact rf_loadS (rf_open true rfl rfl h31) rfl _ _ rfl g 0 ((hF.other 8 rfl).trans S.v8) _ (rf_range (S.box.below hB S.box.lt)) Try.underlying60 rfl Try.sizeSes rfl
  refine ⟨?_, ?_⟩
  · intro a _w _hB hF hd
    have h31 : a.tmps.getD 31 undef = .bool true := hd.1 rfl
    exact step_move (rf_open true rfl rfl h31) rfl _ rfl ((hF.other 0 rfl).trans S.v0)
  refine ⟨?_, ?_⟩
  · intro a _w _hB hF hd
    have h31 : a.tmps.getD 31 undef = .bool true := hd.1 rfl
    exact step_move (rf_open true rfl rfl h31) rfl _ rfl ((hF.other 7 rfl).trans S.v7)
  refine ⟨?_, ?_⟩
  · intro a _w _hB _hF hd
    have h31 : a.tmps.getD 31 undef = .bool true := hd.2.1 rfl
    have h34 : a.tmps.getD 34 undef = .int .i64 q := hd.1 rfl
    exact rf_sub (rf_open true rfl rfl h31) rfl _ _ rfl _ _ h34 rfl (by have := S.hj; omega) (by have := S.hj; omega) rfl
  refine ⟨?_, ?_⟩
  · intro a _w _hB _hF hd
    have h31 : a.tmps.getD 31 undef = .bool true := hd.2.2.1 rfl
    have h33 : a.tmps.getD 33 undef = .slice (some ⟨b, fo, none⟩) n r := hd.1 rfl
    have h35 : a.tmps.getD 35 undef = .int .i64 (q - 1) := hd.2.1 rfl
    exact rf_index (rf_open true rfl rfl h31) rfl _ _ _ rfl Try.underlying45 15 (fun _ => by kernel_rfl) _ _ _ _ (q - 1) _ h33 h35 (by have := S.hj; omega) (by have := S.hj; omega) rfl
  refine ⟨?_, ?_⟩
  · intro a _w hB _hF hd
    have h31 : a.tmps.getD 31 undef = .bool true := hd.2.1 rfl
    have h36 : a.tmps.getD 36 undef = .pointer (some ⟨b, fo + (q - 1) * 15, none⟩) := hd.1 rfl
    exact rf_loadS (rf_open true rfl rfl h31) rfl _ _ rfl _ _ h36 _ (S.pv.below hB).1 Try.underlying60 rfl Try.sizeSes rfl
  refine ⟨?_, ?_⟩
  · intro a _w _hB hF hd
    have h31 : a.tmps.getD 31 undef = .bool true := hd.1 rfl
    exact step_move (rf_open true rfl rfl h31) rfl _ rfl ((hF.other 1 rfl).trans S.v1)
  refine ⟨?_, ?_⟩
  · intro a _w _hB _hF hd
    have h31 : a.tmps.getD 31 undef = .bool true := hd.2.2.2.1 rfl
    have h32 : a.tmps.getD 32 undef = .agg (sesC s A k c) := hd.1 rfl
    have h37 : a.tmps.getD 37 undef = .agg (sesC p C ld e) := hd.2.1 rfl
    have h38 : a.tmps.getD 38 undef = .int .i64 gap := hd.2.2.1 rfl
    refine step_call (rf_open true rfl rfl h31) rfl _ _ (rf_call_run Try.func61 (by kernel_rfl) (by kernel_rfl) _ _ rfl) ?_
    simp only [List.map_toArray, List.map_cons, List.map_nil, Act.eval, h32, h37, h38]
    exact (sfollows_any s p A C k c ld e gap _ S.hs S.hp).mono (by rintro x w1 ⟨rfl, hb⟩; exact ⟨_, rfl, hb, by rw [S.e2]; rfl⟩)
  refine ⟨?_, ?_⟩
  · intro a _w _hB _hF hd
    have h31 : a.tmps.getD 31 undef = .bool true := hd.2.1 rfl
    have h39 : a.tmps.getD 39 undef = .bool true := hd.1 rfl
    exact step_not (rf_open true rfl rfl h31) rfl _ _ rfl h39 rfl
  refine ⟨?_, ?_⟩
  · intro a _w _hB _hF hd
    have h28 : a.tmps.getD 28 undef = .bool false := hd.2.2.1 rfl
    have h31 : a.tmps.getD 31 undef = .bool true := hd.1 rfl
    have h40 : a.tmps.getD 40 undef = .bool false := hd.2.1 rfl
    exact rf_pick (rf_open false rfl rfl h28) rfl _ _ _ rfl true h31 h40
  refine ⟨?_, ?_⟩
  · intro a _w _hB _hF hd
    have h28 : a.tmps.getD 28 undef = .bool false := hd.1 rfl
    have h41 : a.tmps.getD 41 undef = .bool false := hd.2.1 rfl
    exact rf_pick (guard_none rfl) rfl _ _ _ rfl false h28 h41
  trivial
theorem smt_any {Q : Exit → Act → World → Prop} {l : List Oper} (hl : opsOf 6 Try.f30 = l) (hend : ∀ w : World, Below w0.heap.size w0 w → Q .normal (putAll a0 [(24, .agg (sesC s A k c)), (25, .slice B m d), (26, .bool true), (27, .bool false), (28, .bool false), (29, .int .i64 q), (30, .bool true), (31, .bool true), (32, .agg (sesC s A k c)), (33, .slice (some ⟨b, fo, none⟩) n r), (34, .int .i64 q), (35, .int .i64 (q - 1)), (36, .pointer (some ⟨b, fo + (q - 1) * 15, none⟩)), (37, .agg (sesC p C ld e)), (38, .int .i64 gap), (39, .bool true), (40, .bool false), (41, .bool false), (42, .bool false)]) w) :
    (Code.region 6 l.toArray true).wp Try.prog Q a0 w0 := by
  subst hl
  refine region_facts2 (smtF s p A B C E k c m d ld e g b fo n r q bs gap) smtD 44 S.size rfl (by kernel_rfl) (by kernel_rfl) (smtF_mono _ _ _ _ _ _ _ _ _ _ _ _ _ _ _ _ _ _ _ _) (smt_ok S) fun a w hB hF h => ?_
  have hv : valsAre a [(24, .agg (sesC s A k c)), (25, .slice B m d), (26, .bool true), (27, .bool false), (28, .bool false), (29, .int .i64 q), (30, .bool true), (31, .bool true), (32, .agg (sesC s A k c)), (33, .slice (some ⟨b, fo, none⟩) n r), (34, .int .i64 q), (35, .int .i64 (q - 1)), (36, .pointer (some ⟨b, fo + (q - 1) * 15, none⟩)), (37, .agg (sesC p C ld e)), (38, .int .i64 gap), (39, .bool true), (40, .bool false), (41, .bool false), (42, .bool false)] := by
    refine ⟨?_, ?_, ?_, ?_, ?_, ?_, ?_, ?_, ?_, ?_, ?_, ?_, ?_, ?_, ?_, ?_, ?_, ?_, ?_, trivial⟩
    · exact h 0 (some 24) rfl
    · exact h 1 (some 25) rfl
    · exact h 2 (some 26) rfl
    · exact h 3 (some 27) rfl
    · exact h 4 (some 28) rfl
    · exact h 5 (some 29) rfl
    · exact h 6 (some 30) rfl
    · exact h 7 (some 31) rfl
    · exact h 8 (some 32) rfl
    · exact h 9 (some 33) rfl
    · exact h 10 (some 34) rfl
    · exact h 11 (some 35) rfl
    · exact h 12 (some 36) rfl
    · exact h 13 (some 37) rfl
    · exact h 14 (some 38) rfl
    · exact h 15 (some 39) rfl
    · exact h 16 (some 40) rfl
    · exact h 17 (some 41) rfl
    · exact h 18 (some 42) rfl
  rw [frame_is hF _ hv (by rfl) (by rfl)]
  exact hend w hB
end

def smnD : List (Option Tmp) := [some 24, some 25, some 26, some 27, some 28, some 29, some 30, some 31, some 32, some 33, some 34, some 35, some 36, some 37, some 38, some 39, some 40, some 41, some 42]
def smnF (s p : Se) (A B C _E : Option Addr) (k c m d ld e _g b fo n r q : Nat) (_bs : List Int) (gap : Int) : List Fact := [isV (.agg (sesC s A k c)), isV (.slice B m d), isV (.bool true), isV (.bool false), isV (.bool false), isV (.int .i64 q), isV (.bool true), isV (.bool true), isV (.agg (sesC s A k c)), isV (.slice (some ⟨b, fo, none⟩) n r), isV (.int .i64 q), isV (.int .i64 (q - 1)), isV (.pointer (some ⟨b, fo + (q - 1) * 15, none⟩)), isV (.agg (sesC p C ld e)), isV (.int .i64 gap), isV (.bool false), isV (.bool true), isV (.bool true), isV (.bool true)]
theorem smnF_mono (s p : Se) (A B C E : Option Addr) (k c m d ld e g b fo n r q : Nat) (bs : List Int) (gap : Int) : ∀ φ ∈ smnF s p A B C E k c m d ld e g b fo n r q bs gap, Mono φ := by
  unfold smnF
  repeat (first | exact monos_nil | (refine monos_cons (mono_isV _) ?_))
structure smnS (s p : Se) (A B C E : Option Addr) (k c m d ld e g b fo n r q : Nat) (bs : List Int) (gap : Int) (a0 : Act) (w0 : World) : Prop where
  size : a0.tmps.size = 44
  v0 : a0.tmps.getD 0 undef = .slice (some ⟨b, fo, none⟩) n r
  v1 : a0.tmps.getD 1 undef = .int .i64 gap
  v2 : a0.tmps.getD 2 undef = .slice B m d
  v7 : a0.tmps.getD 7 undef = .int .i64 q
  v8 : a0.tmps.getD 8 undef = .pointer (some ⟨g, 0, none⟩)
  box : Has w0 g 60 (sesC s A k c)
  hi : Ints w0 A k s.a.h
  kc : k ≤ c ∧ c ≤ maxLen
  hb : Ints w0 B m bs
  hm : m ≤ maxLen
  e1 : fitsS bs s = true
  hj : 0 < q ∧ q < n ∧ n ≤ 1000000000
  pv : SesAt w0 b (fo + (q - 1) * 15) p C ld e
  hs : -1099511627776 ≤ s.f ∧ s.f ≤ 1099511627776
  hp : -1099511627776 ≤ p.l ∧ p.l ≤ 1099511627776
  e2 : follB gap s p = false
section
variable {s p : Se} {A B C E : Option Addr} {k c m d ld e g b fo n r q : Nat} {bs : List Int} {gap : Int} {a0 : Act} {w0 : World} (S : smnS s p A B C E k c m d ld e g b fo n r q bs gap a0 w0)
include S
set_option maxRecDepth 100000 in
set_option maxHeartbeats 8000000 in
theorem smn_ok : AllOps (fun j o => ∀ (a : Act) (w : World), Below w0.heap.size w0 w → FrD smnD a0 a → needs smnD (smnF s p A B C E k c m d ld e g b fo n r q bs gap) a w o.after.toList → StepD Try.prog smnD (factAt (smnF s p A B C E k c m d ld e g b fo n r q bs gap) j) o a w) 0 (opsOf 6 Try.f30) := by
  simp only [opsOf, Try.f30, opsAt, Option.bind, Option.or, Option.getD, reduceCtorEq, if_true, if_false, Nat.reduceEqDiff]
  refine ⟨?_, ?_⟩
  · intro _a _w hB hF _hd
    exact rf_loadS (guard_none rfl) rfl _ _ rfl g 0 ((hF.other 8 rfl).trans S.v8) _ (rf_range (S.box.below hB S.box.lt)) Try.underlying60 rfl Try.sizeSes rfl
  refine ⟨?_, ?_⟩
  · intro _a _w _hB hF _hd
    exact step_move (guard_none rfl) rfl _ rfl ((hF.other 2 rfl).trans S.v2)
  refine ⟨?_, ?_⟩
  · intro a _w hB _hF hd
    have h24 : a.tmps.getD 24 undef = .agg (sesC s A k c) := hd.1 rfl
    have h25 : a.tmps.getD 25 undef = .slice B m d := hd.2.1 rfl
    refine step_call (guard_none rfl) rfl _ _ (rf_call_run Try.func60 (by kernel_rfl) (by kernel_rfl) _ _ rfl) ?_
    simp only [List.map_toArray, List.map_cons, List.map_nil, Act.eval, h24, h25]
    exact (sfits_any s A k c B m d bs _ (S.hi.below hB) S.kc (S.hb.below hB) S.hm).mono (by rintro x w1 ⟨rfl, hb⟩; exact ⟨_, rfl, hb, by rw [S.e1]; rfl⟩)
  refine ⟨?_, ?_⟩
  · intro a _w _hB _hF hd
    have h26 : a.tmps.getD 26 undef = .bool true := hd.1 rfl
    exact step_not (guard_none rfl) rfl _ _ rfl h26 rfl
  refine ⟨?_, ?_⟩
  · intro a _w _hB _hF hd
    have h27 : a.tmps.getD 27 undef = .bool false := hd.1 rfl
    exact step_move (guard_none rfl) rfl _ rfl h27
  refine ⟨?_, ?_⟩
  · intro a _w _hB hF hd
    have h28 : a.tmps.getD 28 undef = .bool false := hd.1 rfl
    exact step_move (rf_open false rfl rfl h28) rfl _ rfl ((hF.other 7 rfl).trans S.v7)
  refine ⟨?_, ?_⟩
  · intro a _w _hB _hF hd
    have h28 : a.tmps.getD 28 undef = .bool false := hd.2.1 rfl
    have h29 : a.tmps.getD 29 undef = .int .i64 q := hd.1 rfl
    exact rf_gtr (rf_open false rfl rfl h28) rfl _ _ rfl _ _ h29 rfl true (decide_eq_true (by have := S.hj; omega)) rfl
  refine ⟨?_, ?_⟩
  · intro a _w _hB _hF hd
    have h28 : a.tmps.getD 28 undef = .bool false := hd.2.1 rfl
    have h30 : a.tmps.getD 30 undef = .bool true := hd.1 rfl
    exact step_move (rf_open false rfl rfl h28) rfl _ rfl h30
  refine ⟨?_, ?_⟩
  · intro a _w hB hF hd
    have h31 : a.tmps.getD 31 undef = .bool true := hd.1 rfl
    exact rf_loadS (rf_open true rfl rfl h31) rfl _ _ rfl g 0 ((hF.other 8 rfl).trans S.v8) _ (rf_range (S.box.below hB S.box.lt)) Try.underlying60 rfl Try.sizeSes rfl
  refine ⟨?_, ?_⟩
  · intro a _w _hB hF hd
    have h31 : a.tmps.getD 31 undef = .bool true := hd.1 rfl
    exact step_move (rf_open true rfl rfl h31) rfl _ rfl ((hF.other 0 rfl).trans S.v0)
  refine ⟨?_, ?_⟩
  · intro a _w _hB hF hd
    have h31 : a.tmps.getD 31 undef = .bool true := hd.1 rfl
    exact step_move (rf_open true rfl rfl h31) rfl _ rfl ((hF.other 7 rfl).trans S.v7)
  refine ⟨?_, ?_⟩
  · intro a _w _hB _hF hd
    have h31 : a.tmps.getD 31 undef = .bool true := hd.2.1 rfl
    have h34 : a.tmps.getD 34 undef = .int .i64 q := hd.1 rfl
    exact rf_sub (rf_open true rfl rfl h31) rfl _ _ rfl _ _ h34 rfl (by have := S.hj; omega) (by have := S.hj; omega) rfl
  refine ⟨?_, ?_⟩
  · intro a _w _hB _hF hd
    have h31 : a.tmps.getD 31 undef = .bool true := hd.2.2.1 rfl
    have h33 : a.tmps.getD 33 undef = .slice (some ⟨b, fo, none⟩) n r := hd.1 rfl
    have h35 : a.tmps.getD 35 undef = .int .i64 (q - 1) := hd.2.1 rfl
    exact rf_index (rf_open true rfl rfl h31) rfl _ _ _ rfl Try.underlying45 15 (fun _ => by kernel_rfl) _ _ _ _ (q - 1) _ h33 h35 (by have := S.hj; omega) (by have := S.hj; omega) rfl
  refine ⟨?_, ?_⟩
  · intro a _w hB _hF hd
    have h31 : a.tmps.getD 31 undef = .bool true := hd.2.1 rfl
    have h36 : a.tmps.getD 36 undef = .pointer (some ⟨b, fo + (q - 1) * 15, none⟩) := hd.1 rfl
    exact rf_loadS (rf_open true rfl rfl h31) rfl _ _ rfl _ _ h36 _ (S.pv.below hB).1 Try.underlying60 rfl Try.sizeSes rfl
  refine ⟨?_, ?_⟩
  · intro a _w _hB hF hd
    have h31 : a.tmps.getD 31 undef = .bool true := hd.1 rfl
    exact step_move (rf_open true rfl rfl h31) rfl _ rfl ((hF.other 1 rfl).trans S.v1)
  refine ⟨?_, ?_⟩
  · intro a _w _hB _hF hd
    have h31 : a.tmps.getD 31 undef = .bool true := hd.2.2.2.1 rfl
    have h32 : a.tmps.getD 32 undef = .agg (sesC s A k c) := hd.1 rfl
    have h37 : a.tmps.getD 37 undef = .agg (sesC p C ld e) := hd.2.1 rfl
    have h38 : a.tmps.getD 38 undef = .int .i64 gap := hd.2.2.1 rfl
    refine step_call (rf_open true rfl rfl h31) rfl _ _ (rf_call_run Try.func61 (by kernel_rfl) (by kernel_rfl) _ _ rfl) ?_
    simp only [List.map_toArray, List.map_cons, List.map_nil, Act.eval, h32, h37, h38]
    exact (sfollows_any s p A C k c ld e gap _ S.hs S.hp).mono (by rintro x w1 ⟨rfl, hb⟩; exact ⟨_, rfl, hb, by rw [S.e2]; rfl⟩)
  refine ⟨?_, ?_⟩
  · intro a _w _hB _hF hd
    have h31 : a.tmps.getD 31 undef = .bool true := hd.2.1 rfl
    have h39 : a.tmps.getD 39 undef = .bool false := hd.1 rfl
    exact step_not (rf_open true rfl rfl h31) rfl _ _ rfl h39 rfl
  refine ⟨?_, ?_⟩
  · intro a _w _hB _hF hd
    have h28 : a.tmps.getD 28 undef = .bool false := hd.2.2.1 rfl
    have h31 : a.tmps.getD 31 undef = .bool true := hd.1 rfl
    have h40 : a.tmps.getD 40 undef = .bool true := hd.2.1 rfl
    exact rf_pick (rf_open false rfl rfl h28) rfl _ _ _ rfl true h31 h40
  refine ⟨?_, ?_⟩
  · intro a _w _hB _hF hd
    have h28 : a.tmps.getD 28 undef = .bool false := hd.1 rfl
    have h41 : a.tmps.getD 41 undef = .bool true := hd.2.1 rfl
    exact rf_pick (guard_none rfl) rfl _ _ _ rfl false h28 h41
  trivial
theorem smn_any {Q : Exit → Act → World → Prop} {l : List Oper} (hl : opsOf 6 Try.f30 = l) (hend : ∀ w : World, Below w0.heap.size w0 w → Q .normal (putAll a0 [(24, .agg (sesC s A k c)), (25, .slice B m d), (26, .bool true), (27, .bool false), (28, .bool false), (29, .int .i64 q), (30, .bool true), (31, .bool true), (32, .agg (sesC s A k c)), (33, .slice (some ⟨b, fo, none⟩) n r), (34, .int .i64 q), (35, .int .i64 (q - 1)), (36, .pointer (some ⟨b, fo + (q - 1) * 15, none⟩)), (37, .agg (sesC p C ld e)), (38, .int .i64 gap), (39, .bool false), (40, .bool true), (41, .bool true), (42, .bool true)]) w) :
    (Code.region 6 l.toArray true).wp Try.prog Q a0 w0 := by
  subst hl
  refine region_facts2 (smnF s p A B C E k c m d ld e g b fo n r q bs gap) smnD 44 S.size rfl (by kernel_rfl) (by kernel_rfl) (smnF_mono _ _ _ _ _ _ _ _ _ _ _ _ _ _ _ _ _ _ _ _) (smn_ok S) fun a w hB hF h => ?_
  have hv : valsAre a [(24, .agg (sesC s A k c)), (25, .slice B m d), (26, .bool true), (27, .bool false), (28, .bool false), (29, .int .i64 q), (30, .bool true), (31, .bool true), (32, .agg (sesC s A k c)), (33, .slice (some ⟨b, fo, none⟩) n r), (34, .int .i64 q), (35, .int .i64 (q - 1)), (36, .pointer (some ⟨b, fo + (q - 1) * 15, none⟩)), (37, .agg (sesC p C ld e)), (38, .int .i64 gap), (39, .bool false), (40, .bool true), (41, .bool true), (42, .bool true)] := by
    refine ⟨?_, ?_, ?_, ?_, ?_, ?_, ?_, ?_, ?_, ?_, ?_, ?_, ?_, ?_, ?_, ?_, ?_, ?_, ?_, trivial⟩
    · exact h 0 (some 24) rfl
    · exact h 1 (some 25) rfl
    · exact h 2 (some 26) rfl
    · exact h 3 (some 27) rfl
    · exact h 4 (some 28) rfl
    · exact h 5 (some 29) rfl
    · exact h 6 (some 30) rfl
    · exact h 7 (some 31) rfl
    · exact h 8 (some 32) rfl
    · exact h 9 (some 33) rfl
    · exact h 10 (some 34) rfl
    · exact h 11 (some 35) rfl
    · exact h 12 (some 36) rfl
    · exact h 13 (some 37) rfl
    · exact h 14 (some 38) rfl
    · exact h 15 (some 39) rfl
    · exact h 16 (some 40) rfl
    · exact h 17 (some 41) rfl
    · exact h 18 (some 42) rfl
  rw [frame_is hF _ hv (by rfl) (by rfl)]
  exact hend w hB
end

end Go.Proofs.Ytgdeaddfkcokpaa

namespace Go.Proofs.Ytgdeaddfkcokpaa
open Go.RowKit

/-! What may be, as the program asks it. -/
theorem foll_iff {g : Int} {s p : Se} : follB g s p = true ↔ s.a.f.s = p.a.f.s ∧ g ≤ s.f - p.l := by simp [follB]
theorem fitsS_iff {bs : List Int} {s : Se} : fitsS bs s = true ↔ boundsB bs = true ∧ fitB s.a (bs.length + 1) = true ∧ 0 < s.a.n ∧ s.f = s.a.f.t ∧ s.l = s.a.l.t := by simp [fitsS, accB, and_assoc]
theorem fit_pos {a : Ac} {m : Int} (h : fitB a m = true) : a.n ≠ 0 ↔ 0 < a.n := by
  unfold fitB at h
  simp only [Bool.and_eq_true] at h
  have := wi_true h.1
  omega
theorem sesB_iff {g : Int} {bs : List Int} {ss : List Se} (hg : wi g 1 1073741824 = true) (hb : boundsB bs = true) : sesB g bs ss = true ↔ ∀ i, i < ss.length → fitsS bs (nthE ss i) = true ∧ (0 < i → follB g (nthE ss i) (nthE ss (i - 1)) = true) := by
  unfold sesB
  rw [hg, hb, Bool.and_true, Bool.and_true, decide_eq_true_iff]
  constructor
  · intro h i hi
    obtain ⟨h1, h2, h3, h4, h5, h6⟩ := h i hi
    refine ⟨fitsS_iff.2 ⟨hb, h1, (fit_pos h1).1 h2, h3, h4⟩, fun h0 => foll_iff.2 ⟨?_, h6 h0⟩⟩
    rw [h5, (h (i - 1) (by omega)).2.2.2.2.1]
  · intro h
    have hs : ∀ i, i < ss.length → (nthE ss i).a.f.s = (nthE ss 0).a.f.s := fun i => by
      induction i with
      | zero => intro _; rfl
      | succ i ih =>
        intro hi
        have := (foll_iff.1 ((h (i + 1) hi).2 (by omega))).1
        rw [show i + 1 - 1 = i by omega] at this
        rw [this, ih (by omega)]
    intro i hi
    obtain ⟨_, h1, h2, h3, h4⟩ := fitsS_iff.1 (h i hi).1
    exact ⟨h1, (fit_pos h1).2 h2, h3, h4, hs i hi, fun h0 => (foll_iff.1 ((h i hi).2 h0)).2⟩
theorem fitsS_ends {bs : List Int} {s : Se} (h : fitsS bs s = true) : (-1099511627776 ≤ s.f ∧ s.f ≤ 1099511627776) ∧ (-1099511627776 ≤ s.l ∧ s.l ≤ 1099511627776) := by
  obtain ⟨_, h1, h2, h3, h4⟩ := fitsS_iff.1 h
  have hE := of_decide_eq_true (fit_ends h1 (by omega)).1
  have a := itemB_iff.1 hE.1
  have b := itemB_iff.1 hE.2.1
  rw [h3, h4]
  omega
def serS (ss : List Se) (xs : List It) : Int := if ss.length = 0 then (nthI xs 0).s else (nthE ss 0).a.f.s
/-- Items that fit sessions. -/
def itsB (ss : List Se) (xs : List It) : Bool := decide (∀ i, i < xs.length → itemB (nthI xs i) = true ∧ (nthI xs i).s = serS ss xs)

set_option maxRecDepth 100000 in
set_option maxHeartbeats 2000000 in
theorem sesmay_any (A : Option Addr) (n c : Nat) (ss : List Se) (g : Int) (B : Option Addr) (m d : Nat) (bs : List Int) (w : World) (hr : Sess w A n ss) (hn : n ≤ 1000000000) (hbs : Ints w B m bs) (hm : m ≤ maxLen) :
    Calls Try.prog 30 #[.slice A n c, .int .i64 g, .slice B m d] w fun e w' => e = .returned (.bool (sesB g bs ss)) ∧ Below w.heap.size w w' := by
  have HL := Lib.hid hr.1
  cases h1 : wi g 1 1073741824
  · go_enter Try.func30, Try.ntmps30
    go_wp2_with (go_at_call 59; refine (within_any _ _ _ _).mono ?_; rintro e w' ⟨rfl, rfl⟩; rw [h1])
    go_ret
    exact ⟨ret_bool (by simp [sesB, h1]), Below.refl _ _⟩
  · go_enter Try.func30, Try.ntmps30
    go_wp2_with (go_at_call 59; refine (within_any _ _ _ _).mono ?_; rintro e w' ⟨rfl, rfl⟩; rw [h1])
    refine (bounds_any B m d bs _ hbs hm).mono ?_
    rintro e w1 ⟨rfl, kd, rfl⟩
    cases h2 : boundsB bs
    · go_wp2_with fail
      go_ret
      exact ⟨ret_bool (by simp [sesB, h2]), below_drewN (Below.refl _ _) _⟩
    · have HI := Lib.hid (sesB_iff (ss := ss) h1 h2)
      have HW0 : Hid (Below w.heap.size w (w.drewN kd)) := below_drewN (Below.refl _ _) _
      clear h1 h2
      have HR := Lib.hid hr; clear hr
      have HB := Lib.hid hbs; clear hbs
      have hmm : m ≤ maxLen := hm
      go_wp2_with fail
      go_loopw [19] (fun i wr => ∃ j : Nat, j ≤ n ∧ i = .int .i64 j ∧ Hid (∀ i, i < j → fitsS bs (nthE ss i) = true ∧ (0 < i → follB g (nthE ss i) (nthE ss (i - 1)) = true)) ∧ Hid (Below w.heap.size w wr)) (fun i _ => n - (intOf i).toNat)
      case atStart => exact ⟨0, Nat.zero_le _, rfl, fun i hi => by omega, HW0⟩
      case round =>
        clear HW0
        obtain ⟨j, hj, rfl, HS, HW⟩ := hrel
        by_cases hlt : j < n
        · obtain ⟨b, fo, rfl, hi⟩ := (HR.out.below HW.out).2 (by omega)
          obtain ⟨Aj, k, cj, hx⟩ := hi j hlt
          have HX := Lib.hid hx; clear hx
          have HAT := Lib.hid hi; clear hi
          have HSZ : Hid (w.heap.size ≤ wr.heap.size) := HW.out.size
          go_upto_region 6 with (first | (refine load_ses rfl _ rfl b (fo + j * 15) rfl HX.out ?_) | (refine store_newS rfl _ _ rfl rfl rfl rfl ?_; intro w1 hb1 hs1; have HX1 := Lib.hid hs1; have HB1 := Lib.hid hb1; clear hs1 hb1))
          have HW1 : Hid (Below w.heap.size w w1) := HW.out.trans (HB1.out.mono HSZ.out)
          have hI1 : Ints w1 Aj k (nthE ss j).a.h := HX.out.2.1.below HB1.out
          have hbs1 : Ints w1 B m bs := HB.out.below HW1.out
          cases hf : fitsS bs (nthE ss j)
          · refine smf_any (s := nthE ss j) (p := zeroSe) (A := Aj) (B := B) (C := none) (E := some ⟨b, fo, none⟩) (k := k) (c := cj) (m := m) (d := d) (ld := 0) (e := 0) (g := wr.heap.size) (b := 0) (fo := 0) (n := n) (r := c) (q := j) (bs := bs) (gap := g) ⟨rfl, rfl, rfl, HX1.out, hI1, HX.out.2.2, hbs1, hmm, hf⟩ (by kernel_rfl) ?_
            intro w2 b2
            simp only [putAll, Act.put, List.setIfInBounds_toArray, List.set_cons_succ, List.set_cons_zero]
            go_wp2_with fail
            go_ret
            refine ⟨?_, HW1.out.trans (b2.mono HW1.out.size)⟩
            have : sesB g bs ss = false := by
              cases hs : sesB g bs ss with
              | false => rfl
              | true => have := (HI.out.1 hs j (by rw [HL.out]; exact hlt)).1; rw [hf] at this; cases this
            rw [this]
            rfl
          · by_cases h0 : j = 0
            · refine smz_any (s := nthE ss j) (p := zeroSe) (A := Aj) (B := B) (C := none) (E := some ⟨b, fo, none⟩) (k := k) (c := cj) (m := m) (d := d) (ld := 0) (e := 0) (g := wr.heap.size) (b := 0) (fo := 0) (n := n) (r := c) (q := j) (bs := bs) (gap := g) ⟨rfl, rfl, rfl, rfl, HX1.out, hI1, HX.out.2.2, hbs1, hmm, hf, h0⟩ (by kernel_rfl) ?_
              intro w2 b2
              simp only [putAll, Act.put, List.setIfInBounds_toArray, List.set_cons_succ, List.set_cons_zero]
              have HS2 : Hid (∀ i, i < j + 1 → fitsS bs (nthE ss i) = true ∧ (0 < i → follB g (nthE ss i) (nthE ss (i - 1)) = true)) := fun i hi => by
                have : i = j := by omega
                subst this
                exact ⟨hf, fun h => by omega⟩
              have HW2 : Hid (Below w.heap.size w w2) := HW1.out.trans (b2.mono HW1.out.size)
              clear hI1 hbs1 b2 HS HW1 HX1 HB1 HX HAT hf
              go_wp2_with fail
              go_roundw
              case rel => exact ⟨j + 1, by omega, by go_num, HS2, HW2⟩
              case measure => simp [intOf]; omega
            · obtain ⟨Ap, ld, e, hp⟩ := HAT.out (j - 1) (by omega)
              have hpv : SesAt w1 b (fo + (j - 1) * 15) (nthE ss (j - 1)) Ap ld e := hp.below HB1.out
              have q1 := (fitsS_ends hf).1
              have q2 := (fitsS_ends (HS.out (j - 1) (by omega)).1).2
              cases hfo : follB g (nthE ss j) (nthE ss (j - 1))
              · refine smn_any (s := nthE ss j) (p := nthE ss (j - 1)) (A := Aj) (B := B) (C := Ap) (E := none) (k := k) (c := cj) (m := m) (d := d) (ld := ld) (e := e) (g := wr.heap.size) (b := b) (fo := fo) (n := n) (r := c) (q := j) (bs := bs) (gap := g) ⟨rfl, rfl, rfl, rfl, rfl, rfl, HX1.out, hI1, HX.out.2.2, hbs1, hmm, hf, ⟨by omega, hlt, hn⟩, hpv, q1, q2, hfo⟩ (by kernel_rfl) ?_
                intro w2 b2
                simp only [putAll, Act.put, List.setIfInBounds_toArray, List.set_cons_succ, List.set_cons_zero]
                go_wp2_with fail
                go_ret
                refine ⟨?_, HW1.out.trans (b2.mono HW1.out.size)⟩
                have : sesB g bs ss = false := by
                  cases hs : sesB g bs ss with
                  | false => rfl
                  | true => have := (HI.out.1 hs j (by rw [HL.out]; exact hlt)).2 (by omega); rw [hfo] at this; cases this
                rw [this]
                rfl
              · refine smt_any (s := nthE ss j) (p := nthE ss (j - 1)) (A := Aj) (B := B) (C := Ap) (E := none) (k := k) (c := cj) (m := m) (d := d) (ld := ld) (e := e) (g := wr.heap.size) (b := b) (fo := fo) (n := n) (r := c) (q := j) (bs := bs) (gap := g) ⟨rfl, rfl, rfl, rfl, rfl, rfl, HX1.out, hI1, HX.out.2.2, hbs1, hmm, hf, ⟨by omega, hlt, hn⟩, hpv, q1, q2, hfo⟩ (by kernel_rfl) ?_
                intro w2 b2
                simp only [putAll, Act.put, List.setIfInBounds_toArray, List.set_cons_succ, List.set_cons_zero]
                have HS2 : Hid (∀ i, i < j + 1 → fitsS bs (nthE ss i) = true ∧ (0 < i → follB g (nthE ss i) (nthE ss (i - 1)) = true)) := fun i hi => by
                  by_cases e : i = j
                  · subst e
                    exact ⟨hf, fun _ => hfo⟩
                  · exact HS.out i (by omega)
                have HW2 : Hid (Below w.heap.size w w2) := HW1.out.trans (b2.mono HW1.out.size)
                clear hI1 hbs1 b2 HS HW1 HX1 HB1 HX HAT hf hfo hpv hp q1 q2
                go_wp2_with fail
                go_roundw
                case rel => exact ⟨j + 1, by omega, by go_num, HS2, HW2⟩
                case measure => simp [intOf]; omega
        · have hjn : j = n := by omega
          subst hjn
          go_wp2_with fail
          go_ret
          exact ⟨ret_bool (HI.out.2 (fun i hi => HS.out i (by rw [HL.out] at hi; exact hi))).symm, HW.out⟩

end Go.Proofs.Ytgdeaddfkcokpaa

namespace Go.Proofs.Ytgdeaddfkcokpaa
open Go.RowKit

/-- The store of a whole item into a variable that was made last. -/
theorem store_newI {ops : Array Oper} {rest : List Oper} {op : Oper} {a : Act} {w : World} {Q : Exit → Act → World → Prop} (hgd : op.guard = none) (x y : Operand) (ho : op.op = .store 23 x y)
    {old : Array Value} {z : It} (hx : a.eval x = .pointer (some ⟨w.heap.size, 0, none⟩)) (hy : a.eval y = .agg #[.int .i64 z.s, .int .i64 z.t, .int .i64 z.q, .int .i64 z.v]) (hold : old.size = 4)
    (h : ∀ w', Below w.heap.size w w' → Has w' w.heap.size 23 #[.int .i64 z.s, .int .i64 z.t, .int .i64 z.q, .int .i64 z.v] → wpList Try.prog ops Q rest (a.put op.dst undef) w') : wpList Try.prog ops Q (op :: rest) a (w.alloc (.cells old 23)) :=
  wpList_store_row hgd 23 x y ho w.heap.size _ hx hy 23 old (Has.made _ _ _) Try.sizeItem hold (by simp [Value.oneCell']) (by rw [World.setRow_alloc_new]; exact h _ ((Below.refl _ _).alloc (Nat.le_refl _) _) (Has.made _ _ _))

set_option maxRecDepth 100000 in
set_option maxHeartbeats 2000000 in
theorem itemsfit_any (A : Option Addr) (n c : Nat) (ss : List Se) (X : Option Addr) (k cx : Nat) (xs : List It) (w : World) (hs : Sess w A n ss) (hn : n ≤ maxLen) (hx : Items w X k xs) (hk : k ≤ maxLen) :
    Calls Try.prog 55 #[.slice A n c, .slice X k cx] w fun e w' => e = .returned (.bool (itsB ss xs)) ∧ Below w.heap.size w w' := by
  unfold maxLen at hn hk
  have HL := Lib.hid hs.1
  have HX := Lib.hid hx.1
  by_cases h0 : k = 0
  · subst h0
    obtain rfl : xs = [] := List.eq_nil_of_length_eq_zero hx.1
    go_enter Try.func55, Try.ntmps55
    go_wp2
    go_ret
    exact ⟨ret_bool (Eq.symm (decide_eq_true fun i hi => absurd hi (by simp))), Below.refl _ _⟩
  · obtain ⟨bx, ox, rfl, hix⟩ := hx.2 (by omega)
    have cx0 : w.cell? ⟨bx, ox, none⟩ = some (.int .i64 (nthI xs 0).s) := by have := hix 0 (by omega) 0 _ rfl; simpa using this
    have HI := Lib.hid hix
    clear hix hx
    have hk0 : ((k : Int) == 0) = false := by simpa using h0
    by_cases hn0 : n = 0
    · obtain ⟨σ, hσ⟩ : ∃ σ, (nthI xs 0).s = σ := ⟨_, rfl⟩
      rw [hσ] at cx0
      have HS : Hid (serS ss xs = σ) := by unfold serS; rw [Hid, if_pos (by rw [HL.out]; exact hn0)]; exact hσ
      clear hσ hs
      subst hn0
      go_enter Try.func55, Try.ntmps55
      go_wp2_with fail
      go_loopw [26] (fun i wr => ∃ j : Nat, j ≤ k ∧ i = .int .i64 j ∧ Hid (∀ i, i < j → itemB (nthI xs i) = true ∧ (nthI xs i).s = σ) ∧ Hid (Below w.heap.size w wr)) (fun i _ => k - (intOf i).toNat)
      case atStart => exact ⟨0, Nat.zero_le _, rfl, fun i hi => by omega, Below.refl _ _⟩
      case round =>
        obtain ⟨j, hj, rfl, HJ, HW⟩ := hrel
        by_cases hlt : j < k
        · have hri : wr.rangeAt bx (ox + j * 4) (itemL (nthI xs j)) := rangeAt_keep (HI.out j hlt) (by simp [itemL]) fun _ hp => HW.out.cell hp
          have HRI := Lib.hid hri; clear hri
          have hz : ∃ x, nthI xs j = x := ⟨_, rfl⟩
          obtain ⟨x, hx⟩ := hz
          rw [hx] at HRI
          have HZ := Lib.hid hx; clear hx
          go_upto_region 9 with (first
            | (refine load_item rfl _ rfl bx (ox + j * 4) rfl HRI.out ?_)
            | (refine store_newI rfl _ _ rfl rfl rfl rfl ?_; intro wb hbb hsb; have HBX := Lib.hid hsb; have HWB := Lib.hid (HW.out.trans (hbb.mono HW.out.size)); clear hbb hsb))
          have HIT : Hid (wb.rangeAt wr.heap.size 0 (itemL x)) := range_item HBX.out
          cases h1 : itemB x
          · go_wp2_with (first
              | (refine load_item rfl _ rfl wr.heap.size 0 rfl HIT.out ?_)
              | (go_at_call 37; refine (item_any x _).mono ?_; rintro e5 w6 ⟨rfl, hb6⟩; have HW6 := Lib.hid (HWB.out.trans (hb6.mono HWB.out.size)); clear hb6; rw [h1]))
            go_ret
            refine ⟨ret_bool (Eq.symm (decide_eq_false fun hh => ?_)), HW6.out⟩
            have := (hh j (by rw [HX.out]; exact hlt)).1
            rw [HZ.out, h1] at this
            cases this
          · by_cases h2 : x.s = σ
            · have h2b : (x.s != σ) = false := by simp [h2]
              have H2 := Lib.hid h2; clear h2
              go_wp2_with (first
                | (refine load_item rfl _ rfl wr.heap.size 0 rfl HIT.out ?_)
                | (go_at_call 37; refine (item_any x _).mono ?_; rintro e5 w6 ⟨rfl, hb6⟩; have HW6 := Lib.hid (HWB.out.trans (hb6.mono HWB.out.size)); have hc6 : w6.cell? ⟨wr.heap.size, 0, none⟩ = some (.int .i64 x.s) := (has_below HBX.out hb6).cell 0; clear hb6; rw [h1]))
              have HJ2 : Hid (∀ i, i < j + 1 → itemB (nthI xs i) = true ∧ (nthI xs i).s = σ) := fun i hi => by
                by_cases e : i = j
                · subst e
                  rw [HZ.out]
                  exact ⟨h1, H2.out⟩
                · exact HJ.out i (by omega)
              go_roundw
              case rel => first | exact ⟨j + 1, by omega, by go_num, HJ2, HW6⟩ | ((repeat apply Exists.intro); exact ⟨⟨j + 1, by omega, by go_num, HJ2, HW6⟩, rfl⟩)
              case measure => simp [intOf]; omega
            · have h2b : (x.s != σ) = true := by simp [h2]
              have H2 := Lib.hid h2; clear h2
              go_wp2_with (first
                | (refine load_item rfl _ rfl wr.heap.size 0 rfl HIT.out ?_)
                | (go_at_call 37; refine (item_any x _).mono ?_; rintro e5 w6 ⟨rfl, hb6⟩; have HW6 := Lib.hid (HWB.out.trans (hb6.mono HWB.out.size)); have hc6 : w6.cell? ⟨wr.heap.size, 0, none⟩ = some (.int .i64 x.s) := (has_below HBX.out hb6).cell 0; clear hb6; rw [h1]))
              go_ret
              refine ⟨ret_bool (Eq.symm (decide_eq_false fun hh => H2.out ?_)), HW6.out⟩
              have := (hh j (by rw [HX.out]; exact hlt)).2
              rw [HZ.out, HS.out] at this
              exact this
        · have hjk : j = k := by omega
          subst hjk
          go_wp2_with fail
          go_ret
          exact ⟨ret_bool (Eq.symm (decide_eq_true fun i hi => by rw [HS.out]; exact HJ.out i (by rw [HX.out] at hi; exact hi))), HW.out⟩
    · obtain ⟨b, o, rfl, hi⟩ := hs.2 (by omega)
      obtain ⟨B0, k0, d0, hx0⟩ := hi 0 (by omega)
      have c6 := hx0.at_ 6 (sesC_6 _ _ _ _)
      rw [Nat.zero_mul, Nat.add_zero] at c6
      obtain ⟨σ, hσ⟩ : ∃ σ, (nthE ss 0).a.f.s = σ := ⟨_, rfl⟩
      rw [hσ] at c6
      have HS : Hid (serS ss xs = σ) := by unfold serS; rw [Hid, if_neg (by rw [HL.out]; exact hn0)]; exact hσ
      clear hσ hs hi hx0
      have hn1 : decide (0 < n) = true := decide_eq_true (by omega)
      go_enter Try.func55, Try.ntmps55
      go_wp2_with fail
      go_loopw [26] (fun i wr => ∃ j : Nat, j ≤ k ∧ i = .int .i64 j ∧ Hid (∀ i, i < j → itemB (nthI xs i) = true ∧ (nthI xs i).s = σ) ∧ Hid (Below w.heap.size w wr)) (fun i _ => k - (intOf i).toNat)
      case atStart => exact ⟨0, Nat.zero_le _, rfl, fun i hi => by omega, Below.refl _ _⟩
      case round =>
        obtain ⟨j, hj, rfl, HJ, HW⟩ := hrel
        by_cases hlt : j < k
        · have hri : wr.rangeAt bx (ox + j * 4) (itemL (nthI xs j)) := rangeAt_keep (HI.out j hlt) (by simp [itemL]) fun _ hp => HW.out.cell hp
          have HRI := Lib.hid hri; clear hri
          have hz : ∃ x, nthI xs j = x := ⟨_, rfl⟩
          obtain ⟨x, hx⟩ := hz
          rw [hx] at HRI
          have HZ := Lib.hid hx; clear hx
          go_upto_region 9 with (first
            | (refine load_item rfl _ rfl bx (ox + j * 4) rfl HRI.out ?_)
            | (refine store_newI rfl _ _ rfl rfl rfl rfl ?_; intro wb hbb hsb; have HBX := Lib.hid hsb; have HWB := Lib.hid (HW.out.trans (hbb.mono HW.out.size)); clear hbb hsb))
          have HIT : Hid (wb.rangeAt wr.heap.size 0 (itemL x)) := range_item HBX.out
          cases h1 : itemB x
          · go_wp2_with (first
              | (refine load_item rfl _ rfl wr.heap.size 0 rfl HIT.out ?_)
              | (go_at_call 37; refine (item_any x _).mono ?_; rintro e5 w6 ⟨rfl, hb6⟩; have HW6 := Lib.hid (HWB.out.trans (hb6.mono HWB.out.size)); clear hb6; rw [h1]))
            go_ret
            refine ⟨ret_bool (Eq.symm (decide_eq_false fun hh => ?_)), HW6.out⟩
            have := (hh j (by rw [HX.out]; exact hlt)).1
            rw [HZ.out, h1] at this
            cases this
          · by_cases h2 : x.s = σ
            · have h2b : (x.s != σ) = false := by simp [h2]
              have H2 := Lib.hid h2; clear h2
              go_wp2_with (first
                | (refine load_item rfl _ rfl wr.heap.size 0 rfl HIT.out ?_)
                | (go_at_call 37; refine (item_any x _).mono ?_; rintro e5 w6 ⟨rfl, hb6⟩; have HW6 := Lib.hid (HWB.out.trans (hb6.mono HWB.out.size)); have hc6 : w6.cell? ⟨wr.heap.size, 0, none⟩ = some (.int .i64 x.s) := (has_below HBX.out hb6).cell 0; clear hb6; rw [h1]))
              have HJ2 : Hid (∀ i, i < j + 1 → itemB (nthI xs i) = true ∧ (nthI xs i).s = σ) := fun i hi => by
                by_cases e : i = j
                · subst e
                  rw [HZ.out]
                  exact ⟨h1, H2.out⟩
                · exact HJ.out i (by omega)
              go_roundw
              case rel => first | exact ⟨j + 1, by omega, by go_num, HJ2, HW6⟩ | ((repeat apply Exists.intro); exact ⟨⟨j + 1, by omega, by go_num, HJ2, HW6⟩, rfl⟩)
              case measure => simp [intOf]; omega
            · have h2b : (x.s != σ) = true := by simp [h2]
              have H2 := Lib.hid h2; clear h2
              go_wp2_with (first
                | (refine load_item rfl _ rfl wr.heap.size 0 rfl HIT.out ?_)
                | (go_at_call 37; refine (item_any x _).mono ?_; rintro e5 w6 ⟨rfl, hb6⟩; have HW6 := Lib.hid (HWB.out.trans (hb6.mono HWB.out.size)); have hc6 : w6.cell? ⟨wr.heap.size, 0, none⟩ = some (.int .i64 x.s) := (has_below HBX.out hb6).cell 0; clear hb6; rw [h1]))
              go_ret
              refine ⟨ret_bool (Eq.symm (decide_eq_false fun hh => H2.out ?_)), HW6.out⟩
              have := (hh j (by rw [HX.out]; exact hlt)).2
              rw [HZ.out, HS.out] at this
              exact this
        · have hjk : j = k := by omega
          subst hjk
          go_wp2_with fail
          go_ret
          exact ⟨ret_bool (Eq.symm (decide_eq_true fun i hi => by rw [HS.out]; exact HJ.out i (by rw [HX.out] at hi; exact hi))), HW.out⟩

end Go.Proofs.Ytgdeaddfkcokpaa
