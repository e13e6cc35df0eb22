/-
  SameConfig's drawn region: its facts, one by one (written by gen/adsame.py).
-/
import Derived.Test.YtecdeplcoggjkaaRfOne
import Derived.Test.YtecdeplcoggjkaaAdQu
namespace Go.Proofs.Ytecdeplcoggjkaa
open Go.RowKit

theorem run_ldQ {g k : Nat} {A : Option Addr} {m c : Nat} {w : World} (h : w.cell? ⟨g, k, none⟩ = some (.slice A m c)) : (Instr.loadAt 22 (.pointer (some ⟨g, k, none⟩))).run Try.prog w = .ok (.slice A m c) w := by simp [go_sem, h, Instr.loadAt]
def ascD : List (Option Tmp) := [some 48, some 49, some 50, some 51, some 52, some 53, some 54, some 55, some 56, some 57, some 58, some 59]
def ascF (q : Qu) (B1 B2 : Option Addr) (m d1 d2 b1 o1 b2 o2 n c1 c2 k g1 g2 : Nat) (_la _ro _se _so : Int) : List Fact := [isV (.pointer (some ⟨g1, 0, none⟩)), isV (.slice (some ⟨b1, o1, none⟩) n c1), isV (.int .i64 k), isV (.pointer (some ⟨b1, o1 + k * 6, none⟩)), isV (.agg (quC q B1 m d1)), isV (.pointer (some ⟨g2, 0, none⟩)), isV (.slice (some ⟨b2, o2, none⟩) n c2), isV (.int .i64 k), isV (.pointer (some ⟨b2, o2 + k * 6, none⟩)), isV (.agg (quC q B2 m d2)), isV (.bool true), isV (.bool false)]
theorem ascF_mono (q : Qu) (B1 B2 : Option Addr) (m d1 d2 b1 o1 b2 o2 n c1 c2 k g1 g2 : Nat) (la ro se so : Int) : ∀ φ ∈ ascF q B1 B2 m d1 d2 b1 o1 b2 o2 n c1 c2 k g1 g2 la ro se so, Mono φ := by
  unfold ascF
  repeat (first | exact monos_nil | (refine monos_cons (mono_isV _) ?_))
structure ascS (q : Qu) (B1 B2 : Option Addr) (m d1 d2 b1 o1 b2 o2 n c1 c2 k g1 g2 : Nat) (la ro se so : Int) (a0 : Act) (w0 : World) : Prop where
  size : a0.tmps.size = 60
  v2 : a0.tmps.getD 2 undef = .pointer (some ⟨g1, 0, none⟩)
  v3 : a0.tmps.getD 3 undef = .pointer (some ⟨g2, 0, none⟩)
  v5 : a0.tmps.getD 5 undef = .int .i64 k
  r1 : Has w0 g1 24 (cfC (some ⟨b1, o1, none⟩) n c1 la ro se so)
  r2 : Has w0 g2 24 (cfC (some ⟨b2, o2, none⟩) n c2 la ro se so)
  x1 : QuAt w0 b1 (o1 + k * 6) q B1 m d1
  x2 : QuAt w0 b2 (o2 + k * 6) q B2 m d2
  hk : k < n
section
variable {q : Qu} {B1 B2 : Option Addr} {m d1 d2 b1 o1 b2 o2 n c1 c2 k g1 g2 : Nat} {la ro se so : Int} {a0 : Act} {w0 : World} (S : ascS q B1 B2 m d1 d2 b1 o1 b2 o2 n c1 c2 k g1 g2 la ro se so a0 w0)
include S
set_option maxRecDepth 100000 in
set_option maxHeartbeats 8000000 in
theorem asc_ok : AllOps (fun j o => ∀ (a : Act) (w : World), Below w0.heap.size w0 w → FrD ascD a0 a → needs ascD (ascF q B1 B2 m d1 d2 b1 o1 b2 o2 n c1 c2 k g1 g2 la ro se so) a w o.after.toList → StepD Try.prog ascD (factAt (ascF q B1 B2 m d1 d2 b1 o1 b2 o2 n c1 c2 k g1 g2 la ro se so) j) o a w) 0 (opsOf 6 Try.f13) := by
  simp only [opsOf, Try.f13, opsAt, Option.bind, Option.or, Option.getD, reduceCtorEq, if_true, if_false, Nat.reduceEqDiff]
  refine ⟨?_, ?_⟩
  · intro _a _w _hB hF _hd
    exact rf_faddr (guard_none rfl) rfl _ _ _ rfl _ _ 0 _ ((hF.other 2 rfl).trans S.v2) (by omega) (fun _ _ => by kernel_rfl) rfl
  refine ⟨?_, ?_⟩
  · intro a _w hB _hF hd
    have h48 : a.tmps.getD 48 undef = .pointer (some ⟨g1, 0, none⟩) := hd.1 rfl
    exact rf_load1 (guard_none rfl) rfl _ _ rfl _ _ h48 (run_ldQ ((Has.cell (S.r1.below hB S.r1.lt) 0).trans rfl)) rfl
  refine ⟨?_, ?_⟩
  · intro _a _w _hB hF _hd
    exact step_move (guard_none rfl) rfl _ rfl ((hF.other 5 rfl).trans S.v5)
  refine ⟨?_, ?_⟩
  · intro a _w _hB _hF hd
    have h49 : a.tmps.getD 49 undef = .slice (some ⟨b1, o1, none⟩) n c1 := hd.1 rfl
    have h50 : a.tmps.getD 50 undef = .int .i64 k := hd.2.1 rfl
    exact rf_index (guard_none rfl) rfl _ _ _ rfl Try.underlying22 6 (fun _ => by kernel_rfl) _ _ _ _ k _ h49 h50 rfl S.hk rfl
  refine ⟨?_, ?_⟩
  · intro a _w hB _hF hd
    have h51 : a.tmps.getD 51 undef = .pointer (some ⟨b1, o1 + k * 6, none⟩) := hd.1 rfl
    exact rf_loadS (guard_none rfl) rfl _ _ rfl _ _ h51 _ (QuAt.below S.x1 hB).1 Try.underlying42 rfl Try.qsize rfl
  refine ⟨?_, ?_⟩
  · intro _a _w _hB hF _hd
    exact rf_faddr (guard_none rfl) rfl _ _ _ rfl _ _ 0 _ ((hF.other 3 rfl).trans S.v3) (by omega) (fun _ _ => by kernel_rfl) rfl
  refine ⟨?_, ?_⟩
  · intro a _w hB _hF hd
    have h53 : a.tmps.getD 53 undef = .pointer (some ⟨g2, 0, none⟩) := hd.1 rfl
    exact rf_load1 (guard_none rfl) rfl _ _ rfl _ _ h53 (run_ldQ ((Has.cell (S.r2.below hB S.r2.lt) 0).trans rfl)) rfl
  refine ⟨?_, ?_⟩
  · intro _a _w _hB hF _hd
    exact step_move (guard_none rfl) rfl _ rfl ((hF.other 5 rfl).trans S.v5)
  refine ⟨?_, ?_⟩
  · intro a _w _hB _hF hd
    have h54 : a.tmps.getD 54 undef = .slice (some ⟨b2, o2, none⟩) n c2 := hd.1 rfl
    have h55 : a.tmps.getD 55 undef = .int .i64 k := hd.2.1 rfl
    exact rf_index (guard_none rfl) rfl _ _ _ rfl Try.underlying22 6 (fun _ => by kernel_rfl) _ _ _ _ k _ h54 h55 rfl S.hk rfl
  refine ⟨?_, ?_⟩
  · intro a _w hB _hF hd
    have h56 : a.tmps.getD 56 undef = .pointer (some ⟨b2, o2 + k * 6, none⟩) := hd.1 rfl
    exact rf_loadS (guard_none rfl) rfl _ _ rfl _ _ h56 _ (QuAt.below S.x2 hB).1 Try.underlying42 rfl Try.qsize rfl
  refine ⟨?_, ?_⟩
  · intro a _w hB _hF hd
    have h52 : a.tmps.getD 52 undef = .agg (quC q B1 m d1) := hd.1 rfl
    have h57 : a.tmps.getD 57 undef = .agg (quC q B2 m d2) := hd.2.1 rfl
    refine step_call (guard_none rfl) rfl _ _ (rf_call_run Try.func25 (by kernel_rfl) (by kernel_rfl) _ _ rfl) ?_
    simp only [List.map_toArray, List.map_cons, List.map_nil, Act.eval, h52, h57]
    exact (samequ_true q B1 B2 m d1 d2 _ (S.x1.2.1.below hB) (S.x2.2.1.below hB) S.x1.2.2).mono (by rintro x w1 ⟨rfl, hb⟩; exact ⟨_, rfl, hb, rfl⟩)
  refine ⟨?_, ?_⟩
  · intro a _w _hB _hF hd
    have h58 : a.tmps.getD 58 undef = .bool true := hd.1 rfl
    exact step_not (guard_none rfl) rfl _ _ rfl h58 rfl
  trivial
theorem asc_any {Q : Exit → Act → World → Prop} {l : List Oper} (hl : opsOf 6 Try.f13 = l) (hend : ∀ w : World, Below w0.heap.size w0 w → Q .normal (putAll a0 [(48, .pointer (some ⟨g1, 0, none⟩)), (49, .slice (some ⟨b1, o1, none⟩) n c1), (50, .int .i64 k), (51, .pointer (some ⟨b1, o1 + k * 6, none⟩)), (52, .agg (quC q B1 m d1)), (53, .pointer (some ⟨g2, 0, none⟩)), (54, .slice (some ⟨b2, o2, none⟩) n c2), (55, .int .i64 k), (56, .pointer (some ⟨b2, o2 + k * 6, none⟩)), (57, .agg (quC q B2 m d2)), (58, .bool true), (59, .bool false)]) w) :
    (Code.region 6 l.toArray true).wp Try.prog Q a0 w0 := by
  subst hl
  refine region_facts2 (ascF q B1 B2 m d1 d2 b1 o1 b2 o2 n c1 c2 k g1 g2 la ro se so) ascD 60 S.size rfl (by kernel_rfl) (by kernel_rfl) (ascF_mono _ _ _ _ _ _ _ _ _ _ _ _ _ _ _ _ _ _ _ _) (asc_ok S) fun a w hB hF h => ?_
  have hv : valsAre a [(48, .pointer (some ⟨g1, 0, none⟩)), (49, .slice (some ⟨b1, o1, none⟩) n c1), (50, .int .i64 k), (51, .pointer (some ⟨b1, o1 + k * 6, none⟩)), (52, .agg (quC q B1 m d1)), (53, .pointer (some ⟨g2, 0, none⟩)), (54, .slice (some ⟨b2, o2, none⟩) n c2), (55, .int .i64 k), (56, .pointer (some ⟨b2, o2 + k * 6, none⟩)), (57, .agg (quC q B2 m d2)), (58, .bool true), (59, .bool false)] := by
    refine ⟨?_, ?_, ?_, ?_, ?_, ?_, ?_, ?_, ?_, ?_, ?_, ?_, trivial⟩
    · exact h 0 (some 48) rfl
    · exact h 1 (some 49) rfl
    · exact h 2 (some 50) rfl
    · exact h 3 (some 51) rfl
    · exact h 4 (some 52) rfl
    · exact h 5 (some 53) rfl
    · exact h 6 (some 54) rfl
    · exact h 7 (some 55) rfl
    · exact h 8 (some 56) rfl
    · exact h 9 (some 57) rfl
    · exact h 10 (some 58) rfl
    · exact h 11 (some 59) rfl
  rw [frame_is hF _ hv (by rfl) (by rfl)]
  exact hend w hB
end

end Go.Proofs.Ytecdeplcoggjkaa
