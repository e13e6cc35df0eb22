/-
  Slacks' drawn region (written by gen/sksl.py).
-/
import Derived.Test.YtoobkdhijfleeaaGRows
import Derived.Test.YtoobkdhijfleeaaBut
import Derived.Test.YtoobkdhijfleeaaSkAwake
namespace Go.Proofs.Ytoobkdhijfleeaa
open Go.RowKit

def sk13D : List (Option Tmp) := [some 66, some 67, some 68, some 69, some 70, some 71, some 72, some 73, some 74, some 75, some 76, some 77, some 78, some 79, some 80, some 81, some 82, some 83]
def sk13F (g y b f n c k _B : Nat) (z _L _T _M _K K2 _M2 N : Int) (_p _p2 : Bool) : List Fact := [isV (.int .i64 N), isV (.int .i64 N), isV (.pointer (some ⟨y, 0, none⟩)), isV (.slice (some ⟨b, f, none⟩) n c), isV (.int .i64 k), isV (.pointer (some ⟨b, f + k, none⟩)), isV (.int .i64 z), isV (.int .i64 N), isV (.bool false), isV (.bool false), isV (.pointer (some ⟨g, 0, none⟩)), isV (.int .i64 K2), isV (.pointer (some ⟨y, 0, none⟩)), isV (.pointer (some ⟨y, 0, none⟩)), isV (.pointer (some ⟨y, 3, none⟩)), isV (.int .i64 K2), isV (.bool false)]
theorem sk13F_mono (g y b f n c k B : Nat) (z L T M K K2 M2 N : Int) (p p2 : Bool) : ∀ φ ∈ sk13F g y b f n c k B z L T M K K2 M2 N p p2, Mono φ := by
  unfold sk13F
  repeat (first | exact monos_nil | (refine monos_cons (mono_isV _) ?_))
structure sk13S (g y b f n c k B : Nat) (z L T M K K2 M2 N : Int) (p p2 : Bool) (a0 : Act) (w0 : World) : Prop where
  size : a0.tmps.size = 85
  v1 : a0.tmps.getD 1 undef = .slice (some ⟨b, f, none⟩) n c
  v7 : a0.tmps.getD 7 undef = .pointer (some ⟨g, 0, none⟩)
  v9 : a0.tmps.getD 9 undef = .pointer (some ⟨y, 0, none⟩)
  v11 : a0.tmps.getD 11 undef = .int .i64 k
  v12 : a0.tmps.getD 12 undef = .int .i64 N
  lY : y < B
  ar : w0.cell? ⟨b, f + k, none⟩ = some (.int .i64 z)
  nb : b ∉ [y]
  kn : k < n
  ne : g ≠ y
  stg : Has w0 g 43 (slC L T K2)
  sty : Has w0 y 37 (srC L p M K)
  mm : -1099511627776 ≤ M ∧ M ≤ 1099511627776
  eN : seeN z = N
  eB : seeB p z = p2
  eM : seeM p M z = M2
  eR : seeR L p M K z = K2
section
variable {g y b f n c k B : Nat} {z L T M K K2 M2 N : Int} {p p2 : Bool} {a0 : Act} {w0 : World} (S : sk13S g y b f n c k B z L T M K K2 M2 N p p2 a0 w0)
include S
theorem sk13_gB : ∀ g ∈ ([y] : List Nat), g < B := by
  intro g hg
  obtain rfl : g = y := by simpa using hg
  exact S.lY
omit S in
theorem sk13F_monoS : ∀ φ ∈ sk13F g y b f n c k B z L T M K K2 M2 N p p2, MonoS [y] φ := by
  unfold sk13F
  repeat (first | exact allS_nil _ | (refine allS_cons (isV_monoS _ _) ?_))
set_option maxRecDepth 100000 in
set_option maxHeartbeats 8000000 in
theorem sk13_ok : AllOps (fun j o => ∀ (a : Act) (w : World) (b1 b2 : Bool), (j = 7 → b1 = false ∧ b2 = false) → (j = 1000 → b1 = true ∧ b2 = false) → (j ∈ ([8, 9, 10, 11, 12, 13, 14, 15, 16] : List Nat) → b1 = true ∧ (1000 < 17 → b2 = true)) → MI [y] (SkI g y (slC L T K2) (srC L p M K) (srC L p2 M2 K2)) w0 b1 b2 w → FrD (sk13D.take 17) a0 a → needs sk13D (sk13F g y b f n c k B z L T M K K2 M2 N p p2) a w o.after.toList → AskM Try.prog sk13D (factAt (sk13F g y b f n c k B z L T M K K2 M2 N p p2) j) (ButS [y]) (ButS [y]) (MI [y] (SkI g y (slC L T K2) (srC L p M K) (srC L p2 M2 K2)) w0) 7 1000 j o a w) 0 ((opsOf 13 Try.f3).take 17) := by
  simp only [opsOf, Try.f3, opsAt, Option.bind, Option.or, Option.getD, reduceCtorEq, if_true, if_false, Nat.reduceEqDiff, List.take_succ_cons, List.take_zero]
  refine ⟨?_, ?_⟩
  · intro a w b1 b2 h1 h2 hl hI hF hd
    refine askM_d (by decide) (by decide) ?_
    exact step_move (guard_none rfl) rfl _ rfl ((hF.other 12 rfl).trans S.v12)
  refine ⟨?_, ?_⟩
  · intro a w b1 b2 h1 h2 hl hI hF hd
    refine askM_d (by decide) (by decide) ?_
    have h66 : a.tmps.getD 66 undef = .int .i64 N := hd.1 rfl
    refine step_call (guard_none rfl) rfl _ _ (rf_call_run Try.func10 (by kernel_rfl) (by kernel_rfl) _ _ rfl) ?_
    simp only [List.map_toArray, List.map_cons, List.map_nil, Act.eval, h66]
    exact (gnum_any _ _).mono (by rintro e w1 ⟨rfl, rfl⟩; exact ⟨_, rfl, Below.refl _ _, rfl⟩)
  refine ⟨?_, ?_⟩
  · intro a w b1 b2 h1 h2 hl hI hF hd
    refine askM_d (by decide) (by decide) ?_
    exact step_move (guard_none rfl) rfl _ rfl ((hF.other 9 rfl).trans S.v9)
  refine ⟨?_, ?_⟩
  · intro a w b1 b2 h1 h2 hl hI hF hd
    refine askM_d (by decide) (by decide) ?_
    exact step_move (guard_none rfl) rfl _ rfl ((hF.other 1 rfl).trans S.v1)
  refine ⟨?_, ?_⟩
  · intro a w b1 b2 h1 h2 hl hI hF hd
    refine askM_d (by decide) (by decide) ?_
    exact step_move (guard_none rfl) rfl _ rfl ((hF.other 11 rfl).trans S.v11)
  refine ⟨?_, ?_⟩
  · intro a w b1 b2 h1 h2 hl hI hF hd
    refine askM_d (by decide) (by decide) ?_
    have h69 : a.tmps.getD 69 undef = .slice (some ⟨b, f, none⟩) n c := hd.1 rfl
    have h70 : a.tmps.getD 70 undef = .int .i64 k := hd.2.1 rfl
    exact rf_indexI (guard_none rfl) rfl _ _ rfl _ _ _ _ k _ h69 h70 rfl S.kn rfl
  refine ⟨?_, ?_⟩
  · intro a w b1 b2 h1 h2 hl hI hF hd
    refine askM_d (by decide) (by decide) ?_
    have h71 : a.tmps.getD 71 undef = .pointer (some ⟨b, f + k, none⟩) := hd.1 rfl
    exact rf_loadi (guard_none rfl) rfl _ rfl _ _ h71 _ (cell_far S.ar hI.gr S.nb) rfl
  refine ⟨?_, ?_⟩
  · intro a w b1 b2 h1 h2 hl hI hF hd
    refine askM_1 rfl ?_
    have h68 : a.tmps.getD 68 undef = .pointer (some ⟨y, 0, none⟩) := hd.1 rfl
    have h72 : a.tmps.getD 72 undef = .int .i64 z := hd.2.1 rfl
    obtain ⟨rfl, rfl⟩ := h1 rfl
    refine stepL_call (guard_none rfl) rfl _ _ (rf_call_run Try.func13 (by kernel_rfl) (by kernel_rfl) _ _ rfl) ?_
    simp only [List.map_toArray, List.map_cons, List.map_nil, Act.eval, h68, h72]
    exact (rsee_val y L M K z N M2 K2 p p2 w hI.st.pre S.mm S.eN S.eB S.eM S.eR).mono (fun e w1 h => SkI.see hI S.ne h.1 h.2)
  refine ⟨?_, ?_⟩
  · intro a w b1 b2 h1 h2 hl hI hF hd
    refine askM_d (by decide) (by decide) ?_
    have h67 : a.tmps.getD 67 undef = .int .i64 N := hd.1 rfl
    have h73 : a.tmps.getD 73 undef = .int .i64 N := hd.2.1 rfl
    exact rf_neq (guard_none rfl) rfl _ _ rfl _ _ h67 h73 false (by simp) rfl
  refine ⟨?_, ?_⟩
  · intro a w b1 b2 h1 h2 hl hI hF hd
    refine askM_d (by decide) (by decide) ?_
    have h74 : a.tmps.getD 74 undef = .bool false := hd.1 rfl
    exact step_move (guard_none rfl) rfl _ rfl h74
  refine ⟨?_, ?_⟩
  · intro a w b1 b2 h1 h2 hl hI hF hd
    refine askM_d (by decide) (by decide) ?_
    have h75 : a.tmps.getD 75 undef = .bool false := hd.1 rfl
    exact step_move (rf_open false rfl rfl h75) rfl _ rfl ((hF.other 7 rfl).trans S.v7)
  refine ⟨?_, ?_⟩
  · intro a w b1 b2 h1 h2 hl hI hF hd
    refine askM_d (by decide) (by decide) ?_
    have h75 : a.tmps.getD 75 undef = .bool false := hd.2.1 rfl
    have h76 : a.tmps.getD 76 undef = .pointer (some ⟨g, 0, none⟩) := hd.1 rfl
    refine step_call (rf_open false rfl rfl h75) rfl _ _ (rf_call_run Try.func14 (by kernel_rfl) (by kernel_rfl) _ _ rfl) ?_
    simp only [List.map_toArray, List.map_cons, List.map_nil, Act.eval, h76]
    exact (k_any g L T K2 w hI.st.1).mono (by rintro e w1 ⟨rfl, rfl⟩; exact ⟨_, rfl, Below.refl _ _, rfl⟩)
  refine ⟨?_, ?_⟩
  · intro a w b1 b2 h1 h2 hl hI hF hd
    refine askM_d (by decide) (by decide) ?_
    have h75 : a.tmps.getD 75 undef = .bool false := hd.1 rfl
    exact step_move (rf_open false rfl rfl h75) rfl _ rfl ((hF.other 9 rfl).trans S.v9)
  refine ⟨?_, ?_⟩
  · intro a w b1 b2 h1 h2 hl hI hF hd
    refine askM_d (by decide) (by decide) ?_
    have h75 : a.tmps.getD 75 undef = .bool false := hd.2.1 rfl
    have h78 : a.tmps.getD 78 undef = .pointer (some ⟨y, 0, none⟩) := hd.1 rfl
    exact rf_nilck (rf_open false rfl rfl h75) rfl _ rfl _ h78 rfl
  refine ⟨?_, ?_⟩
  · intro a w b1 b2 h1 h2 hl hI hF hd
    refine askM_d (by decide) (by decide) ?_
    have h75 : a.tmps.getD 75 undef = .bool false := hd.2.1 rfl
    have h79 : a.tmps.getD 79 undef = .pointer (some ⟨y, 0, none⟩) := hd.1 rfl
    exact rf_faddr (rf_open false rfl rfl h75) rfl _ _ _ rfl _ _ 3 _ h79 (by omega) (fun _ _ => by kernel_rfl) rfl
  refine ⟨?_, ?_⟩
  · intro a w b1 b2 h1 h2 hl hI hF hd
    refine askM_d (by decide) (by decide) ?_
    have h75 : a.tmps.getD 75 undef = .bool false := hd.2.1 rfl
    have h80 : a.tmps.getD 80 undef = .pointer (some ⟨y, 3, none⟩) := hd.1 rfl
    obtain ⟨rfl, _⟩ := hl (by decide)
    exact rf_loadi (rf_open false rfl rfl h75) rfl _ rfl _ _ h80 _ (hI.st.post.cell 3) rfl
  refine ⟨?_, ?_⟩
  · intro a w b1 b2 h1 h2 hl hI hF hd
    refine askM_d (by decide) (by decide) ?_
    have h75 : a.tmps.getD 75 undef = .bool false := hd.2.2.1 rfl
    have h77 : a.tmps.getD 77 undef = .int .i64 K2 := hd.1 rfl
    have h81 : a.tmps.getD 81 undef = .int .i64 K2 := hd.2.1 rfl
    exact rf_neq (rf_open false rfl rfl h75) rfl _ _ rfl _ _ h77 h81 false (by simp) rfl
  trivial
set_option maxRecDepth 100000 in
theorem sk13_any {Q : Exit → Act → World → Prop} {l : List Oper} (hl : opsOf 13 Try.f3 = l) (hend : ∀ w : World, MI [y] (SkI g y (slC L T K2) (srC L p M K) (srC L p2 M2 K2)) w0 true false w → wpList Try.prog l.toArray Q (l.drop 17) (putAll a0 [(66, .int .i64 N), (67, .int .i64 N), (68, .pointer (some ⟨y, 0, none⟩)), (69, .slice (some ⟨b, f, none⟩) n c), (70, .int .i64 k), (71, .pointer (some ⟨b, f + k, none⟩)), (72, .int .i64 z), (73, .int .i64 N), (74, .bool false), (75, .bool false), (76, .pointer (some ⟨g, 0, none⟩)), (77, .int .i64 K2), (78, .pointer (some ⟨y, 0, none⟩)), (79, .pointer (some ⟨y, 0, none⟩)), (80, .pointer (some ⟨y, 3, none⟩)), (81, .int .i64 K2), (82, .bool false)]) w) :
    (Code.region 13 l.toArray true).wp Try.prog Q a0 w0 := by
  subst hl
  refine region_twoL [y] (SkI g y (slC L T K2) (srC L p M K) (srC L p2 M2 K2)) 7 1000 (sk13F _ _ _ _ _ _ _ _ _ _ _ _ _ _ _ _ _ _) sk13D 17 85 S.size rfl (by kernel_rfl) (by kernel_rfl) (by kernel_rfl) [8, 9, 10, 11, 12, 13, 14, 15, 16] (by kernel_rfl) (by omega) (by omega) (by kernel_rfl) (fun _ _ _ _ h hb => h.below hb) (⟨S.stg, S.sty⟩) (sk13F_mono _ _ _ _ _ _ _ _ _ _ _ _ _ _ _ _ _ _) (sk13F_monoS) (sk13_ok S) fun a w hI hF h => ?_
  have hv : valsAre a [(66, .int .i64 N), (67, .int .i64 N), (68, .pointer (some ⟨y, 0, none⟩)), (69, .slice (some ⟨b, f, none⟩) n c), (70, .int .i64 k), (71, .pointer (some ⟨b, f + k, none⟩)), (72, .int .i64 z), (73, .int .i64 N), (74, .bool false), (75, .bool false), (76, .pointer (some ⟨g, 0, none⟩)), (77, .int .i64 K2), (78, .pointer (some ⟨y, 0, none⟩)), (79, .pointer (some ⟨y, 0, none⟩)), (80, .pointer (some ⟨y, 3, none⟩)), (81, .int .i64 K2), (82, .bool false)] := by
    refine ⟨?_, ?_, ?_, ?_, ?_, ?_, ?_, ?_, ?_, ?_, ?_, ?_, ?_, ?_, ?_, ?_, ?_, trivial⟩
    · exact h 0 (some 66) (by omega) rfl
    · exact h 1 (some 67) (by omega) rfl
    · exact h 2 (some 68) (by omega) rfl
    · exact h 3 (some 69) (by omega) rfl
    · exact h 4 (some 70) (by omega) rfl
    · exact h 5 (some 71) (by omega) rfl
    · exact h 6 (some 72) (by omega) rfl
    · exact h 7 (some 73) (by omega) rfl
    · exact h 8 (some 74) (by omega) rfl
    · exact h 9 (some 75) (by omega) rfl
    · exact h 10 (some 76) (by omega) rfl
    · exact h 11 (some 77) (by omega) rfl
    · exact h 12 (some 78) (by omega) rfl
    · exact h 13 (some 79) (by omega) rfl
    · exact h 14 (some 80) (by omega) rfl
    · exact h 15 (some 81) (by omega) rfl
    · exact h 16 (some 82) (by omega) rfl
  rw [frame_is hF _ hv (by rfl) (by rfl)]
  exact hend w hI
end

end Go.Proofs.Ytoobkdhijfleeaa
