/-
  Registries' drawn region (written by gen/rgregs.py).
-/
import Derived.Test.YtamgllaoeociaaaGRows
import Derived.Test.YtamgllaoeociaaaBut
import Derived.Test.YtamgllaoeociaaaRgDuo
namespace Go.Proofs.Ytamgllaoeociaaa
open Go.RowKit

def gr11D : List (Option Tmp) := [some 58, some 59, some 60, some 61, some 62, some 63, some 64, some 65, some 66, some 67, some 68, some 69, some 70, some 71, some 72, some 73, some 74, some 75, some 76, some 77, some 78, some 79, some 80, some 81, some 82, some 83, some 84, some 85, some 86, some 87, some 88, some 89, some 90, some 91, some 92, some 93, some 94, some 95, some 96, some 97, some 98]
def gr11F (_rs _hs : List Nat) (g y b f n c k _B : Nat) (_m z r u : Int) (_ids _ids' : List Int) (d1 d2 : Bool) : List Fact := [isV (.int .i64 r), isV (.int .i64 r), isV (.pointer (some ⟨y, 0, none⟩)), isV (.slice (some ⟨b, f, none⟩) n c), isV (.int .i64 k), isV (.pointer (some ⟨b, f + k, none⟩)), isV (.int .i64 z), isV (.int .i64 r), isV (.bool false), isV (.bool false), isV (.pointer (some ⟨g, 0, none⟩)), isV (.slice (some ⟨b, f, none⟩) n c), isV (.int .i64 k), isV (.pointer (some ⟨b, f + k, none⟩)), isV (.int .i64 z), isV (.bool d1), isV (.pointer (some ⟨y, 0, none⟩)), isV (.slice (some ⟨b, f, none⟩) n c), isV (.int .i64 k), isV (.pointer (some ⟨b, f + k, none⟩)), isV (.int .i64 z), isV (.bool d1), isV (.bool false), isV (.bool false), isV (.bool false), isV (.pointer (some ⟨g, 0, none⟩)), isV (.slice (some ⟨b, f, none⟩) n c), isV (.int .i64 k), isV (.pointer (some ⟨b, f + k, none⟩)), isV (.int .i64 z), isV (.int .i64 u), isV (.bool d2), isV (.pointer (some ⟨y, 0, none⟩)), isV (.slice (some ⟨b, f, none⟩) n c), isV (.int .i64 k), isV (.pointer (some ⟨b, f + k, none⟩)), isV (.int .i64 z), isV (.int .i64 u), isV (.bool d2), isV (.bool false)]
theorem gr11F_mono (rs hs : List Nat) (g y b f n c k B : Nat) (m z r u : Int) (ids ids' : List Int) (d1 d2 : Bool) : ∀ φ ∈ gr11F rs hs g y b f n c k B m z r u ids ids' d1 d2, Mono φ := by
  unfold gr11F
  repeat (first | exact monos_nil | (refine monos_cons (mono_isV _) ?_))
structure gr11S (rs hs : List Nat) (g y b f n c k B : Nat) (m z r u : Int) (ids ids' : List Int) (d1 d2 : Bool) (a0 : Act) (w0 : World) : Prop where
  size : a0.tmps.size = 111
  v1 : a0.tmps.getD 1 undef = .slice (some ⟨b, f, none⟩) n c
  v5 : a0.tmps.getD 5 undef = .pointer (some ⟨g, 0, none⟩)
  v7 : a0.tmps.getD 7 undef = .pointer (some ⟨y, 0, none⟩)
  v9 : a0.tmps.getD 9 undef = .int .i64 k
  v10 : a0.tmps.getD 10 undef = .int .i64 r
  eB : w0.heap.size = B
  lB : ∀ k ∈ hs, k < B
  ar : w0.cell? ⟨b, f + k, none⟩ = some (.int .i64 z)
  nb : b ∉ hs
  kn : k < n
  rg : Reg w0 rs g m ids'
  rf : Ref w0 hs y m ids
  dj : ∀ k ∈ rs, k ∉ hs
  zw : (Lit.int .i64 z).wf = true
  uw : (Lit.int .i64 u).wf = true
  hu : wrap64 (z + 1) = u
  hr : regN m ids z = r
  hi : regI m ids z = ids'
  l1 : ids.length ≤ 64
  l2 : ids'.length ≤ 1000000000
  ed1 : decide (z ∈ ids') = d1
  ed2 : decide (u ∈ ids') = d2
section
variable {rs hs : List Nat} {g y b f n c k B : Nat} {m z r u : Int} {ids ids' : List Int} {d1 d2 : Bool} {a0 : Act} {w0 : World} (S : gr11S rs hs g y b f n c k B m z r u ids ids' d1 d2 a0 w0)
include S
theorem gr11_gB : ∀ g ∈ (hs : List Nat), g < B := by
  intro g hg
  exact S.lB g hg
omit S in
theorem gr11F_monoS : ∀ φ ∈ gr11F rs hs g y b f n c k B m z r u ids ids' d1 d2, MonoS hs φ := by
  unfold gr11F
  repeat (first | exact allS_nil _ | (refine allS_cons (isV_monoS _ _) ?_))
set_option maxRecDepth 100000 in
set_option maxHeartbeats 8000000 in
theorem gr11_ok : AllOps (fun j o => ∀ (a : Act) (w : World) (b1 b2 : Bool), (j = 7 → b1 = false ∧ b2 = false) → (j = 1000 → b1 = true ∧ b2 = false) → (j ∈ ([8, 9, 10, 11, 12, 13, 14, 15, 16, 17, 18, 19, 20, 21, 22, 23, 24, 25, 26, 27, 28, 29, 30, 31, 32, 33, 34, 35, 36, 37, 38, 39] : List Nat) → b1 = true ∧ (1000 < 40 → b2 = true)) → MI hs (DuoI rs hs B g y m ids ids') w0 b1 b2 w → FrD (gr11D.take 40) a0 a → needs gr11D (gr11F rs hs g y b f n c k B m z r u ids ids' d1 d2) a w o.after.toList → AskM Try.prog gr11D (factAt (gr11F rs hs g y b f n c k B m z r u ids ids' d1 d2) j) (ButS hs) (ButS hs) (MI hs (DuoI rs hs B g y m ids ids') w0) 7 1000 j o a w) 0 ((opsOf 11 Try.f3).take 40) := by
  simp only [opsOf, Try.f3, opsAt, Option.bind, Option.or, Option.getD, reduceCtorEq, if_true, if_false, Nat.reduceEqDiff, List.take_succ_cons, List.take_zero]
  refine ⟨?_, ?_⟩
  · intro a w b1 b2 h1 h2 hl hI hF hd
    refine askM_d (by decide) (by decide) ?_
    exact step_move (guard_none rfl) rfl _ rfl ((hF.other 10 rfl).trans S.v10)
  refine ⟨?_, ?_⟩
  · intro a w b1 b2 h1 h2 hl hI hF hd
    refine askM_d (by decide) (by decide) ?_
    have h58 : a.tmps.getD 58 undef = .int .i64 r := hd.1 rfl
    refine step_call (guard_none rfl) rfl _ _ (rf_call_run Try.func8 (by kernel_rfl) (by kernel_rfl) _ _ rfl) ?_
    simp only [List.map_toArray, List.map_cons, List.map_nil, Act.eval, h58]
    exact (gnum_any _ _).mono (by rintro e w1 ⟨rfl, rfl⟩; exact ⟨_, rfl, Below.refl _ _, rfl⟩)
  refine ⟨?_, ?_⟩
  · intro a w b1 b2 h1 h2 hl hI hF hd
    refine askM_d (by decide) (by decide) ?_
    exact step_move (guard_none rfl) rfl _ rfl ((hF.other 7 rfl).trans S.v7)
  refine ⟨?_, ?_⟩
  · intro a w b1 b2 h1 h2 hl hI hF hd
    refine askM_d (by decide) (by decide) ?_
    exact step_move (guard_none rfl) rfl _ rfl ((hF.other 1 rfl).trans S.v1)
  refine ⟨?_, ?_⟩
  · intro a w b1 b2 h1 h2 hl hI hF hd
    refine askM_d (by decide) (by decide) ?_
    exact step_move (guard_none rfl) rfl _ rfl ((hF.other 9 rfl).trans S.v9)
  refine ⟨?_, ?_⟩
  · intro a w b1 b2 h1 h2 hl hI hF hd
    refine askM_d (by decide) (by decide) ?_
    have h61 : a.tmps.getD 61 undef = .slice (some ⟨b, f, none⟩) n c := hd.1 rfl
    have h62 : a.tmps.getD 62 undef = .int .i64 k := hd.2.1 rfl
    exact rf_indexI (guard_none rfl) rfl _ _ rfl _ _ _ _ k _ h61 h62 rfl S.kn rfl
  refine ⟨?_, ?_⟩
  · intro a w b1 b2 h1 h2 hl hI hF hd
    refine askM_d (by decide) (by decide) ?_
    have h63 : a.tmps.getD 63 undef = .pointer (some ⟨b, f + k, none⟩) := hd.1 rfl
    exact rf_loadi (guard_none rfl) rfl _ rfl _ _ h63 _ (cell_butS S.ar hI.gr S.nb) rfl
  refine ⟨?_, ?_⟩
  · intro a w b1 b2 h1 h2 hl hI hF hd
    refine askM_1 rfl ?_
    have h60 : a.tmps.getD 60 undef = .pointer (some ⟨y, 0, none⟩) := hd.1 rfl
    have h64 : a.tmps.getD 64 undef = .int .i64 z := hd.2.1 rfl
    obtain ⟨rfl, rfl⟩ := h1 rfl
    refine stepL_call (guard_none rfl) rfl _ _ (rf_call_run Try.func11 (by kernel_rfl) (by kernel_rfl) _ _ rfl) ?_
    simp only [List.map_toArray, List.map_cons, List.map_nil, Act.eval, h60, h64]
    exact (radd_any hs y m ids z w hI.st.pre S.l1).mono (fun e w1 h => DuoI.add hI S.eB S.dj h S.hr S.hi)
  refine ⟨?_, ?_⟩
  · intro a w b1 b2 h1 h2 hl hI hF hd
    refine askM_d (by decide) (by decide) ?_
    have h59 : a.tmps.getD 59 undef = .int .i64 r := hd.1 rfl
    have h65 : a.tmps.getD 65 undef = .int .i64 r := hd.2.1 rfl
    exact rf_neq (guard_none rfl) rfl _ _ rfl _ _ h59 h65 false (by simp) rfl
  refine ⟨?_, ?_⟩
  · intro a w b1 b2 h1 h2 hl hI hF hd
    refine askM_d (by decide) (by decide) ?_
    have h66 : a.tmps.getD 66 undef = .bool false := hd.1 rfl
    exact step_move (guard_none rfl) rfl _ rfl h66
  refine ⟨?_, ?_⟩
  · intro a w b1 b2 h1 h2 hl hI hF hd
    refine askM_d (by decide) (by decide) ?_
    have h67 : a.tmps.getD 67 undef = .bool false := hd.1 rfl
    exact step_move (rf_open false rfl rfl h67) rfl _ rfl ((hF.other 5 rfl).trans S.v5)
  refine ⟨?_, ?_⟩
  · intro a w b1 b2 h1 h2 hl hI hF hd
    refine askM_d (by decide) (by decide) ?_
    have h67 : a.tmps.getD 67 undef = .bool false := hd.1 rfl
    exact step_move (rf_open false rfl rfl h67) rfl _ rfl ((hF.other 1 rfl).trans S.v1)
  refine ⟨?_, ?_⟩
  · intro a w b1 b2 h1 h2 hl hI hF hd
    refine askM_d (by decide) (by decide) ?_
    have h67 : a.tmps.getD 67 undef = .bool false := hd.1 rfl
    exact step_move (rf_open false rfl rfl h67) rfl _ rfl ((hF.other 9 rfl).trans S.v9)
  refine ⟨?_, ?_⟩
  · intro a w b1 b2 h1 h2 hl hI hF hd
    refine askM_d (by decide) (by decide) ?_
    have h67 : a.tmps.getD 67 undef = .bool false := hd.2.2.1 rfl
    have h69 : a.tmps.getD 69 undef = .slice (some ⟨b, f, none⟩) n c := hd.1 rfl
    have h70 : a.tmps.getD 70 undef = .int .i64 k := hd.2.1 rfl
    exact rf_indexI (rf_open false rfl rfl h67) rfl _ _ rfl _ _ _ _ k _ h69 h70 rfl S.kn rfl
  refine ⟨?_, ?_⟩
  · intro a w b1 b2 h1 h2 hl hI hF hd
    refine askM_d (by decide) (by decide) ?_
    have h67 : a.tmps.getD 67 undef = .bool false := hd.2.1 rfl
    have h71 : a.tmps.getD 71 undef = .pointer (some ⟨b, f + k, none⟩) := hd.1 rfl
    exact rf_loadi (rf_open false rfl rfl h67) rfl _ rfl _ _ h71 _ (cell_butS S.ar hI.gr S.nb) rfl
  refine ⟨?_, ?_⟩
  · intro a w b1 b2 h1 h2 hl hI hF hd
    refine askM_d (by decide) (by decide) ?_
    have h67 : a.tmps.getD 67 undef = .bool false := hd.2.2.1 rfl
    have h68 : a.tmps.getD 68 undef = .pointer (some ⟨g, 0, none⟩) := hd.1 rfl
    have h72 : a.tmps.getD 72 undef = .int .i64 z := hd.2.1 rfl
    refine step_call (rf_open false rfl rfl h67) rfl _ _ (rf_call_run Try.func12 (by kernel_rfl) (by kernel_rfl) _ _ rfl) ?_
    simp only [List.map_toArray, List.map_cons, List.map_nil, Act.eval, h68, h72]
    exact (ghas_any rs g m ids' z w hI.st.1 S.zw).mono (by rintro e w1 ⟨rfl, rfl⟩; exact ⟨_, rfl, Below.refl _ _, congrArg Value.bool S.ed1⟩)
  refine ⟨?_, ?_⟩
  · intro a w b1 b2 h1 h2 hl hI hF hd
    refine askM_d (by decide) (by decide) ?_
    have h67 : a.tmps.getD 67 undef = .bool false := hd.1 rfl
    exact step_move (rf_open false rfl rfl h67) rfl _ rfl ((hF.other 7 rfl).trans S.v7)
  refine ⟨?_, ?_⟩
  · intro a w b1 b2 h1 h2 hl hI hF hd
    refine askM_d (by decide) (by decide) ?_
    have h67 : a.tmps.getD 67 undef = .bool false := hd.1 rfl
    exact step_move (rf_open false rfl rfl h67) rfl _ rfl ((hF.other 1 rfl).trans S.v1)
  refine ⟨?_, ?_⟩
  · intro a w b1 b2 h1 h2 hl hI hF hd
    refine askM_d (by decide) (by decide) ?_
    have h67 : a.tmps.getD 67 undef = .bool false := hd.1 rfl
    exact step_move (rf_open false rfl rfl h67) rfl _ rfl ((hF.other 9 rfl).trans S.v9)
  refine ⟨?_, ?_⟩
  · intro a w b1 b2 h1 h2 hl hI hF hd
    refine askM_d (by decide) (by decide) ?_
    have h67 : a.tmps.getD 67 undef = .bool false := hd.2.2.1 rfl
    have h75 : a.tmps.getD 75 undef = .slice (some ⟨b, f, none⟩) n c := hd.1 rfl
    have h76 : a.tmps.getD 76 undef = .int .i64 k := hd.2.1 rfl
    exact rf_indexI (rf_open false rfl rfl h67) rfl _ _ rfl _ _ _ _ k _ h75 h76 rfl S.kn rfl
  refine ⟨?_, ?_⟩
  · intro a w b1 b2 h1 h2 hl hI hF hd
    refine askM_d (by decide) (by decide) ?_
    have h67 : a.tmps.getD 67 undef = .bool false := hd.2.1 rfl
    have h77 : a.tmps.getD 77 undef = .pointer (some ⟨b, f + k, none⟩) := hd.1 rfl
    exact rf_loadi (rf_open false rfl rfl h67) rfl _ rfl _ _ h77 _ (cell_butS S.ar hI.gr S.nb) rfl
  refine ⟨?_, ?_⟩
  · intro a w b1 b2 h1 h2 hl hI hF hd
    refine askM_d (by decide) (by decide) ?_
    have h67 : a.tmps.getD 67 undef = .bool false := hd.2.2.2.1 rfl
    have h74 : a.tmps.getD 74 undef = .pointer (some ⟨y, 0, none⟩) := hd.1 rfl
    have h78 : a.tmps.getD 78 undef = .int .i64 z := hd.2.1 rfl
    obtain ⟨rfl, _⟩ := hl (by decide)
    refine step_call (rf_open false rfl rfl h67) rfl _ _ (rf_call_run Try.func13 (by kernel_rfl) (by kernel_rfl) _ _ rfl) ?_
    simp only [List.map_toArray, List.map_cons, List.map_nil, Act.eval, h74, h78]
    obtain ⟨hs', hr2, _⟩ := hI.st.post
    exact (rhas_any hs' y m ids' z w hr2 S.l2).mono (by rintro e w1 ⟨rfl, rfl⟩; exact ⟨_, rfl, Below.refl _ _, congrArg Value.bool S.ed1⟩)
  refine ⟨?_, ?_⟩
  · intro a w b1 b2 h1 h2 hl hI hF hd
    refine askM_d (by decide) (by decide) ?_
    have h67 : a.tmps.getD 67 undef = .bool false := hd.2.2.1 rfl
    have h73 : a.tmps.getD 73 undef = .bool d1 := hd.1 rfl
    have h79 : a.tmps.getD 79 undef = .bool d1 := hd.2.1 rfl
    exact rf_neqb (rf_open false rfl rfl h67) rfl _ _ rfl _ _ _ h73 h79 (by simp) rfl
  refine ⟨?_, ?_⟩
  · intro a w b1 b2 h1 h2 hl hI hF hd
    refine askM_d (by decide) (by decide) ?_
    have h67 : a.tmps.getD 67 undef = .bool false := hd.1 rfl
    have h80 : a.tmps.getD 80 undef = .bool false := hd.2.1 rfl
    exact rf_pick (guard_none rfl) rfl _ _ _ rfl false h67 h80
  refine ⟨?_, ?_⟩
  · intro a w b1 b2 h1 h2 hl hI hF hd
    refine askM_d (by decide) (by decide) ?_
    have h81 : a.tmps.getD 81 undef = .bool false := hd.1 rfl
    exact step_move (guard_none rfl) rfl _ rfl h81
  refine ⟨?_, ?_⟩
  · intro a w b1 b2 h1 h2 hl hI hF hd
    refine askM_d (by decide) (by decide) ?_
    have h82 : a.tmps.getD 82 undef = .bool false := hd.1 rfl
    exact step_move (rf_open false rfl rfl h82) rfl _ rfl ((hF.other 5 rfl).trans S.v5)
  refine ⟨?_, ?_⟩
  · intro a w b1 b2 h1 h2 hl hI hF hd
    refine askM_d (by decide) (by decide) ?_
    have h82 : a.tmps.getD 82 undef = .bool false := hd.1 rfl
    exact step_move (rf_open false rfl rfl h82) rfl _ rfl ((hF.other 1 rfl).trans S.v1)
  refine ⟨?_, ?_⟩
  · intro a w b1 b2 h1 h2 hl hI hF hd
    refine askM_d (by decide) (by decide) ?_
    have h82 : a.tmps.getD 82 undef = .bool false := hd.1 rfl
    exact step_move (rf_open false rfl rfl h82) rfl _ rfl ((hF.other 9 rfl).trans S.v9)
  refine ⟨?_, ?_⟩
  · intro a w b1 b2 h1 h2 hl hI hF hd
    refine askM_d (by decide) (by decide) ?_
    have h82 : a.tmps.getD 82 undef = .bool false := hd.2.2.1 rfl
    have h84 : a.tmps.getD 84 undef = .slice (some ⟨b, f, none⟩) n c := hd.1 rfl
    have h85 : a.tmps.getD 85 undef = .int .i64 k := hd.2.1 rfl
    exact rf_indexI (rf_open false rfl rfl h82) rfl _ _ rfl _ _ _ _ k _ h84 h85 rfl S.kn rfl
  refine ⟨?_, ?_⟩
  · intro a w b1 b2 h1 h2 hl hI hF hd
    refine askM_d (by decide) (by decide) ?_
    have h82 : a.tmps.getD 82 undef = .bool false := hd.2.1 rfl
    have h86 : a.tmps.getD 86 undef = .pointer (some ⟨b, f + k, none⟩) := hd.1 rfl
    exact rf_loadi (rf_open false rfl rfl h82) rfl _ rfl _ _ h86 _ (cell_butS S.ar hI.gr S.nb) rfl
  refine ⟨?_, ?_⟩
  · intro a w b1 b2 h1 h2 hl hI hF hd
    refine askM_d (by decide) (by decide) ?_
    have h82 : a.tmps.getD 82 undef = .bool false := hd.2.1 rfl
    have h87 : a.tmps.getD 87 undef = .int .i64 z := hd.1 rfl
    exact rf_addw (rf_open false rfl rfl h82) rfl _ _ rfl _ _ _ h87 rfl S.hu rfl
  refine ⟨?_, ?_⟩
  · intro a w b1 b2 h1 h2 hl hI hF hd
    refine askM_d (by decide) (by decide) ?_
    have h82 : a.tmps.getD 82 undef = .bool false := hd.2.2.1 rfl
    have h83 : a.tmps.getD 83 undef = .pointer (some ⟨g, 0, none⟩) := hd.1 rfl
    have h88 : a.tmps.getD 88 undef = .int .i64 u := hd.2.1 rfl
    refine step_call (rf_open false rfl rfl h82) rfl _ _ (rf_call_run Try.func12 (by kernel_rfl) (by kernel_rfl) _ _ rfl) ?_
    simp only [List.map_toArray, List.map_cons, List.map_nil, Act.eval, h83, h88]
    exact (ghas_any rs g m ids' u w hI.st.1 S.uw).mono (by rintro e w1 ⟨rfl, rfl⟩; exact ⟨_, rfl, Below.refl _ _, congrArg Value.bool S.ed2⟩)
  refine ⟨?_, ?_⟩
  · intro a w b1 b2 h1 h2 hl hI hF hd
    refine askM_d (by decide) (by decide) ?_
    have h82 : a.tmps.getD 82 undef = .bool false := hd.1 rfl
    exact step_move (rf_open false rfl rfl h82) rfl _ rfl ((hF.other 7 rfl).trans S.v7)
  refine ⟨?_, ?_⟩
  · intro a w b1 b2 h1 h2 hl hI hF hd
    refine askM_d (by decide) (by decide) ?_
    have h82 : a.tmps.getD 82 undef = .bool false := hd.1 rfl
    exact step_move (rf_open false rfl rfl h82) rfl _ rfl ((hF.other 1 rfl).trans S.v1)
  refine ⟨?_, ?_⟩
  · intro a w b1 b2 h1 h2 hl hI hF hd
    refine askM_d (by decide) (by decide) ?_
    have h82 : a.tmps.getD 82 undef = .bool false := hd.1 rfl
    exact step_move (rf_open false rfl rfl h82) rfl _ rfl ((hF.other 9 rfl).trans S.v9)
  refine ⟨?_, ?_⟩
  · intro a w b1 b2 h1 h2 hl hI hF hd
    refine askM_d (by decide) (by decide) ?_
    have h82 : a.tmps.getD 82 undef = .bool false := hd.2.2.1 rfl
    have h91 : a.tmps.getD 91 undef = .slice (some ⟨b, f, none⟩) n c := hd.1 rfl
    have h92 : a.tmps.getD 92 undef = .int .i64 k := hd.2.1 rfl
    exact rf_indexI (rf_open false rfl rfl h82) rfl _ _ rfl _ _ _ _ k _ h91 h92 rfl S.kn rfl
  refine ⟨?_, ?_⟩
  · intro a w b1 b2 h1 h2 hl hI hF hd
    refine askM_d (by decide) (by decide) ?_
    have h82 : a.tmps.getD 82 undef = .bool false := hd.2.1 rfl
    have h93 : a.tmps.getD 93 undef = .pointer (some ⟨b, f + k, none⟩) := hd.1 rfl
    exact rf_loadi (rf_open false rfl rfl h82) rfl _ rfl _ _ h93 _ (cell_butS S.ar hI.gr S.nb) rfl
  refine ⟨?_, ?_⟩
  · intro a w b1 b2 h1 h2 hl hI hF hd
    refine askM_d (by decide) (by decide) ?_
    have h82 : a.tmps.getD 82 undef = .bool false := hd.2.1 rfl
    have h94 : a.tmps.getD 94 undef = .int .i64 z := hd.1 rfl
    exact rf_addw (rf_open false rfl rfl h82) rfl _ _ rfl _ _ _ h94 rfl S.hu rfl
  refine ⟨?_, ?_⟩
  · intro a w b1 b2 h1 h2 hl hI hF hd
    refine askM_d (by decide) (by decide) ?_
    have h82 : a.tmps.getD 82 undef = .bool false := hd.2.2.2.1 rfl
    have h90 : a.tmps.getD 90 undef = .pointer (some ⟨y, 0, none⟩) := hd.1 rfl
    have h95 : a.tmps.getD 95 undef = .int .i64 u := hd.2.1 rfl
    obtain ⟨rfl, _⟩ := hl (by decide)
    refine step_call (rf_open false rfl rfl h82) rfl _ _ (rf_call_run Try.func13 (by kernel_rfl) (by kernel_rfl) _ _ rfl) ?_
    simp only [List.map_toArray, List.map_cons, List.map_nil, Act.eval, h90, h95]
    obtain ⟨hs', hr2, _⟩ := hI.st.post
    exact (rhas_any hs' y m ids' u w hr2 S.l2).mono (by rintro e w1 ⟨rfl, rfl⟩; exact ⟨_, rfl, Below.refl _ _, congrArg Value.bool S.ed2⟩)
  refine ⟨?_, ?_⟩
  · intro a w b1 b2 h1 h2 hl hI hF hd
    refine askM_d (by decide) (by decide) ?_
    have h82 : a.tmps.getD 82 undef = .bool false := hd.2.2.1 rfl
    have h89 : a.tmps.getD 89 undef = .bool d2 := hd.1 rfl
    have h96 : a.tmps.getD 96 undef = .bool d2 := hd.2.1 rfl
    exact rf_neqb (rf_open false rfl rfl h82) rfl _ _ rfl _ _ _ h89 h96 (by simp) rfl
  trivial
set_option maxRecDepth 100000 in
theorem gr11_any {Q : Exit → Act → World → Prop} {l : List Oper} (hl : opsOf 11 Try.f3 = l) (hend : ∀ w : World, MI hs (DuoI rs hs B g y m ids ids') w0 true false w → wpList Try.prog l.toArray Q (l.drop 40) (putAll a0 [(58, .int .i64 r), (59, .int .i64 r), (60, .pointer (some ⟨y, 0, none⟩)), (61, .slice (some ⟨b, f, none⟩) n c), (62, .int .i64 k), (63, .pointer (some ⟨b, f + k, none⟩)), (64, .int .i64 z), (65, .int .i64 r), (66, .bool false), (67, .bool false), (68, .pointer (some ⟨g, 0, none⟩)), (69, .slice (some ⟨b, f, none⟩) n c), (70, .int .i64 k), (71, .pointer (some ⟨b, f + k, none⟩)), (72, .int .i64 z), (73, .bool d1), (74, .pointer (some ⟨y, 0, none⟩)), (75, .slice (some ⟨b, f, none⟩) n c), (76, .int .i64 k), (77, .pointer (some ⟨b, f + k, none⟩)), (78, .int .i64 z), (79, .bool d1), (80, .bool false), (81, .bool false), (82, .bool false), (83, .pointer (some ⟨g, 0, none⟩)), (84, .slice (some ⟨b, f, none⟩) n c), (85, .int .i64 k), (86, .pointer (some ⟨b, f + k, none⟩)), (87, .int .i64 z), (88, .int .i64 u), (89, .bool d2), (90, .pointer (some ⟨y, 0, none⟩)), (91, .slice (some ⟨b, f, none⟩) n c), (92, .int .i64 k), (93, .pointer (some ⟨b, f + k, none⟩)), (94, .int .i64 z), (95, .int .i64 u), (96, .bool d2), (97, .bool false)]) w) :
    (Code.region 11 l.toArray true).wp Try.prog Q a0 w0 := by
  subst hl
  refine region_twoL hs (DuoI rs hs B g y m ids ids') 7 1000 (gr11F _ _ _ _ _ _ _ _ _ _ _ _ _ _ _ _ _ _) gr11D 40 111 S.size rfl (by kernel_rfl) (by kernel_rfl) (by kernel_rfl) [8, 9, 10, 11, 12, 13, 14, 15, 16, 17, 18, 19, 20, 21, 22, 23, 24, 25, 26, 27, 28, 29, 30, 31, 32, 33, 34, 35, 36, 37, 38, 39] (by kernel_rfl) (by omega) (by omega) (by kernel_rfl) (fun _ _ _ _ h hb => h.below hb) (DuoI.start S.rg S.rf) (gr11F_mono _ _ _ _ _ _ _ _ _ _ _ _ _ _ _ _ _ _) (gr11F_monoS) (gr11_ok S) fun a w hI hF h => ?_
  have hv : valsAre a [(58, .int .i64 r), (59, .int .i64 r), (60, .pointer (some ⟨y, 0, none⟩)), (61, .slice (some ⟨b, f, none⟩) n c), (62, .int .i64 k), (63, .pointer (some ⟨b, f + k, none⟩)), (64, .int .i64 z), (65, .int .i64 r), (66, .bool false), (67, .bool false), (68, .pointer (some ⟨g, 0, none⟩)), (69, .slice (some ⟨b, f, none⟩) n c), (70, .int .i64 k), (71, .pointer (some ⟨b, f + k, none⟩)), (72, .int .i64 z), (73, .bool d1), (74, .pointer (some ⟨y, 0, none⟩)), (75, .slice (some ⟨b, f, none⟩) n c), (76, .int .i64 k), (77, .pointer (some ⟨b, f + k, none⟩)), (78, .int .i64 z), (79, .bool d1), (80, .bool false), (81, .bool false), (82, .bool false), (83, .pointer (some ⟨g, 0, none⟩)), (84, .slice (some ⟨b, f, none⟩) n c), (85, .int .i64 k), (86, .pointer (some ⟨b, f + k, none⟩)), (87, .int .i64 z), (88, .int .i64 u), (89, .bool d2), (90, .pointer (some ⟨y, 0, none⟩)), (91, .slice (some ⟨b, f, none⟩) n c), (92, .int .i64 k), (93, .pointer (some ⟨b, f + k, none⟩)), (94, .int .i64 z), (95, .int .i64 u), (96, .bool d2), (97, .bool false)] := by
    refine ⟨?_, ?_, ?_, ?_, ?_, ?_, ?_, ?_, ?_, ?_, ?_, ?_, ?_, ?_, ?_, ?_, ?_, ?_, ?_, ?_, ?_, ?_, ?_, ?_, ?_, ?_, ?_, ?_, ?_, ?_, ?_, ?_, ?_, ?_, ?_, ?_, ?_, ?_, ?_, ?_, trivial⟩
    · exact h 0 (some 58) (by omega) rfl
    · exact h 1 (some 59) (by omega) rfl
    · exact h 2 (some 60) (by omega) rfl
    · exact h 3 (some 61) (by omega) rfl
    · exact h 4 (some 62) (by omega) rfl
    · exact h 5 (some 63) (by omega) rfl
    · exact h 6 (some 64) (by omega) rfl
    · exact h 7 (some 65) (by omega) rfl
    · exact h 8 (some 66) (by omega) rfl
    · exact h 9 (some 67) (by omega) rfl
    · exact h 10 (some 68) (by omega) rfl
    · exact h 11 (some 69) (by omega) rfl
    · exact h 12 (some 70) (by omega) rfl
    · exact h 13 (some 71) (by omega) rfl
    · exact h 14 (some 72) (by omega) rfl
    · exact h 15 (some 73) (by omega) rfl
    · exact h 16 (some 74) (by omega) rfl
    · exact h 17 (some 75) (by omega) rfl
    · exact h 18 (some 76) (by omega) rfl
    · exact h 19 (some 77) (by omega) rfl
    · exact h 20 (some 78) (by omega) rfl
    · exact h 21 (some 79) (by omega) rfl
    · exact h 22 (some 80) (by omega) rfl
    · exact h 23 (some 81) (by omega) rfl
    · exact h 24 (some 82) (by omega) rfl
    · exact h 25 (some 83) (by omega) rfl
    · exact h 26 (some 84) (by omega) rfl
    · exact h 27 (some 85) (by omega) rfl
    · exact h 28 (some 86) (by omega) rfl
    · exact h 29 (some 87) (by omega) rfl
    · exact h 30 (some 88) (by omega) rfl
    · exact h 31 (some 89) (by omega) rfl
    · exact h 32 (some 90) (by omega) rfl
    · exact h 33 (some 91) (by omega) rfl
    · exact h 34 (some 92) (by omega) rfl
    · exact h 35 (some 93) (by omega) rfl
    · exact h 36 (some 94) (by omega) rfl
    · exact h 37 (some 95) (by omega) rfl
    · exact h 38 (some 96) (by omega) rfl
    · exact h 39 (some 97) (by omega) rfl
  rw [frame_is hF _ hv (by rfl) (by rfl)]
  exact hend w hI
end

end Go.Proofs.Ytamgllaoeociaaa
