/-
  The two drawn regions of Marks that hold a call of Set (written by gen/mkset.py).
-/
import Derived.Test.YtgibmcljlaoahaaMkI
import Derived.Test.YtgibmcljlaoahaaMkSet
namespace Go.Proofs.Ytgibmcljlaoahaa
open Go.RowKit

def mm11D : List (Option Tmp) := [some 59, some 60, some 61, some 62, some 63, some 64, some 65, some 66, some 67, some 68, some 69, some 70, some 58, some 71, some 72, some 11, some 12]
def mm11F (g _rb _rc b f n c k _B : Nat) (x t N : Int) (r : Bool) (_xs _xs' : List Int) : List Fact := [isV (.pointer (some ⟨g, 0, none⟩)), isV (.slice (some ⟨b, f, none⟩) n c), isV (.int .i64 k), isV (.pointer (some ⟨b, f + k * 2, none⟩)), isV (.pointer (some ⟨b, f + k * 2, none⟩)), isV (.int .i64 x), isV (.slice (some ⟨b, f, none⟩) n c), isV (.int .i64 k), isV (.pointer (some ⟨b, f + k * 2, none⟩)), isV (.pointer (some ⟨b, f + k * 2 + 1, none⟩)), isV (.int .i64 t), isV (.tuple #[.bool r, .int .i64 N]), isV (.tuple #[.bool r, .int .i64 N]), isV (.bool r), isV (.int .i64 N), isV (.bool r)]
theorem mm11F_mono (g rb rc b f n c k B : Nat) (x t N : Int) (r : Bool) (xs xs' : List Int) : ∀ φ ∈ mm11F g rb rc b f n c k B x t N r xs xs', Mono φ := by
  unfold mm11F
  repeat (first | exact monos_nil | (refine monos_cons (mono_isV _) ?_))
structure mm11S (g rb rc b f n c k B : Nat) (x t N : Int) (r : Bool) (xs xs' : List Int) (a0 : Act) (w0 : World) : Prop where
  size : a0.tmps.size = 132
  v1 : a0.tmps.getD 1 undef = .slice (some ⟨b, f, none⟩) n c
  v5 : a0.tmps.getD 5 undef = .pointer (some ⟨g, 0, none⟩)
  v9 : a0.tmps.getD 9 undef = .int .i64 k
  lB : rb < B
  c0 : w0.cell? ⟨b, f + k * 2, none⟩ = some (.int .i64 x)
  c1 : w0.cell? ⟨b, f + k * 2 + 1, none⟩ = some (.int .i64 t)
  nb : b ≠ rb
  kn : k < n
  mkw : Mk 51 w0 g rb rc xs
  eB : setB xs x t = r
  eN : setN xs x t = N
  eI : setI xs x t = xs'
section
variable {g rb rc b f n c k B : Nat} {x t N : Int} {r : Bool} {xs xs' : List Int} {a0 : Act} {w0 : World} (S : mm11S g rb rc b f n c k B x t N r xs xs' a0 w0)
include S
theorem mm11_gB : ∀ g ∈ ([rb] : List Nat), g < B := by
  intro g hg
  obtain rfl : g = rb := by simpa using hg
  exact S.lB
omit S in
theorem mm11F_monoS : ∀ φ ∈ mm11F g rb rc b f n c k B x t N r xs xs', MonoS [rb] φ := by
  unfold mm11F
  repeat (first | exact allS_nil _ | (refine allS_cons (isV_monoS _ _) ?_))
set_option maxRecDepth 100000 in
set_option maxHeartbeats 8000000 in
theorem mm11_ok : AllOps (fun j o => ∀ (a : Act) (w : World) (b1 b2 : Bool), (j = 11 → b1 = false ∧ b2 = false) → (j = 1000 → b1 = true ∧ b2 = false) → MI [rb] (MkI 51 g rb rc xs xs') w0 b1 b2 w → FrD (mm11D.take 16) a0 a → needs mm11D (mm11F g rb rc b f n c k B x t N r xs xs') a w o.after.toList → AskM Try.prog mm11D (factAt (mm11F g rb rc b f n c k B x t N r xs xs') j) (ButS [rb]) (ButS [rb]) (MI [rb] (MkI 51 g rb rc xs xs') w0) 11 1000 j o a w) 0 ((opsOf 11 Try.f3).take 16) := by
  simp only [opsOf, Try.f3, opsAt, Option.bind, Option.or, Option.getD, reduceCtorEq, if_true, if_false, Nat.reduceEqDiff, List.take_succ_cons, List.take_zero]
  refine ⟨?_, ?_⟩
  · intro a w b1 b2 h1 h2 hI hF hd
    refine askM_d (by decide) (by decide) ?_
    exact step_move (guard_none rfl) rfl _ rfl ((hF.other 5 rfl).trans S.v5)
  refine ⟨?_, ?_⟩
  · intro a w b1 b2 h1 h2 hI hF hd
    refine askM_d (by decide) (by decide) ?_
    exact step_move (guard_none rfl) rfl _ rfl ((hF.other 1 rfl).trans S.v1)
  refine ⟨?_, ?_⟩
  · intro a w b1 b2 h1 h2 hI hF hd
    refine askM_d (by decide) (by decide) ?_
    exact step_move (guard_none rfl) rfl _ rfl ((hF.other 9 rfl).trans S.v9)
  refine ⟨?_, ?_⟩
  · intro a w b1 b2 h1 h2 hI hF hd
    refine askM_d (by decide) (by decide) ?_
    have h60 : a.tmps.getD 60 undef = .slice (some ⟨b, f, none⟩) n c := hd.1 rfl
    have h61 : a.tmps.getD 61 undef = .int .i64 k := hd.2.1 rfl
    exact rf_index (s := 2) (guard_none rfl) rfl _ _ _ rfl Try.underlying22 (fun _ => by kernel_rfl) b f n c k _ h60 h61 rfl S.kn rfl
  refine ⟨?_, ?_⟩
  · intro a w b1 b2 h1 h2 hI hF hd
    refine askM_d (by decide) (by decide) ?_
    have h62 : a.tmps.getD 62 undef = .pointer (some ⟨b, f + k * 2, none⟩) := hd.1 rfl
    exact rf_faddr (guard_none rfl) rfl _ _ _ rfl _ _ 0 _ h62 (by omega) (fun _ _ => by kernel_rfl) rfl
  refine ⟨?_, ?_⟩
  · intro a w b1 b2 h1 h2 hI hF hd
    refine askM_d (by decide) (by decide) ?_
    have h63 : a.tmps.getD 63 undef = .pointer (some ⟨b, f + k * 2, none⟩) := hd.1 rfl
    exact rf_loadi (guard_none rfl) rfl _ rfl _ _ h63 _ (cell_but1 S.c0 hI.gr S.nb) rfl
  refine ⟨?_, ?_⟩
  · intro a w b1 b2 h1 h2 hI hF hd
    refine askM_d (by decide) (by decide) ?_
    exact step_move (guard_none rfl) rfl _ rfl ((hF.other 1 rfl).trans S.v1)
  refine ⟨?_, ?_⟩
  · intro a w b1 b2 h1 h2 hI hF hd
    refine askM_d (by decide) (by decide) ?_
    exact step_move (guard_none rfl) rfl _ rfl ((hF.other 9 rfl).trans S.v9)
  refine ⟨?_, ?_⟩
  · intro a w b1 b2 h1 h2 hI hF hd
    refine askM_d (by decide) (by decide) ?_
    have h65 : a.tmps.getD 65 undef = .slice (some ⟨b, f, none⟩) n c := hd.1 rfl
    have h66 : a.tmps.getD 66 undef = .int .i64 k := hd.2.1 rfl
    exact rf_index (s := 2) (guard_none rfl) rfl _ _ _ rfl Try.underlying22 (fun _ => by kernel_rfl) b f n c k _ h65 h66 rfl S.kn rfl
  refine ⟨?_, ?_⟩
  · intro a w b1 b2 h1 h2 hI hF hd
    refine askM_d (by decide) (by decide) ?_
    have h67 : a.tmps.getD 67 undef = .pointer (some ⟨b, f + k * 2, none⟩) := hd.1 rfl
    exact rf_faddr (guard_none rfl) rfl _ _ _ rfl _ _ 1 _ h67 (by omega) (fun _ _ => by kernel_rfl) rfl
  refine ⟨?_, ?_⟩
  · intro a w b1 b2 h1 h2 hI hF hd
    refine askM_d (by decide) (by decide) ?_
    have h68 : a.tmps.getD 68 undef = .pointer (some ⟨b, f + k * 2 + 1, none⟩) := hd.1 rfl
    exact rf_loadi (guard_none rfl) rfl _ rfl _ _ h68 _ (cell_but1 S.c1 hI.gr S.nb) rfl
  refine ⟨?_, ?_⟩
  · intro a w b1 b2 h1 h2 hI hF hd
    refine askM_1 rfl ?_
    have h59 : a.tmps.getD 59 undef = .pointer (some ⟨g, 0, none⟩) := hd.1 rfl
    have h64 : a.tmps.getD 64 undef = .int .i64 x := hd.2.1 rfl
    have h69 : a.tmps.getD 69 undef = .int .i64 t := hd.2.2.1 rfl
    obtain ⟨rfl, rfl⟩ := h1 rfl
    refine stepL_call (guard_none rfl) rfl _ _ (rf_call_run Try.func11 (by kernel_rfl) (by kernel_rfl) _ _ rfl) ?_
    simp only [List.map_toArray, List.map_cons, List.map_nil, Act.eval, h59, h64, h69]
    exact (mset_any g rb rc xs x t w hI.st.pre).mono (fun e w1 h => MkI.set hI h S.eB S.eN S.eI)
  refine ⟨?_, ?_⟩
  · intro a w b1 b2 h1 h2 hI hF hd
    refine askM_d (by decide) (by decide) ?_
    have h70 : a.tmps.getD 70 undef = .tuple #[.bool r, .int .i64 N] := hd.1 rfl
    exact step_move (guard_none rfl) rfl _ rfl h70
  refine ⟨?_, ?_⟩
  · intro a w b1 b2 h1 h2 hI hF hd
    refine askM_d (by decide) (by decide) ?_
    have h58 : a.tmps.getD 58 undef = .tuple #[.bool r, .int .i64 N] := hd.1 rfl
    exact rf_extract (guard_none rfl) rfl _ 0 rfl _ _ h58 rfl rfl
  refine ⟨?_, ?_⟩
  · intro a w b1 b2 h1 h2 hI hF hd
    refine askM_d (by decide) (by decide) ?_
    have h58 : a.tmps.getD 58 undef = .tuple #[.bool r, .int .i64 N] := hd.1 rfl
    exact rf_extract (guard_none rfl) rfl _ 1 rfl _ _ h58 rfl rfl
  refine ⟨?_, ?_⟩
  · intro a w b1 b2 h1 h2 hI hF hd
    refine askM_d (by decide) (by decide) ?_
    have h71 : a.tmps.getD 71 undef = .bool r := hd.1 rfl
    exact step_assign (guard_none rfl) rfl _ rfl h71
  trivial
set_option maxRecDepth 100000 in
theorem mm11_any {Q : Exit → Act → World → Prop} {l : List Oper} (hl : opsOf 11 Try.f3 = l) (hend : ∀ w : World, MI [rb] (MkI 51 g rb rc xs xs') w0 true false w → wpList Try.prog l.toArray Q (l.drop 16) (putAll a0 [(59, .pointer (some ⟨g, 0, none⟩)), (60, .slice (some ⟨b, f, none⟩) n c), (61, .int .i64 k), (62, .pointer (some ⟨b, f + k * 2, none⟩)), (63, .pointer (some ⟨b, f + k * 2, none⟩)), (64, .int .i64 x), (65, .slice (some ⟨b, f, none⟩) n c), (66, .int .i64 k), (67, .pointer (some ⟨b, f + k * 2, none⟩)), (68, .pointer (some ⟨b, f + k * 2 + 1, none⟩)), (69, .int .i64 t), (70, .tuple #[.bool r, .int .i64 N]), (58, .tuple #[.bool r, .int .i64 N]), (71, .bool r), (72, .int .i64 N), (11, .bool r)]) w) :
    (Code.region 11 l.toArray true).wp Try.prog Q a0 w0 := by
  subst hl
  refine region_two [rb] (MkI 51 g rb rc xs xs') 11 1000 (mm11F _ _ _ _ _ _ _ _ _ _ _ _ _ _ _) mm11D 16 132 S.size rfl (by kernel_rfl) (by kernel_rfl) (by kernel_rfl) (by omega) (by omega) (by kernel_rfl) (fun _ _ _ _ h hb => MkI.below h hb) (S.mkw) (mm11F_mono _ _ _ _ _ _ _ _ _ _ _ _ _ _ _) (mm11F_monoS) (mm11_ok S) fun a w hI hF h => ?_
  have hv : valsAre a [(59, .pointer (some ⟨g, 0, none⟩)), (60, .slice (some ⟨b, f, none⟩) n c), (61, .int .i64 k), (62, .pointer (some ⟨b, f + k * 2, none⟩)), (63, .pointer (some ⟨b, f + k * 2, none⟩)), (64, .int .i64 x), (65, .slice (some ⟨b, f, none⟩) n c), (66, .int .i64 k), (67, .pointer (some ⟨b, f + k * 2, none⟩)), (68, .pointer (some ⟨b, f + k * 2 + 1, none⟩)), (69, .int .i64 t), (70, .tuple #[.bool r, .int .i64 N]), (58, .tuple #[.bool r, .int .i64 N]), (71, .bool r), (72, .int .i64 N), (11, .bool r)] := by
    refine ⟨?_, ?_, ?_, ?_, ?_, ?_, ?_, ?_, ?_, ?_, ?_, ?_, ?_, ?_, ?_, ?_, trivial⟩
    · exact h 0 (some 59) (by omega) rfl
    · exact h 1 (some 60) (by omega) rfl
    · exact h 2 (some 61) (by omega) rfl
    · exact h 3 (some 62) (by omega) rfl
    · exact h 4 (some 63) (by omega) rfl
    · exact h 5 (some 64) (by omega) rfl
    · exact h 6 (some 65) (by omega) rfl
    · exact h 7 (some 66) (by omega) rfl
    · exact h 8 (some 67) (by omega) rfl
    · exact h 9 (some 68) (by omega) rfl
    · exact h 10 (some 69) (by omega) rfl
    · exact h 11 (some 70) (by omega) rfl
    · exact h 12 (some 58) (by omega) rfl
    · exact h 13 (some 71) (by omega) rfl
    · exact h 14 (some 72) (by omega) rfl
    · exact h 15 (some 11) (by omega) rfl
  rw [frame_is hF _ hv (by rfl) (by rfl)]
  exact hend w hI
end

def mm12D : List (Option Tmp) := [some 74, some 75, some 76, some 77, some 78, some 79, some 80, some 81, some 82, some 83, some 84, some 85, some 73, some 86, some 87, some 13, some 14]
def mm12F (g _rb _rc b f n c k _B : Nat) (x t N : Int) (r : Bool) (_xs _xs' : List Int) : List Fact := [isV (.pointer (some ⟨g, 0, none⟩)), isV (.slice (some ⟨b, f, none⟩) n c), isV (.int .i64 k), isV (.pointer (some ⟨b, f + k * 2, none⟩)), isV (.pointer (some ⟨b, f + k * 2, none⟩)), isV (.int .i64 x), isV (.slice (some ⟨b, f, none⟩) n c), isV (.int .i64 k), isV (.pointer (some ⟨b, f + k * 2, none⟩)), isV (.pointer (some ⟨b, f + k * 2 + 1, none⟩)), isV (.int .i64 t), isV (.tuple #[.bool r, .int .i64 N]), isV (.tuple #[.bool r, .int .i64 N]), isV (.bool r), isV (.int .i64 N), isV (.bool r)]
theorem mm12F_mono (g rb rc b f n c k B : Nat) (x t N : Int) (r : Bool) (xs xs' : List Int) : ∀ φ ∈ mm12F g rb rc b f n c k B x t N r xs xs', Mono φ := by
  unfold mm12F
  repeat (first | exact monos_nil | (refine monos_cons (mono_isV _) ?_))
structure mm12S (g rb rc b f n c k B : Nat) (x t N : Int) (r : Bool) (xs xs' : List Int) (a0 : Act) (w0 : World) : Prop where
  size : a0.tmps.size = 132
  v1 : a0.tmps.getD 1 undef = .slice (some ⟨b, f, none⟩) n c
  v7 : a0.tmps.getD 7 undef = .pointer (some ⟨g, 0, none⟩)
  v9 : a0.tmps.getD 9 undef = .int .i64 k
  lB : rb < B
  c0 : w0.cell? ⟨b, f + k * 2, none⟩ = some (.int .i64 x)
  c1 : w0.cell? ⟨b, f + k * 2 + 1, none⟩ = some (.int .i64 t)
  nb : b ≠ rb
  kn : k < n
  mkw : Mk 43 w0 g rb rc xs
  eB : setB xs x t = r
  eN : setN xs x t = N
  eI : setI xs x t = xs'
section
variable {g rb rc b f n c k B : Nat} {x t N : Int} {r : Bool} {xs xs' : List Int} {a0 : Act} {w0 : World} (S : mm12S g rb rc b f n c k B x t N r xs xs' a0 w0)
include S
theorem mm12_gB : ∀ g ∈ ([rb] : List Nat), g < B := by
  intro g hg
  obtain rfl : g = rb := by simpa using hg
  exact S.lB
omit S in
theorem mm12F_monoS : ∀ φ ∈ mm12F g rb rc b f n c k B x t N r xs xs', MonoS [rb] φ := by
  unfold mm12F
  repeat (first | exact allS_nil _ | (refine allS_cons (isV_monoS _ _) ?_))
set_option maxRecDepth 100000 in
set_option maxHeartbeats 8000000 in
theorem mm12_ok : AllOps (fun j o => ∀ (a : Act) (w : World) (b1 b2 : Bool), (j = 11 → b1 = false ∧ b2 = false) → (j = 1000 → b1 = true ∧ b2 = false) → MI [rb] (MkI 43 g rb rc xs xs') w0 b1 b2 w → FrD (mm12D.take 16) a0 a → needs mm12D (mm12F g rb rc b f n c k B x t N r xs xs') a w o.after.toList → AskM Try.prog mm12D (factAt (mm12F g rb rc b f n c k B x t N r xs xs') j) (ButS [rb]) (ButS [rb]) (MI [rb] (MkI 43 g rb rc xs xs') w0) 11 1000 j o a w) 0 ((opsOf 12 Try.f3).take 16) := by
  simp only [opsOf, Try.f3, opsAt, Option.bind, Option.or, Option.getD, reduceCtorEq, if_true, if_false, Nat.reduceEqDiff, List.take_succ_cons, List.take_zero]
  refine ⟨?_, ?_⟩
  · intro a w b1 b2 h1 h2 hI hF hd
    refine askM_d (by decide) (by decide) ?_
    exact step_move (guard_none rfl) rfl _ rfl ((hF.other 7 rfl).trans S.v7)
  refine ⟨?_, ?_⟩
  · intro a w b1 b2 h1 h2 hI hF hd
    refine askM_d (by decide) (by decide) ?_
    exact step_move (guard_none rfl) rfl _ rfl ((hF.other 1 rfl).trans S.v1)
  refine ⟨?_, ?_⟩
  · intro a w b1 b2 h1 h2 hI hF hd
    refine askM_d (by decide) (by decide) ?_
    exact step_move (guard_none rfl) rfl _ rfl ((hF.other 9 rfl).trans S.v9)
  refine ⟨?_, ?_⟩
  · intro a w b1 b2 h1 h2 hI hF hd
    refine askM_d (by decide) (by decide) ?_
    have h75 : a.tmps.getD 75 undef = .slice (some ⟨b, f, none⟩) n c := hd.1 rfl
    have h76 : a.tmps.getD 76 undef = .int .i64 k := hd.2.1 rfl
    exact rf_index (s := 2) (guard_none rfl) rfl _ _ _ rfl Try.underlying22 (fun _ => by kernel_rfl) b f n c k _ h75 h76 rfl S.kn rfl
  refine ⟨?_, ?_⟩
  · intro a w b1 b2 h1 h2 hI hF hd
    refine askM_d (by decide) (by decide) ?_
    have h77 : a.tmps.getD 77 undef = .pointer (some ⟨b, f + k * 2, none⟩) := hd.1 rfl
    exact rf_faddr (guard_none rfl) rfl _ _ _ rfl _ _ 0 _ h77 (by omega) (fun _ _ => by kernel_rfl) rfl
  refine ⟨?_, ?_⟩
  · intro a w b1 b2 h1 h2 hI hF hd
    refine askM_d (by decide) (by decide) ?_
    have h78 : a.tmps.getD 78 undef = .pointer (some ⟨b, f + k * 2, none⟩) := hd.1 rfl
    exact rf_loadi (guard_none rfl) rfl _ rfl _ _ h78 _ (cell_but1 S.c0 hI.gr S.nb) rfl
  refine ⟨?_, ?_⟩
  · intro a w b1 b2 h1 h2 hI hF hd
    refine askM_d (by decide) (by decide) ?_
    exact step_move (guard_none rfl) rfl _ rfl ((hF.other 1 rfl).trans S.v1)
  refine ⟨?_, ?_⟩
  · intro a w b1 b2 h1 h2 hI hF hd
    refine askM_d (by decide) (by decide) ?_
    exact step_move (guard_none rfl) rfl _ rfl ((hF.other 9 rfl).trans S.v9)
  refine ⟨?_, ?_⟩
  · intro a w b1 b2 h1 h2 hI hF hd
    refine askM_d (by decide) (by decide) ?_
    have h80 : a.tmps.getD 80 undef = .slice (some ⟨b, f, none⟩) n c := hd.1 rfl
    have h81 : a.tmps.getD 81 undef = .int .i64 k := hd.2.1 rfl
    exact rf_index (s := 2) (guard_none rfl) rfl _ _ _ rfl Try.underlying22 (fun _ => by kernel_rfl) b f n c k _ h80 h81 rfl S.kn rfl
  refine ⟨?_, ?_⟩
  · intro a w b1 b2 h1 h2 hI hF hd
    refine askM_d (by decide) (by decide) ?_
    have h82 : a.tmps.getD 82 undef = .pointer (some ⟨b, f + k * 2, none⟩) := hd.1 rfl
    exact rf_faddr (guard_none rfl) rfl _ _ _ rfl _ _ 1 _ h82 (by omega) (fun _ _ => by kernel_rfl) rfl
  refine ⟨?_, ?_⟩
  · intro a w b1 b2 h1 h2 hI hF hd
    refine askM_d (by decide) (by decide) ?_
    have h83 : a.tmps.getD 83 undef = .pointer (some ⟨b, f + k * 2 + 1, none⟩) := hd.1 rfl
    exact rf_loadi (guard_none rfl) rfl _ rfl _ _ h83 _ (cell_but1 S.c1 hI.gr S.nb) rfl
  refine ⟨?_, ?_⟩
  · intro a w b1 b2 h1 h2 hI hF hd
    refine askM_1 rfl ?_
    have h74 : a.tmps.getD 74 undef = .pointer (some ⟨g, 0, none⟩) := hd.1 rfl
    have h79 : a.tmps.getD 79 undef = .int .i64 x := hd.2.1 rfl
    have h84 : a.tmps.getD 84 undef = .int .i64 t := hd.2.2.1 rfl
    obtain ⟨rfl, rfl⟩ := h1 rfl
    refine stepL_call (guard_none rfl) rfl _ _ (rf_call_run Try.func12 (by kernel_rfl) (by kernel_rfl) _ _ rfl) ?_
    simp only [List.map_toArray, List.map_cons, List.map_nil, Act.eval, h74, h79, h84]
    exact (rset_any g rb rc xs x t w hI.st.pre).mono (fun e w1 h => MkI.set hI h S.eB S.eN S.eI)
  refine ⟨?_, ?_⟩
  · intro a w b1 b2 h1 h2 hI hF hd
    refine askM_d (by decide) (by decide) ?_
    have h85 : a.tmps.getD 85 undef = .tuple #[.bool r, .int .i64 N] := hd.1 rfl
    exact step_move (guard_none rfl) rfl _ rfl h85
  refine ⟨?_, ?_⟩
  · intro a w b1 b2 h1 h2 hI hF hd
    refine askM_d (by decide) (by decide) ?_
    have h73 : a.tmps.getD 73 undef = .tuple #[.bool r, .int .i64 N] := hd.1 rfl
    exact rf_extract (guard_none rfl) rfl _ 0 rfl _ _ h73 rfl rfl
  refine ⟨?_, ?_⟩
  · intro a w b1 b2 h1 h2 hI hF hd
    refine askM_d (by decide) (by decide) ?_
    have h73 : a.tmps.getD 73 undef = .tuple #[.bool r, .int .i64 N] := hd.1 rfl
    exact rf_extract (guard_none rfl) rfl _ 1 rfl _ _ h73 rfl rfl
  refine ⟨?_, ?_⟩
  · intro a w b1 b2 h1 h2 hI hF hd
    refine askM_d (by decide) (by decide) ?_
    have h86 : a.tmps.getD 86 undef = .bool r := hd.1 rfl
    exact step_assign (guard_none rfl) rfl _ rfl h86
  trivial
set_option maxRecDepth 100000 in
theorem mm12_any {Q : Exit → Act → World → Prop} {l : List Oper} (hl : opsOf 12 Try.f3 = l) (hend : ∀ w : World, MI [rb] (MkI 43 g rb rc xs xs') w0 true false w → wpList Try.prog l.toArray Q (l.drop 16) (putAll a0 [(74, .pointer (some ⟨g, 0, none⟩)), (75, .slice (some ⟨b, f, none⟩) n c), (76, .int .i64 k), (77, .pointer (some ⟨b, f + k * 2, none⟩)), (78, .pointer (some ⟨b, f + k * 2, none⟩)), (79, .int .i64 x), (80, .slice (some ⟨b, f, none⟩) n c), (81, .int .i64 k), (82, .pointer (some ⟨b, f + k * 2, none⟩)), (83, .pointer (some ⟨b, f + k * 2 + 1, none⟩)), (84, .int .i64 t), (85, .tuple #[.bool r, .int .i64 N]), (73, .tuple #[.bool r, .int .i64 N]), (86, .bool r), (87, .int .i64 N), (13, .bool r)]) w) :
    (Code.region 12 l.toArray true).wp Try.prog Q a0 w0 := by
  subst hl
  refine region_two [rb] (MkI 43 g rb rc xs xs') 11 1000 (mm12F _ _ _ _ _ _ _ _ _ _ _ _ _ _ _) mm12D 16 132 S.size rfl (by kernel_rfl) (by kernel_rfl) (by kernel_rfl) (by omega) (by omega) (by kernel_rfl) (fun _ _ _ _ h hb => MkI.below h hb) (S.mkw) (mm12F_mono _ _ _ _ _ _ _ _ _ _ _ _ _ _ _) (mm12F_monoS) (mm12_ok S) fun a w hI hF h => ?_
  have hv : valsAre a [(74, .pointer (some ⟨g, 0, none⟩)), (75, .slice (some ⟨b, f, none⟩) n c), (76, .int .i64 k), (77, .pointer (some ⟨b, f + k * 2, none⟩)), (78, .pointer (some ⟨b, f + k * 2, none⟩)), (79, .int .i64 x), (80, .slice (some ⟨b, f, none⟩) n c), (81, .int .i64 k), (82, .pointer (some ⟨b, f + k * 2, none⟩)), (83, .pointer (some ⟨b, f + k * 2 + 1, none⟩)), (84, .int .i64 t), (85, .tuple #[.bool r, .int .i64 N]), (73, .tuple #[.bool r, .int .i64 N]), (86, .bool r), (87, .int .i64 N), (13, .bool r)] := by
    refine ⟨?_, ?_, ?_, ?_, ?_, ?_, ?_, ?_, ?_, ?_, ?_, ?_, ?_, ?_, ?_, ?_, trivial⟩
    · exact h 0 (some 74) (by omega) rfl
    · exact h 1 (some 75) (by omega) rfl
    · exact h 2 (some 76) (by omega) rfl
    · exact h 3 (some 77) (by omega) rfl
    · exact h 4 (some 78) (by omega) rfl
    · exact h 5 (some 79) (by omega) rfl
    · exact h 6 (some 80) (by omega) rfl
    · exact h 7 (some 81) (by omega) rfl
    · exact h 8 (some 82) (by omega) rfl
    · exact h 9 (some 83) (by omega) rfl
    · exact h 10 (some 84) (by omega) rfl
    · exact h 11 (some 85) (by omega) rfl
    · exact h 12 (some 73) (by omega) rfl
    · exact h 13 (some 86) (by omega) rfl
    · exact h 14 (some 87) (by omega) rfl
    · exact h 15 (some 13) (by omega) rfl
  rw [frame_is hF _ hv (by rfl) (by rfl)]
  exact hend w hI
end

end Go.Proofs.Ytgibmcljlaoahaa
