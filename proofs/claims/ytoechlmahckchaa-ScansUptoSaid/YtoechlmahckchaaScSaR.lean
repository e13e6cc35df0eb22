/-
  Scans' drawn regions (written by gen/scscans.py).
-/
import Derived.Test.YtoechlmahckchaaRf
import Derived.Test.YtoechlmahckchaaScRf3
namespace Go.Proofs.Ytoechlmahckchaa
open Go.RowKit

def sc12D : List (Option Tmp) := [some 56, some 57, some 58, some 59, some 60, some 61, some 62, some 63, some 64, some 65, some 66, some 67, some 16, some 17]
def sc12F (J : ByteArray) (os : List Po) (_q1 _q2 : List UInt8) (_n1 _n2 B x r bp po n c i : Nat) : List Fact := [isV (.pointer (some ⟨x, 0, none⟩)), isV (.slice (some ⟨bp, po, none⟩) n c), isV (.int .i64 i), isV (.pointer (some ⟨bp, po + i * 1, none⟩)), isV (.string J), rowF B os.length os, isV (.pointer (some ⟨r, 0, none⟩)), isV (.slice (some ⟨bp, po, none⟩) n c), isV (.int .i64 i), isV (.pointer (some ⟨bp, po + i * 1, none⟩)), isV (.string J), rowF B os.length os]
theorem sc12F_mono (J : ByteArray) (os : List Po) (q1 q2 : List UInt8) (n1 n2 B x r bp po n c i : Nat) : ∀ φ ∈ sc12F J os q1 q2 n1 n2 B x r bp po n c i, Mono φ := by
  unfold sc12F
  repeat (first | exact monos_nil | (refine monos_cons (mono_isV _) ?_) | (refine monos_cons (rowF_mono _ _ _) ?_))
structure sc12S (J : ByteArray) (os : List Po) (q1 q2 : List UInt8) (n1 n2 B x r bp po n c i : Nat) (a0 : Act) (w0 : World) : Prop where
  size : a0.tmps.size = 152
  v0 : a0.tmps.getD 0 undef = .slice (some ⟨bp, po, none⟩) n c
  v9 : a0.tmps.getD 9 undef = .pointer (some ⟨x, 0, none⟩)
  v10 : a0.tmps.getD 10 undef = .pointer (some ⟨r, 0, none⟩)
  v15 : a0.tmps.getD 15 undef = .int .i64 i
  eB : w0.heap.size = B
  xB : x < B
  rB : r < B
  ne : x ≠ r
  nb : ¬bp = x ∧ ¬bp = r
  cl : w0.cell? ⟨bp, po + i, none⟩ = some (.string J)
  hi : i < n
  sx : Has w0 x 58 (scC q1 n1)
  sy : Has w0 r 27 (scC q1 n1)
  wx : ∀ w : World, Has w x 58 (scC q1 n1) → Calls Try.prog 13 #[.pointer (some ⟨x, 0, none⟩), .string J] w fun e w' => WroteO x 58 os q2 n2 e w w'
  wy : ∀ w : World, Has w r 27 (scC q1 n1) → Calls Try.prog 14 #[.pointer (some ⟨r, 0, none⟩), .string J] w fun e w' => WroteO r 27 os q2 n2 e w w'
section
variable {J : ByteArray} {os : List Po} {q1 q2 : List UInt8} {n1 n2 B x r bp po n c i : Nat} {a0 : Act} {w0 : World} (S : sc12S J os q1 q2 n1 n2 B x r bp po n c i a0 w0)
include S
theorem sc12_gB : ∀ g ∈ ([x, r] : List Nat), g < B := by
  intro g hg
  simp only [List.mem_cons, List.not_mem_nil, or_false] at hg
  rcases hg with rfl | rfl
  · exact S.xB
  · exact S.rB
theorem sc12F_monoS : ∀ φ ∈ sc12F J os q1 q2 n1 n2 B x r bp po n c i, MonoS [x, r] φ := by
  unfold sc12F
  repeat (first | exact allS_nil _ | (refine allS_cons (isV_monoS _ _) ?_) | (refine allS_cons (rowF_monoS (sc12_gB S) _ _) ?_))
set_option maxRecDepth 100000 in
set_option maxHeartbeats 8000000 in
theorem sc12_ok : AllOps (fun j o => ∀ (a : Act) (w : World) (b1 b2 : Bool), (j = 5 → b1 = false ∧ b2 = false) → (j = 11 → b1 = true ∧ b2 = false) → (j ∈ ([] : List Nat) → b1 = true ∧ (11 < 12 → b2 = true)) → MI [x, r] (fun p p' w => Has w x 58 (if p then scC q2 n2 else scC q1 n1) ∧ Has w r 27 (if p' then scC q2 n2 else scC q1 n1)) w0 b1 b2 w → FrD (sc12D.take 12) a0 a → needs sc12D (sc12F J os q1 q2 n1 n2 B x r bp po n c i) a w o.after.toList → AskM Try.prog sc12D (factAt (sc12F J os q1 q2 n1 n2 B x r bp po n c i) j) (ButS [x, r]) (ButS [x, r]) (MI [x, r] (fun p p' w => Has w x 58 (if p then scC q2 n2 else scC q1 n1) ∧ Has w r 27 (if p' then scC q2 n2 else scC q1 n1)) w0) 5 11 j o a w) 0 ((opsOf 12 Try.f3).take 12) := by
  simp only [opsOf, Try.f3, opsAt, Option.bind, Option.or, Option.getD, reduceCtorEq, if_true, if_false, Nat.reduceEqDiff, List.take_succ_cons, List.take_zero]
  refine ⟨?_, ?_⟩
  · intro a w b1 b2 h1 h2 hl hI hF hd
    refine askM_d (by decide) (by decide) ?_
    exact step_move (guard_none rfl) rfl _ rfl ((hF.other 9 rfl).trans S.v9)
  refine ⟨?_, ?_⟩
  · intro a w b1 b2 h1 h2 hl hI hF hd
    refine askM_d (by decide) (by decide) ?_
    exact step_move (guard_none rfl) rfl _ rfl ((hF.other 0 rfl).trans S.v0)
  refine ⟨?_, ?_⟩
  · intro a w b1 b2 h1 h2 hl hI hF hd
    refine askM_d (by decide) (by decide) ?_
    exact step_move (guard_none rfl) rfl _ rfl ((hF.other 15 rfl).trans S.v15)
  refine ⟨?_, ?_⟩
  · intro a w b1 b2 h1 h2 hl hI hF hd
    refine askM_d (by decide) (by decide) ?_
    have h57 : a.tmps.getD 57 undef = .slice (some ⟨bp, po, none⟩) n c := hd.1 rfl
    have h58 : a.tmps.getD 58 undef = .int .i64 i := hd.2.1 rfl
    exact rf_index (guard_none rfl) rfl _ _ _ rfl Try.underlying22 1 (fun _ => by kernel_rfl) _ _ _ _ i _ h57 h58 rfl S.hi rfl
  refine ⟨?_, ?_⟩
  · intro a w b1 b2 h1 h2 hl hI hF hd
    refine askM_d (by decide) (by decide) ?_
    have h59 : a.tmps.getD 59 undef = .pointer (some ⟨bp, po + i * 1, none⟩) := hd.1 rfl
    exact rf_loadT (guard_none rfl) rfl _ rfl _ _ h59 J (by rw [Nat.mul_one]; exact hI.gr.cell S.cl (by simpa using S.nb)) rfl
  refine ⟨?_, ?_⟩
  · intro a w b1 b2 h1 h2 hl hI hF hd
    refine askM_1 rfl ?_
    have h56 : a.tmps.getD 56 undef = .pointer (some ⟨x, 0, none⟩) := hd.1 rfl
    have h60 : a.tmps.getD 60 undef = .string J := hd.2.1 rfl
    obtain ⟨rfl, rfl⟩ := h1 rfl
    refine stepL_wrote (g := x) (R := 58) (os := os) (r := q2) (b := n2) (guard_none rfl) rfl _ _ (rf_call_run Try.func13 (by kernel_rfl) (by kernel_rfl) _ _ rfl) hI (by simp) ?_ ?_ ?_
    · simp only [List.map_toArray, List.map_cons, List.map_nil, Act.eval, h56, h60]
      exact S.wx w hI.st.1
    · intro w1 hs hg; exact ⟨hs, hI.st.2.grow hg (fun e => S.ne (by injection e))⟩
    · intro A c w1 ho; exact ⟨A, c, rfl, S.eB ▸ ho⟩
  refine ⟨?_, ?_⟩
  · intro a w b1 b2 h1 h2 hl hI hF hd
    refine askM_d (by decide) (by decide) ?_
    exact step_move (guard_none rfl) rfl _ rfl ((hF.other 10 rfl).trans S.v10)
  refine ⟨?_, ?_⟩
  · intro a w b1 b2 h1 h2 hl hI hF hd
    refine askM_d (by decide) (by decide) ?_
    exact step_move (guard_none rfl) rfl _ rfl ((hF.other 0 rfl).trans S.v0)
  refine ⟨?_, ?_⟩
  · intro a w b1 b2 h1 h2 hl hI hF hd
    refine askM_d (by decide) (by decide) ?_
    exact step_move (guard_none rfl) rfl _ rfl ((hF.other 15 rfl).trans S.v15)
  refine ⟨?_, ?_⟩
  · intro a w b1 b2 h1 h2 hl hI hF hd
    refine askM_d (by decide) (by decide) ?_
    have h63 : a.tmps.getD 63 undef = .slice (some ⟨bp, po, none⟩) n c := hd.1 rfl
    have h64 : a.tmps.getD 64 undef = .int .i64 i := hd.2.1 rfl
    exact rf_index (guard_none rfl) rfl _ _ _ rfl Try.underlying22 1 (fun _ => by kernel_rfl) _ _ _ _ i _ h63 h64 rfl S.hi rfl
  refine ⟨?_, ?_⟩
  · intro a w b1 b2 h1 h2 hl hI hF hd
    refine askM_d (by decide) (by decide) ?_
    have h65 : a.tmps.getD 65 undef = .pointer (some ⟨bp, po + i * 1, none⟩) := hd.1 rfl
    exact rf_loadT (guard_none rfl) rfl _ rfl _ _ h65 J (by rw [Nat.mul_one]; exact hI.gr.cell S.cl (by simpa using S.nb)) rfl
  refine ⟨?_, ?_⟩
  · intro a w b1 b2 h1 h2 hl hI hF hd
    refine askM_2 (by decide) rfl ?_
    have h62 : a.tmps.getD 62 undef = .pointer (some ⟨r, 0, none⟩) := hd.1 rfl
    have h66 : a.tmps.getD 66 undef = .string J := hd.2.1 rfl
    obtain ⟨rfl, rfl⟩ := h2 rfl
    refine stepL_wrote (g := r) (R := 27) (os := os) (r := q2) (b := n2) (guard_none rfl) rfl _ _ (rf_call_run Try.func14 (by kernel_rfl) (by kernel_rfl) _ _ rfl) hI (by simp) ?_ ?_ ?_
    · simp only [List.map_toArray, List.map_cons, List.map_nil, Act.eval, h62, h66]
      exact S.wy w hI.st.2
    · intro w1 hs hg; exact ⟨hI.st.1.grow hg (fun e => S.ne (by injection e with e; exact e.symm)), hs⟩
    · intro A c w1 ho; exact ⟨A, c, rfl, S.eB ▸ ho⟩
  trivial
set_option maxRecDepth 100000 in
theorem sc12_any {Q : Exit → Act → World → Prop} {l : List Oper} (hl : opsOf 12 Try.f3 = l) (hend : ∀ (A61 : Option Addr) (c61 : Nat), ∀ (A67 : Option Addr) (c67 : Nat), ∀ w : World, MI [x, r] (fun p p' w => Has w x 58 (if p then scC q2 n2 else scC q1 n1) ∧ Has w r 27 (if p' then scC q2 n2 else scC q1 n1)) w0 true true w → OwnO w B (.slice A61 os.length c61) os → OwnO w B (.slice A67 os.length c67) os → wpList Try.prog l.toArray Q (l.drop 12) (putAll a0 [(56, .pointer (some ⟨x, 0, none⟩)), (57, .slice (some ⟨bp, po, none⟩) n c), (58, .int .i64 i), (59, .pointer (some ⟨bp, po + i * 1, none⟩)), (60, .string J), (61, .slice A61 os.length c61), (62, .pointer (some ⟨r, 0, none⟩)), (63, .slice (some ⟨bp, po, none⟩) n c), (64, .int .i64 i), (65, .pointer (some ⟨bp, po + i * 1, none⟩)), (66, .string J), (67, .slice A67 os.length c67)]) w) :
    (Code.region 12 l.toArray true).wp Try.prog Q a0 w0 := by
  subst hl
  refine region_twoL [x, r] (fun p p' w => Has w x 58 (if p then scC q2 n2 else scC q1 n1) ∧ Has w r 27 (if p' then scC q2 n2 else scC q1 n1)) 5 11 (sc12F _ _ _ _ _ _ _ _ _ _ _ _ _ _) sc12D 12 152 S.size rfl (by kernel_rfl) (by kernel_rfl) (by kernel_rfl) [] (by kernel_rfl) (by omega) (by omega) (by kernel_rfl) (fun _ _ w w' h hb => ⟨h.1.below hb h.1.lt, h.2.below hb h.2.lt⟩) (⟨S.sx, S.sy⟩) (sc12F_mono _ _ _ _ _ _ _ _ _ _ _ _ _ _) (sc12F_monoS S) (sc12_ok S) fun a w hI hF h => ?_
  obtain ⟨A61, c61, h61, p61⟩ : rowF B os.length os (a.tmps.getD 61 undef) w := h 5 (some 61) (by omega) rfl
  obtain ⟨A67, c67, h67, p67⟩ : rowF B os.length os (a.tmps.getD 67 undef) w := h 11 (some 67) (by omega) rfl
  have hv : valsAre a [(56, .pointer (some ⟨x, 0, none⟩)), (57, .slice (some ⟨bp, po, none⟩) n c), (58, .int .i64 i), (59, .pointer (some ⟨bp, po + i * 1, none⟩)), (60, .string J), (61, .slice A61 os.length c61), (62, .pointer (some ⟨r, 0, none⟩)), (63, .slice (some ⟨bp, po, none⟩) n c), (64, .int .i64 i), (65, .pointer (some ⟨bp, po + i * 1, none⟩)), (66, .string J), (67, .slice A67 os.length c67)] := by
    refine ⟨?_, ?_, ?_, ?_, ?_, ?_, ?_, ?_, ?_, ?_, ?_, ?_, trivial⟩
    · exact h 0 (some 56) (by omega) rfl
    · exact h 1 (some 57) (by omega) rfl
    · exact h 2 (some 58) (by omega) rfl
    · exact h 3 (some 59) (by omega) rfl
    · exact h 4 (some 60) (by omega) rfl
    · exact h61
    · exact h 6 (some 62) (by omega) rfl
    · exact h 7 (some 63) (by omega) rfl
    · exact h 8 (some 64) (by omega) rfl
    · exact h 9 (some 65) (by omega) rfl
    · exact h 10 (some 66) (by omega) rfl
    · exact h67
  rw [frame_is hF _ hv (by rfl) (by rfl)]
  exact hend A61 c61 A67 c67 w hI p61 p67
end

def sc13D : List (Option Tmp) := [some 68, some 69, some 70, some 71, some 72, some 73, some 74, some 75, some 76, some 77, some 78, some 79, some 80, some 81, some 82, some 83, some 84, some 85, some 86, some 87, some 88, some 89]
def sc13F (_os : List Po) (q2 : List UInt8) (A1 A2 : Option Addr) (n2 c1 c2 x r n : Nat) : List Fact := [isV (.slice A1 n c1), isV (.slice A2 n c2), isV (.bool true), isV (.bool false), isV (.bool false), isV (.pointer (some ⟨x, 0, none⟩)), isV (.string (txt q2)), isV (.pointer (some ⟨r, 0, none⟩)), isV (.pointer (some ⟨r, 0, none⟩)), isV (.pointer (some ⟨r, 0, none⟩)), isV (.string (txt q2)), isV (.bool false), isV (.bool false), isV (.bool false), isV (.pointer (some ⟨x, 0, none⟩)), isV (.int .i64 n2), isV (.pointer (some ⟨r, 0, none⟩)), isV (.pointer (some ⟨r, 0, none⟩)), isV (.pointer (some ⟨r, 1, none⟩)), isV (.int .i64 n2), isV (.bool false), isV (.bool false)]
theorem sc13F_mono (os : List Po) (q2 : List UInt8) (A1 A2 : Option Addr) (n2 c1 c2 x r n : Nat) : ∀ φ ∈ sc13F os q2 A1 A2 n2 c1 c2 x r n, Mono φ := by
  unfold sc13F
  repeat (first | exact monos_nil | (refine monos_cons (mono_isV _) ?_))
structure sc13S (os : List Po) (q2 : List UInt8) (A1 A2 : Option Addr) (n2 c1 c2 x r n : Nat) (a0 : Act) (w0 : World) : Prop where
  size : a0.tmps.size = 152
  v9 : a0.tmps.getD 9 undef = .pointer (some ⟨x, 0, none⟩)
  v10 : a0.tmps.getD 10 undef = .pointer (some ⟨r, 0, none⟩)
  v16 : a0.tmps.getD 16 undef = .slice A1 n c1
  v17 : a0.tmps.getD 17 undef = .slice A2 n c2
  oa : Ops w0 A1 n os
  ob : Ops w0 A2 n os
  bo : n ≤ 17592186044416
  rl : q2.length ≤ 1000000000000
  sx : Has w0 x 58 (scC q2 n2)
  sy : Has w0 r 27 (scC q2 n2)
section
variable {os : List Po} {q2 : List UInt8} {A1 A2 : Option Addr} {n2 c1 c2 x r n : Nat} {a0 : Act} {w0 : World} (S : sc13S os q2 A1 A2 n2 c1 c2 x r n a0 w0)
include S
set_option maxRecDepth 100000 in
set_option maxHeartbeats 8000000 in
theorem sc13_ok : AllOps (fun j o => ∀ (a : Act) (w : World), Below w0.heap.size w0 w → FrD sc13D a0 a → needs sc13D (sc13F os q2 A1 A2 n2 c1 c2 x r n) a w o.after.toList → StepD Try.prog sc13D (factAt (sc13F os q2 A1 A2 n2 c1 c2 x r n) j) o a w) 0 (opsOf 13 Try.f3) := by
  simp only [opsOf, Try.f3, opsAt, Option.bind, Option.or, Option.getD, reduceCtorEq, if_true, if_false, Nat.reduceEqDiff]
  refine ⟨?_, ?_⟩
  · intro _a _w _hB hF _hd
    exact step_move (guard_none rfl) rfl _ rfl ((hF.other 16 rfl).trans S.v16)
  refine ⟨?_, ?_⟩
  · intro _a _w _hB hF _hd
    exact step_move (guard_none rfl) rfl _ rfl ((hF.other 17 rfl).trans S.v17)
  refine ⟨?_, ?_⟩
  · intro a _w hB _hF hd
    have h68 : a.tmps.getD 68 undef = .slice A1 n c1 := hd.1 rfl
    have h69 : a.tmps.getD 69 undef = .slice A2 n c2 := hd.2.1 rfl
    refine step_call (guard_none rfl) rfl _ _ (rf_call_run Try.func15 (by kernel_rfl) (by kernel_rfl) _ _ rfl) ?_
    simp only [List.map_toArray, List.map_cons, List.map_nil, Act.eval, h68, h69]
    exact (sameops_any _ _ n _ _ os _ (S.oa.below hB) (S.ob.below hB) S.bo).mono (by rintro e w1 ⟨rfl, hb⟩; exact ⟨_, rfl, hb, rfl⟩)
  refine ⟨?_, ?_⟩
  · intro a _w _hB _hF hd
    have h70 : a.tmps.getD 70 undef = .bool true := hd.1 rfl
    exact step_not (guard_none rfl) rfl _ _ rfl h70 rfl
  refine ⟨?_, ?_⟩
  · intro a _w _hB _hF hd
    have h71 : a.tmps.getD 71 undef = .bool false := hd.1 rfl
    exact step_move (guard_none rfl) rfl _ rfl h71
  refine ⟨?_, ?_⟩
  · intro a _w _hB hF hd
    have h72 : a.tmps.getD 72 undef = .bool false := hd.1 rfl
    exact step_move (rf_open false rfl rfl h72) rfl _ rfl ((hF.other 9 rfl).trans S.v9)
  refine ⟨?_, ?_⟩
  · intro a _w hB _hF hd
    have h72 : a.tmps.getD 72 undef = .bool false := hd.2.1 rfl
    have h73 : a.tmps.getD 73 undef = .pointer (some ⟨x, 0, none⟩) := hd.1 rfl
    refine step_call (rf_open false rfl rfl h72) rfl _ _ (rf_call_run Try.func16 (by kernel_rfl) (by kernel_rfl) _ _ rfl) ?_
    simp only [List.map_toArray, List.map_cons, List.map_nil, Act.eval, h73]
    exact (waits_any x q2 n2 _ (S.sx.below hB S.sx.lt) S.rl).mono (by rintro e w1 ⟨rfl, hb⟩; exact ⟨_, rfl, hb, rfl⟩)
  refine ⟨?_, ?_⟩
  · intro a _w _hB hF hd
    have h72 : a.tmps.getD 72 undef = .bool false := hd.1 rfl
    exact step_move (rf_open false rfl rfl h72) rfl _ rfl ((hF.other 10 rfl).trans S.v10)
  refine ⟨?_, ?_⟩
  · intro a _w _hB _hF hd
    have h72 : a.tmps.getD 72 undef = .bool false := hd.2.1 rfl
    have h75 : a.tmps.getD 75 undef = .pointer (some ⟨r, 0, none⟩) := hd.1 rfl
    exact rf_nilC (rf_open false rfl rfl h72) rfl _ rfl _ h75 rfl
  refine ⟨?_, ?_⟩
  · intro a _w _hB _hF hd
    have h72 : a.tmps.getD 72 undef = .bool false := hd.2.1 rfl
    have h76 : a.tmps.getD 76 undef = .pointer (some ⟨r, 0, none⟩) := hd.1 rfl
    exact rf_faddr (rf_open false rfl rfl h72) rfl _ _ _ rfl _ _ 0 _ h76 (by omega) (fun _ _ => by kernel_rfl) rfl
  refine ⟨?_, ?_⟩
  · intro a _w hB _hF hd
    have h72 : a.tmps.getD 72 undef = .bool false := hd.2.1 rfl
    have h77 : a.tmps.getD 77 undef = .pointer (some ⟨r, 0, none⟩) := hd.1 rfl
    exact rf_loadT (rf_open false rfl rfl h72) rfl _ rfl _ _ h77 _ ((S.sy.below hB S.sy.lt).cell 0) rfl
  refine ⟨?_, ?_⟩
  · intro a _w _hB _hF hd
    have h72 : a.tmps.getD 72 undef = .bool false := hd.2.2.1 rfl
    have h74 : a.tmps.getD 74 undef = .string (txt q2) := hd.1 rfl
    have h78 : a.tmps.getD 78 undef = .string (txt q2) := hd.2.1 rfl
    exact rf_neS (rf_open false rfl rfl h72) rfl _ _ rfl _ h74 h78 rfl
  refine ⟨?_, ?_⟩
  · intro a _w _hB _hF hd
    have h72 : a.tmps.getD 72 undef = .bool false := hd.1 rfl
    have h79 : a.tmps.getD 79 undef = .bool false := hd.2.1 rfl
    exact rf_pick (guard_none rfl) rfl _ _ _ rfl false h72 h79
  refine ⟨?_, ?_⟩
  · intro a _w _hB _hF hd
    have h80 : a.tmps.getD 80 undef = .bool false := hd.1 rfl
    exact step_move (guard_none rfl) rfl _ rfl h80
  refine ⟨?_, ?_⟩
  · intro a _w _hB hF hd
    have h81 : a.tmps.getD 81 undef = .bool false := hd.1 rfl
    exact step_move (rf_open false rfl rfl h81) rfl _ rfl ((hF.other 9 rfl).trans S.v9)
  refine ⟨?_, ?_⟩
  · intro a _w hB _hF hd
    have h81 : a.tmps.getD 81 undef = .bool false := hd.2.1 rfl
    have h82 : a.tmps.getD 82 undef = .pointer (some ⟨x, 0, none⟩) := hd.1 rfl
    refine step_call (rf_open false rfl rfl h81) rfl _ _ (rf_call_run Try.func17 (by kernel_rfl) (by kernel_rfl) _ _ rfl) ?_
    simp only [List.map_toArray, List.map_cons, List.map_nil, Act.eval, h82]
    exact (badn_any x q2 n2 _ (S.sx.below hB S.sx.lt)).mono (by rintro e w1 ⟨rfl, rfl⟩; exact ⟨_, rfl, Below.refl _ _, rfl⟩)
  refine ⟨?_, ?_⟩
  · intro a _w _hB hF hd
    have h81 : a.tmps.getD 81 undef = .bool false := hd.1 rfl
    exact step_move (rf_open false rfl rfl h81) rfl _ rfl ((hF.other 10 rfl).trans S.v10)
  refine ⟨?_, ?_⟩
  · intro a _w _hB _hF hd
    have h81 : a.tmps.getD 81 undef = .bool false := hd.2.1 rfl
    have h84 : a.tmps.getD 84 undef = .pointer (some ⟨r, 0, none⟩) := hd.1 rfl
    exact rf_nilC (rf_open false rfl rfl h81) rfl _ rfl _ h84 rfl
  refine ⟨?_, ?_⟩
  · intro a _w _hB _hF hd
    have h81 : a.tmps.getD 81 undef = .bool false := hd.2.1 rfl
    have h85 : a.tmps.getD 85 undef = .pointer (some ⟨r, 0, none⟩) := hd.1 rfl
    exact rf_faddr (rf_open false rfl rfl h81) rfl _ _ _ rfl _ _ 1 _ h85 (by omega) (fun _ _ => by kernel_rfl) rfl
  refine ⟨?_, ?_⟩
  · intro a _w hB _hF hd
    have h81 : a.tmps.getD 81 undef = .bool false := hd.2.1 rfl
    have h86 : a.tmps.getD 86 undef = .pointer (some ⟨r, 1, none⟩) := hd.1 rfl
    exact rf_loadi (rf_open false rfl rfl h81) rfl _ rfl _ _ h86 _ ((S.sy.below hB S.sy.lt).cell 1) rfl
  refine ⟨?_, ?_⟩
  · intro a _w _hB _hF hd
    have h81 : a.tmps.getD 81 undef = .bool false := hd.2.2.1 rfl
    have h83 : a.tmps.getD 83 undef = .int .i64 n2 := hd.1 rfl
    have h87 : a.tmps.getD 87 undef = .int .i64 n2 := hd.2.1 rfl
    exact rf_neq (rf_open false rfl rfl h81) rfl _ _ rfl _ _ h83 h87 false (by simp) rfl
  refine ⟨?_, ?_⟩
  · intro a _w _hB _hF hd
    have h81 : a.tmps.getD 81 undef = .bool false := hd.1 rfl
    have h88 : a.tmps.getD 88 undef = .bool false := hd.2.1 rfl
    exact rf_pick (guard_none rfl) rfl _ _ _ rfl false h81 h88
  trivial
theorem sc13_any {Q : Exit → Act → World → Prop} {l : List Oper} (hl : opsOf 13 Try.f3 = l) (hend : ∀ w : World, Below w0.heap.size w0 w → Q .normal (putAll a0 [(68, .slice A1 n c1), (69, .slice A2 n c2), (70, .bool true), (71, .bool false), (72, .bool false), (73, .pointer (some ⟨x, 0, none⟩)), (74, .string (txt q2)), (75, .pointer (some ⟨r, 0, none⟩)), (76, .pointer (some ⟨r, 0, none⟩)), (77, .pointer (some ⟨r, 0, none⟩)), (78, .string (txt q2)), (79, .bool false), (80, .bool false), (81, .bool false), (82, .pointer (some ⟨x, 0, none⟩)), (83, .int .i64 n2), (84, .pointer (some ⟨r, 0, none⟩)), (85, .pointer (some ⟨r, 0, none⟩)), (86, .pointer (some ⟨r, 1, none⟩)), (87, .int .i64 n2), (88, .bool false), (89, .bool false)]) w) :
    (Code.region 13 l.toArray true).wp Try.prog Q a0 w0 := by
  subst hl
  refine region_facts2 (sc13F os q2 A1 A2 n2 c1 c2 x r n) sc13D 152 S.size rfl (by kernel_rfl) (by kernel_rfl) (sc13F_mono _ _ _ _ _ _ _ _ _ _) (sc13_ok S) fun a w hB hF h => ?_
  have hv : valsAre a [(68, .slice A1 n c1), (69, .slice A2 n c2), (70, .bool true), (71, .bool false), (72, .bool false), (73, .pointer (some ⟨x, 0, none⟩)), (74, .string (txt q2)), (75, .pointer (some ⟨r, 0, none⟩)), (76, .pointer (some ⟨r, 0, none⟩)), (77, .pointer (some ⟨r, 0, none⟩)), (78, .string (txt q2)), (79, .bool false), (80, .bool false), (81, .bool false), (82, .pointer (some ⟨x, 0, none⟩)), (83, .int .i64 n2), (84, .pointer (some ⟨r, 0, none⟩)), (85, .pointer (some ⟨r, 0, none⟩)), (86, .pointer (some ⟨r, 1, none⟩)), (87, .int .i64 n2), (88, .bool false), (89, .bool false)] := by
    refine ⟨?_, ?_, ?_, ?_, ?_, ?_, ?_, ?_, ?_, ?_, ?_, ?_, ?_, ?_, ?_, ?_, ?_, ?_, ?_, ?_, ?_, ?_, trivial⟩
    · exact h 0 (some 68) rfl
    · exact h 1 (some 69) rfl
    · exact h 2 (some 70) rfl
    · exact h 3 (some 71) rfl
    · exact h 4 (some 72) rfl
    · exact h 5 (some 73) rfl
    · exact h 6 (some 74) rfl
    · exact h 7 (some 75) rfl
    · exact h 8 (some 76) rfl
    · exact h 9 (some 77) rfl
    · exact h 10 (some 78) rfl
    · exact h 11 (some 79) rfl
    · exact h 12 (some 80) rfl
    · exact h 13 (some 81) rfl
    · exact h 14 (some 82) rfl
    · exact h 15 (some 83) rfl
    · exact h 16 (some 84) rfl
    · exact h 17 (some 85) rfl
    · exact h 18 (some 86) rfl
    · exact h 19 (some 87) rfl
    · exact h 20 (some 88) rfl
    · exact h 21 (some 89) rfl
  rw [frame_is hF _ hv (by rfl) (by rfl)]
  exact hend w hB
end

def sc16D : List (Option Tmp) := [some 92, some 93, some 94, some 95, some 96, some 97, some 98, some 99, some 100, some 101, some 102, some 103, some 104, some 105, some 106, some 107, some 108, some 109, some 110, some 111, some 112, some 113, some 114, some 115, some 116, some 117, some 118, some 119, some 120, some 121, some 122, some 123, some 124, some 125, some 126, some 127]
def sc16F (J : ByteArray) (os : List Po) (_q1 q2 : List UInt8) (_n1 n2 B x r bp po n c i : Nat) : List Fact := [isV (.int .i64 0), isV (.bool true), isV (.bool true), isV (.pointer (some ⟨x, 0, none⟩)), isV (.slice (some ⟨bp, po, none⟩) n c), isV (.int .i64 i), isV (.pointer (some ⟨bp, po + i * 1, none⟩)), isV (.string J), rowF B os.length os, isV (.pointer (some ⟨r, 0, none⟩)), isV (.slice (some ⟨bp, po, none⟩) n c), isV (.int .i64 i), isV (.pointer (some ⟨bp, po + i * 1, none⟩)), isV (.string J), rowF B os.length os, isV (.bool true), isV (.bool false), isV (.bool false), isV (.pointer (some ⟨x, 0, none⟩)), isV (.string (txt q2)), isV (.pointer (some ⟨r, 0, none⟩)), isV (.pointer (some ⟨r, 0, none⟩)), isV (.pointer (some ⟨r, 0, none⟩)), isV (.string (txt q2)), isV (.bool false), isV (.bool false), isV (.bool false), isV (.pointer (some ⟨x, 0, none⟩)), isV (.int .i64 n2), isV (.pointer (some ⟨r, 0, none⟩)), isV (.pointer (some ⟨r, 0, none⟩)), isV (.pointer (some ⟨r, 1, none⟩)), isV (.int .i64 n2), isV (.bool false), isV (.bool false)]
theorem sc16F_mono (J : ByteArray) (os : List Po) (q1 q2 : List UInt8) (n1 n2 B x r bp po n c i : Nat) : ∀ φ ∈ sc16F J os q1 q2 n1 n2 B x r bp po n c i, Mono φ := by
  unfold sc16F
  repeat (first | exact monos_nil | (refine monos_cons (mono_isV _) ?_) | (refine monos_cons (rowF_mono _ _ _) ?_))
structure sc16S (J : ByteArray) (os : List Po) (q1 q2 : List UInt8) (n1 n2 B x r bp po n c i : Nat) (a0 : Act) (w0 : World) : Prop where
  size : a0.tmps.size = 152
  v0 : a0.tmps.getD 0 undef = .slice (some ⟨bp, po, none⟩) n c
  v11 : a0.tmps.getD 11 undef = .pointer (some ⟨x, 0, none⟩)
  v13 : a0.tmps.getD 13 undef = .pointer (some ⟨r, 0, none⟩)
  v14 : a0.tmps.getD 14 undef = .int .i64 0
  v15 : a0.tmps.getD 15 undef = .int .i64 i
  eB : w0.heap.size = B
  xB : x < B
  rB : r < B
  ne : x ≠ r
  nb : ¬bp = x ∧ ¬bp = r
  cl : w0.cell? ⟨bp, po + i, none⟩ = some (.string J)
  hi : i < n
  sx : Has w0 x 58 (scC q1 n1)
  sy : Has w0 r 27 (scC q1 n1)
  wx : ∀ w : World, Has w x 58 (scC q1 n1) → Calls Try.prog 13 #[.pointer (some ⟨x, 0, none⟩), .string J] w fun e w' => WroteO x 58 os q2 n2 e w w'
  wy : ∀ w : World, Has w r 27 (scC q1 n1) → Calls Try.prog 14 #[.pointer (some ⟨r, 0, none⟩), .string J] w fun e w' => WroteO r 27 os q2 n2 e w w'
  bo : os.length ≤ 17592186044416
  rl : q2.length ≤ 1000000000000
section
variable {J : ByteArray} {os : List Po} {q1 q2 : List UInt8} {n1 n2 B x r bp po n c i : Nat} {a0 : Act} {w0 : World} (S : sc16S J os q1 q2 n1 n2 B x r bp po n c i a0 w0)
include S
theorem sc16_gB : ∀ g ∈ ([x, r] : List Nat), g < B := by
  intro g hg
  simp only [List.mem_cons, List.not_mem_nil, or_false] at hg
  rcases hg with rfl | rfl
  · exact S.xB
  · exact S.rB
theorem sc16F_monoS : ∀ φ ∈ sc16F J os q1 q2 n1 n2 B x r bp po n c i, MonoS [x, r] φ := by
  unfold sc16F
  repeat (first | exact allS_nil _ | (refine allS_cons (isV_monoS _ _) ?_) | (refine allS_cons (rowF_monoS (sc16_gB S) _ _) ?_))
set_option maxRecDepth 100000 in
set_option maxHeartbeats 8000000 in
theorem sc16_ok : AllOps (fun j o => ∀ (a : Act) (w : World) (b1 b2 : Bool), (j = 8 → b1 = false ∧ b2 = false) → (j = 14 → b1 = true ∧ b2 = false) → (j ∈ ([15, 16, 17, 18, 19, 20, 21, 22, 23, 24, 25, 26, 27, 28, 29, 30, 31, 32, 33, 34] : List Nat) → b1 = true ∧ (14 < 35 → b2 = true)) → MI [x, r] (fun p p' w => Has w x 58 (if p then scC q2 n2 else scC q1 n1) ∧ Has w r 27 (if p' then scC q2 n2 else scC q1 n1)) w0 b1 b2 w → FrD (sc16D.take 35) a0 a → needs sc16D (sc16F J os q1 q2 n1 n2 B x r bp po n c i) a w o.after.toList → AskM Try.prog sc16D (factAt (sc16F J os q1 q2 n1 n2 B x r bp po n c i) j) (ButS [x, r]) (ButS [x, r]) (MI [x, r] (fun p p' w => Has w x 58 (if p then scC q2 n2 else scC q1 n1) ∧ Has w r 27 (if p' then scC q2 n2 else scC q1 n1)) w0) 8 14 j o a w) 0 ((opsOf 16 Try.f3).take 35) := by
  simp only [opsOf, Try.f3, opsAt, Option.bind, Option.or, Option.getD, reduceCtorEq, if_true, if_false, Nat.reduceEqDiff, List.take_succ_cons, List.take_zero]
  refine ⟨?_, ?_⟩
  · intro a w b1 b2 h1 h2 hl hI hF hd
    refine askM_d (by decide) (by decide) ?_
    exact step_move (guard_none rfl) rfl _ rfl ((hF.other 14 rfl).trans S.v14)
  refine ⟨?_, ?_⟩
  · intro a w b1 b2 h1 h2 hl hI hF hd
    refine askM_d (by decide) (by decide) ?_
    have h92 : a.tmps.getD 92 undef = .int .i64 0 := hd.1 rfl
    exact rf_eql (guard_none rfl) rfl _ _ rfl _ _ h92 rfl true rfl rfl
  refine ⟨?_, ?_⟩
  · intro a w b1 b2 h1 h2 hl hI hF hd
    refine askM_d (by decide) (by decide) ?_
    have h93 : a.tmps.getD 93 undef = .bool true := hd.1 rfl
    exact step_move (guard_none rfl) rfl _ rfl h93
  refine ⟨?_, ?_⟩
  · intro a w b1 b2 h1 h2 hl hI hF hd
    refine askM_d (by decide) (by decide) ?_
    have h94 : a.tmps.getD 94 undef = .bool true := hd.1 rfl
    exact step_move (rf_open true rfl rfl h94) rfl _ rfl ((hF.other 11 rfl).trans S.v11)
  refine ⟨?_, ?_⟩
  · intro a w b1 b2 h1 h2 hl hI hF hd
    refine askM_d (by decide) (by decide) ?_
    have h94 : a.tmps.getD 94 undef = .bool true := hd.1 rfl
    exact step_move (rf_open true rfl rfl h94) rfl _ rfl ((hF.other 0 rfl).trans S.v0)
  refine ⟨?_, ?_⟩
  · intro a w b1 b2 h1 h2 hl hI hF hd
    refine askM_d (by decide) (by decide) ?_
    have h94 : a.tmps.getD 94 undef = .bool true := hd.1 rfl
    exact step_move (rf_open true rfl rfl h94) rfl _ rfl ((hF.other 15 rfl).trans S.v15)
  refine ⟨?_, ?_⟩
  · intro a w b1 b2 h1 h2 hl hI hF hd
    refine askM_d (by decide) (by decide) ?_
    have h94 : a.tmps.getD 94 undef = .bool true := hd.2.2.1 rfl
    have h96 : a.tmps.getD 96 undef = .slice (some ⟨bp, po, none⟩) n c := hd.1 rfl
    have h97 : a.tmps.getD 97 undef = .int .i64 i := hd.2.1 rfl
    exact rf_index (rf_open true rfl rfl h94) rfl _ _ _ rfl Try.underlying22 1 (fun _ => by kernel_rfl) _ _ _ _ i _ h96 h97 rfl S.hi rfl
  refine ⟨?_, ?_⟩
  · intro a w b1 b2 h1 h2 hl hI hF hd
    refine askM_d (by decide) (by decide) ?_
    have h94 : a.tmps.getD 94 undef = .bool true := hd.2.1 rfl
    have h98 : a.tmps.getD 98 undef = .pointer (some ⟨bp, po + i * 1, none⟩) := hd.1 rfl
    exact rf_loadT (rf_open true rfl rfl h94) rfl _ rfl _ _ h98 J (by rw [Nat.mul_one]; exact hI.gr.cell S.cl (by simpa using S.nb)) rfl
  refine ⟨?_, ?_⟩
  · intro a w b1 b2 h1 h2 hl hI hF hd
    refine askM_1 rfl ?_
    have h94 : a.tmps.getD 94 undef = .bool true := hd.2.2.1 rfl
    have h95 : a.tmps.getD 95 undef = .pointer (some ⟨x, 0, none⟩) := hd.1 rfl
    have h99 : a.tmps.getD 99 undef = .string J := hd.2.1 rfl
    obtain ⟨rfl, rfl⟩ := h1 rfl
    refine stepL_wrote (g := x) (R := 58) (os := os) (r := q2) (b := n2) (rf_open true rfl rfl h94) rfl _ _ (rf_call_run Try.func13 (by kernel_rfl) (by kernel_rfl) _ _ rfl) hI (by simp) ?_ ?_ ?_
    · simp only [List.map_toArray, List.map_cons, List.map_nil, Act.eval, h95, h99]
      exact S.wx w hI.st.1
    · intro w1 hs hg; exact ⟨hs, hI.st.2.grow hg (fun e => S.ne (by injection e))⟩
    · intro A c w1 ho; exact ⟨A, c, rfl, S.eB ▸ ho⟩
  refine ⟨?_, ?_⟩
  · intro a w b1 b2 h1 h2 hl hI hF hd
    refine askM_d (by decide) (by decide) ?_
    have h94 : a.tmps.getD 94 undef = .bool true := hd.1 rfl
    exact step_move (rf_open true rfl rfl h94) rfl _ rfl ((hF.other 13 rfl).trans S.v13)
  refine ⟨?_, ?_⟩
  · intro a w b1 b2 h1 h2 hl hI hF hd
    refine askM_d (by decide) (by decide) ?_
    have h94 : a.tmps.getD 94 undef = .bool true := hd.1 rfl
    exact step_move (rf_open true rfl rfl h94) rfl _ rfl ((hF.other 0 rfl).trans S.v0)
  refine ⟨?_, ?_⟩
  · intro a w b1 b2 h1 h2 hl hI hF hd
    refine askM_d (by decide) (by decide) ?_
    have h94 : a.tmps.getD 94 undef = .bool true := hd.1 rfl
    exact step_move (rf_open true rfl rfl h94) rfl _ rfl ((hF.other 15 rfl).trans S.v15)
  refine ⟨?_, ?_⟩
  · intro a w b1 b2 h1 h2 hl hI hF hd
    refine askM_d (by decide) (by decide) ?_
    have h94 : a.tmps.getD 94 undef = .bool true := hd.2.2.1 rfl
    have h102 : a.tmps.getD 102 undef = .slice (some ⟨bp, po, none⟩) n c := hd.1 rfl
    have h103 : a.tmps.getD 103 undef = .int .i64 i := hd.2.1 rfl
    exact rf_index (rf_open true rfl rfl h94) rfl _ _ _ rfl Try.underlying22 1 (fun _ => by kernel_rfl) _ _ _ _ i _ h102 h103 rfl S.hi rfl
  refine ⟨?_, ?_⟩
  · intro a w b1 b2 h1 h2 hl hI hF hd
    refine askM_d (by decide) (by decide) ?_
    have h94 : a.tmps.getD 94 undef = .bool true := hd.2.1 rfl
    have h104 : a.tmps.getD 104 undef = .pointer (some ⟨bp, po + i * 1, none⟩) := hd.1 rfl
    exact rf_loadT (rf_open true rfl rfl h94) rfl _ rfl _ _ h104 J (by rw [Nat.mul_one]; exact hI.gr.cell S.cl (by simpa using S.nb)) rfl
  refine ⟨?_, ?_⟩
  · intro a w b1 b2 h1 h2 hl hI hF hd
    refine askM_2 (by decide) rfl ?_
    have h94 : a.tmps.getD 94 undef = .bool true := hd.2.2.2.1 rfl
    have h101 : a.tmps.getD 101 undef = .pointer (some ⟨r, 0, none⟩) := hd.1 rfl
    have h105 : a.tmps.getD 105 undef = .string J := hd.2.1 rfl
    obtain ⟨rfl, rfl⟩ := h2 rfl
    refine stepL_wrote (g := r) (R := 27) (os := os) (r := q2) (b := n2) (rf_open true rfl rfl h94) rfl _ _ (rf_call_run Try.func14 (by kernel_rfl) (by kernel_rfl) _ _ rfl) hI (by simp) ?_ ?_ ?_
    · simp only [List.map_toArray, List.map_cons, List.map_nil, Act.eval, h101, h105]
      exact S.wy w hI.st.2
    · intro w1 hs hg; exact ⟨hI.st.1.grow hg (fun e => S.ne (by injection e with e; exact e.symm)), hs⟩
    · intro A c w1 ho; exact ⟨A, c, rfl, S.eB ▸ ho⟩
  refine ⟨?_, ?_⟩
  · intro a w b1 b2 h1 h2 hl hI hF hd
    refine askM_d (by decide) (by decide) ?_
    have h94 : a.tmps.getD 94 undef = .bool true := hd.2.2.2.1 rfl
    obtain ⟨A100, c100, h100, p100⟩ : rowF B os.length os (a.tmps.getD 100 undef) w := hd.1 rfl
    obtain ⟨A106, c106, h106, p106⟩ : rowF B os.length os (a.tmps.getD 106 undef) w := hd.2.1 rfl
    refine step_call (rf_open true rfl rfl h94) rfl _ _ (rf_call_run Try.func15 (by kernel_rfl) (by kernel_rfl) _ _ rfl) ?_
    simp only [List.map_toArray, List.map_cons, List.map_nil, Act.eval, h100, h106]
    exact (sameops_any _ _ os.length _ _ os _ (p100.ops) (p106.ops) S.bo).mono (by rintro e w1 ⟨rfl, hb⟩; exact ⟨_, rfl, hb, rfl⟩)
  refine ⟨?_, ?_⟩
  · intro a w b1 b2 h1 h2 hl hI hF hd
    refine askM_d (by decide) (by decide) ?_
    have h94 : a.tmps.getD 94 undef = .bool true := hd.2.1 rfl
    have h107 : a.tmps.getD 107 undef = .bool true := hd.1 rfl
    exact step_not (rf_open true rfl rfl h94) rfl _ _ rfl h107 rfl
  refine ⟨?_, ?_⟩
  · intro a w b1 b2 h1 h2 hl hI hF hd
    refine askM_d (by decide) (by decide) ?_
    have h94 : a.tmps.getD 94 undef = .bool true := hd.2.2.1 rfl
    have h108 : a.tmps.getD 108 undef = .bool false := hd.1 rfl
    exact step_move (rf_open true rfl rfl h94) rfl _ rfl h108
  refine ⟨?_, ?_⟩
  · intro a w b1 b2 h1 h2 hl hI hF hd
    refine askM_d (by decide) (by decide) ?_
    have h109 : a.tmps.getD 109 undef = .bool false := hd.1 rfl
    exact step_move (rf_open false rfl rfl h109) rfl _ rfl ((hF.other 11 rfl).trans S.v11)
  refine ⟨?_, ?_⟩
  · intro a w b1 b2 h1 h2 hl hI hF hd
    refine askM_d (by decide) (by decide) ?_
    have h109 : a.tmps.getD 109 undef = .bool false := hd.2.1 rfl
    have h110 : a.tmps.getD 110 undef = .pointer (some ⟨x, 0, none⟩) := hd.1 rfl
    obtain ⟨rfl, hb2⟩ := hl (by decide)
    obtain rfl := hb2 (by decide)
    refine step_call (rf_open false rfl rfl h109) rfl _ _ (rf_call_run Try.func16 (by kernel_rfl) (by kernel_rfl) _ _ rfl) ?_
    simp only [List.map_toArray, List.map_cons, List.map_nil, Act.eval, h110]
    exact (waits_any x q2 n2 _ hI.st.1 S.rl).mono (by rintro e w1 ⟨rfl, hb⟩; exact ⟨_, rfl, hb, rfl⟩)
  refine ⟨?_, ?_⟩
  · intro a w b1 b2 h1 h2 hl hI hF hd
    refine askM_d (by decide) (by decide) ?_
    have h109 : a.tmps.getD 109 undef = .bool false := hd.1 rfl
    exact step_move (rf_open false rfl rfl h109) rfl _ rfl ((hF.other 13 rfl).trans S.v13)
  refine ⟨?_, ?_⟩
  · intro a w b1 b2 h1 h2 hl hI hF hd
    refine askM_d (by decide) (by decide) ?_
    have h109 : a.tmps.getD 109 undef = .bool false := hd.2.1 rfl
    have h112 : a.tmps.getD 112 undef = .pointer (some ⟨r, 0, none⟩) := hd.1 rfl
    exact rf_nilC (rf_open false rfl rfl h109) rfl _ rfl _ h112 rfl
  refine ⟨?_, ?_⟩
  · intro a w b1 b2 h1 h2 hl hI hF hd
    refine askM_d (by decide) (by decide) ?_
    have h109 : a.tmps.getD 109 undef = .bool false := hd.2.1 rfl
    have h113 : a.tmps.getD 113 undef = .pointer (some ⟨r, 0, none⟩) := hd.1 rfl
    exact rf_faddr (rf_open false rfl rfl h109) rfl _ _ _ rfl _ _ 0 _ h113 (by omega) (fun _ _ => by kernel_rfl) rfl
  refine ⟨?_, ?_⟩
  · intro a w b1 b2 h1 h2 hl hI hF hd
    refine askM_d (by decide) (by decide) ?_
    have h109 : a.tmps.getD 109 undef = .bool false := hd.2.1 rfl
    have h114 : a.tmps.getD 114 undef = .pointer (some ⟨r, 0, none⟩) := hd.1 rfl
    obtain ⟨rfl, hb2⟩ := hl (by decide)
    obtain rfl := hb2 (by decide)
    exact rf_loadT (rf_open false rfl rfl h109) rfl _ rfl _ _ h114 _ (hI.st.2.cell 0) rfl
  refine ⟨?_, ?_⟩
  · intro a w b1 b2 h1 h2 hl hI hF hd
    refine askM_d (by decide) (by decide) ?_
    have h109 : a.tmps.getD 109 undef = .bool false := hd.2.2.1 rfl
    have h111 : a.tmps.getD 111 undef = .string (txt q2) := hd.1 rfl
    have h115 : a.tmps.getD 115 undef = .string (txt q2) := hd.2.1 rfl
    exact rf_neS (rf_open false rfl rfl h109) rfl _ _ rfl _ h111 h115 rfl
  refine ⟨?_, ?_⟩
  · intro a w b1 b2 h1 h2 hl hI hF hd
    refine askM_d (by decide) (by decide) ?_
    have h94 : a.tmps.getD 94 undef = .bool true := hd.2.2.1 rfl
    have h109 : a.tmps.getD 109 undef = .bool false := hd.1 rfl
    have h116 : a.tmps.getD 116 undef = .bool false := hd.2.1 rfl
    exact rf_pick (rf_open true rfl rfl h94) rfl _ _ _ rfl false h109 h116
  refine ⟨?_, ?_⟩
  · intro a w b1 b2 h1 h2 hl hI hF hd
    refine askM_d (by decide) (by decide) ?_
    have h94 : a.tmps.getD 94 undef = .bool true := hd.2.2.1 rfl
    have h117 : a.tmps.getD 117 undef = .bool false := hd.1 rfl
    exact step_move (rf_open true rfl rfl h94) rfl _ rfl h117
  refine ⟨?_, ?_⟩
  · intro a w b1 b2 h1 h2 hl hI hF hd
    refine askM_d (by decide) (by decide) ?_
    have h118 : a.tmps.getD 118 undef = .bool false := hd.1 rfl
    exact step_move (rf_open false rfl rfl h118) rfl _ rfl ((hF.other 11 rfl).trans S.v11)
  refine ⟨?_, ?_⟩
  · intro a w b1 b2 h1 h2 hl hI hF hd
    refine askM_d (by decide) (by decide) ?_
    have h118 : a.tmps.getD 118 undef = .bool false := hd.2.1 rfl
    have h119 : a.tmps.getD 119 undef = .pointer (some ⟨x, 0, none⟩) := hd.1 rfl
    obtain ⟨rfl, hb2⟩ := hl (by decide)
    obtain rfl := hb2 (by decide)
    refine step_call (rf_open false rfl rfl h118) rfl _ _ (rf_call_run Try.func17 (by kernel_rfl) (by kernel_rfl) _ _ rfl) ?_
    simp only [List.map_toArray, List.map_cons, List.map_nil, Act.eval, h119]
    exact (badn_any x q2 n2 _ hI.st.1).mono (by rintro e w1 ⟨rfl, rfl⟩; exact ⟨_, rfl, Below.refl _ _, rfl⟩)
  refine ⟨?_, ?_⟩
  · intro a w b1 b2 h1 h2 hl hI hF hd
    refine askM_d (by decide) (by decide) ?_
    have h118 : a.tmps.getD 118 undef = .bool false := hd.1 rfl
    exact step_move (rf_open false rfl rfl h118) rfl _ rfl ((hF.other 13 rfl).trans S.v13)
  refine ⟨?_, ?_⟩
  · intro a w b1 b2 h1 h2 hl hI hF hd
    refine askM_d (by decide) (by decide) ?_
    have h118 : a.tmps.getD 118 undef = .bool false := hd.2.1 rfl
    have h121 : a.tmps.getD 121 undef = .pointer (some ⟨r, 0, none⟩) := hd.1 rfl
    exact rf_nilC (rf_open false rfl rfl h118) rfl _ rfl _ h121 rfl
  refine ⟨?_, ?_⟩
  · intro a w b1 b2 h1 h2 hl hI hF hd
    refine askM_d (by decide) (by decide) ?_
    have h118 : a.tmps.getD 118 undef = .bool false := hd.2.1 rfl
    have h122 : a.tmps.getD 122 undef = .pointer (some ⟨r, 0, none⟩) := hd.1 rfl
    exact rf_faddr (rf_open false rfl rfl h118) rfl _ _ _ rfl _ _ 1 _ h122 (by omega) (fun _ _ => by kernel_rfl) rfl
  refine ⟨?_, ?_⟩
  · intro a w b1 b2 h1 h2 hl hI hF hd
    refine askM_d (by decide) (by decide) ?_
    have h118 : a.tmps.getD 118 undef = .bool false := hd.2.1 rfl
    have h123 : a.tmps.getD 123 undef = .pointer (some ⟨r, 1, none⟩) := hd.1 rfl
    obtain ⟨rfl, hb2⟩ := hl (by decide)
    obtain rfl := hb2 (by decide)
    exact rf_loadi (rf_open false rfl rfl h118) rfl _ rfl _ _ h123 _ (hI.st.2.cell 1) rfl
  refine ⟨?_, ?_⟩
  · intro a w b1 b2 h1 h2 hl hI hF hd
    refine askM_d (by decide) (by decide) ?_
    have h118 : a.tmps.getD 118 undef = .bool false := hd.2.2.1 rfl
    have h120 : a.tmps.getD 120 undef = .int .i64 n2 := hd.1 rfl
    have h124 : a.tmps.getD 124 undef = .int .i64 n2 := hd.2.1 rfl
    exact rf_neq (rf_open false rfl rfl h118) rfl _ _ rfl _ _ h120 h124 false (by simp) rfl
  refine ⟨?_, ?_⟩
  · intro a w b1 b2 h1 h2 hl hI hF hd
    refine askM_d (by decide) (by decide) ?_
    have h94 : a.tmps.getD 94 undef = .bool true := hd.2.2.1 rfl
    have h118 : a.tmps.getD 118 undef = .bool false := hd.1 rfl
    have h125 : a.tmps.getD 125 undef = .bool false := hd.2.1 rfl
    exact rf_pick (rf_open true rfl rfl h94) rfl _ _ _ rfl false h118 h125
  trivial
set_option maxRecDepth 100000 in
theorem sc16_any {Q : Exit → Act → World → Prop} {l : List Oper} (hl : opsOf 16 Try.f3 = l) (hend : ∀ (A100 : Option Addr) (c100 : Nat), ∀ (A106 : Option Addr) (c106 : Nat), ∀ w : World, MI [x, r] (fun p p' w => Has w x 58 (if p then scC q2 n2 else scC q1 n1) ∧ Has w r 27 (if p' then scC q2 n2 else scC q1 n1)) w0 true true w → OwnO w B (.slice A100 os.length c100) os → OwnO w B (.slice A106 os.length c106) os → wpList Try.prog l.toArray Q (l.drop 35) (putAll a0 [(92, .int .i64 0), (93, .bool true), (94, .bool true), (95, .pointer (some ⟨x, 0, none⟩)), (96, .slice (some ⟨bp, po, none⟩) n c), (97, .int .i64 i), (98, .pointer (some ⟨bp, po + i * 1, none⟩)), (99, .string J), (100, .slice A100 os.length c100), (101, .pointer (some ⟨r, 0, none⟩)), (102, .slice (some ⟨bp, po, none⟩) n c), (103, .int .i64 i), (104, .pointer (some ⟨bp, po + i * 1, none⟩)), (105, .string J), (106, .slice A106 os.length c106), (107, .bool true), (108, .bool false), (109, .bool false), (110, .pointer (some ⟨x, 0, none⟩)), (111, .string (txt q2)), (112, .pointer (some ⟨r, 0, none⟩)), (113, .pointer (some ⟨r, 0, none⟩)), (114, .pointer (some ⟨r, 0, none⟩)), (115, .string (txt q2)), (116, .bool false), (117, .bool false), (118, .bool false), (119, .pointer (some ⟨x, 0, none⟩)), (120, .int .i64 n2), (121, .pointer (some ⟨r, 0, none⟩)), (122, .pointer (some ⟨r, 0, none⟩)), (123, .pointer (some ⟨r, 1, none⟩)), (124, .int .i64 n2), (125, .bool false), (126, .bool false)]) w) :
    (Code.region 16 l.toArray true).wp Try.prog Q a0 w0 := by
  subst hl
  refine region_twoL [x, r] (fun p p' w => Has w x 58 (if p then scC q2 n2 else scC q1 n1) ∧ Has w r 27 (if p' then scC q2 n2 else scC q1 n1)) 8 14 (sc16F _ _ _ _ _ _ _ _ _ _ _ _ _ _) sc16D 35 152 S.size rfl (by kernel_rfl) (by kernel_rfl) (by kernel_rfl) [15, 16, 17, 18, 19, 20, 21, 22, 23, 24, 25, 26, 27, 28, 29, 30, 31, 32, 33, 34] (by kernel_rfl) (by omega) (by omega) (by kernel_rfl) (fun _ _ w w' h hb => ⟨h.1.below hb h.1.lt, h.2.below hb h.2.lt⟩) (⟨S.sx, S.sy⟩) (sc16F_mono _ _ _ _ _ _ _ _ _ _ _ _ _ _) (sc16F_monoS S) (sc16_ok S) fun a w hI hF h => ?_
  obtain ⟨A100, c100, h100, p100⟩ : rowF B os.length os (a.tmps.getD 100 undef) w := h 8 (some 100) (by omega) rfl
  obtain ⟨A106, c106, h106, p106⟩ : rowF B os.length os (a.tmps.getD 106 undef) w := h 14 (some 106) (by omega) rfl
  have hv : valsAre a [(92, .int .i64 0), (93, .bool true), (94, .bool true), (95, .pointer (some ⟨x, 0, none⟩)), (96, .slice (some ⟨bp, po, none⟩) n c), (97, .int .i64 i), (98, .pointer (some ⟨bp, po + i * 1, none⟩)), (99, .string J), (100, .slice A100 os.length c100), (101, .pointer (some ⟨r, 0, none⟩)), (102, .slice (some ⟨bp, po, none⟩) n c), (103, .int .i64 i), (104, .pointer (some ⟨bp, po + i * 1, none⟩)), (105, .string J), (106, .slice A106 os.length c106), (107, .bool true), (108, .bool false), (109, .bool false), (110, .pointer (some ⟨x, 0, none⟩)), (111, .string (txt q2)), (112, .pointer (some ⟨r, 0, none⟩)), (113, .pointer (some ⟨r, 0, none⟩)), (114, .pointer (some ⟨r, 0, none⟩)), (115, .string (txt q2)), (116, .bool false), (117, .bool false), (118, .bool false), (119, .pointer (some ⟨x, 0, none⟩)), (120, .int .i64 n2), (121, .pointer (some ⟨r, 0, none⟩)), (122, .pointer (some ⟨r, 0, none⟩)), (123, .pointer (some ⟨r, 1, none⟩)), (124, .int .i64 n2), (125, .bool false), (126, .bool false)] := by
    refine ⟨?_, ?_, ?_, ?_, ?_, ?_, ?_, ?_, ?_, ?_, ?_, ?_, ?_, ?_, ?_, ?_, ?_, ?_, ?_, ?_, ?_, ?_, ?_, ?_, ?_, ?_, ?_, ?_, ?_, ?_, ?_, ?_, ?_, ?_, ?_, trivial⟩
    · exact h 0 (some 92) (by omega) rfl
    · exact h 1 (some 93) (by omega) rfl
    · exact h 2 (some 94) (by omega) rfl
    · exact h 3 (some 95) (by omega) rfl
    · exact h 4 (some 96) (by omega) rfl
    · exact h 5 (some 97) (by omega) rfl
    · exact h 6 (some 98) (by omega) rfl
    · exact h 7 (some 99) (by omega) rfl
    · exact h100
    · exact h 9 (some 101) (by omega) rfl
    · exact h 10 (some 102) (by omega) rfl
    · exact h 11 (some 103) (by omega) rfl
    · exact h 12 (some 104) (by omega) rfl
    · exact h 13 (some 105) (by omega) rfl
    · exact h106
    · exact h 15 (some 107) (by omega) rfl
    · exact h 16 (some 108) (by omega) rfl
    · exact h 17 (some 109) (by omega) rfl
    · exact h 18 (some 110) (by omega) rfl
    · exact h 19 (some 111) (by omega) rfl
    · exact h 20 (some 112) (by omega) rfl
    · exact h 21 (some 113) (by omega) rfl
    · exact h 22 (some 114) (by omega) rfl
    · exact h 23 (some 115) (by omega) rfl
    · exact h 24 (some 116) (by omega) rfl
    · exact h 25 (some 117) (by omega) rfl
    · exact h 26 (some 118) (by omega) rfl
    · exact h 27 (some 119) (by omega) rfl
    · exact h 28 (some 120) (by omega) rfl
    · exact h 29 (some 121) (by omega) rfl
    · exact h 30 (some 122) (by omega) rfl
    · exact h 31 (some 123) (by omega) rfl
    · exact h 32 (some 124) (by omega) rfl
    · exact h 33 (some 125) (by omega) rfl
    · exact h 34 (some 126) (by omega) rfl
  rw [frame_is hF _ hv (by rfl) (by rfl)]
  exact hend A100 c100 A106 c106 w hI p100 p106
end

def sn16D : List (Option Tmp) := [some 92, some 93, some 94, some 95, some 96, some 97, some 98, some 99, some 100, some 101, some 102, some 103, some 104, some 105, some 106, some 107, some 108, some 109, some 110, some 111, some 112, some 113, some 114, some 115, some 116, some 117, some 118, some 119, some 120, some 121, some 122, some 123, some 124, some 125, some 126, some 127]
def sn16F  : List Fact := [isV (.int .i64 1100), isV (.bool false), isV (.bool false), isV (undef), isV (undef), isV (undef), isV (undef), isV (undef), isV (undef), isV (undef), isV (undef), isV (undef), isV (undef), isV (undef), isV (undef), isV (undef), isV (undef), isV (undef), isV (undef), isV (undef), isV (undef), isV (undef), isV (undef), isV (undef), isV (undef), isV (undef), isV (undef), isV (undef), isV (undef), isV (undef), isV (undef), isV (undef), isV (undef), isV (undef), isV (undef), isV (.bool false)]
theorem sn16F_mono  : ∀ φ ∈ sn16F , Mono φ := by
  unfold sn16F
  repeat (first | exact monos_nil | (refine monos_cons (mono_isV _) ?_))
structure sn16S  (a0 : Act) (w0 : World) : Prop where
  size : a0.tmps.size = 152
  v14 : a0.tmps.getD 14 undef = .int .i64 1100
section
variable  {a0 : Act} {w0 : World} (S : sn16S  a0 w0)
include S
set_option maxRecDepth 100000 in
set_option maxHeartbeats 8000000 in
theorem sn16_ok : AllOps (fun j o => ∀ (a : Act) (w : World), Below w0.heap.size w0 w → FrD sn16D a0 a → needs sn16D (sn16F ) a w o.after.toList → StepD Try.prog sn16D (factAt (sn16F ) j) o a w) 0 (opsOf 16 Try.f3) := by
  simp only [opsOf, Try.f3, opsAt, Option.bind, Option.or, Option.getD, reduceCtorEq, if_true, if_false, Nat.reduceEqDiff]
  refine ⟨?_, ?_⟩
  · intro _a _w _hB hF _hd
    exact step_move (guard_none rfl) rfl _ rfl ((hF.other 14 rfl).trans S.v14)
  refine ⟨?_, ?_⟩
  · intro a _w _hB _hF hd
    have h92 : a.tmps.getD 92 undef = .int .i64 1100 := hd.1 rfl
    exact rf_eql (guard_none rfl) rfl _ _ rfl _ _ h92 rfl false rfl rfl
  refine ⟨?_, ?_⟩
  · intro a _w _hB _hF hd
    have h93 : a.tmps.getD 93 undef = .bool false := hd.1 rfl
    exact step_move (guard_none rfl) rfl _ rfl h93
  refine ⟨?_, ?_⟩
  · intro a _w _hB _hF hd
    have h94 : a.tmps.getD 94 undef = .bool false := hd.1 rfl
    exact rf_shut true rfl rfl h94 rfl
  refine ⟨?_, ?_⟩
  · intro a _w _hB _hF hd
    have h94 : a.tmps.getD 94 undef = .bool false := hd.1 rfl
    exact rf_shut true rfl rfl h94 rfl
  refine ⟨?_, ?_⟩
  · intro a _w _hB _hF hd
    have h94 : a.tmps.getD 94 undef = .bool false := hd.1 rfl
    exact rf_shut true rfl rfl h94 rfl
  refine ⟨?_, ?_⟩
  · intro a _w _hB _hF hd
    have h94 : a.tmps.getD 94 undef = .bool false := hd.2.2.1 rfl
    exact rf_shut true rfl rfl h94 rfl
  refine ⟨?_, ?_⟩
  · intro a _w _hB _hF hd
    have h94 : a.tmps.getD 94 undef = .bool false := hd.2.1 rfl
    exact rf_shut true rfl rfl h94 rfl
  refine ⟨?_, ?_⟩
  · intro a _w _hB _hF hd
    have h94 : a.tmps.getD 94 undef = .bool false := hd.2.2.1 rfl
    exact rf_shut true rfl rfl h94 rfl
  refine ⟨?_, ?_⟩
  · intro a _w _hB _hF hd
    have h94 : a.tmps.getD 94 undef = .bool false := hd.1 rfl
    exact rf_shut true rfl rfl h94 rfl
  refine ⟨?_, ?_⟩
  · intro a _w _hB _hF hd
    have h94 : a.tmps.getD 94 undef = .bool false := hd.1 rfl
    exact rf_shut true rfl rfl h94 rfl
  refine ⟨?_, ?_⟩
  · intro a _w _hB _hF hd
    have h94 : a.tmps.getD 94 undef = .bool false := hd.1 rfl
    exact rf_shut true rfl rfl h94 rfl
  refine ⟨?_, ?_⟩
  · intro a _w _hB _hF hd
    have h94 : a.tmps.getD 94 undef = .bool false := hd.2.2.1 rfl
    exact rf_shut true rfl rfl h94 rfl
  refine ⟨?_, ?_⟩
  · intro a _w _hB _hF hd
    have h94 : a.tmps.getD 94 undef = .bool false := hd.2.1 rfl
    exact rf_shut true rfl rfl h94 rfl
  refine ⟨?_, ?_⟩
  · intro a _w _hB _hF hd
    have h94 : a.tmps.getD 94 undef = .bool false := hd.2.2.2.1 rfl
    exact rf_shut true rfl rfl h94 rfl
  refine ⟨?_, ?_⟩
  · intro a _w _hB _hF hd
    have h94 : a.tmps.getD 94 undef = .bool false := hd.2.2.2.1 rfl
    exact rf_shut true rfl rfl h94 rfl
  refine ⟨?_, ?_⟩
  · intro a _w _hB _hF hd
    have h94 : a.tmps.getD 94 undef = .bool false := hd.2.1 rfl
    exact rf_shut true rfl rfl h94 rfl
  refine ⟨?_, ?_⟩
  · intro a _w _hB _hF hd
    have h94 : a.tmps.getD 94 undef = .bool false := hd.2.2.1 rfl
    exact rf_shut true rfl rfl h94 rfl
  refine ⟨?_, ?_⟩
  · intro a _w _hB _hF hd
    have h109 : a.tmps.getD 109 undef = undef := hd.1 rfl
    exact rf_shutu false rfl rfl h109 rfl
  refine ⟨?_, ?_⟩
  · intro a _w _hB _hF hd
    have h109 : a.tmps.getD 109 undef = undef := hd.2.1 rfl
    exact rf_shutu false rfl rfl h109 rfl
  refine ⟨?_, ?_⟩
  · intro a _w _hB _hF hd
    have h109 : a.tmps.getD 109 undef = undef := hd.1 rfl
    exact rf_shutu false rfl rfl h109 rfl
  refine ⟨?_, ?_⟩
  · intro a _w _hB _hF hd
    have h109 : a.tmps.getD 109 undef = undef := hd.2.1 rfl
    exact rf_shutu false rfl rfl h109 rfl
  refine ⟨?_, ?_⟩
  · intro a _w _hB _hF hd
    have h109 : a.tmps.getD 109 undef = undef := hd.2.1 rfl
    exact rf_shutu false rfl rfl h109 rfl
  refine ⟨?_, ?_⟩
  · intro a _w _hB _hF hd
    have h109 : a.tmps.getD 109 undef = undef := hd.2.1 rfl
    exact rf_shutu false rfl rfl h109 rfl
  refine ⟨?_, ?_⟩
  · intro a _w _hB _hF hd
    have h109 : a.tmps.getD 109 undef = undef := hd.2.2.1 rfl
    exact rf_shutu false rfl rfl h109 rfl
  refine ⟨?_, ?_⟩
  · intro a _w _hB _hF hd
    have h94 : a.tmps.getD 94 undef = .bool false := hd.2.2.1 rfl
    exact rf_shut true rfl rfl h94 rfl
  refine ⟨?_, ?_⟩
  · intro a _w _hB _hF hd
    have h94 : a.tmps.getD 94 undef = .bool false := hd.2.2.1 rfl
    exact rf_shut true rfl rfl h94 rfl
  refine ⟨?_, ?_⟩
  · intro a _w _hB _hF hd
    have h118 : a.tmps.getD 118 undef = undef := hd.1 rfl
    exact rf_shutu false rfl rfl h118 rfl
  refine ⟨?_, ?_⟩
  · intro a _w _hB _hF hd
    have h118 : a.tmps.getD 118 undef = undef := hd.2.1 rfl
    exact rf_shutu false rfl rfl h118 rfl
  refine ⟨?_, ?_⟩
  · intro a _w _hB _hF hd
    have h118 : a.tmps.getD 118 undef = undef := hd.1 rfl
    exact rf_shutu false rfl rfl h118 rfl
  refine ⟨?_, ?_⟩
  · intro a _w _hB _hF hd
    have h118 : a.tmps.getD 118 undef = undef := hd.2.1 rfl
    exact rf_shutu false rfl rfl h118 rfl
  refine ⟨?_, ?_⟩
  · intro a _w _hB _hF hd
    have h118 : a.tmps.getD 118 undef = undef := hd.2.1 rfl
    exact rf_shutu false rfl rfl h118 rfl
  refine ⟨?_, ?_⟩
  · intro a _w _hB _hF hd
    have h118 : a.tmps.getD 118 undef = undef := hd.2.1 rfl
    exact rf_shutu false rfl rfl h118 rfl
  refine ⟨?_, ?_⟩
  · intro a _w _hB _hF hd
    have h118 : a.tmps.getD 118 undef = undef := hd.2.2.1 rfl
    exact rf_shutu false rfl rfl h118 rfl
  refine ⟨?_, ?_⟩
  · intro a _w _hB _hF hd
    have h94 : a.tmps.getD 94 undef = .bool false := hd.2.2.1 rfl
    exact rf_shut true rfl rfl h94 rfl
  refine ⟨?_, ?_⟩
  · intro a _w _hB _hF hd
    have h94 : a.tmps.getD 94 undef = .bool false := hd.1 rfl
    exact rf_pick (guard_none rfl) rfl _ _ _ rfl false h94 rfl
  trivial
theorem sn16_any {Q : Exit → Act → World → Prop} {l : List Oper} (hl : opsOf 16 Try.f3 = l) (hend : ∀ w : World, Below w0.heap.size w0 w → Q .normal (putAll a0 [(92, .int .i64 1100), (93, .bool false), (94, .bool false), (95, undef), (96, undef), (97, undef), (98, undef), (99, undef), (100, undef), (101, undef), (102, undef), (103, undef), (104, undef), (105, undef), (106, undef), (107, undef), (108, undef), (109, undef), (110, undef), (111, undef), (112, undef), (113, undef), (114, undef), (115, undef), (116, undef), (117, undef), (118, undef), (119, undef), (120, undef), (121, undef), (122, undef), (123, undef), (124, undef), (125, undef), (126, undef), (127, .bool false)]) w) :
    (Code.region 16 l.toArray true).wp Try.prog Q a0 w0 := by
  subst hl
  refine region_facts2 (sn16F ) sn16D 152 S.size rfl (by kernel_rfl) (by kernel_rfl) (sn16F_mono ) (sn16_ok S) fun a w hB hF h => ?_
  have hv : valsAre a [(92, .int .i64 1100), (93, .bool false), (94, .bool false), (95, undef), (96, undef), (97, undef), (98, undef), (99, undef), (100, undef), (101, undef), (102, undef), (103, undef), (104, undef), (105, undef), (106, undef), (107, undef), (108, undef), (109, undef), (110, undef), (111, undef), (112, undef), (113, undef), (114, undef), (115, undef), (116, undef), (117, undef), (118, undef), (119, undef), (120, undef), (121, undef), (122, undef), (123, undef), (124, undef), (125, undef), (126, undef), (127, .bool false)] := by
    refine ⟨?_, ?_, ?_, ?_, ?_, ?_, ?_, ?_, ?_, ?_, ?_, ?_, ?_, ?_, ?_, ?_, ?_, ?_, ?_, ?_, ?_, ?_, ?_, ?_, ?_, ?_, ?_, ?_, ?_, ?_, ?_, ?_, ?_, ?_, ?_, ?_, trivial⟩
    · exact h 0 (some 92) rfl
    · exact h 1 (some 93) rfl
    · exact h 2 (some 94) rfl
    · exact h 3 (some 95) rfl
    · exact h 4 (some 96) rfl
    · exact h 5 (some 97) rfl
    · exact h 6 (some 98) rfl
    · exact h 7 (some 99) rfl
    · exact h 8 (some 100) rfl
    · exact h 9 (some 101) rfl
    · exact h 10 (some 102) rfl
    · exact h 11 (some 103) rfl
    · exact h 12 (some 104) rfl
    · exact h 13 (some 105) rfl
    · exact h 14 (some 106) rfl
    · exact h 15 (some 107) rfl
    · exact h 16 (some 108) rfl
    · exact h 17 (some 109) rfl
    · exact h 18 (some 110) rfl
    · exact h 19 (some 111) rfl
    · exact h 20 (some 112) rfl
    · exact h 21 (some 113) rfl
    · exact h 22 (some 114) rfl
    · exact h 23 (some 115) rfl
    · exact h 24 (some 116) rfl
    · exact h 25 (some 117) rfl
    · exact h 26 (some 118) rfl
    · exact h 27 (some 119) rfl
    · exact h 28 (some 120) rfl
    · exact h 29 (some 121) rfl
    · exact h 30 (some 122) rfl
    · exact h 31 (some 123) rfl
    · exact h 32 (some 124) rfl
    · exact h 33 (some 125) rfl
    · exact h 34 (some 126) rfl
    · exact h 35 (some 127) rfl
  rw [frame_is hF _ hv (by rfl) (by rfl)]
  exact hend w hB
end

end Go.Proofs.Ytoechlmahckchaa
