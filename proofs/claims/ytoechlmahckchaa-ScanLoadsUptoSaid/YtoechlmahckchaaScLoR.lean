/-
  ScanLoads' drawn region (written by gen/scloads.py).
-/
import Derived.Test.YtoechlmahckchaaRf
import Derived.Test.YtoechlmahckchaaScTwoL
namespace Go.Proofs.Ytoechlmahckchaa
open Go.RowKit

def lo11D : List (Option Tmp) := [some 44, some 45, some 46, some 47, some 48, some 49, some 50, some 51, some 52, some 53, some 54, some 55, some 56, some 57, some 58, some 59, some 60, some 61, some 62, some 63, some 64, some 65, some 66, some 67, some 68, some 69]
def lo11F (F : ByteArray) (os : List Po) (_r1 r2 : List UInt8) (_n1 n2 B x y q : Nat) : List Fact := [isV (.pointer (some ⟨x, 0, none⟩)), isV (.string F), isV (.int .i64 q), isV (.string (F.extract q F.size)), rowF B os.length os, isV (.pointer (some ⟨y, 0, none⟩)), isV (.string F), isV (.int .i64 q), isV (.string (F.extract q F.size)), rowF B os.length os, isV (.bool true), isV (.bool false), isV (.bool false), isV (.pointer (some ⟨x, 0, none⟩)), isV (.string (txt r2)), isV (.pointer (some ⟨y, 0, none⟩)), isV (.string (txt r2)), isV (.bool false), isV (.bool false), isV (.bool false), isV (.pointer (some ⟨x, 0, none⟩)), isV (.int .i64 n2), isV (.pointer (some ⟨y, 0, none⟩)), isV (.int .i64 n2), isV (.bool false)]
theorem lo11F_mono (F : ByteArray) (os : List Po) (r1 r2 : List UInt8) (n1 n2 B x y q : Nat) : ∀ φ ∈ lo11F F os r1 r2 n1 n2 B x y q, Mono φ := by
  unfold lo11F
  repeat (first | exact monos_nil | (refine monos_cons (mono_isV _) ?_) | (refine monos_cons (rowF_mono _ _ _) ?_))
structure lo11S (F : ByteArray) (os : List Po) (r1 r2 : List UInt8) (n1 n2 B x y q : Nat) (a0 : Act) (w0 : World) : Prop where
  size : a0.tmps.size = 84
  v0 : a0.tmps.getD 0 undef = .string F
  v7 : a0.tmps.getD 7 undef = .pointer (some ⟨x, 0, none⟩)
  v8 : a0.tmps.getD 8 undef = .int .i64 q
  v9 : a0.tmps.getD 9 undef = .pointer (some ⟨y, 0, none⟩)
  eB : w0.heap.size = B
  xB : x < B
  yB : y < B
  ne : x ≠ y
  ql : q ≤ F.size
  bo : os.length ≤ 17592186044416
  rl : r2.length ≤ 1000000000000
  sx : Has w0 x 58 (scC r1 n1)
  sy : Has w0 y 58 (scC r1 n1)
  wr : ∀ (g : Nat) (w : World), Has w g 58 (scC r1 n1) → Calls Try.prog 13 #[.pointer (some ⟨g, 0, none⟩), .string (F.extract q F.size)] w fun e w' => WroteO g 58 os r2 n2 e w w'
section
variable {F : ByteArray} {os : List Po} {r1 r2 : List UInt8} {n1 n2 B x y q : Nat} {a0 : Act} {w0 : World} (S : lo11S F os r1 r2 n1 n2 B x y q a0 w0)
include S
theorem lo11_gB : ∀ g ∈ ([x, y] : List Nat), g < B := by
  intro g hg
  simp only [List.mem_cons, List.not_mem_nil, or_false] at hg
  rcases hg with rfl | rfl
  · exact S.xB
  · exact S.yB
theorem lo11F_monoS : ∀ φ ∈ lo11F F os r1 r2 n1 n2 B x y q, MonoS [x, y] φ := by
  unfold lo11F
  repeat (first | exact allS_nil _ | (refine allS_cons (isV_monoS _ _) ?_) | (refine allS_cons (rowF_monoS (lo11_gB S) _ _) ?_))
set_option maxRecDepth 100000 in
set_option maxHeartbeats 8000000 in
theorem lo11_ok : AllOps (fun j o => ∀ (a : Act) (w : World) (b1 b2 : Bool), (j = 4 → b1 = false ∧ b2 = false) → (j = 9 → b1 = true ∧ b2 = false) → (j ∈ ([10, 11, 12, 13, 14, 15, 16, 17, 18, 19, 20, 21, 22, 23, 24] : List Nat) → b1 = true ∧ (9 < 25 → b2 = true)) → MI [x, y] (fun p p' w => Has w x 58 (if p then scC r2 n2 else scC r1 n1) ∧ Has w y 58 (if p' then scC r2 n2 else scC r1 n1)) w0 b1 b2 w → FrD (lo11D.take 25) a0 a → needs lo11D (lo11F F os r1 r2 n1 n2 B x y q) a w o.after.toList → AskM Try.prog lo11D (factAt (lo11F F os r1 r2 n1 n2 B x y q) j) (ButS [x, y]) (ButS [x, y]) (MI [x, y] (fun p p' w => Has w x 58 (if p then scC r2 n2 else scC r1 n1) ∧ Has w y 58 (if p' then scC r2 n2 else scC r1 n1)) w0) 4 9 j o a w) 0 ((opsOf 11 Try.f6).take 25) := by
  simp only [opsOf, Try.f6, opsAt, Option.bind, Option.or, Option.getD, reduceCtorEq, if_true, if_false, Nat.reduceEqDiff, List.take_succ_cons, List.take_zero]
  refine ⟨?_, ?_⟩
  · intro a w b1 b2 h1 h2 hl hI hF hd
    refine askM_d (by decide) (by decide) ?_
    exact step_move (guard_none rfl) rfl _ rfl ((hF.other 7 rfl).trans S.v7)
  refine ⟨?_, ?_⟩
  · intro a w b1 b2 h1 h2 hl hI hF hd
    refine askM_d (by decide) (by decide) ?_
    exact step_move (guard_none rfl) rfl _ rfl ((hF.other 0 rfl).trans S.v0)
  refine ⟨?_, ?_⟩
  · intro a w b1 b2 h1 h2 hl hI hF hd
    refine askM_d (by decide) (by decide) ?_
    exact step_move (guard_none rfl) rfl _ rfl ((hF.other 8 rfl).trans S.v8)
  refine ⟨?_, ?_⟩
  · intro a w b1 b2 h1 h2 hl hI hF hd
    refine askM_d (by decide) (by decide) ?_
    have h45 : a.tmps.getD 45 undef = .string F := hd.1 rfl
    have h46 : a.tmps.getD 46 undef = .int .i64 q := hd.2.1 rfl
    exact rf_cutF (guard_none rfl) rfl _ _ (q : Int) rfl F h45 h46 (by omega) (by have := S.ql; omega) (by rw [Int.toNat_natCast]) rfl
  refine ⟨?_, ?_⟩
  · intro a w b1 b2 h1 h2 hl hI hF hd
    refine askM_1 rfl ?_
    have h44 : a.tmps.getD 44 undef = .pointer (some ⟨x, 0, none⟩) := hd.1 rfl
    have h47 : a.tmps.getD 47 undef = .string (F.extract q F.size) := hd.2.1 rfl
    obtain ⟨rfl, rfl⟩ := h1 rfl
    refine stepL_wrote (g := x) (R := 58) (os := os) (r := r2) (b := n2) (guard_none rfl) rfl _ _ (rf_call_run Try.func13 (by kernel_rfl) (by kernel_rfl) _ _ rfl) hI (by simp) ?_ ?_ ?_
    · simp only [List.map_toArray, List.map_cons, List.map_nil, Act.eval, h44, h47]
      exact S.wr x w hI.st.1
    · intro w1 hs hg; exact ⟨hs, hI.st.2.grow hg (fun e => S.ne (by injection e))⟩
    · intro A c w1 ho; exact ⟨A, c, rfl, S.eB ▸ ho⟩
  refine ⟨?_, ?_⟩
  · intro a w b1 b2 h1 h2 hl hI hF hd
    refine askM_d (by decide) (by decide) ?_
    exact step_move (guard_none rfl) rfl _ rfl ((hF.other 9 rfl).trans S.v9)
  refine ⟨?_, ?_⟩
  · intro a w b1 b2 h1 h2 hl hI hF hd
    refine askM_d (by decide) (by decide) ?_
    exact step_move (guard_none rfl) rfl _ rfl ((hF.other 0 rfl).trans S.v0)
  refine ⟨?_, ?_⟩
  · intro a w b1 b2 h1 h2 hl hI hF hd
    refine askM_d (by decide) (by decide) ?_
    exact step_move (guard_none rfl) rfl _ rfl ((hF.other 8 rfl).trans S.v8)
  refine ⟨?_, ?_⟩
  · intro a w b1 b2 h1 h2 hl hI hF hd
    refine askM_d (by decide) (by decide) ?_
    have h50 : a.tmps.getD 50 undef = .string F := hd.1 rfl
    have h51 : a.tmps.getD 51 undef = .int .i64 q := hd.2.1 rfl
    exact rf_cutF (guard_none rfl) rfl _ _ (q : Int) rfl F h50 h51 (by omega) (by have := S.ql; omega) (by rw [Int.toNat_natCast]) rfl
  refine ⟨?_, ?_⟩
  · intro a w b1 b2 h1 h2 hl hI hF hd
    refine askM_2 (by decide) rfl ?_
    have h49 : a.tmps.getD 49 undef = .pointer (some ⟨y, 0, none⟩) := hd.1 rfl
    have h52 : a.tmps.getD 52 undef = .string (F.extract q F.size) := hd.2.1 rfl
    obtain ⟨rfl, rfl⟩ := h2 rfl
    refine stepL_wrote (g := y) (R := 58) (os := os) (r := r2) (b := n2) (guard_none rfl) rfl _ _ (rf_call_run Try.func13 (by kernel_rfl) (by kernel_rfl) _ _ rfl) hI (by simp) ?_ ?_ ?_
    · simp only [List.map_toArray, List.map_cons, List.map_nil, Act.eval, h49, h52]
      exact S.wr y w hI.st.2
    · intro w1 hs hg; exact ⟨hI.st.1.grow hg (fun e => S.ne (by injection e with e; exact e.symm)), hs⟩
    · intro A c w1 ho; exact ⟨A, c, rfl, S.eB ▸ ho⟩
  refine ⟨?_, ?_⟩
  · intro a w b1 b2 h1 h2 hl hI hF hd
    refine askM_d (by decide) (by decide) ?_
    obtain ⟨A48, c48, h48, p48⟩ : rowF B os.length os (a.tmps.getD 48 undef) w := hd.1 rfl
    obtain ⟨A53, c53, h53, p53⟩ : rowF B os.length os (a.tmps.getD 53 undef) w := hd.2.1 rfl
    refine step_call (guard_none rfl) rfl _ _ (rf_call_run Try.func15 (by kernel_rfl) (by kernel_rfl) _ _ rfl) ?_
    simp only [List.map_toArray, List.map_cons, List.map_nil, Act.eval, h48, h53]
    exact (sameops_any _ _ os.length _ _ os _ (p48.ops) (p53.ops) S.bo).mono (by rintro e w1 ⟨rfl, hb⟩; exact ⟨_, rfl, hb, rfl⟩)
  refine ⟨?_, ?_⟩
  · intro a w b1 b2 h1 h2 hl hI hF hd
    refine askM_d (by decide) (by decide) ?_
    have h54 : a.tmps.getD 54 undef = .bool true := hd.1 rfl
    exact step_not (guard_none rfl) rfl _ _ rfl h54 rfl
  refine ⟨?_, ?_⟩
  · intro a w b1 b2 h1 h2 hl hI hF hd
    refine askM_d (by decide) (by decide) ?_
    have h55 : a.tmps.getD 55 undef = .bool false := hd.1 rfl
    exact step_move (guard_none rfl) rfl _ rfl h55
  refine ⟨?_, ?_⟩
  · intro a w b1 b2 h1 h2 hl hI hF hd
    refine askM_d (by decide) (by decide) ?_
    have h56 : a.tmps.getD 56 undef = .bool false := hd.1 rfl
    exact step_move (rf_open false rfl rfl h56) rfl _ rfl ((hF.other 7 rfl).trans S.v7)
  refine ⟨?_, ?_⟩
  · intro a w b1 b2 h1 h2 hl hI hF hd
    refine askM_d (by decide) (by decide) ?_
    have h56 : a.tmps.getD 56 undef = .bool false := hd.2.1 rfl
    have h57 : a.tmps.getD 57 undef = .pointer (some ⟨x, 0, none⟩) := hd.1 rfl
    obtain ⟨rfl, hb2⟩ := hl (by decide)
    obtain rfl := hb2 (by decide)
    refine step_call (rf_open false rfl rfl h56) rfl _ _ (rf_call_run Try.func16 (by kernel_rfl) (by kernel_rfl) _ _ rfl) ?_
    simp only [List.map_toArray, List.map_cons, List.map_nil, Act.eval, h57]
    exact (waits_any x r2 n2 _ hI.st.1 S.rl).mono (by rintro e w1 ⟨rfl, hb⟩; exact ⟨_, rfl, hb, rfl⟩)
  refine ⟨?_, ?_⟩
  · intro a w b1 b2 h1 h2 hl hI hF hd
    refine askM_d (by decide) (by decide) ?_
    have h56 : a.tmps.getD 56 undef = .bool false := hd.1 rfl
    exact step_move (rf_open false rfl rfl h56) rfl _ rfl ((hF.other 9 rfl).trans S.v9)
  refine ⟨?_, ?_⟩
  · intro a w b1 b2 h1 h2 hl hI hF hd
    refine askM_d (by decide) (by decide) ?_
    have h56 : a.tmps.getD 56 undef = .bool false := hd.2.2.1 rfl
    have h59 : a.tmps.getD 59 undef = .pointer (some ⟨y, 0, none⟩) := hd.1 rfl
    obtain ⟨rfl, hb2⟩ := hl (by decide)
    obtain rfl := hb2 (by decide)
    refine step_call (rf_open false rfl rfl h56) rfl _ _ (rf_call_run Try.func16 (by kernel_rfl) (by kernel_rfl) _ _ rfl) ?_
    simp only [List.map_toArray, List.map_cons, List.map_nil, Act.eval, h59]
    exact (waits_any y r2 n2 _ hI.st.2 S.rl).mono (by rintro e w1 ⟨rfl, hb⟩; exact ⟨_, rfl, hb, rfl⟩)
  refine ⟨?_, ?_⟩
  · intro a w b1 b2 h1 h2 hl hI hF hd
    refine askM_d (by decide) (by decide) ?_
    have h56 : a.tmps.getD 56 undef = .bool false := hd.2.2.1 rfl
    have h58 : a.tmps.getD 58 undef = .string (txt r2) := hd.1 rfl
    have h60 : a.tmps.getD 60 undef = .string (txt r2) := hd.2.1 rfl
    exact rf_neS (rf_open false rfl rfl h56) rfl _ _ rfl _ h58 h60 rfl
  refine ⟨?_, ?_⟩
  · intro a w b1 b2 h1 h2 hl hI hF hd
    refine askM_d (by decide) (by decide) ?_
    have h56 : a.tmps.getD 56 undef = .bool false := hd.1 rfl
    have h61 : a.tmps.getD 61 undef = .bool false := hd.2.1 rfl
    exact rf_pick (guard_none rfl) rfl _ _ _ rfl false h56 h61
  refine ⟨?_, ?_⟩
  · intro a w b1 b2 h1 h2 hl hI hF hd
    refine askM_d (by decide) (by decide) ?_
    have h62 : a.tmps.getD 62 undef = .bool false := hd.1 rfl
    exact step_move (guard_none rfl) rfl _ rfl h62
  refine ⟨?_, ?_⟩
  · intro a w b1 b2 h1 h2 hl hI hF hd
    refine askM_d (by decide) (by decide) ?_
    have h63 : a.tmps.getD 63 undef = .bool false := hd.1 rfl
    exact step_move (rf_open false rfl rfl h63) rfl _ rfl ((hF.other 7 rfl).trans S.v7)
  refine ⟨?_, ?_⟩
  · intro a w b1 b2 h1 h2 hl hI hF hd
    refine askM_d (by decide) (by decide) ?_
    have h63 : a.tmps.getD 63 undef = .bool false := hd.2.1 rfl
    have h64 : a.tmps.getD 64 undef = .pointer (some ⟨x, 0, none⟩) := hd.1 rfl
    obtain ⟨rfl, hb2⟩ := hl (by decide)
    obtain rfl := hb2 (by decide)
    refine step_call (rf_open false rfl rfl h63) rfl _ _ (rf_call_run Try.func17 (by kernel_rfl) (by kernel_rfl) _ _ rfl) ?_
    simp only [List.map_toArray, List.map_cons, List.map_nil, Act.eval, h64]
    exact (badn_any x r2 n2 _ hI.st.1).mono (by rintro e w1 ⟨rfl, rfl⟩; exact ⟨_, rfl, Below.refl _ _, rfl⟩)
  refine ⟨?_, ?_⟩
  · intro a w b1 b2 h1 h2 hl hI hF hd
    refine askM_d (by decide) (by decide) ?_
    have h63 : a.tmps.getD 63 undef = .bool false := hd.1 rfl
    exact step_move (rf_open false rfl rfl h63) rfl _ rfl ((hF.other 9 rfl).trans S.v9)
  refine ⟨?_, ?_⟩
  · intro a w b1 b2 h1 h2 hl hI hF hd
    refine askM_d (by decide) (by decide) ?_
    have h63 : a.tmps.getD 63 undef = .bool false := hd.2.2.1 rfl
    have h66 : a.tmps.getD 66 undef = .pointer (some ⟨y, 0, none⟩) := hd.1 rfl
    obtain ⟨rfl, hb2⟩ := hl (by decide)
    obtain rfl := hb2 (by decide)
    refine step_call (rf_open false rfl rfl h63) rfl _ _ (rf_call_run Try.func17 (by kernel_rfl) (by kernel_rfl) _ _ rfl) ?_
    simp only [List.map_toArray, List.map_cons, List.map_nil, Act.eval, h66]
    exact (badn_any y r2 n2 _ hI.st.2).mono (by rintro e w1 ⟨rfl, rfl⟩; exact ⟨_, rfl, Below.refl _ _, rfl⟩)
  refine ⟨?_, ?_⟩
  · intro a w b1 b2 h1 h2 hl hI hF hd
    refine askM_d (by decide) (by decide) ?_
    have h63 : a.tmps.getD 63 undef = .bool false := hd.2.2.1 rfl
    have h65 : a.tmps.getD 65 undef = .int .i64 n2 := hd.1 rfl
    have h67 : a.tmps.getD 67 undef = .int .i64 n2 := hd.2.1 rfl
    exact rf_neq (rf_open false rfl rfl h63) rfl _ _ rfl _ _ h65 h67 false (by simp) rfl
  trivial
set_option maxRecDepth 100000 in
theorem lo11_any {Q : Exit → Act → World → Prop} {l : List Oper} (hl : opsOf 11 Try.f6 = l) (hend : ∀ (A48 : Option Addr) (c48 : Nat), ∀ (A53 : Option Addr) (c53 : Nat), ∀ w : World, MI [x, y] (fun p p' w => Has w x 58 (if p then scC r2 n2 else scC r1 n1) ∧ Has w y 58 (if p' then scC r2 n2 else scC r1 n1)) w0 true true w → OwnO w B (.slice A48 os.length c48) os → OwnO w B (.slice A53 os.length c53) os → wpList Try.prog l.toArray Q (l.drop 25) (putAll a0 [(44, .pointer (some ⟨x, 0, none⟩)), (45, .string F), (46, .int .i64 q), (47, .string (F.extract q F.size)), (48, .slice A48 os.length c48), (49, .pointer (some ⟨y, 0, none⟩)), (50, .string F), (51, .int .i64 q), (52, .string (F.extract q F.size)), (53, .slice A53 os.length c53), (54, .bool true), (55, .bool false), (56, .bool false), (57, .pointer (some ⟨x, 0, none⟩)), (58, .string (txt r2)), (59, .pointer (some ⟨y, 0, none⟩)), (60, .string (txt r2)), (61, .bool false), (62, .bool false), (63, .bool false), (64, .pointer (some ⟨x, 0, none⟩)), (65, .int .i64 n2), (66, .pointer (some ⟨y, 0, none⟩)), (67, .int .i64 n2), (68, .bool false)]) w) :
    (Code.region 11 l.toArray true).wp Try.prog Q a0 w0 := by
  subst hl
  refine region_twoL [x, y] (fun p p' w => Has w x 58 (if p then scC r2 n2 else scC r1 n1) ∧ Has w y 58 (if p' then scC r2 n2 else scC r1 n1)) 4 9 (lo11F _ _ _ _ _ _ _ _ _ _) lo11D 25 84 S.size rfl (by kernel_rfl) (by kernel_rfl) (by kernel_rfl) [10, 11, 12, 13, 14, 15, 16, 17, 18, 19, 20, 21, 22, 23, 24] (by kernel_rfl) (by omega) (by omega) (by kernel_rfl) (fun _ _ w w' h hb => ⟨h.1.below hb h.1.lt, h.2.below hb h.2.lt⟩) (⟨S.sx, S.sy⟩) (lo11F_mono _ _ _ _ _ _ _ _ _ _) (lo11F_monoS S) (lo11_ok S) fun a w hI hF h => ?_
  obtain ⟨A48, c48, h48, p48⟩ : rowF B os.length os (a.tmps.getD 48 undef) w := h 4 (some 48) (by omega) rfl
  obtain ⟨A53, c53, h53, p53⟩ : rowF B os.length os (a.tmps.getD 53 undef) w := h 9 (some 53) (by omega) rfl
  have hv : valsAre a [(44, .pointer (some ⟨x, 0, none⟩)), (45, .string F), (46, .int .i64 q), (47, .string (F.extract q F.size)), (48, .slice A48 os.length c48), (49, .pointer (some ⟨y, 0, none⟩)), (50, .string F), (51, .int .i64 q), (52, .string (F.extract q F.size)), (53, .slice A53 os.length c53), (54, .bool true), (55, .bool false), (56, .bool false), (57, .pointer (some ⟨x, 0, none⟩)), (58, .string (txt r2)), (59, .pointer (some ⟨y, 0, none⟩)), (60, .string (txt r2)), (61, .bool false), (62, .bool false), (63, .bool false), (64, .pointer (some ⟨x, 0, none⟩)), (65, .int .i64 n2), (66, .pointer (some ⟨y, 0, none⟩)), (67, .int .i64 n2), (68, .bool false)] := by
    refine ⟨?_, ?_, ?_, ?_, ?_, ?_, ?_, ?_, ?_, ?_, ?_, ?_, ?_, ?_, ?_, ?_, ?_, ?_, ?_, ?_, ?_, ?_, ?_, ?_, ?_, trivial⟩
    · exact h 0 (some 44) (by omega) rfl
    · exact h 1 (some 45) (by omega) rfl
    · exact h 2 (some 46) (by omega) rfl
    · exact h 3 (some 47) (by omega) rfl
    · exact h48
    · exact h 5 (some 49) (by omega) rfl
    · exact h 6 (some 50) (by omega) rfl
    · exact h 7 (some 51) (by omega) rfl
    · exact h 8 (some 52) (by omega) rfl
    · exact h53
    · exact h 10 (some 54) (by omega) rfl
    · exact h 11 (some 55) (by omega) rfl
    · exact h 12 (some 56) (by omega) rfl
    · exact h 13 (some 57) (by omega) rfl
    · exact h 14 (some 58) (by omega) rfl
    · exact h 15 (some 59) (by omega) rfl
    · exact h 16 (some 60) (by omega) rfl
    · exact h 17 (some 61) (by omega) rfl
    · exact h 18 (some 62) (by omega) rfl
    · exact h 19 (some 63) (by omega) rfl
    · exact h 20 (some 64) (by omega) rfl
    · exact h 21 (some 65) (by omega) rfl
    · exact h 22 (some 66) (by omega) rfl
    · exact h 23 (some 67) (by omega) rfl
    · exact h 24 (some 68) (by omega) rfl
  rw [frame_is hF _ hv (by rfl) (by rfl)]
  exact hend A48 c48 A53 c53 w hI p48 p53
end

end Go.Proofs.Ytoechlmahckchaa
