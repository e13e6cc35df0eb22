/-
  ScanFalse's drawn end (written by gen/scfalse.py).
-/
import Derived.Test.YtoechlmahckchaaRf
import Derived.Test.YtoechlmahckchaaScTwo
namespace Go.Proofs.Ytoechlmahckchaa
open Go.RowKit

def sf21D : List (Option Tmp) := [some 65, some 66, some 67, some 68, some 69, some 70, some 71, some 72, some 73, some 74, some 75, some 4]
def sf21F (z : Po) (_xs : List Po) (F : ByteArray) (A : Option Addr) (B c gl _g y : Nat) : List Fact := [isV (.slice A 3 c), isV (.slice (some ⟨gl, 0, none⟩) 3 3), isV (.bool true), isV (.bool true), isV (.pointer (some ⟨y, 0, none⟩)), isV (.string F), rowF B 1 [z], isV (.agg #[.int .i64 z.k, .int .i64 z.so, .int .i64 z.se, .int .i64 z.ti, .int .i64 z.va]), rowsG B 1 [z], isV (.bool true), isV (.bool true)]
theorem sf21F_mono (z : Po) (xs : List Po) (F : ByteArray) (A : Option Addr) (B c gl g y : Nat) : ∀ φ ∈ sf21F z xs F A B c gl g y, Mono φ := by
  unfold sf21F
  repeat (first | exact monos_nil | (refine monos_cons (mono_isV _) ?_) | (refine monos_cons (rowF_mono _ _ _) ?_) | (refine monos_cons (rowsG_mono _ _ _) ?_))
structure sf21S (z : Po) (xs : List Po) (F : ByteArray) (A : Option Addr) (B c gl g y : Nat) (a0 : Act) (w0 : World) : Prop where
  size : a0.tmps.size = 76
  v2 : a0.tmps.getD 2 undef = .pointer (some ⟨g, 0, none⟩)
  v6 : a0.tmps.getD 6 undef = .pointer (some ⟨y, 0, none⟩)
  v7 : a0.tmps.getD 7 undef = .string F
  v13 : a0.tmps.getD 13 undef = .slice A 3 c
  v14 : a0.tmps.getD 14 undef = .slice (some ⟨gl, 0, none⟩) 3 3
  eB : w0.heap.size = B
  yB : y < B
  oa : Ops w0 A 3 xs
  na : ∀ ad, A = some ad → ad.block ≠ y
  ol : Ops w0 (some ⟨gl, 0, none⟩) 3 xs
  nl : gl ≠ y
  box : Has w0 g 49 (opC z)
  nb : g ≠ y
  sc : Has w0 y 58 (scC [] 0)
  wr : ∀ w : World, Has w y 58 (scC [] 0) → Calls Try.prog 13 #[.pointer (some ⟨y, 0, none⟩), .string F] w fun e w' => WroteO y 58 [z] [] 0 e w w'
section
variable {z : Po} {xs : List Po} {F : ByteArray} {A : Option Addr} {B c gl g y : Nat} {a0 : Act} {w0 : World} (S : sf21S z xs F A B c gl g y a0 w0)
include S
theorem sf21_gB : ∀ g ∈ ([y] : List Nat), g < B := by
  intro g hg
  obtain rfl : g = y := by simpa using hg
  exact S.yB
theorem sf21F_monoS : ∀ φ ∈ sf21F z xs F A B c gl g y, MonoS [y] φ := by
  unfold sf21F
  repeat (first | exact allS_nil _ | (refine allS_cons (isV_monoS _ _) ?_) | (refine allS_cons (rowF_monoS (sf21_gB S) _ _) ?_) | (refine allS_cons (rowsG_monoS (sf21_gB S) _ _) ?_))
set_option maxRecDepth 100000 in
set_option maxHeartbeats 8000000 in
theorem sf21_ok : AllOps (fun j o => ∀ (a : Act) (w : World) (b1 b2 : Bool), (j = 6 → b1 = false ∧ b2 = false) → (j = 1000 → b1 = true ∧ b2 = false) → MI [y] (fun _ _ w => Has w y 58 (scC [] 0)) w0 b1 b2 w → FrD (sf21D.take 11) a0 a → needs sf21D (sf21F z xs F A B c gl g y) a w o.after.toList → AskM Try.prog sf21D (factAt (sf21F z xs F A B c gl g y) j) (ButS [y]) (ButS [y]) (MI [y] (fun _ _ w => Has w y 58 (scC [] 0)) w0) 6 1000 j o a w) 0 ((opsOf 21 Try.f7).take 11) := by
  simp only [opsOf, Try.f7, opsAt, Option.bind, Option.or, Option.getD, reduceCtorEq, if_true, if_false, Nat.reduceEqDiff, List.take_succ_cons, List.take_zero]
  refine ⟨?_, ?_⟩
  · intro a w b1 b2 h1 h2 hI hF hd
    refine askM_d (by decide) (by decide) ?_
    exact step_move (guard_none rfl) rfl _ rfl ((hF.other 13 rfl).trans S.v13)
  refine ⟨?_, ?_⟩
  · intro a w b1 b2 h1 h2 hI hF hd
    refine askM_d (by decide) (by decide) ?_
    exact step_move (guard_none rfl) rfl _ rfl ((hF.other 14 rfl).trans S.v14)
  refine ⟨?_, ?_⟩
  · intro a w b1 b2 h1 h2 hI hF hd
    refine askM_d (by decide) (by decide) ?_
    have h65 : a.tmps.getD 65 undef = .slice A 3 c := hd.1 rfl
    have h66 : a.tmps.getD 66 undef = .slice (some ⟨gl, 0, none⟩) 3 3 := hd.2.1 rfl
    refine step_call (guard_none rfl) rfl _ _ (rf_call_run Try.func15 (by kernel_rfl) (by kernel_rfl) _ _ rfl) ?_
    simp only [List.map_toArray, List.map_cons, List.map_nil, Act.eval, h65, h66]
    exact (sameops_any _ _ 3 _ _ xs _ (S.oa.butS hI.gr (fun ad he => by simpa using S.na ad he)) (S.ol.butS hI.gr (fun ad he => by injection he with he; subst he; simpa using S.nl)) (by omega)).mono (by rintro e w1 ⟨rfl, hb⟩; exact ⟨_, rfl, hb, rfl⟩)
  refine ⟨?_, ?_⟩
  · intro a w b1 b2 h1 h2 hI hF hd
    refine askM_d (by decide) (by decide) ?_
    have h67 : a.tmps.getD 67 undef = .bool true := hd.1 rfl
    exact step_move (guard_none rfl) rfl _ rfl h67
  refine ⟨?_, ?_⟩
  · intro a w b1 b2 h1 h2 hI hF hd
    refine askM_d (by decide) (by decide) ?_
    have h68 : a.tmps.getD 68 undef = .bool true := hd.1 rfl
    exact step_move (rf_open true rfl rfl h68) rfl _ rfl ((hF.other 6 rfl).trans S.v6)
  refine ⟨?_, ?_⟩
  · intro a w b1 b2 h1 h2 hI hF hd
    refine askM_d (by decide) (by decide) ?_
    have h68 : a.tmps.getD 68 undef = .bool true := hd.1 rfl
    exact step_move (rf_open true rfl rfl h68) rfl _ rfl ((hF.other 7 rfl).trans S.v7)
  refine ⟨?_, ?_⟩
  · intro a w b1 b2 h1 h2 hI hF hd
    refine askM_1 rfl ?_
    have h68 : a.tmps.getD 68 undef = .bool true := hd.2.2.1 rfl
    have h69 : a.tmps.getD 69 undef = .pointer (some ⟨y, 0, none⟩) := hd.1 rfl
    have h70 : a.tmps.getD 70 undef = .string F := hd.2.1 rfl
    obtain ⟨rfl, rfl⟩ := h1 rfl
    refine stepL_wrote (g := y) (R := 58) (os := [z]) (r := []) (b := 0) (rf_open true rfl rfl h68) rfl _ _ (rf_call_run Try.func13 (by kernel_rfl) (by kernel_rfl) _ _ rfl) hI (by simp) ?_ ?_ ?_
    · simp only [List.map_toArray, List.map_cons, List.map_nil, Act.eval, h69, h70]
      exact S.wr w hI.st
    · intro w1 hs hg; exact hs
    · intro A c w1 ho; exact ⟨A, c, rfl, S.eB ▸ ho⟩
  refine ⟨?_, ?_⟩
  · intro a w b1 b2 h1 h2 hI hF hd
    refine askM_d (by decide) (by decide) ?_
    have h68 : a.tmps.getD 68 undef = .bool true := hd.1 rfl
    exact rf_loadS (rf_open true rfl rfl h68) rfl _ _ rfl _ _ ((hF.other 2 rfl).trans S.v2) (opC z).toList (rf_range (S.box.butS hI.gr (by simpa using S.nb))) Try.underlying49 rfl Try.sizeOp rfl
  refine ⟨?_, ?_⟩
  · intro a w b1 b2 h1 h2 hI hF hd
    refine askM_d (by decide) (by decide) ?_
    have h68 : a.tmps.getD 68 undef = .bool true := hd.2.1 rfl
    have h72 : a.tmps.getD 72 undef = .agg #[.int .i64 z.k, .int .i64 z.so, .int .i64 z.se, .int .i64 z.ti, .int .i64 z.va] := hd.1 rfl
    exact rf_list1G (rf_open true rfl rfl h68) rfl _ rfl z h72 (S.eB ▸ hI.gr.size) (fun _ _ h => h)
  refine ⟨?_, ?_⟩
  · intro a w b1 b2 h1 h2 hI hF hd
    refine askM_d (by decide) (by decide) ?_
    have h68 : a.tmps.getD 68 undef = .bool true := hd.2.2.2.1 rfl
    obtain ⟨A71, c71, h71, p71⟩ : rowF B 1 [z] (a.tmps.getD 71 undef) w := hd.1 rfl
    obtain ⟨g73, h73, p73⟩ : rowsG B 1 [z] (a.tmps.getD 73 undef) w := hd.2.1 rfl
    refine step_call (rf_open true rfl rfl h68) rfl _ _ (rf_call_run Try.func15 (by kernel_rfl) (by kernel_rfl) _ _ rfl) ?_
    simp only [List.map_toArray, List.map_cons, List.map_nil, Act.eval, h71, h73]
    exact (sameops_any _ _ 1 _ _ [z] _ (p71.ops) (p73.2) (by omega)).mono (by rintro e w1 ⟨rfl, hb⟩; exact ⟨_, rfl, hb, rfl⟩)
  refine ⟨?_, ?_⟩
  · intro a w b1 b2 h1 h2 hI hF hd
    refine askM_d (by decide) (by decide) ?_
    have h68 : a.tmps.getD 68 undef = .bool true := hd.1 rfl
    have h74 : a.tmps.getD 74 undef = .bool true := hd.2.1 rfl
    exact rf_pick (guard_none rfl) rfl _ _ _ rfl true h68 h74
  trivial
set_option maxRecDepth 100000 in
theorem sf21_any {Q : Exit → Act → World → Prop} {l : List Oper} (hl : opsOf 21 Try.f7 = l) (hend : ∀ (A71 : Option Addr) (c71 : Nat), ∀ (g73 : Nat), ∀ w : World, MI [y] (fun _ _ w => Has w y 58 (scC [] 0)) w0 true false w → OwnO w B (.slice A71 1 c71) [z] → (B ≤ g73 ∧ Ops w (some ⟨g73, 0, none⟩) 1 [z]) → wpList Try.prog l.toArray Q (l.drop 11) (putAll a0 [(65, .slice A 3 c), (66, .slice (some ⟨gl, 0, none⟩) 3 3), (67, .bool true), (68, .bool true), (69, .pointer (some ⟨y, 0, none⟩)), (70, .string F), (71, .slice A71 1 c71), (72, .agg #[.int .i64 z.k, .int .i64 z.so, .int .i64 z.se, .int .i64 z.ti, .int .i64 z.va]), (73, .slice (some ⟨g73, 0, none⟩) 1 1), (74, .bool true), (75, .bool true)]) w) :
    (Code.region 21 l.toArray true).wp Try.prog Q a0 w0 := by
  subst hl
  refine region_two [y] (fun _ _ w => Has w y 58 (scC [] 0)) 6 1000 (sf21F _ _ _ _ _ _ _ _ _) sf21D 11 76 S.size rfl (by kernel_rfl) (by kernel_rfl) (by kernel_rfl) (by omega) (by omega) (by kernel_rfl) (fun _ _ w w' h hb => h.below hb h.lt) (S.sc) (sf21F_mono _ _ _ _ _ _ _ _ _) (sf21F_monoS S) (sf21_ok S) fun a w hI hF h => ?_
  obtain ⟨A71, c71, h71, p71⟩ : rowF B 1 [z] (a.tmps.getD 71 undef) w := h 6 (some 71) (by omega) rfl
  obtain ⟨g73, h73, p73⟩ : rowsG B 1 [z] (a.tmps.getD 73 undef) w := h 8 (some 73) (by omega) rfl
  have hv : valsAre a [(65, .slice A 3 c), (66, .slice (some ⟨gl, 0, none⟩) 3 3), (67, .bool true), (68, .bool true), (69, .pointer (some ⟨y, 0, none⟩)), (70, .string F), (71, .slice A71 1 c71), (72, .agg #[.int .i64 z.k, .int .i64 z.so, .int .i64 z.se, .int .i64 z.ti, .int .i64 z.va]), (73, .slice (some ⟨g73, 0, none⟩) 1 1), (74, .bool true), (75, .bool true)] := by
    refine ⟨?_, ?_, ?_, ?_, ?_, ?_, ?_, ?_, ?_, ?_, ?_, trivial⟩
    · exact h 0 (some 65) (by omega) rfl
    · exact h 1 (some 66) (by omega) rfl
    · exact h 2 (some 67) (by omega) rfl
    · exact h 3 (some 68) (by omega) rfl
    · exact h 4 (some 69) (by omega) rfl
    · exact h 5 (some 70) (by omega) rfl
    · exact h71
    · exact h 7 (some 72) (by omega) rfl
    · exact h73
    · exact h 9 (some 74) (by omega) rfl
    · exact h 10 (some 75) (by omega) rfl
  rw [frame_is hF _ hv (by rfl) (by rfl)]
  exact hend A71 c71 g73 w hI p71 p73
end

end Go.Proofs.Ytoechlmahckchaa
