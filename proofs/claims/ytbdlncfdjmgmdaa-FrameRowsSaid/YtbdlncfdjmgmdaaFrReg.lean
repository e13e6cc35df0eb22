/-
  FrameForms' drawn region (the eight texts that are no frame): its facts, one by one.
-/
import Derived.Test.YtbdlncfdjmgmdaaRf
import Derived.Test.YtbdlncfdjmgmdaaFrRow
import Derived.Great.BuildSlice
namespace Go.Proofs.Ytbdlncfdjmgmdaa
open Go.RowKit

/-- The eight texts. -/
def badS : List ByteArray := [⟨#[97]⟩, ⟨#[3, 97, 98, 99, 130, 202]⟩, ⟨#[181, 0]⟩, ⟨#[181, 61]⟩, ⟨#[181, 255]⟩, ⟨#[181, 3, 97, 98, 99, 130, 203]⟩, ⟨#[181, 3, 97, 98, 100, 130, 202]⟩, ⟨#[181, 181, 3, 97, 98, 99, 130, 202]⟩]
/-- A row of one byte of the call's own. -/
def outB (c : UInt8) : Fact := fun v w => ∃ g, v = .slice (some ⟨g, 0, none⟩) 1 1 ∧ w.cell? ⟨g, 0, none⟩ = some (.int .u8 c.toNat)
/-- A row of texts. -/
def outL : Fact := fun v w => ∃ g, v = .slice (some ⟨g, 0, none⟩) 8 8 ∧ ∀ i s, badS[i]? = some s → w.cell? ⟨g, i, none⟩ = some (.string s)
theorem lt_of_cell {w : World} {g i : Nat} {v : Value} (h : w.cell? ⟨g, i, none⟩ = some v) : g < w.heap.size := block_lt_of_cell h
theorem mono_outB (c : UInt8) : Mono (outB c) := fun _ _ _ hb ⟨g, e, h⟩ => ⟨g, e, (hb.cell (lt_of_cell h)).trans h⟩
theorem mono_outL : Mono outL := fun _ _ _ hb ⟨g, e, h⟩ => ⟨g, e, fun i s hs => (hb.cell (lt_of_cell (h i s hs))).trans (h i s hs)⟩

def S7 : Value := .string ⟨#[181, 3, 97, 98, 99, 130, 202]⟩
def fr8D : List (Option Tmp) := [some 54, some 55, some 56, some 57, some 58, some 59, some 60, some 61, some 62, some 63, some 64, some 65, some 66, some 67, some 68, some 69, some 11]
def fr8F : List Fact := [isV S7, isV (.string ⟨#[3, 97, 98, 99, 130, 202]⟩), isV S7, isV (.string ⟨#[181, 3, 97, 98, 99, 130]⟩), isV S7, isV (.int .u8 202), isV (.int .u8 203), outB 203, isV (.string ⟨#[203]⟩), isV (.string ⟨#[181, 3, 97, 98, 99, 130, 203]⟩), isV S7, isV (.string ⟨#[130, 202]⟩), isV (.string ⟨#[181, 3, 97, 98, 100, 130, 202]⟩), isV S7, isV (.string ⟨#[181, 181, 3, 97, 98, 99, 130, 202]⟩), outL, outL]
theorem fr8F_mono : ∀ φ ∈ fr8F, Mono φ := by
  unfold fr8F
  repeat (first | exact monos_nil | (refine monos_cons (mono_isV _) ?_) | (refine monos_cons (mono_outB _) ?_) | (refine monos_cons mono_outL ?_))
structure fr8S (a0 : Act) (w0 : World) : Prop where
  size : a0.tmps.size = 144
  v5 : a0.tmps.getD 5 undef = S7
section
variable {P : Program} {D : List (Option Tmp)} {Φ : Fact} {o : Oper} {a : Act} {w : World}
theorem rf_cutFrom (hw : Region.wanted o (yieldD D a.tmps) = true) {t : Tmp} (hd : o.dst = some t) (x : Operand) (l : Int) (ho : o.op = .slice 9 x (some (.const (.int .i64 l))) none none) (s : ByteArray) (hx : a.eval x = .string s) (h0 : 0 ≤ l) (h1 : l ≤ s.size) {v : Value} (hv : .string (s.extract l.toNat s.size) = v) (h : Φ v w) : StepD Try.prog D Φ o a w :=
  step_val hw hd v w (by subst hv; unfold execOp; rw [ho]; have e := run_slice_string_l (P := Try.prog) w 9 s Try.underlying9 .i64 l h0 h1; have hk : a.eval (.const (.int .i64 l)) = .int .i64 l := rfl; generalize a.eval = ev at hx hk ⊢; simp [hx, hk, e, go_sem]) (Below.refl _ _) h
theorem rf_cutTo (hw : Region.wanted o (yieldD D a.tmps) = true) {t : Tmp} (hd : o.dst = some t) (x : Operand) (l : Int) (ho : o.op = .slice 9 x none (some (.const (.int .i64 l))) none) (s : ByteArray) (hx : a.eval x = .string s) (h0 : 0 ≤ l) (h1 : l ≤ s.size) {v : Value} (hv : .string (s.extract 0 l.toNat) = v) (h : Φ v w) : StepD Try.prog D Φ o a w :=
  step_val hw hd v w (by subst hv; unfold execOp; rw [ho]; have e := run_slice_string_h (P := Try.prog) w 9 s Try.underlying9 .i64 l h0 h1; have hk : a.eval (.const (.int .i64 l)) = .int .i64 l := rfl; generalize a.eval = ev at hx hk ⊢; simp [hx, hk, e, go_sem]) (Below.refl _ _) h
theorem rf_addS (hw : Region.wanted o (yieldD D a.tmps) = true) {t : Tmp} (hd : o.dst = some t) (x y : Operand) (ho : o.op = .binOp .add 9 x y 9) (p q : ByteArray) (hx : a.eval x = .string p) (hy : a.eval y = .string q) (h0 : p.size + q.size ≤ 1000) {v : Value} (hv : .string (p ++ q) = v) (h : Φ v w) : StepD Try.prog D Φ o a w :=
  step_val hw hd v w (by subst hv; unfold execOp; rw [ho]; have e := run_string_add_sum (P := Try.prog) w p q (by omega); generalize a.eval = ev at hx hy ⊢; simp [hx, hy, e, go_sem]) (Below.refl _ _) h
theorem rf_idx (hw : Region.wanted o (yieldD D a.tmps) = true) {t : Tmp} (hd : o.dst = some t) (x : Operand) (l : Int) (ho : o.op = .index 9 x (.const (.int .i64 l))) (s : ByteArray) (hx : a.eval x = .string s) (h0 : 0 ≤ l ∧ l < s.size) {v : Value} (hv : .int .u8 ((s[l.toNat]'(by omega)).toNat : Int) = v) (h : Φ v w) : StepD Try.prog D Φ o a w :=
  step_val hw hd v w (by
    subst hv; unfold execOp; rw [ho]
    have e := run_index_string (P := Try.prog) w 9 s .i64 l Try.underlying9
    rw [dif_pos h0] at e
    have hk : a.eval (.const (.int .i64 l)) = .int .i64 l := rfl
    generalize a.eval = ev at hx hk ⊢
    simp only [hx, hk, Sem.run_bind, e, Result.andThen_ok]
    rfl) (Below.refl _ _) h
theorem rf_xor8 (hw : Region.wanted o (yieldD D a.tmps) = true) {t : Tmp} (hd : o.dst = some t) (x : Operand) (l : Int) (ho : o.op = .binOp .xor 5 x (.const (.int .u8 l)) 5) (p : Int) (hx : a.eval x = .int .u8 p) {v : Value} (hv : .int .u8 (bits .xor .u8 p l) = v) (h : Φ v w) : StepD Try.prog D Φ o a w :=
  step_val hw hd v w (by
    subst hv; unfold execOp; rw [ho]
    have hk : a.eval (.const (.int .u8 l)) = .int .u8 l := rfl
    generalize a.eval = ev at hx hk ⊢
    simp [hx, hk, go_sem]) (Below.refl _ _) h
theorem Try.vinfoStr : (Try.prog.info? 9).map (fun i => (i.zero, i.size, i.bytes)) = some (some (.string ⟨#[]⟩), 1, 16) := by kernel_rfl
theorem xor_203 : bits .xor .u8 202 1 = 203 := by decide +kernel
theorem rf_conv (hw : Region.wanted o (yieldD D a.tmps) = true) {t : Tmp} (hd : o.dst = some t) (x : Operand) (ho : o.op = .convert 36 9 x) (g : Nat) (c : UInt8) (hx : a.eval x = .slice (some ⟨g, 0, none⟩) 1 1) (hc : w.cell? ⟨g, 0, none⟩ = some (.int .u8 c.toNat)) {v : Value} (hv : .string ⟨#[c]⟩ = v) (h : Φ v w) : StepD Try.prog D Φ o a w :=
  step_val hw hd v w (by
    subst hv; unfold execOp; rw [ho]
    have e := run_convert_bytes_back w 36 9 5 ⟨g, 0, none⟩ 1 [c] Try.underlying36 Try.underlying5 Try.underlying9 (fun j hj => by
      obtain rfl : j = 0 := by simpa using hj
      exact hc)
    simp only [List.length_cons, List.length_nil, Nat.zero_add] at e
    generalize a.eval = ev at hx ⊢
    simp only [hx, Sem.run_bind, e, Result.andThen_ok]
    rfl) (Below.refl _ _) h
theorem row_cell (w : World) (cs : Array Value) (e : TypeId) (i : Nat) : (w.alloc (.cells cs e)).cell? ⟨w.heap.size, i, none⟩ = cs[i]? := by
  unfold World.cell?
  rw [heap_alloc_new w (.cells cs e)]
  simp
theorem rf_build1 (hw : Region.wanted o (yieldD D a.tmps) = true) {t : Tmp} (hd : o.dst = some t) (x : Operand) (ho : o.op = .buildSlice 36 1 #[(0, x)]) (c : UInt8) (hx : a.eval x = .int .u8 c.toNat) (h : ∀ v w', outB c v w' → Φ v w') : StepD Try.prog D Φ o a w := by
  obtain ⟨i0, hi, hz, hs0, hy0⟩ := info_parts Try.vinfoByte
  have e := run_buildSlice (P := Try.prog) w 36 5 1 #[(0, .int .u8 c.toNat)] #[.int .u8 c.toNat] i0 (.int .u8 0) Try.underlying36 hi hz (by omega) (by omega) (by rw [hs0]; simp [go_sem])
  refine step_val hw hd _ (w.alloc (.cells #[.int .u8 c.toNat] 5)) ?_ ((Below.refl _ w).alloc (Nat.le_refl _) _) (h _ _ ⟨w.heap.size, rfl, ?_⟩)
  · unfold execOp
    rw [ho]
    generalize a.eval = ev at hx ⊢
    simp only [List.map_toArray, List.map_cons, List.map_nil, hx, Sem.run_bind, e, Result.andThen_ok]
    rfl
  · simp [go_sem]
end
section
variable {a0 : Act} {w0 : World} (S : fr8S a0 w0)
include S
set_option maxRecDepth 100000 in
set_option maxHeartbeats 8000000 in
theorem fr8_ok : AllOps (fun j o => ∀ (a : Act) (w : World), Below w0.heap.size w0 w → FrD fr8D a0 a → needs fr8D fr8F a w o.after.toList → StepD Try.prog fr8D (factAt fr8F j) o a w) 0 (opsOf 8 Try.f5) := by
  simp only [opsOf, Try.f5, opsAt, Option.bind, Option.or, Option.getD, reduceCtorEq, if_true, if_false, Nat.reduceEqDiff]
  refine ⟨?_, ?_⟩
  · intro _a _w _hB hF _hd
    exact step_move (guard_none rfl) rfl _ rfl ((hF.other 5 rfl).trans S.v5)
  refine ⟨?_, ?_⟩
  · intro a _w _hB _hF hd
    have h54 : a.tmps.getD 54 undef = S7 := hd.1 rfl
    exact rf_cutFrom (guard_none rfl) rfl _ 1 rfl _ h54 (by decide) (by decide) rfl rfl
  refine ⟨?_, ?_⟩
  · intro _a _w _hB hF _hd
    exact step_move (guard_none rfl) rfl _ rfl ((hF.other 5 rfl).trans S.v5)
  refine ⟨?_, ?_⟩
  · intro a _w _hB _hF hd
    have h56 : a.tmps.getD 56 undef = S7 := hd.1 rfl
    exact rf_cutTo (guard_none rfl) rfl _ 6 rfl _ h56 (by decide) (by decide) rfl rfl
  refine ⟨?_, ?_⟩
  · intro _a _w _hB hF _hd
    exact step_move (guard_none rfl) rfl _ rfl ((hF.other 5 rfl).trans S.v5)
  refine ⟨?_, ?_⟩
  · intro a w _hB _hF hd
    have h58 : a.tmps.getD 58 undef = S7 := hd.1 rfl
    exact rf_idx (guard_none rfl) rfl _ 6 rfl _ h58 (by decide) rfl rfl
  refine ⟨?_, ?_⟩
  · intro a _w _hB _hF hd
    have h59 : a.tmps.getD 59 undef = .int .u8 202 := hd.1 rfl
    exact rf_xor8 (guard_none rfl) rfl _ 1 rfl _ h59 (by rw [xor_203]) rfl
  refine ⟨?_, ?_⟩
  · intro a _w _hB _hF hd
    have h60 : a.tmps.getD 60 undef = .int .u8 203 := hd.1 rfl
    exact rf_build1 (guard_none rfl) rfl _ rfl 203 h60 (fun _ _ h => h)
  refine ⟨?_, ?_⟩
  · intro a w _hB _hF hd
    obtain ⟨g, h61, hc⟩ : outB 203 (a.tmps.getD 61 undef) w := hd.1 rfl
    exact rf_conv (guard_none rfl) rfl _ rfl g 203 h61 hc rfl rfl
  refine ⟨?_, ?_⟩
  · intro a _w _hB _hF hd
    have h57 : a.tmps.getD 57 undef = .string ⟨#[181, 3, 97, 98, 99, 130]⟩ := hd.1 rfl
    have h62 : a.tmps.getD 62 undef = .string ⟨#[203]⟩ := hd.2.1 rfl
    exact rf_addS (guard_none rfl) rfl _ _ rfl _ _ h57 h62 (by decide) rfl rfl
  refine ⟨?_, ?_⟩
  · intro _a _w _hB hF _hd
    exact step_move (guard_none rfl) rfl _ rfl ((hF.other 5 rfl).trans S.v5)
  refine ⟨?_, ?_⟩
  · intro a _w _hB _hF hd
    have h64 : a.tmps.getD 64 undef = S7 := hd.1 rfl
    exact rf_cutFrom (guard_none rfl) rfl _ 5 rfl _ h64 (by decide) (by decide) rfl rfl
  refine ⟨?_, ?_⟩
  · intro a _w _hB _hF hd
    have h65 : a.tmps.getD 65 undef = .string ⟨#[130, 202]⟩ := hd.1 rfl
    exact rf_addS (guard_none rfl) rfl _ _ rfl _ _ rfl h65 (by decide) rfl rfl
  refine ⟨?_, ?_⟩
  · intro _a _w _hB hF _hd
    exact step_move (guard_none rfl) rfl _ rfl ((hF.other 5 rfl).trans S.v5)
  refine ⟨?_, ?_⟩
  · intro a _w _hB _hF hd
    have h67 : a.tmps.getD 67 undef = S7 := hd.1 rfl
    exact rf_addS (guard_none rfl) rfl _ _ rfl _ _ rfl h67 (by decide) rfl rfl
  refine ⟨?_, ?_⟩
  · intro a w _hB _hF hd
    have h55 : a.tmps.getD 55 undef = .string ⟨#[3, 97, 98, 99, 130, 202]⟩ := hd.1 rfl
    have h63 : a.tmps.getD 63 undef = .string ⟨#[181, 3, 97, 98, 99, 130, 203]⟩ := hd.2.1 rfl
    have h66 : a.tmps.getD 66 undef = .string ⟨#[181, 3, 97, 98, 100, 130, 202]⟩ := hd.2.2.1 rfl
    have h68 : a.tmps.getD 68 undef = .string ⟨#[181, 181, 3, 97, 98, 99, 130, 202]⟩ := hd.2.2.2.1 rfl
    obtain ⟨i0, hi, hz, hs0, hy0⟩ := info_parts Try.vinfoStr
    have e := run_buildSlice (P := Try.prog) w 38 9 8 #[(0, .string ⟨#[97]⟩), (1, .string ⟨#[3, 97, 98, 99, 130, 202]⟩), (2, .string ⟨#[181, 0]⟩), (3, .string ⟨#[181, 61]⟩), (4, .string ⟨#[181, 255]⟩), (5, .string ⟨#[181, 3, 97, 98, 99, 130, 203]⟩), (6, .string ⟨#[181, 3, 97, 98, 100, 130, 202]⟩), (7, .string ⟨#[181, 181, 3, 97, 98, 99, 130, 202]⟩)] (badS.map Value.string).toArray i0 (.string ⟨#[]⟩) Try.underlying38 hi hz (by omega) (by omega) (by rw [hs0]; simp [go_sem, badS])
    refine step_val (guard_none rfl) rfl _ (w.alloc (.cells (badS.map Value.string).toArray 9)) ?_ ((Below.refl _ w).alloc (Nat.le_refl _) _) ⟨w.heap.size, rfl, ?_⟩
    · unfold execOp
      simp only [List.map_toArray, List.map_cons, List.map_nil, Act.eval, h55, h63, h66, h68, Sem.run_bind, e, Result.andThen_ok]
      rfl
    · intro i s hs
      rw [row_cell]
      simp [hs]
  refine ⟨?_, ?_⟩
  · intro a w _hB _hF hd
    have h69 : outL (a.tmps.getD 69 undef) w := hd.1 rfl
    exact step_assign (guard_none rfl) rfl _ rfl h69
  trivial
theorem fr8_any {Q : Exit → Act → World → Prop} {l : List Oper} (hl : opsOf 8 Try.f5 = l) (hend : ∀ (g61 g69 g11 : Nat), ∀ w : World, Below w0.heap.size w0 w → (∀ i s, badS[i]? = some s → w.cell? ⟨g11, i, none⟩ = some (.string s)) → Q .normal (putAll a0 [(54, S7), (55, .string ⟨#[3, 97, 98, 99, 130, 202]⟩), (56, S7), (57, .string ⟨#[181, 3, 97, 98, 99, 130]⟩), (58, S7), (59, .int .u8 202), (60, .int .u8 203), (61, .slice (some ⟨g61, 0, none⟩) 1 1), (62, .string ⟨#[203]⟩), (63, .string ⟨#[181, 3, 97, 98, 99, 130, 203]⟩), (64, S7), (65, .string ⟨#[130, 202]⟩), (66, .string ⟨#[181, 3, 97, 98, 100, 130, 202]⟩), (67, S7), (68, .string ⟨#[181, 181, 3, 97, 98, 99, 130, 202]⟩), (69, .slice (some ⟨g69, 0, none⟩) 8 8), (11, .slice (some ⟨g11, 0, none⟩) 8 8)]) w) :
    (Code.region 8 l.toArray true).wp Try.prog Q a0 w0 := by
  subst hl
  refine region_facts2 fr8F fr8D 144 S.size rfl (by kernel_rfl) (by kernel_rfl) fr8F_mono (fr8_ok S) fun a w hB hF h => ?_
  obtain ⟨g61, h61, _⟩ : outB 203 (a.tmps.getD 61 undef) w := h 7 (some 61) rfl
  obtain ⟨g69, h69, _⟩ : outL (a.tmps.getD 69 undef) w := h 15 (some 69) rfl
  obtain ⟨g11, h11, c11⟩ : outL (a.tmps.getD 11 undef) w := h 16 (some 11) rfl
  have hv : valsAre a [(54, S7), (55, .string ⟨#[3, 97, 98, 99, 130, 202]⟩), (56, S7), (57, .string ⟨#[181, 3, 97, 98, 99, 130]⟩), (58, S7), (59, .int .u8 202), (60, .int .u8 203), (61, .slice (some ⟨g61, 0, none⟩) 1 1), (62, .string ⟨#[203]⟩), (63, .string ⟨#[181, 3, 97, 98, 99, 130, 203]⟩), (64, S7), (65, .string ⟨#[130, 202]⟩), (66, .string ⟨#[181, 3, 97, 98, 100, 130, 202]⟩), (67, S7), (68, .string ⟨#[181, 181, 3, 97, 98, 99, 130, 202]⟩), (69, .slice (some ⟨g69, 0, none⟩) 8 8), (11, .slice (some ⟨g11, 0, none⟩) 8 8)] := by
    refine ⟨?_, ?_, ?_, ?_, ?_, ?_, ?_, ?_, ?_, ?_, ?_, ?_, ?_, ?_, ?_, ?_, ?_, trivial⟩
    · exact h 0 (some 54) rfl
    · exact h 1 (some 55) rfl
    · exact h 2 (some 56) rfl
    · exact h 3 (some 57) rfl
    · exact h 4 (some 58) rfl
    · exact h 5 (some 59) rfl
    · exact h 6 (some 60) rfl
    · exact h61
    · exact h 8 (some 62) rfl
    · exact h 9 (some 63) rfl
    · exact h 10 (some 64) rfl
    · exact h 11 (some 65) rfl
    · exact h 12 (some 66) rfl
    · exact h 13 (some 67) rfl
    · exact h 14 (some 68) rfl
    · exact h69
    · exact h11
  rw [frame_is hF _ hv (by rfl) (by rfl)]
  exact hend g61 g69 g11 w hB c11
end

end Go.Proofs.Ytbdlncfdjmgmdaa
