/-
  The head of Writer.Put's drawn region: its facts, one by one (written by gen/wiwr.py).
  Walks: numbers.Writer's Put and Text.
-/
import Derived.Test.YtoechlmahckchaaRf
import Derived.Test.YtoechlmahckchaaG11d
import Derived.Test.YtoechlmahckchaaVPut
import Derived.Test.YtoechlmahckchaaG11b
import Derived.Test.YtoechlmahckchaaG11f
import Derived.Test.YtoechlmahckchaaG11e
import Derived.Great.Walk
namespace Go.Proofs.Ytoechlmahckchaa
open Go.RowKit

section
variable {P : Program} {D : List (Option Tmp)} {Φ : Fact} {o : Oper} {a : Act} {w : World}
theorem rf_nil (hw : Region.wanted o (yieldD D a.tmps) = true) {t : Tmp} (hd : o.dst = some t) (x : Operand) (ho : o.op = .nilCheck x) (ad : Addr) (hx : a.eval x = .pointer (some ad)) (h : Φ (.pointer (some ad)) w) : StepD P D Φ o a w :=
  step_val hw hd _ w (by unfold execOp; rw [ho]; generalize a.eval = ev at hx ⊢; simp [hx, go_sem]) (Below.refl _ _) h
theorem rf_loadB_run (g k : Nat) (A : Option Addr) (m c : Nat) (w : World) (h : w.cell? ⟨g, k, none⟩ = some (.slice A m c)) : (Instr.loadAt 70 (.pointer (some ⟨g, k, none⟩))).run Try.prog w = .ok (.slice A m c) w := by simp [go_sem, h, Instr.loadAt]
theorem rf_loadB (hw : Region.wanted o (yieldD D a.tmps) = true) {t : Tmp} (hd : o.dst = some t) (x : Operand) (ho : o.op = .load 70 x) (g k : Nat) (hx : a.eval x = .pointer (some ⟨g, k, none⟩)) {A : Option Addr} {m c : Nat}
    (hc : w.cell? ⟨g, k, none⟩ = some (.slice A m c)) (h : Φ (.slice A m c) w) : StepD Try.prog D Φ o a w := by
  refine step_val hw hd _ _ ?_ (Below.refl _ _) h
  unfold execOp
  rw [ho]
  simp only [hx, Sem.run_bind, rf_loadB_run g k A m c w hc, Result.andThen_ok]
  rfl
end

def wp3D : List (Option Tmp) := [some 12, some 13, some 14, some 15, some 16, some 17, some 18, some 19, some 20, some 21, none]
def wp3F (g m c : Nat) (A : Option Addr) (x : Int) : List Fact := [isV (.pointer (some ⟨g, 0, none⟩)), isV (.pointer (some ⟨g, 0, none⟩)), isV (.pointer (some ⟨g, 0, none⟩)), isV (.pointer (some ⟨g, 0, none⟩)), isV (.slice A m c), isV (.int .i64 x), isV (.string (encS x))]
theorem wp3F_mono (g m c : Nat) (A : Option Addr) (x : Int) : ∀ φ ∈ wp3F g m c A x, Mono φ := by
  unfold wp3F
  repeat (first | exact monos_nil | (refine monos_cons (mono_isV _) ?_))
structure wp3S (g m c : Nat) (A : Option Addr) (x : Int) (a0 : Act) (w0 : World) : Prop where
  size : a0.tmps.size = 23
  v0 : a0.tmps.getD 0 undef = .pointer (some ⟨g, 0, none⟩)
  v5 : a0.tmps.getD 5 undef = .int .i64 x
  cw : w0.cell? ⟨g, 0, none⟩ = some (.slice A m c)
  lx : -9223372036854775808 ≤ x
  ux : x ≤ 9223372036854775807
section
variable {g m c : Nat} {A : Option Addr} {x : Int} {a0 : Act} {w0 : World} (S : wp3S g m c A x a0 w0)
include S
set_option maxRecDepth 100000 in
set_option maxHeartbeats 8000000 in
theorem wp3_ok : AllOps (fun j o => ∀ (a : Act) (w : World), Below w0.heap.size w0 w → FrD (wp3D.take 7) a0 a → needs wp3D (wp3F g m c A x) a w o.after.toList → StepD Try.prog wp3D (factAt (wp3F g m c A x) j) o a w) 0 ((opsOf 3 Try.f42).take 7) := by
  simp only [opsOf, Try.f42, opsAt, Option.bind, Option.or, Option.getD, reduceCtorEq, if_true, if_false, Nat.reduceEqDiff, List.take_succ_cons, List.take_zero]
  refine ⟨?_, ?_⟩
  · intro _a _w _hB hF _hd
    exact step_move (guard_none rfl) rfl _ rfl ((hF.other 0 rfl).trans S.v0)
  refine ⟨?_, ?_⟩
  · intro _a _w _hB hF _hd
    exact step_move (guard_none rfl) rfl _ rfl ((hF.other 0 rfl).trans S.v0)
  refine ⟨?_, ?_⟩
  · intro a _w _hB _hF hd
    have h13 : a.tmps.getD 13 undef = .pointer (some ⟨g, 0, none⟩) := hd.1 rfl
    exact rf_nil (guard_none rfl) rfl _ rfl _ h13 rfl
  refine ⟨?_, ?_⟩
  · intro a _w _hB _hF hd
    have h14 : a.tmps.getD 14 undef = .pointer (some ⟨g, 0, none⟩) := hd.1 rfl
    exact rf_faddr (guard_none rfl) rfl _ _ _ rfl _ _ 0 _ h14 (by omega) (fun _ _ => by kernel_rfl) rfl
  refine ⟨?_, ?_⟩
  · intro a _w hB _hF hd
    have h15 : a.tmps.getD 15 undef = .pointer (some ⟨g, 0, none⟩) := hd.1 rfl
    exact rf_loadB (guard_none rfl) rfl _ rfl _ _ h15 (rf_cell hB S.cw) rfl
  refine ⟨?_, ?_⟩
  · intro _a _w _hB hF _hd
    exact step_move (guard_none rfl) rfl _ rfl ((hF.other 5 rfl).trans S.v5)
  refine ⟨?_, ?_⟩
  · intro a _w _hB _hF hd
    have h17 : a.tmps.getD 17 undef = .int .i64 x := hd.1 rfl
    refine step_call (guard_none rfl) rfl _ _ (rf_call_run Try.func51 (by kernel_rfl) (by kernel_rfl) _ _ rfl) ?_
    simp only [List.map_toArray, List.map_cons, List.map_nil, Act.eval, h17]
    exact (put_any x S.lx S.ux _).mono (by rintro e w1 ⟨rfl, hb⟩; exact ⟨_, rfl, hb, rfl⟩)
  trivial
theorem wp3_any {Q : Exit → Act → World → Prop} {l : List Oper} (hl : opsOf 3 Try.f42 = l) (hend : ∀ w : World, Below w0.heap.size w0 w → wpList Try.prog l.toArray Q (l.drop 7) (putAll a0 [(12, .pointer (some ⟨g, 0, none⟩)), (13, .pointer (some ⟨g, 0, none⟩)), (14, .pointer (some ⟨g, 0, none⟩)), (15, .pointer (some ⟨g, 0, none⟩)), (16, .slice A m c), (17, .int .i64 x), (18, .string (encS x))]) w)
    (hendQ : ∀ w : World, Below w0.heap.size w0 w → wpList Try.prog l.toArray Q (pickL l [7, 0, 8, 9, 10]) (putAll a0 [(12, a0.tmps.getD 12 undef), (13, .pointer (some ⟨g, 0, none⟩)), (14, .pointer (some ⟨g, 0, none⟩)), (15, .pointer (some ⟨g, 0, none⟩)), (16, .slice A m c), (17, .int .i64 x), (18, .string (encS x))]) w) :
    (Code.region 3 l.toArray true).wp Try.prog Q a0 w0 := by
  subst hl
  refine region_head3 (wp3F g m c A x) wp3D 7 23 0 [0, 8, 9, 10] S.size rfl (by kernel_rfl) (by kernel_rfl) (by kernel_rfl) (wp3F_mono _ _ _ _ _) (wp3_ok S) ?_ ?_
  · intro a w hB hF h
    have hv : valsAre a [(12, .pointer (some ⟨g, 0, none⟩)), (13, .pointer (some ⟨g, 0, none⟩)), (14, .pointer (some ⟨g, 0, none⟩)), (15, .pointer (some ⟨g, 0, none⟩)), (16, .slice A m c), (17, .int .i64 x), (18, .string (encS x))] := by
      refine ⟨?_, ?_, ?_, ?_, ?_, ?_, ?_, trivial⟩
      · exact h 0 (some 12) (by omega) rfl
      · exact h 1 (some 13) (by omega) rfl
      · exact h 2 (some 14) (by omega) rfl
      · exact h 3 (some 15) (by omega) rfl
      · exact h 4 (some 16) (by omega) rfl
      · exact h 5 (some 17) (by omega) rfl
      · exact h 6 (some 18) (by omega) rfl
    rw [frame_is hF _ hv (by rfl) (by rfl)]
    exact hend w hB
  · intro a w hB hF h hq
    have hv : valsAre a [(12, a0.tmps.getD 12 undef), (13, .pointer (some ⟨g, 0, none⟩)), (14, .pointer (some ⟨g, 0, none⟩)), (15, .pointer (some ⟨g, 0, none⟩)), (16, .slice A m c), (17, .int .i64 x), (18, .string (encS x))] := by
      refine ⟨?_, ?_, ?_, ?_, ?_, ?_, ?_, trivial⟩
      · exact hq (some 12) rfl
      · exact h 1 (some 13) (by omega) (by omega) rfl
      · exact h 2 (some 14) (by omega) (by omega) rfl
      · exact h 3 (some 15) (by omega) (by omega) rfl
      · exact h 4 (some 16) (by omega) (by omega) rfl
      · exact h 5 (some 17) (by omega) (by omega) rfl
      · exact h 6 (some 18) (by omega) (by omega) rfl
    rw [frame_is hF _ hv (by rfl) (by rfl)]
    exact hendQ w hB
end

end Go.Proofs.Ytoechlmahckchaa

namespace Go.Proofs.Ytoechlmahckchaa
open Go.RowKit

/-- A writer in its loop: its bytes so far, the numbers that it is given. -/
structure PutW (w0 : World) (g h : Nat) (xs : List Int) (l : List UInt8) (j : Nat) (v : Value) (w : World) : Prop where
  has : Has w g 79 #[v]
  own : OwnB w (g + 1) v (l ++ encs (xs.take j))
  nums : Has w h 3 (ints xs)
  old : Below g w0 w
theorem take_succ (xs : List Int) {j : Nat} (h : j < xs.length) : xs.take (j + 1) = xs.take j ++ [nth xs j] := by
  rw [List.take_succ_eq_append_getElem h]
  simp [nth, List.getElem?_eq_getElem h]
theorem encs_len {xs : List Int} (h : ∀ x ∈ xs, -9223372036854775808 ≤ x ∧ x ≤ 9223372036854775807) : (encs xs).length ≤ 10 * xs.length := by
  induction xs with
  | nil => simp [encs]
  | cons x r ih =>
    have := ih (fun y hy => h y (by simp [hy]))
    have hx := h x (by simp)
    have := (encX_len hx.1 hx.2).2
    unfold encX at this
    simp only [encs, List.length_append, List.length_cons]
    omega

theorem has_types {w : World} {g : Nat} {t t' : TypeId} {cs cs' : Array Value} (h : Has w g t cs) (h' : Has w g t' cs') (hne : t ≠ t') : False := by
  unfold Has at h h'
  rw [h] at h'
  simp only [Option.some.injEq, Obj.cells.injEq] at h'
  exact hne h'.2.1
theorem ownB_put {w : World} {base : Nat} {v : Value} {l : List UInt8} (h : OwnB w base v l) {k : Nat} {t : TypeId} {cs : Array Value} (hh : Has w k t cs) (ht : t ≠ 5) (i : Nat) (x : Value) : OwnB (w.setCell ⟨k, i, none⟩ x) base v l :=
  World.ownsRow.kept h (row := some k) ⟨rfl, rfl, rfl, by simp [World.setCell], fun j _ hj => heap_setCell_other _ _ _ _ (fun e => hj (by rw [e]))⟩ (by
    cases e : v.ownBlock with
    | none => exact .inl rfl
    | some j => exact .inr (fun e2 => h.apart hh ht (by rw [e, ← e2])))

set_option maxRecDepth 100000 in
set_option maxHeartbeats 1000000 in
theorem wrput_any (g h n : Nat) (xs : List Int) (l : List UInt8) (v : Value) (w : World) (hn : xs.length = n) (hn9 : n ≤ 9) (hx : ∀ x ∈ xs, -9223372036854775808 ≤ x ∧ x ≤ 9223372036854775807) (hl : l.length ≤ 1000)
    (hg : Has w g 79 #[v]) (ho : OwnB w (g + 1) v l) (hh : Has w h 3 (ints xs)) :
    Calls Try.prog 42 #[.pointer (some ⟨g, 0, none⟩), .slice (some ⟨h, 0, none⟩) n n] w fun e w' => e = .returned (.tuple #[]) ∧ Below g w w' ∧ ∃ v', Has w' g 79 #[v'] ∧ OwnB w' (g + 1) v' (l ++ encs xs) := by
  have H0 : Hid (PutW w g h xs l 0 v w) := Lib.hid ⟨hg, by simpa [encs] using ho, hh, Below.refl _ _⟩
  have HX := Lib.hid hx
  have HN := Lib.hid hn
  clear hg ho hh hx hn
  go_enter Try.func42, Try.ntmps42
  go_wp2_with fail
  go_loopw [8] (fun i wr => ∃ (j : Nat) (u : Value), j ≤ n ∧ i = .int .i64 j ∧ Hid (PutW w g h xs l j u wr)) (fun i _ => n - (intOf i).toNat)
  case atStart => exact ⟨0, v, Nat.zero_le _, rfl, H0⟩
  case round =>
    clear H0
    obtain ⟨j, u, hj, rfl, HS⟩ := hrel
    by_cases hlt : j < n
    · have hjx : j < xs.length := by rw [HN.out]; exact hlt
      have hjn : (j : Int) < (n : Int) := by omega
      have cn : wr.cell? ⟨h, j, none⟩ = some (.int .i64 (nth xs j)) := (HS.out.nums.cell j).trans (ints_get xs hjx)
      have hxj := HX.out (nth xs j) (by simp [nth, List.getElem?_eq_getElem hjx])
      obtain ⟨A, d, hu, _⟩ := HS.out.own.form
      generalize (l ++ encs (xs.take j)).length = m at hu
      subst hu
      have ha : (Value.slice A m d).ownBlock ≠ some g := HS.out.own.apart HS.out.has (by decide)
      have hb : (Value.slice A m d).ownBlock ≠ some h := HS.out.own.apart HS.out.nums (by decide)
      have cw : wr.cell? ⟨g, 0, none⟩ = some (.slice A m d) := HS.out.has.cell 0
      have htk := take_succ xs hjx
      have hle : (l ++ encs (xs.take j)).length + (encS (nth xs j)).size ≤ 140737488355328 := by
        have h1 := encs_len (xs := xs.take j) (fun x hx => HX.out x (List.mem_of_mem_take hx))
        have h2 := (encX_len hxj.1 hxj.2).2
        rw [encS_size, List.length_append]
        simp only [List.length_take] at h1
        omega
      have hdata : (encS (nth xs j)).data.toList = encs [nth xs j] := by rw [encS_list]; simp [encs, encX]
      have HO := Lib.hid (fun (w1 : World) (b : Below wr.heap.size wr w1) => HS.out.own.below b)
      have HL := Lib.hid (And.intro hle (And.intro htk hdata))
      have hglt := HS.out.has.lt
      have HD := Lib.hid (And.intro ha hb)
      clear ha hb htk hle hdata
      go_wp2_with fail
      have HR : ∀ (w1 w2 : World) (A2 : Option Addr) (n2 d2 : Nat), Below wr.heap.size wr w1 → OwnB w2 (g + 1) (.slice A2 n2 d2) ((l ++ encs (xs.take j)) ++ (encS (nth xs j)).data.toList) → w1.grownBy w2 (Value.slice A m d).ownBlock → PutW w g h xs l (j + 1) (.slice A2 n2 d2) (w2.setCell ⟨g, 0, none⟩ (.slice A2 n2 d2)) ∧ Has w2 g 79 #[.slice A m d] := by
        intro w1 w2 A2 n2 d2 b1 ho2 hg2
        have h1 := grown_has hg2 (HS.out.has.below b1 HS.out.has.lt) HD.out.1
        have h2 := grown_has hg2 (HS.out.nums.below b1 HS.out.nums.lt) HD.out.2
        have h3 := below_grown (HO.out w1 b1) hg2 (by have := b1.size; omega)
        refine ⟨⟨h1.put 0 _, ?_, h2.putFar ?_ _, (HS.out.old.trans ((b1.mono (by omega)).trans (h3.mono (by omega)))).setCell (Nat.le_refl _) _⟩, h1⟩
        · have e : (l ++ encs (xs.take j)) ++ (encS (nth xs j)).data.toList = l ++ encs (xs.take (j + 1)) := by rw [HL.out.2.2, HL.out.2.1, encs_append, List.append_assoc]
          rw [e] at ho2
          exact ownB_put ho2 h1 (by decide) 0 _
        · exact fun (e : h = g) => has_types h2 (e ▸ h1) (by decide)
      have HR := Lib.hid HR
      refine wp3_any (g := g) (m := m) (c := d) (A := A) (x := nth xs j) ⟨rfl, rfl, rfl, cw, hxj.1, hxj.2⟩ rfl ?_ ?_
      · intro w1 b1
        have ho1 := HO.out w1 b1
        have hgs : g + 1 ≤ w1.heap.size := by have := b1.size; omega
        simp only [putAll, Act.put, List.setIfInBounds_toArray, List.set_cons_succ, List.set_cons_zero, List.drop_succ_cons, List.drop_zero]
        go_wp2_with (refine app_strG rfl _ _ rfl rfl ho1 rfl HL.out.1 hgs (fun A2 n2 d2 w2 ho2 hg2 => ?_); have hs2 := HR.out w1 w2 A2 n2 d2 b1 ho2 hg2; have c2 : w2.cell? ⟨g, 0, none⟩ = some (.slice A m d) := hs2.2.cell 0; have m2 := hs2.2.mark 0)
        exact ⟨⟨j + 1, _, by omega, by go_num, Lib.hid hs2.1⟩, by simp [intOf]; omega⟩
      · intro w1 b1
        have ho1 := HO.out w1 b1
        have hgs : g + 1 ≤ w1.heap.size := by have := b1.size; omega
        simp only [putAll, Act.put, List.setIfInBounds_toArray, List.set_cons_succ, List.set_cons_zero, pickL, List.filterMap_cons, List.getElem?_cons_succ, List.getElem?_cons_zero, List.filterMap_nil]
        refine app_strG rfl _ _ rfl rfl ho1 rfl HL.out.1 hgs (fun A2 n2 d2 w2 ho2 hg2 => ?_)
        have hs2 := HR.out w1 w2 A2 n2 d2 b1 ho2 hg2
        have c2 : w2.cell? ⟨g, 0, none⟩ = some (.slice A m d) := hs2.2.cell 0
        have m2 := hs2.2.mark 0
        go_wp2_with fail
        exact ⟨⟨j + 1, _, by omega, by go_num, Lib.hid hs2.1⟩, by simp [intOf]; omega⟩
    · have hjn : j = n := by omega
      subst hjn
      have h2 : xs.take j = xs := List.take_of_length_le (by rw [HN.out]; exact Nat.le_refl _)
      have h3 := HS.out.own
      rw [h2] at h3
      have h1 := HS.out.has
      have h4 := HS.out.old
      have HE := Lib.hid (And.intro h4 (And.intro h1 h3))
      clear h1 h2 h3 h4
      go_wp2_with fail
      exact Great.bodyPost_end0 rfl rfl ⟨rfl, HE.out.1, _, HE.out.2.1, HE.out.2.2⟩

set_option maxHeartbeats 400000 in
theorem wrtext_any (g m c : Nat) (A : Option Addr) (l : List UInt8) (w : World) (hl : l ≠ []) (hg : Has w g 79 #[.slice A m c]) (ho : OwnB w (g + 1) (.slice A m c) l) :
    Calls Try.prog 43 #[.pointer (some ⟨g, 0, none⟩)] w fun e w' => e = .returned (.string ⟨l.toArray⟩) ∧ w = w' := by
  have cw : w.cell? ⟨g, 0, none⟩ = some (.slice A m c) := hg.cell 0
  go_enter Try.func43, Try.ntmps43
  go_wp2_with (refine conv_byte rfl _ rfl rfl ho hl ?_)
  go_ret
  exact ⟨rfl, rfl⟩

end Go.Proofs.Ytoechlmahckchaa
