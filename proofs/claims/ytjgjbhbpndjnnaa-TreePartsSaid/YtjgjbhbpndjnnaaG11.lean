/-
  A single operation in a region whose facts are shown one by one: an aggregate out of memory.
  An item's cells.
  Single operations in a region whose facts are shown one by one: a field's address, a number or an item out of memory, items compared. No program's own steps here.
  Single operations in a region whose facts are shown one by one: slices out of memory, an index, sums, a new slice; the frame behind a head.
  Walks of the reference's leaves: within, ItemMay. (Out of XRfB, XRef.)
  Walk of the reference's leaf Before. (Out of XRef.)
  Walks of the reference's leaves: within, ItemMay, Before, BoundsMay.
-/
import Derived.Test.YtjgjbhbpndjnnaaG9
import Derived.Test.YtjgjbhbpndjnnaaAny
import Derived.Test.YtjgjbhbpndjnnaaG6
import Derived.Test.YtjgjbhbpndjnnaaHead
import Derived.Test.YtjgjbhbpndjnnaaG2
import Derived.Test.YtjgjbhbpndjnnaaG10
import Derived.Test.YtjgjbhbpndjnnaaG0
import Derived.Test.YtjgjbhbpndjnnaaG3
import Derived.Deep.QuietTactic
namespace Go.Proofs.Ytjgjbhbpndjnnaa
open Go.RowKit

section
variable {D : List (Option Tmp)} {Φ : Fact} {o : Oper} {a : Act} {w : World}
theorem step_load (hw : Region.wanted o (yieldD D a.tmps) = true) {t : Tmp} (hd : o.dst = some t) (x : Operand) (ho : o.op = .load 29 x) (g : Nat) (hx : a.eval x = .pointer (some ⟨g, 0, none⟩)) {c : Ac} {A : Option Addr} {k m : Nat} (hc : Has w g 29 (accC c A k m))
    (h : Φ (.agg (accC c A k m)) w) : StepD Try.prog D Φ o a w := by
  intro Q
  rw [if_pos hw]
  exact wp_load_row 29 x ho g hx 29 _ (0, 0) _ hc Try.underlying29 rfl Try.sizeAcc ⟨_, rfl, (fun hn => by rw [hd] at hn; cases hn), Below.refl _ _, h⟩
end

end Go.Proofs.Ytjgjbhbpndjnnaa

namespace Go.Proofs.Ytjgjbhbpndjnnaa
open Go.RowKit

end Go.Proofs.Ytjgjbhbpndjnnaa

namespace Go.Proofs.Ytjgjbhbpndjnnaa
open Go.RowKit

section
variable {D : List (Option Tmp)} {Φ : Fact} {o : Oper} {a : Act} {w : World}
theorem step_faddr (hw : Region.wanted o (yieldD D a.tmps) = true) {t : Tmp} (hd : o.dst = some t) (T : TypeId) (x : Operand) (f : Nat) (ho : o.op = .fieldAddr T x f) (g i j : Nat) (hx : a.eval x = .pointer (some ⟨g, i, none⟩))
    (hrun : ∀ w : World, (Instr.fieldAt T (.pointer (some ⟨g, i, none⟩)) f).run Try.prog w = .ok (.pointer (some ⟨g, j, none⟩)) w) (h : Φ (.pointer (some ⟨g, j, none⟩)) w) : StepD Try.prog D Φ o a w := by
  refine step_val hw hd _ _ ?_ (Below.refl _ _) h
  unfold execOp
  rw [ho]
  simp only [hx, Sem.run_bind, hrun, Result.andThen_ok]
  rfl
theorem loadi_run (g k : Nat) (n : Int) (w : World) (h : w.cell? ⟨g, k, none⟩ = some (.int .i64 n)) : (Instr.loadAt 3 (.pointer (some ⟨g, k, none⟩))).run Try.prog w = .ok (.int .i64 n) w := by simp [go_sem, h, Instr.loadAt]
theorem step_loadi (hw : Region.wanted o (yieldD D a.tmps) = true) {t : Tmp} (hd : o.dst = some t) (x : Operand) (ho : o.op = .load 3 x) (g k : Nat) (hx : a.eval x = .pointer (some ⟨g, k, none⟩)) (n : Int)
    (hc : w.cell? ⟨g, k, none⟩ = some (.int .i64 n)) (h : Φ (.int .i64 n) w) : StepD Try.prog D Φ o a w := by
  refine step_val hw hd _ _ ?_ (Below.refl _ _) h
  unfold execOp
  rw [ho]
  simp only [hx, Sem.run_bind, loadi_run g k n w hc, Result.andThen_ok]
  rfl
abbrev itemV (x : It) : Value := .agg #[.int .i64 x.s, .int .i64 x.t, .int .i64 x.q, .int .i64 x.v]
theorem step_loadI (hw : Region.wanted o (yieldD D a.tmps) = true) {t : Tmp} (hd : o.dst = some t) (x : Operand) (ho : o.op = .load 23 x) (g k : Nat) (hx : a.eval x = .pointer (some ⟨g, k, none⟩)) (y : It)
    (hc : w.rangeAt g k (itemL y)) (h : Φ (itemV y) w) : StepD Try.prog D Φ o a w := by
  intro Q
  rw [if_pos hw]
  exact wp_load_mid 23 x ho g k hx (itemL y) _ hc Try.underlying23 rfl (by kernel_rfl) ⟨_, rfl, (fun hn => by rw [hd] at hn; cases hn), Below.refl _ _, h⟩
theorem step_eqI (hw : Region.wanted o (yieldD D a.tmps) = true) {t : Tmp} (hd : o.dst = some t) (x y : Operand) (ho : o.op = .binOp .eql 23 x y 23) (z : It) (hx : a.eval x = itemV z) (hy : a.eval y = itemV z) (h : Φ (.bool true) w) : StepD Try.prog D Φ o a w :=
  step_val hw hd _ _ (by unfold execOp; rw [ho]; simp only [hx, hy]; simp [go_sem]) (Below.refl _ _) h
theorem range_first {g : Nat} {c : Ac} {A : Option Addr} {k m : Nat} (h : Has w g 29 (accC c A k m)) : w.rangeAt g 4 (itemL c.f) := fun j v hj => by
  rw [h.cell]
  match j, hj with
  | 0, hj => exact hj
  | 1, hj => exact hj
  | 2, hj => exact hj
  | 3, hj => exact hj
  | j + 4, hj => simp [itemL] at hj
theorem range_last {g : Nat} {c : Ac} {A : Option Addr} {k m : Nat} (h : Has w g 29 (accC c A k m)) : w.rangeAt g 8 (itemL c.l) := fun j v hj => by
  rw [h.cell]
  match j, hj with
  | 0, hj => exact hj
  | 1, hj => exact hj
  | 2, hj => exact hj
  | 3, hj => exact hj
  | j + 4, hj => simp [itemL] at hj
end

end Go.Proofs.Ytjgjbhbpndjnnaa

namespace Go.Proofs.Ytjgjbhbpndjnnaa
open Go.RowKit

section
variable {D : List (Option Tmp)} {Φ : Fact} {o : Oper} {a : Act} {w : World}
theorem loads_run (g k : Nat) (A : Option Addr) (n c : Nat) (w : World) (h : w.cell? ⟨g, k, none⟩ = some (.slice A n c)) : (Instr.loadAt 25 (.pointer (some ⟨g, k, none⟩))).run Try.prog w = .ok (.slice A n c) w := by simp [go_sem, h, Instr.loadAt]
theorem step_loads (hw : Region.wanted o (yieldD D a.tmps) = true) {t : Tmp} (hd : o.dst = some t) (x : Operand) (ho : o.op = .load 25 x) (g k : Nat) (hx : a.eval x = .pointer (some ⟨g, k, none⟩)) (A : Option Addr) (n c : Nat)
    (hc : w.cell? ⟨g, k, none⟩ = some (.slice A n c)) (h : Φ (.slice A n c) w) : StepD Try.prog D Φ o a w := by
  refine step_val hw hd _ _ ?_ (Below.refl _ _) h
  unfold execOp
  rw [ho]
  simp only [hx, Sem.run_bind, loads_run g k A n c w hc, Result.andThen_ok]
  rfl
theorem step_iaddr (hw : Region.wanted o (yieldD D a.tmps) = true) {t : Tmp} (hd : o.dst = some t) (x y : Operand) (ho : o.op = .indexAddr 25 x y) (b f n c k : Nat) (hx : a.eval x = .slice (some ⟨b, f, none⟩) n c) (hy : a.eval y = .int .i64 (k : Int)) (hk : k < n)
    (h : Φ (.pointer (some ⟨b, f + k, none⟩)) w) : StepD Try.prog D Φ o a w := by
  refine step_val hw hd _ _ ?_ (Below.refl _ _) h
  have hk2 : (k : Int) < (n : Int) := by omega
  unfold execOp
  rw [ho]
  simp only [hx, hy]
  simp [go_sem, hk2]
theorem step_add (hw : Region.wanted o (yieldD D a.tmps) = true) {t : Tmp} (hd : o.dst = some t) (x y : Operand) (ho : o.op = .binOp .add 3 x y 3) (m n : Int) (hx : a.eval x = .int .i64 m) (hy : a.eval y = .int .i64 n) (hb : -9223372036854775808 ≤ m + n ∧ m + n ≤ 9223372036854775807)
    (h : Φ (.int .i64 (m + n)) w) : StepD Try.prog D Φ o a w := by
  refine step_val hw hd _ _ ?_ (Below.refl _ _) h
  have e : IntKind.i64.wrap (m + n) = m + n := IntWalk.i64_in _ hb
  unfold execOp
  rw [ho]
  simp only [hx, hy]
  simp [go_sem, e]
theorem step_build1 (hw : Region.wanted o (yieldD D a.tmps) = true) {t : Tmp} (hd : o.dst = some t) (x : Operand) (ho : o.op = .buildSlice 25 1 #[(0, x)]) (m : Int) (hx : a.eval x = .int .i64 m)
    (h : ∀ w', Below w.heap.size w w' → Has w' w.heap.size 3 (ints [m]) → Φ (.slice (some ⟨w.heap.size, 0, none⟩) 1 1) w') : StepD Try.prog D Φ o a w := by
  refine step_val hw hd _ (w.alloc (.cells #[.int .i64 m] 3)) ?_ ((Below.refl _ _).alloc (Nat.le_refl _) _) (h _ ((Below.refl _ _).alloc (Nat.le_refl _) _) (Has.made _ _ _))
  unfold execOp
  rw [ho]
  simp only [List.map_toArray, List.map_cons, List.map_nil, hx]
  simp [go_sem]
end

end Go.Proofs.Ytjgjbhbpndjnnaa

namespace Go.Proofs.Ytjgjbhbpndjnnaa
open Go.RowKit

theorem cmp_chain {x : It} {b : Bool} (h : b = itemB x) : Ending.returned (.bool b) = .returned (.bool (itemB x)) := by rw [h]
set_option maxRecDepth 100000 in
set_option maxHeartbeats 1000000 in
theorem ritem_any (x : It) (w : World) :
    Calls Try.prog 43 #[.agg #[.int .i64 x.s, .int .i64 x.t, .int .i64 x.q, .int .i64 x.v]] w fun e w' => e = .returned (.bool (itemB x)) ∧ Below w.heap.size w w' := by
  by_cases s1 : 0 ≤ x.s
  · by_cases s2 : x.s ≤ 1048575
    · cases t1 : wi x.t (-1099511627776) 1099511627776
      · rw [itemB_false (by have := t1; unfold wi at this; simp only [decide_eq_false_iff_not] at this; omega)]
        go_enter Try.func43, Try.ntmps43
        go_wp2_with (go_at_call 55; refine (rwithin_any _ 1099511627776 _ (by omega) (by omega)).mono ?_; rintro e w' ⟨rfl, rfl⟩)
        go_ret
        exact ⟨rfl, (Below.refl _ _).alloc (Nat.le_refl _) _⟩
      · have t2 := wi_true t1
        by_cases q1 : 1 ≤ x.q
        · by_cases q2 : x.q ≤ 1073741823
          · cases v1 : wi x.v (-1099511627776) 1099511627776
            · rw [itemB_false (by have := v1; unfold wi at this; simp only [decide_eq_false_iff_not] at this; omega)]
              go_enter Try.func43, Try.ntmps43
              go_wp2_with (go_at_call 55; refine (rwithin_any _ 1099511627776 _ (by omega) (by omega)).mono ?_; rintro e w' ⟨rfl, rfl⟩)
              go_ret
              exact ⟨rfl, (Below.refl _ _).alloc (Nat.le_refl _) _⟩
            · have v2 := wi_true v1
              rw [itemB_iff.2 (by omega)]
              go_enter Try.func43, Try.ntmps43
              go_wp2_with (go_at_call 55; refine (rwithin_any _ 1099511627776 _ (by omega) (by omega)).mono ?_; rintro e w' ⟨rfl, rfl⟩)
              go_ret
              exact ⟨rfl, (Below.refl _ _).alloc (Nat.le_refl _) _⟩
          · rw [itemB_false (by omega)]
            go_enter Try.func43, Try.ntmps43
            go_wp2_with (go_at_call 55; refine (rwithin_any _ 1099511627776 _ (by omega) (by omega)).mono ?_; rintro e w' ⟨rfl, rfl⟩)
            go_ret
            exact ⟨rfl, (Below.refl _ _).alloc (Nat.le_refl _) _⟩
        · rw [itemB_false (by omega)]
          go_enter Try.func43, Try.ntmps43
          go_wp2_with (go_at_call 55; refine (rwithin_any _ 1099511627776 _ (by omega) (by omega)).mono ?_; rintro e w' ⟨rfl, rfl⟩)
          go_ret
          exact ⟨rfl, (Below.refl _ _).alloc (Nat.le_refl _) _⟩
    · rw [itemB_false (by omega)]
      go_enter Try.func43, Try.ntmps43
      go_wp2_with fail
      go_ret
      exact ⟨rfl, (Below.refl _ _).alloc (Nat.le_refl _) _⟩
  · rw [itemB_false (by omega)]
    go_enter Try.func43, Try.ntmps43
    go_wp2_with fail
    go_ret
    exact ⟨rfl, (Below.refl _ _).alloc (Nat.le_refl _) _⟩

end Go.Proofs.Ytjgjbhbpndjnnaa

namespace Go.Proofs.Ytjgjbhbpndjnnaa
open Go.RowKit

set_option maxRecDepth 100000 in
set_option maxHeartbeats 1000000 in
theorem rbefore_any (x y : It) (w : World) :
    Calls Try.prog 54 #[.agg #[.int .i64 x.s, .int .i64 x.t, .int .i64 x.q, .int .i64 x.v], .agg #[.int .i64 y.s, .int .i64 y.t, .int .i64 y.q, .int .i64 y.v]] w
      fun e w' => e = .returned (.bool (beforeB x y)) ∧ Below w.heap.size w w' := by
  have hbox : ∀ o o', Below w.heap.size w ((w.alloc o).alloc o') := fun o o' => below_alloc ((Below.refl _ _).alloc (Nat.le_refl _) o) (Nat.le_refl _) o'
  have HBOX := Lib.hid hbox; clear hbox
  by_cases h1 : x.t < y.t
  · rw [show beforeB x y = true from decide_eq_true (by omega)]
    go_enter Try.func54, Try.ntmps54
    go_wp2
    go_ret
    exact ⟨rfl, HBOX.out _ _⟩
  · by_cases h2 : x.t = y.t
    · have h2' : (x.t == y.t) = true := by simp [h2]
      by_cases h3 : x.q < y.q
      · rw [show beforeB x y = true from decide_eq_true (by omega)]
        clear h2
        go_enter Try.func54, Try.ntmps54
        go_wp2
        go_ret
        exact ⟨rfl, HBOX.out _ _⟩
      · rw [show beforeB x y = false from decide_eq_false (by omega)]
        clear h2
        go_enter Try.func54, Try.ntmps54
        go_wp2
        go_ret
        exact ⟨rfl, HBOX.out _ _⟩
    · have h2' : (x.t == y.t) = false := by simp [h2]
      rw [show beforeB x y = false from decide_eq_false (by omega)]
      clear h2
      go_enter Try.func54, Try.ntmps54
      go_wp2
      go_ret
      exact ⟨rfl, HBOX.out _ _⟩

end Go.Proofs.Ytjgjbhbpndjnnaa

namespace Go.Proofs.Ytjgjbhbpndjnnaa
open Go.RowKit

end Go.Proofs.Ytjgjbhbpndjnnaa
