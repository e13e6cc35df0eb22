/-
  Walks: admit.Verdict's four rules, as what they read in memory.
-/
import Derived.Test.YtecdeplcoggjkaaAdSm
import Derived.Test.YtecdeplcoggjkaaAdMem
namespace Go.Proofs.Ytecdeplcoggjkaa
open Go.RowKit

/-- The cells of a config. -/
def cfC (A : Option Addr) (n c : Nat) (la ro se so : Int) : Array Value := #[.slice A n c, .int .i64 la, .int .i64 ro, .int .i64 se, .int .i64 so]
/-- The cells of an operation. -/
def opC (kd os oe ti va : Int) : Array Value := #[.int .i64 kd, .int .i64 os, .int .i64 oe, .int .i64 ti, .int .i64 va]
theorem cells_cf {w : World} {g : Nat} {A : Option Addr} {n c : Nat} {la ro se so : Int} (h : Has w g 24 (cfC A n c la ro se so)) :
    ∀ i, w.cell? ⟨g, i, none⟩ = (#[.slice A n c, .int .i64 la, .int .i64 ro, .int .i64 se, .int .i64 so] : Array Value)[i]? := fun i => h.cell i
theorem cells_op {w : World} {g : Nat} {kd os oe ti va : Int} (h : Has w g 26 (opC kd os oe ti va)) :
    ∀ i, w.cell? ⟨g, i, none⟩ = (#[.int .i64 kd, .int .i64 os, .int .i64 oe, .int .i64 ti, .int .i64 va] : Array Value)[i]? := fun i => h.cell i

set_option maxRecDepth 100000 in
set_option maxHeartbeats 1000000 in
theorem rule1_any (bo bc : Nat) (A : Option Addr) (n c : Nat) (la ro se so kd os oe ti va : Int) (w : World) (ho : Has w bo 26 (opC kd os oe ti va)) (hc : Has w bc 24 (cfC A n c la ro se so)) :
    Calls Try.prog 17 #[.pointer (some ⟨bo, 0, none⟩), .pointer (some ⟨bc, 0, none⟩)] w fun e w' => e = .returned (.bool (!smB kd os oe ti va so)) ∧ Below w.heap.size w w' := by
  have h1 := cells_op ho
  have h2 := cells_cf hc
  clear ho hc
  go_enter Try.func17, Try.ntmps17
  go_wp2_with fail
  refine (sample_any kd os oe ti va so w).mono ?_
  rintro e w1 ⟨rfl, b1⟩
  go_wp2_with fail
  go_ret
  exact ⟨rfl, b1⟩
set_option maxHeartbeats 1000000 in
theorem rule2_any (bo bl bc : Nat) (A : Option Addr) (n c : Nat) (la ro se so kd os oe ti va le : Int) (w : World) (ho : Has w bo 26 (opC kd os oe ti va)) (hl : Has w bl 3 #[.int .i64 le]) (hc : Has w bc 24 (cfC A n c la ro se so))
    (l1 : -4398046511104 ≤ le ∧ le ≤ 4398046511104) (l2 : 0 ≤ la ∧ la ≤ 1073741824) :
    Calls Try.prog 19 #[.pointer (some ⟨bo, 0, none⟩), .pointer (some ⟨bl, 0, none⟩), .pointer (some ⟨bc, 0, none⟩)] w fun e w' => e = .returned (.bool (decide (ti < le - la))) ∧ w = w' := by
  have h1 := cells_op ho
  have h2 := cells_cf hc
  have h3 : w.cell? ⟨bl, 0, none⟩ = some (.int .i64 le) := hl.cell 0
  clear ho hc hl
  go_enter Try.func19, Try.ntmps19
  go_wp2_with fail
  go_ret
  exact ⟨rfl, rfl⟩
set_option maxHeartbeats 1000000 in
theorem rule3_any (bh bk bc : Nat) (A : Option Addr) (n c : Nat) (la ro se so kn : Int) (has : Bool) (w : World) (hh : Has w bh 4 #[.bool has]) (hk : Has w bk 3 #[.int .i64 kn]) (hc : Has w bc 24 (cfC A n c la ro se so)) :
    Calls Try.prog 20 #[.pointer (some ⟨bh, 0, none⟩), .pointer (some ⟨bk, 0, none⟩), .pointer (some ⟨bc, 0, none⟩)] w fun e w' => e = .returned (.bool (!has && decide (se ≤ kn))) ∧ w = w' := by
  have h2 := cells_cf hc
  have h3 : w.cell? ⟨bk, 0, none⟩ = some (.int .i64 kn) := hk.cell 0
  have h1 : w.cell? ⟨bh, 0, none⟩ = some (.bool has) := hh.cell 0
  clear hh hc hk
  cases has
  all_goals
    go_enter Try.func20, Try.ntmps20
    go_wp2_with fail
    go_ret
    exact ⟨rfl, rfl⟩
set_option maxHeartbeats 1000000 in
theorem rule4_any (bh bc : Nat) (A : Option Addr) (n c : Nat) (la ro se so he : Int) (w : World) (hh : Has w bh 3 #[.int .i64 he]) (hc : Has w bc 24 (cfC A n c la ro se so)) :
    Calls Try.prog 21 #[.pointer (some ⟨bh, 0, none⟩), .pointer (some ⟨bc, 0, none⟩)] w fun e w' => e = .returned (.bool (decide (ro ≤ he))) ∧ w = w' := by
  have h2 := cells_cf hc
  have h3 : w.cell? ⟨bh, 0, none⟩ = some (.int .i64 he) := hh.cell 0
  clear hh hc
  go_enter Try.func21, Try.ntmps21
  go_wp2_with fail
  go_ret
  exact ⟨rfl, rfl⟩

end Go.Proofs.Ytecdeplcoggjkaa
