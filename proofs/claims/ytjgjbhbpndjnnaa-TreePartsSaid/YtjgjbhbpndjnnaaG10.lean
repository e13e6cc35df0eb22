/-
  A row of integers that the call itself appends to. (Out of XRcI0.)
  A row of integers that the call itself appends to; results whose buckets may have room behind them.
  Walk of the reference's leaf within. (Out of XRfB.)
  Walks of the reference's leaves: within, BoundsMay. (Out of XRef.)
-/
import Derived.Test.YtjgjbhbpndjnnaaG0
import Derived.Test.YtjgjbhbpndjnnaaProg
import Derived.OwnWalk
import Derived.Lib.Hide
import Derived.Deep.MidRow
import Derived.BigQuiet
import Derived.Deep.QuietTactic
import Derived.Test.YtjgjbhbpndjnnaaG9
import Derived.Test.YtjgjbhbpndjnnaaG2
namespace Go.Proofs.Ytjgjbhbpndjnnaa
open Go.RowKit

set_option maxRecDepth 100000 in
theorem Try.rinfoInt : (Try.prog.info? 3).map (fun i => (i.zero, i.size, i.bytes)) = some (some (.int .i64 0), 1, 8) := by kernel_rfl
set_option maxRecDepth 100000 in
theorem rinfo_parts : ∃ i, Try.prog.info? 3 = some i ∧ i.zero = some (.int .i64 0) ∧ i.size = 1 ∧ i.bytes = 8 := by
  have h := Try.rinfoInt
  cases hi : Try.prog.info? 3 with
  | none => rw [hi] at h; simp at h
  | some i =>
    rw [hi] at h
    simp only [Option.map_some, Option.some.injEq, Prod.mk.injEq] at h
    exact ⟨i, rfl, h.1, h.2.1, h.2.2⟩
def intL (xs : List Int) : List Value := xs.map (Value.int .i64)
/-- v is a row of integers that the call owns, from block base on. -/
def OwnI (w : World) (base : Nat) (v : Value) (xs : List Int) : Prop := w.ownsRow base 3 1 v xs.length (intL xs)
set_option maxRecDepth 100000 in
theorem OwnI.nil (w : World) (base : Nat) : OwnI w base (.slice none 0 0) [] := World.ownsRow_nil _ _ _ _
set_option maxRecDepth 100000 in
theorem OwnI.form {w : World} {base : Nat} {v : Value} {xs : List Int} (h : OwnI w base v xs) : ∃ A c, v = .slice A xs.length c ∧ xs.length ≤ c ∧ c ≤ maxLen ∧ (∀ ad, A = some ad → base ≤ ad.block) := by
  rcases h.2 with ⟨e, h0⟩ | ⟨g, cap, cur, e, hg, _, hc1, hc2, _⟩
  · exact ⟨none, 0, by rw [e, h0], by omega, Nat.zero_le _, fun ad h => by cases h⟩
  · exact ⟨some ⟨g, 0, none⟩, cap, e, hc1, hc2, fun ad h => by injection h with h; subst h; exact hg⟩
set_option maxRecDepth 100000 in
theorem OwnI.ints {w : World} {base : Nat} {A : Option Addr} {n c : Nat} {xs : List Int} (h : OwnI w base (.slice A n c) xs) : Ints w A n xs := by
  rcases h.2 with ⟨e, h0⟩ | ⟨g, cap, cur, e, hg, hh, hn, hc, hs, ht⟩
  · injection e with e1 e2 e3
    subst e2
    exact ⟨h0, fun h => absurd h (by omega)⟩
  · injection e with e1 e2 e3
    subst e1; subst e2; subst e3
    refine ⟨rfl, fun hpos => ⟨g, 0, rfl, fun k hk => ?_⟩⟩
    rw [Nat.zero_add, World.ownsRow.cellAt h k (by omega)]
    simp [intL, nth, hk]
set_option maxRecDepth 100000 in
theorem OwnI.mono {w : World} {base base' : Nat} {v : Value} {xs : List Int} (h : OwnI w base v xs) (hb : base' ≤ base) : OwnI w base' v xs := by
  refine ⟨h.1, ?_⟩
  rcases h.2 with h0 | ⟨g, cap, cur, e, hg, r⟩
  · exact .inl h0
  · exact .inr ⟨g, cap, cur, e, Nat.le_trans hb hg, r⟩
set_option maxRecDepth 100000 in
theorem OwnI.new {w : World} {base : Nat} {A : Option Addr} {n c : Nat} {xs : List Int} (h : OwnI w base (.slice A n c) xs) : ∀ ad, A = some ad → base ≤ ad.block := by
  obtain ⟨A', c', e, _, _, h4⟩ := h.form
  injection e with e1 e2 e3
  subst e1
  exact h4
set_option maxRecDepth 100000 in
theorem OwnI.below {w w' : World} {base : Nat} {v : Value} {xs : List Int} (h : OwnI w base v xs) (hb : Below w.heap.size w w') : OwnI w' base v xs :=
  World.ownsRow.kept h (row := none) ⟨hb.os, hb.tape, hb.output, hb.size, fun k hk _ => hb.block k hk⟩ (by
    cases e : v.ownBlock with
    | none => exact .inl rfl
    | some k => exact .inr (by simp))
set_option maxRecDepth 100000 in
/-- A block of another type is no row of integers. -/
theorem OwnI.apart {w : World} {base : Nat} {v : Value} {l : List Int} (h : OwnI w base v l) {k : Nat} {t : TypeId} {cs : Array Value} (hh : Has w k t cs) (ht : t ≠ 3) : v.ownBlock ≠ some k := by
  rcases h.2 with ⟨e, _⟩ | ⟨g, cap, cur, e, hg, hr, _⟩
  · rw [e]; simp [Value.ownBlock]
  · rw [e]
    intro hk
    obtain rfl : g = k := by simpa [Value.ownBlock] using hk
    unfold Has at hh
    rw [hr] at hh
    simp only [Option.some.injEq, Obj.cells.injEq] at hh
    exact ht hh.2.1.symm
set_option maxRecDepth 100000 in
/-- A block that changes and is no row of integers leaves them be. -/
theorem OwnI.kept1 {w w' : World} {base : Nat} {v : Value} {xs : List Int} (h : OwnI w base v xs) {k : Nat} {t : TypeId} {cs : Array Value} (hh : Has w k t cs) (ht : t ≠ 3)
    (os : w'.os = w.os) (tape : w'.tape = w.tape) (output : w'.output = w.output) (size : w'.heap.size = w.heap.size) (other : ∀ j, j ≠ k → w'.heap[j]? = w.heap[j]?) : OwnI w' base v xs :=
  World.ownsRow.kept h (row := some k) ⟨os, tape, output, Nat.le_of_eq size.symm, fun j _ hne => other j (fun e => hne (by rw [e]))⟩ (by
    cases e : v.ownBlock with
    | none => exact .inl rfl
    | some j => exact .inr (fun e2 => h.apart hh ht (by rw [e, ← e2])))
set_option maxRecDepth 100000 in
theorem OwnI.row {w : World} {base : Nat} {v : Value} {xs : List Int} (h : OwnI w base v xs) {k : Nat} {t : TypeId} {cs : Array Value} (hh : Has w k t cs) (ht : t ≠ 3) (cs' : Array Value) : OwnI (w.setRow k cs') base v xs :=
  h.kept1 hh ht rfl rfl rfl (by simp) (fun j hj => setRow_other w k j cs' hj)
set_option maxRecDepth 100000 in
theorem OwnI.set {w : World} {base : Nat} {v : Value} {xs : List Int} (h : OwnI w base v xs) {k : Nat} {t : TypeId} {cs : Array Value} (hh : Has w k t cs) (ht : t ≠ 3) (i : Nat) (u : Value) : OwnI (w.setCell ⟨k, i, none⟩ u) base v xs :=
  h.kept1 hh ht rfl rfl rfl (by simp [World.setCell]) (fun j hj => heap_setCell_other _ _ _ _ hj)

set_option maxRecDepth 100000 in
/-- 's = append(s, y)' in a walk, y laid into a new row of one first; every other block stays. -/
theorem app_intG {ops : Array Oper} {rest : List Oper} {op : Oper} {p : Act} {w : World} {Q : Exit → Act → World → Prop} (hgd : op.guard = none) (s x : Operand)
    (ho : op.op = .call { callee := .builtin .append, args := #[s, x], argTypes := #[25, 25] })
    {base g : Nat} {v : Value} {xs : List Int} {y : Int} (hs : p.eval s = v) (hown : OwnI w base v xs) (hx : p.eval x = .slice (some ⟨g, 0, none⟩) 1 1) (hg : w.cell? ⟨g, 0, none⟩ = some (.int .i64 y))
    (hn : xs.length ≤ 8192) (hbase : base ≤ w.heap.size)
    (h : ∀ A m c w', m = xs.length + 1 → OwnI w' base (.slice A m c) (xs ++ [y]) → w.grownBy w' v.ownBlock → wpList Try.prog ops Q rest (p.put op.dst (.slice A m c)) w') : wpList Try.prog ops Q (op :: rest) p w := by
  obtain ⟨i0, hi, hz, hs0, hy0⟩ := rinfo_parts
  refine wpList_append_own w hgd s x 25 ho base 3 i0 _ 1 8 Try.underlying25 hi hz hs0 hy0 rfl (by omega) v xs.length (intL xs) hs hown ⟨g, 0, none⟩ 1 1 [.int .i64 y] hx rfl
    (fun j u hu => ?_) (fun u hu => ?_) (by unfold maxLen; omega) (by omega) hbase (fun v' w' h1 h2 _ => ?_)
  · cases j with
    | zero => rw [Addr.add_mid]; simp at hu; rw [← hu]; exact hg
    | succ j => simp at hu
  · obtain rfl : u = .int .i64 y := by simpa using hu
    rfl
  · have h3 : OwnI w' base v' (xs ++ [y]) := by unfold OwnI intL; simpa [intL] using h1
    obtain ⟨A, c, rfl, _⟩ := h3.form
    have e : (xs ++ [y]).length = xs.length + 1 := by simp
    rw [e] at h3 ⊢
    exact h A _ c w' rfl h3 h2

end Go.Proofs.Ytjgjbhbpndjnnaa

namespace Go.Proofs.Ytjgjbhbpndjnnaa
open Go.RowKit

theorem OwnI.rowL {w : World} {base g : Nat} {v : Value} {xs : List Int} (h : OwnI w base v xs) (hg : g < base) (cs : Array Value) : OwnI (w.setRow g cs) base v xs :=
  World.ownsRow.kept h (row := some g) ⟨rfl, rfl, rfl, by simp, fun k _ hne => setRow_other w g k cs (fun e => hne (by rw [e]))⟩ (by
    cases e : v.ownBlock with
    | none => exact .inl rfl
    | some k =>
      refine .inr (fun e2 => ?_)
      obtain ⟨A, c, rfl, _, _, h3⟩ := h.form
      cases A with
      | none => simp [Value.ownBlock] at e
      | some ad =>
        simp [Value.ownBlock] at e
        have := h3 ad rfl
        injection e2 with e2
        omega)

/-- 's = append(s, y)' in a walk, y laid into a new row of one first. -/
theorem app_int {ops : Array Oper} {rest : List Oper} {op : Oper} {p : Act} {w : World} {Q : Exit → Act → World → Prop} (hgd : op.guard = none) (s x : Operand)
    (ho : op.op = .call { callee := .builtin .append, args := #[s, x], argTypes := #[25, 25] })
    {base g : Nat} {v : Value} {xs : List Int} {y : Int} (hs : p.eval s = v) (hown : OwnI w base v xs) (hx : p.eval x = .slice (some ⟨g, 0, none⟩) 1 1) (hg : w.cell? ⟨g, 0, none⟩ = some (.int .i64 y))
    (hn : xs.length ≤ 8192) (hbase : base ≤ w.heap.size)
    (h : ∀ A c w', OwnI w' base (.slice A (xs.length + 1) c) (xs ++ [y]) → Below base w w' → wpList Try.prog ops Q rest (p.put op.dst (.slice A (xs.length + 1) c)) w') : wpList Try.prog ops Q (op :: rest) p w := by
  obtain ⟨i0, hi, hz, hs0, hy0⟩ := info_parts Try.infoInt
  refine wpList_append_own w hgd s x 25 ho base 3 i0 _ 1 8 Try.underlying25 hi hz hs0 hy0 rfl (by omega) v xs.length (intL xs) hs hown ⟨g, 0, none⟩ 1 1 [.int .i64 y] hx rfl
    (fun j u hu => ?_) (fun u hu => ?_) (by unfold maxLen; omega) (by omega) hbase (fun v' w' h1 h2 _ => ?_)
  · cases j with
    | zero => rw [Addr.add_mid]; simp at hu; rw [← hu]; exact hg
    | succ j => simp at hu
  · obtain rfl : u = .int .i64 y := by simpa using hu
    rfl
  · have h3 : OwnI w' base v' (xs ++ [y]) := by unfold OwnI intL; simpa [intL] using h1
    obtain ⟨A, c, rfl, _⟩ := h3.form
    have e : (xs ++ [y]).length = xs.length + 1 := by simp
    rw [e] at h3 ⊢
    refine h A c w' h3 ⟨h2.os, h2.tape, h2.output, h2.size, fun k hk => h2.block k (by omega) (fun e => ?_)⟩
    have := World.ownsRow.lt hown k e.symm
    omega

theorem cell_setRow_far {w : World} {g : Nat} {cs : Array Value} {p : Addr} (h : p.block ≠ g) : (w.setRow g cs).cell? p = w.cell? p := by
  unfold World.cell?
  rw [setRow_other w g p.block cs h]
theorem Ints.row {w : World} {A : Option Addr} {n : Nat} {xs : List Int} (h : Ints w A n xs) {g : Nat} (hg : ∀ ad, A = some ad → ad.block ≠ g) (cs : Array Value) : Ints (w.setRow g cs) A n xs :=
  ⟨h.1, fun hn => by
    obtain ⟨b, o, e, hc⟩ := h.2 hn
    exact ⟨b, o, e, fun k hk => (cell_setRow_far (p := ⟨b, o + k, none⟩) (show b ≠ g from hg _ e)).trans (hc k hk)⟩⟩

/-- Such a row's block holds integers. -/
theorem OwnI.typ {w : World} {base : Nat} {A : Option Addr} {n c : Nat} {xs : List Int} (h : OwnI w base (.slice A n c) xs) : ∀ ad, A = some ad → ∃ cs, Has w ad.block 3 cs := fun ad e => by
  rcases h.2 with ⟨e1, _⟩ | ⟨g, cap, cur, e1, hg, hh, _⟩
  · injection e1 with e2
    rw [e2] at e; cases e
  · injection e1 with e2
    rw [e2] at e
    injection e with e
    subst e
    exact ⟨cur, hh⟩
/-- An aggregate lies in a result: its buckets in new memory, with or without room behind them. -/
structure AccIn (w : World) (B : Nat) (a : Ac) (A : Option Addr) (n c : Nat) : Prop where
  hist : Ints w A n a.h
  cap : n ≤ c
  most : c ≤ maxLen
  new : ∀ ad, A = some ad → B ≤ ad.block
  typ : ∀ ad, A = some ad → ∃ cs, Has w ad.block 3 cs
theorem AccIn.below {w w' : World} {B n c : Nat} {a : Ac} {A : Option Addr} (h : AccIn w B a A n c) (hb : Below w.heap.size w w') : AccIn w' B a A n c := ⟨h.hist.below hb, h.cap, h.most, h.new, fun ad e => by obtain ⟨cs, hh⟩ := h.typ ad e; exact ⟨cs, hh.below hb hh.lt⟩⟩
theorem AccIn.mono {w : World} {B B' n c : Nat} {a : Ac} {A : Option Addr} (h : AccIn w B a A n c) (hB : B' ≤ B) : AccIn w B' a A n c := ⟨h.hist, h.cap, h.most, fun ad e => Nat.le_trans hB (h.new ad e), h.typ⟩
/-- The call hands out this aggregate alone. -/
def FoldAcc (a : Ac) (w : World) (e : Ending) (w' : World) : Prop :=
  ∃ A n c, e = .returned (accV a A n c) ∧ AccIn w' w.heap.size a A n c ∧ Below w.heap.size w w'

/-- A struct that is handed out alone: out of its cell. -/
theorem ret_row1 {P : Program} {fn : Func} {p : Tmp} {ty : TypeId} (h : fn.results = #[.cell p ty]) (tmps : Array Value) (w : World) (g : Nat) (t : TypeId) (cs : Array Value) (d : TypeDesc)
    (hp : tmps.getD p undef = .pointer (some ⟨g, 0, none⟩)) (hg : Has w g t cs) (hu : P.underlying ty = some d) (hd : (match d with | .struct _ | .array _ _ => true | _ => false) = true) (hi : (P.info? ty).map (·.size) = some cs.size) :
    (results fn tmps).run P w = .ok (.agg cs) w := by
  have hp' : tmps[p]?.getD undef = .pointer (some ⟨g, 0, none⟩) := by simpa using hp
  simp [results, h, hp', asAddr, run_loadVar_row w g t ty cs (0, 0) d hg hu hd hi]

end Go.Proofs.Ytjgjbhbpndjnnaa

namespace Go.Proofs.Ytjgjbhbpndjnnaa
open Go.RowKit

set_option maxRecDepth 100000 in
set_option maxHeartbeats 400000 in
theorem rwithin_any (n m : Int) (w : World) (h0 : 0 ≤ m) (h1 : m ≤ 4611686018427387904) :
    Calls Try.prog 55 #[.int .i64 n, .int .i64 m] w fun e w' => e = .returned (.bool (wi n (-m) m)) ∧ w = w' := by
  by_cases h2 : -m ≤ n
  · by_cases h3 : n ≤ m
    · rw [wi_mk ⟨h2, h3⟩]
      go_enter Try.func55, Try.ntmps55
      go_wp2
      go_ret
      exact ⟨rfl, rfl⟩
    · rw [wi_false (by omega)]
      go_enter Try.func55, Try.ntmps55
      go_wp2
      go_ret
      exact ⟨rfl, rfl⟩
  · rw [wi_false (by omega)]
    go_enter Try.func55, Try.ntmps55
    go_wp2
    go_ret
    exact ⟨rfl, rfl⟩

end Go.Proofs.Ytjgjbhbpndjnnaa

namespace Go.Proofs.Ytjgjbhbpndjnnaa
open Go.RowKit

set_option maxRecDepth 100000 in
set_option maxHeartbeats 1000000 in
theorem rbounds_any (A : Option Addr) (n c : Nat) (bs : List Int) (w : World) (hr : Ints w A n bs) (hn : n ≤ maxLen) :
    Calls Try.prog 44 #[.slice A n c] w fun e w' => e = .returned (.bool (boundsB bs)) ∧ ∃ k, w' = w.drewN k := by
  have hlen := hr.1
  unfold maxLen at hn
  have HL := Lib.hid hlen; clear hlen
  go_enter Try.func44, Try.ntmps44
  go_wp2
  go_loopw [3] (fun i wr => ∃ k : Nat, k ≤ n ∧ i = .int .i64 k ∧ Hid (∀ i, i < k → inV (nth bs i) = true) ∧ Hid (∀ i, i + 1 < k → nth bs i < nth bs (i + 1)) ∧ ∃ m, wr = w.drewN m) (fun i _ => n - (intOf i).toNat)
  case atStart => exact ⟨0, Nat.zero_le _, rfl, fun i hi => absurd hi (Nat.not_lt_zero _), fun i hi => by omega, 0, rfl⟩
  case round =>
    obtain ⟨k, hk, rfl, HA, HB, m, rfl⟩ := hrel
    by_cases hlt : k < n
    · obtain ⟨b, o, rfl, hc⟩ := hr.at_ hlt
      have hcell := hc k hlt
      have hlt2 : (k : Int) < (n : Int) := by omega
      cases hv : wi (nth bs k) (-1099511627776) 1099511627776
      · clear hc
        have HW : ∀ W, Calls Try.prog 55 #[.int .i64 (nth bs k), .int .i64 1099511627776] W fun e w' => e = .returned (.bool false) ∧ w' = W := fun W => hv ▸ (rwithin_any _ 1099511627776 W (by omega) (by omega)).mono fun e w2 h => ⟨h.1, h.2.symm⟩
        go_wp2
        go_quiet (first | (go_at_call 55; exact (HW _).mono fun e w2 h => ⟨h.1, _, h.2⟩))
        go_wp2
        go_ret
        exact ⟨ret_bool (boundsB_false (fun h => by have := h.2.1 k (by rw [HL.out]; exact hlt); unfold inV at this; rw [hv] at this; cases this)).symm, m + nq, by first | rfl | rw [World.drewN_drewN]⟩
      · have HW : ∀ W, Calls Try.prog 55 #[.int .i64 (nth bs k), .int .i64 1099511627776] W fun e w' => e = .returned (.bool true) ∧ w' = W := fun W => hv ▸ (rwithin_any _ 1099511627776 W (by omega) (by omega)).mono fun e w2 h => ⟨h.1, h.2.symm⟩
        cases k with
        | zero =>
          clear hc
          rw [Nat.add_zero] at hcell
          go_wp2
          go_quiet (first | (go_at_call 55; exact (HW _).mono fun e w2 h => ⟨h.1, _, h.2⟩))
          go_wp2
          go_roundw
          case rel => exact ⟨1, by omega, rfl, fun i hi => by obtain rfl : i = 0 := by omega
                                                              exact hv, fun i hi => by omega, m + nq, by first | rfl | rw [World.drewN_drewN]⟩
          case measure => simp [intOf]; omega
        | succ j =>
          have hcj := hc j (by omega)
          clear hc
          have q1 : IntKind.i64.wrap ((j : Int) + 1 - 1) = (j : Int) := by rw [show (j : Int) + 1 - 1 = j by omega]; exact IntWalk.i64_in _ (by omega)
          have q4 : ((j : Int) + 1).toNat = j + 1 := by omega
          have q5 : 0 ≤ (j : Int) + 1 := by omega
          have q6 : 0 < (j : Int) + 1 := by omega
          have q7 : (j : Int) < (n : Int) := by omega
          by_cases hord : nth bs (j + 1) ≤ nth bs j
          · go_wp2
            go_quiet (first | (go_at_call 55; exact (HW _).mono fun e w2 h => ⟨h.1, _, h.2⟩))
            go_wp2
            go_ret
            exact ⟨ret_bool (boundsB_false (fun h => by have := h.2.2 j (by rw [HL.out]; omega); omega)).symm, m + nq, by first | rfl | rw [World.drewN_drewN]⟩
          · go_wp2
            go_quiet (first | (go_at_call 55; exact (HW _).mono fun e w2 h => ⟨h.1, _, h.2⟩))
            clear q1 q4 q5 q6
            go_wp2
            go_roundw
            case rel => exact ⟨j + 2, by omega, by go_num, fun i hi => by rcases Nat.lt_succ_iff_lt_or_eq.1 hi with h | rfl <;> first | exact HA.out i h | exact hv, fun i hi => by
              by_cases e : i = j
              · subst e; omega
              · exact HB.out i (by omega), m + nq, by first | rfl | rw [World.drewN_drewN]⟩
            case measure => simp [intOf]; omega
    · have hkn : k = n := by omega
      subst hkn
      by_cases h8 : k ≤ 8
      · have e : Hid (boundsB bs = true) := boundsB_mk ⟨by rw [HL.out]; omega, fun i hi => HA.out i (by rw [HL.out] at hi; exact hi), fun i hi => HB.out i (by rw [HL.out] at hi; omega)⟩
        go_wp2
        go_ret
        exact ⟨ret_bool (by rw [e.out]; simp; omega), m, rfl⟩
      · have e : Hid (boundsB bs = false) := boundsB_false (fun h => h8 (by have := h.1; rw [HL.out] at this; exact this))
        go_wp2
        go_ret
        exact ⟨ret_bool (by rw [e.out]; simp; omega), m, rfl⟩

end Go.Proofs.Ytjgjbhbpndjnnaa
