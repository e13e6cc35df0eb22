/-
  Walk: slices.Clone of a slice of integers; an append of integers onto an empty row.
-/
import Derived.Test.YtgibmcljlaoahaaGLeaf
import Derived.Maps.AppendAt
namespace Go.Proofs.Ytgibmcljlaoahaa
open Go.RowKit

theorem gown_empty (w : World) : OwnI (w.alloc (.cells #[] 3)) w.heap.size (.slice (some ⟨w.heap.size, 0, none⟩) 0 0) [] :=
  ⟨rfl, Or.inr ⟨w.heap.size, 0, #[], rfl, Nat.le_refl _, Has.made w 3 #[], Nat.le_refl _, Nat.zero_le _, rfl, rfl⟩⟩
/-- 's = append(s, ys...)' in a walk, s empty. -/
theorem gapp_ints {ops : Array Oper} {rest : List Oper} {op : Oper} {p : Act} {w : World} {Q : Exit → Act → World → Prop} (hgd : op.guard = none) (s x : Operand)
    (ho : op.op = .call { callee := .builtin .append, args := #[s, x], argTypes := #[39, 39] })
    {base b o n c : Nat} {v : Value} {ys : List Int} (hs : p.eval s = v) (hown : OwnI w base v []) (hx : p.eval x = .slice (some ⟨b, o, none⟩) n c) (hy : Ints w (some ⟨b, o, none⟩) n ys)
    (hn0 : 0 < n) (hn : n ≤ 1000000000) (hbase : base ≤ w.heap.size)
    (h : ∀ A c' w', OwnI w' base (.slice A n c') ys → Below base w w' → wpList Try.prog ops Q rest (p.put op.dst (.slice A n c')) w') : wpList Try.prog ops Q (op :: rest) p w := by
  obtain ⟨i0, hi, hz, hs0, hy0⟩ := rinfo_parts
  have hl := hy.1
  obtain ⟨b', o', e, hc⟩ := hy.at_ hn0
  injection e with e
  injection e with e1 e2
  subst e1 e2
  refine wpList_append_own w hgd s x 39 ho base 3 i0 _ 1 8 Try.underlying39 hi hz hs0 hy0 rfl (by omega) v 0 [] hs hown ⟨b, o, none⟩ n c (intL ys) hx (by simp [intL, hl])
    (fun j u hu => ?_) (fun u hu => ?_) (by unfold maxLen; omega) (by omega) hbase (fun v' w' h1 h2 _ => ?_)
  · have hj : j < n := by have := (List.getElem?_eq_some_iff.1 hu).1; simpa [intL, hl] using this
    rw [Addr.add_mid, hc j hj, ← hu]
    simp [intL, nth, hl, hj]
  · obtain ⟨z, _, rfl⟩ := List.mem_map.1 hu
    rfl
  · have h3 : OwnI w' base v' ys := by unfold OwnI; rw [hl]; simpa using h1
    obtain ⟨A, c', rfl, _⟩ := h3.form
    rw [hl] at h3 ⊢
    refine h A c' w' h3 ⟨h2.os, h2.tape, h2.output, h2.size, fun k hk => h2.block k (by omega) (fun e => ?_)⟩
    have := World.ownsRow.lt hown k e.symm
    omega

/-- 's = append(s, y)' in a walk, y laid into a new row of one first; every other block stays; the new row lies where the old one did, or in a new block. -/
theorem gapp_int {ops : Array Oper} {rest : List Oper} {op : Oper} {p : Act} {w : World} {Q : Exit → Act → World → Prop} (hgd : op.guard = none) (s x : Operand)
    (ho : op.op = .call { callee := .builtin .append, args := #[s, x], argTypes := #[39, 39] })
    {base g n : Nat} {v : Value} {xs : List Int} {y : Int} (hs : p.eval s = v) (hown : OwnI w base v xs) (hx : p.eval x = .slice (some ⟨g, 0, none⟩) 1 1) (hg : w.cell? ⟨g, 0, none⟩ = some (.int .i64 y))
    (hnl : xs.length = n) (hn : n ≤ 1000000000) (hbase : base ≤ w.heap.size)
    (h : ∀ A m c w', m = n + 1 → OwnI w' base (.slice A m c) (xs ++ [y]) → w.grownBy w' v.ownBlock → (∀ ad, A = some ad → v.ownBlock = some ad.block ∨ w.heap.size ≤ ad.block) → wpList Try.prog ops Q rest (p.put op.dst (.slice A m c)) w') : wpList Try.prog ops Q (op :: rest) p w := by
  obtain ⟨i0, hi, hz, hs0, hy0⟩ := rinfo_parts
  subst hnl
  refine wpList_append_own_at w hgd s x 39 ho base 3 i0 _ 1 8 Try.underlying39 hi hz hs0 hy0 rfl (by omega) v xs.length (intL xs) hs hown ⟨g, 0, none⟩ 1 1 [.int .i64 y] hx rfl
    (fun j u hu => ?_) (fun u hu => ?_) (by unfold maxLen; omega) (by omega) hbase (fun v' w' h1 h2 _ h4 => ?_)
  · cases j with
    | zero => rw [Addr.add_mid]; simp at hu; rw [← hu]; exact hg
    | succ j => simp at hu
  · obtain rfl : u = .int .i64 y := by simpa using hu
    rfl
  · have h3 : OwnI w' base v' (xs ++ [y]) := by unfold OwnI intL; simpa [intL] using h1
    obtain ⟨A, c, rfl, _⟩ := h3.form
    have e : (xs ++ [y]).length = xs.length + 1 := by simp
    rw [e] at h3 h4 ⊢
    refine h A _ c w' rfl h3 h2 (fun ad e => ?_)
    subst e
    have e2 : (Value.slice (some ad) (xs.length + 1) c).ownBlock = some ad.block := by
      rcases h3.2 with ⟨e, _⟩ | ⟨g', cap, cur, e, _⟩
      · cases e
      · injection e with e1; injection e1 with e1; subst e1; rfl
    rcases h4 with h4 | h4
    · exact .inl (by rw [← h4, e2])
    · rw [e2] at h4
      injection h4 with h4
      exact .inr (by omega)

set_option maxRecDepth 100000 in
set_option maxHeartbeats 2000000 in
theorem gclone_some (A : Option Addr) (n c : Nat) (xs : List Int) (w : World) (hr : Ints w A n xs) (hn : 0 < n) (hn2 : n ≤ 1000000000) :
    Calls Try.prog 20 #[.slice A n c] w fun e w' => ∃ A' c', e = .returned (.slice A' n c') ∧ OwnI w' w.heap.size (.slice A' n c') xs ∧ Below w.heap.size w w' := by
  obtain ⟨b, o, rfl, hc⟩ := hr.at_ hn
  have HL := Lib.hid hr.1
  have hnil : ∀ W, (binOp .eql 39 (.slice (some ⟨b, o, none⟩) n c) (.slice none 0 0)).run Try.prog W = .ok (.bool false) W := fun W => Lib.run_eql_slice_nil (w := W) (h := Try.underlying39) ..
  go_enter Try.func20, Try.ntmps20
  go_wp2_with (refine gapp_ints rfl _ _ rfl rfl (gown_empty w) rfl (hr.below ((Below.refl _ _).alloc (Nat.le_refl _) _)) hn hn2 (by simp) ?_; intro A2 c2 wn hwn hbn)
  have hB : Below w.heap.size w wn := ((Below.refl _ _).alloc (Nat.le_refl _) _).trans hbn
  go_ret
  exact ⟨A2, _, rfl, hwn, hB⟩
set_option maxHeartbeats 400000 in
theorem gclone_none (w : World) :
    Calls Try.prog 20 #[.slice none 0 0] w fun e w' => e = .returned (.slice none 0 0) ∧ w = w' := by
  have hnil : ∀ W, (binOp .eql 39 (.slice none 0 0) (.slice none 0 0)).run Try.prog W = .ok (.bool true) W := fun W => Lib.run_eql_slice_nil (w := W) (h := Try.underlying39) ..
  go_enter Try.func20, Try.ntmps20
  go_wp2_with fail
  go_ret
  exact ⟨rfl, rfl⟩
/-- A row that a call owns is cloned: nil, or not empty. -/
theorem gclone_any (A : Option Addr) (n c base : Nat) (xs : List Int) (w : World) (hr : OwnI w base (.slice A n c) xs) (hn : A = none ∨ 0 < n) (hn2 : n ≤ 1000000000) :
    Calls Try.prog 20 #[.slice A n c] w fun e w' => ∃ A' c', e = .returned (.slice A' n c') ∧ OwnI w' w.heap.size (.slice A' n c') xs ∧ Below w.heap.size w w' := by
  by_cases h0 : 0 < n
  · exact gclone_some A n c xs w hr.ints h0 hn2
  · obtain rfl : n = 0 := by omega
    rcases hn with rfl | h
    · rcases hr.2 with ⟨e, h1⟩ | ⟨g, cap, cur, e, _⟩
      · injection e with e1 e2 e3
        subst e3
        refine (gclone_none w).mono ?_
        rintro e w' ⟨rfl, rfl⟩
        obtain rfl : xs = [] := List.eq_nil_of_length_eq_zero h1
        exact ⟨none, 0, rfl, OwnI.nil _ _, Below.refl _ _⟩
      · cases e
    · exact absurd h h0

end Go.Proofs.Ytgibmcljlaoahaa
