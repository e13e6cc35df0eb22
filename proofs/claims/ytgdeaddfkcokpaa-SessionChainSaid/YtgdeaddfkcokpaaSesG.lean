/-
  Rows of integers and of items that grow beside one another.
-/
import Derived.Test.YtgdeaddfkcokpaaSesBr
import Derived.Test.YtgdeaddfkcokpaaItemsO
namespace Go.Proofs.Ytgdeaddfkcokpaa
open Go.RowKit

theorem ownIt_one {w : World} {g : Nat} {x : It} (h : Has w g 23 #[.int .i64 x.s, .int .i64 x.t, .int .i64 x.q, .int .i64 x.v]) {base : Nat} (hb : base ≤ g) : OwnIt w base (.slice (some ⟨g, 0, none⟩) 1 1) [x] :=
  ⟨rfl, .inr ⟨g, 1, _, rfl, hb, h, Nat.le_refl _, by unfold maxLen; omega, rfl, rfl⟩⟩
theorem OwnIt.caps {w : World} {base : Nat} {A : Option Addr} {n c : Nat} {xs : List It} (h : OwnIt w base (.slice A n c) xs) : xs.length = n ∧ n ≤ c := by
  rcases h.2 with ⟨e, h0⟩ | ⟨g', cap, cur, e, _, _, hc, _⟩
  · injection e with _ e2 e3; omega
  · injection e with _ e2 e3; omega
theorem OwnIt.some_ {w : World} {base : Nat} {A : Option Addr} {n c : Nat} {xs : List It} (h : OwnIt w base (.slice A n c) xs) : A = none → c = 0 := fun e => by
  rcases h.2 with ⟨e0, _⟩ | ⟨g', cap, cur, e0, _⟩
  · injection e0
  · injection e0 with e1; rw [e1] at e; cases e
theorem OwnIt.grew {w w' : World} {base base' : Nat} {u v v' : Value} {xs : List It} (h : OwnIt w base u xs) (hg : Grew w w' base' v v') (hd : ∀ k, u.ownBlock = some k → v.ownBlock ≠ some k) : OwnIt w' base u xs := by
  refine ⟨h.1, ?_⟩
  rcases h.2 with h0 | ⟨g, cap, cur, e, hg2, hh, r⟩
  · exact .inl h0
  · have hk : u.ownBlock = some g := by rw [e]; rfl
    exact .inr ⟨g, cap, cur, e, hg2, (hg.far g (Has.lt (t := 23) hh) (hd g hk)).trans hh, r⟩
/-- A row of items lies where no row of integers does. -/
theorem OwnIt.other {w : World} {base base' : Nat} {v u : Value} {xs : List It} {ys : List Int} (h : OwnIt w base v xs) (hu : OwnI w base' u ys) : ∀ k, v.ownBlock = some k → u.ownBlock ≠ some k := fun k hk e => by
  rcases h.2 with ⟨ev, _⟩ | ⟨g', cap, cur, ev, _, hh, _⟩
  · simp [ev, Value.ownBlock] at hk
  · have e1 : g' = k := by simpa [ev, Value.ownBlock] using hk
    rcases hu.2 with ⟨eu, _⟩ | ⟨g2, cap2, cur2, eu, _, hh2, _⟩
    · simp [eu, Value.ownBlock] at e
    · have e2 : g2 = k := by simpa [eu, Value.ownBlock] using e
      subst e1
      subst e2
      exact has_types (show Has w _ 3 cur2 from hh2) (show Has w _ 23 cur from hh) (by decide)
/-- 's = append(s, y)' of integers in a walk: nothing else turns. -/
theorem app_intG {ops : Array Oper} {rest : List Oper} {op : Oper} {p : Act} {w : World} {Q : Exit → Act → World → Prop} (hgd : op.guard = none) (s x : Operand)
    (ho : op.op = .call { callee := .builtin .append, args := #[s, x], argTypes := #[25, 25] })
    {base g n c : Nat} {A : Option Addr} {xs : List Int} {y : Int} (hs : p.eval s = .slice A n c) (hown : OwnI w base (.slice A n c) xs) (hx : p.eval x = .slice (some ⟨g, 0, none⟩) 1 1) (hg : w.cell? ⟨g, 0, none⟩ = some (.int .i64 y))
    (hn : n ≤ 8192) (hbase : base ≤ w.heap.size)
    (h : ∀ A' c' w', OwnI w' base (.slice A' (n + 1) c') (xs ++ [y]) → Grew w w' base (.slice A n c) (.slice A' (n + 1) c') → wpList Try.prog ops Q rest (p.put op.dst (.slice A' (n + 1) c')) w') : wpList Try.prog ops Q (op :: rest) p w := by
  obtain ⟨i0, hi, hz, hs0, hy0⟩ := info_parts Try.infoInt
  have hl : xs.length = n := by
    obtain ⟨_, _, e, _⟩ := hown.form
    injection e with _ e2
    exact e2.symm
  refine wpList_append_own_at w hgd s x 25 ho base 3 i0 _ 1 8 Try.underlying25 hi hz hs0 hy0 rfl (by omega) (.slice A n c) xs.length (intL xs) hs hown ⟨g, 0, none⟩ 1 1 [.int .i64 y] hx rfl
    (fun j u hu => ?_) (fun u hu => ?_) (by unfold maxLen; omega) (by omega) hbase (fun v' w' h1 h2 _ h4 => ?_)
  · cases j with
    | zero => rw [Addr.add_mid]; simpa using hg.trans (by simpa using hu)
    | succ j => simp at hu
  · simp only [List.mem_cons, List.not_mem_nil, or_false] at hu
    subst hu; rfl
  · have h3 : OwnI w' base v' (xs ++ [y]) := by unfold OwnI; simpa [intL] using h1
    obtain ⟨A', c', rfl, _⟩ := h3.form
    have e : (xs ++ [y]).length = n + 1 := by simp [hl]
    rw [e] at h3 h4 ⊢
    refine h A' c' w' h3 ⟨⟨h2.os, h2.tape, h2.output, h2.size, fun k hk => h2.block k (by omega) (fun e => ?_)⟩, fun k hk hne => h2.block k hk (fun e => hne e.symm), h4⟩
    have := World.ownsRow.lt hown k e.symm
    omega
/-- The same of items. -/
theorem app_itemG {ops : Array Oper} {rest : List Oper} {op : Oper} {p : Act} {w : World} {Q : Exit → Act → World → Prop} (hgd : op.guard = none) (s x : Operand)
    (ho : op.op = .call { callee := .builtin .append, args := #[s, x], argTypes := #[46, 46] })
    {base g n c : Nat} {A : Option Addr} {xs : List It} (y : It) (hs : p.eval s = .slice A n c) (hown : OwnIt w base (.slice A n c) xs) (hx : p.eval x = .slice (some ⟨g, 0, none⟩) 1 1) (hg : Has w g 23 #[.int .i64 y.s, .int .i64 y.t, .int .i64 y.q, .int .i64 y.v])
    (hn : n ≤ 8192) (hbase : base ≤ w.heap.size)
    (h : ∀ A' c' w', OwnIt w' base (.slice A' (n + 1) c') (xs ++ [y]) → Grew w w' base (.slice A n c) (.slice A' (n + 1) c') → wpList Try.prog ops Q rest (p.put op.dst (.slice A' (n + 1) c')) w') : wpList Try.prog ops Q (op :: rest) p w := by
  obtain ⟨i0, hi, hz, hs0, hy0⟩ := info_parts Try.infoItem
  have hl : xs.length = n := hown.caps.1
  refine wpList_append_own_at w hgd s x 46 ho base 23 i0 _ 4 32 Try.underlying46 hi hz hs0 hy0 rfl (by omega) (.slice A n c) xs.length (xs.flatMap itemL) hs hown ⟨g, 0, none⟩ 1 1 (itemL y) hx rfl
    (fun j u hu => ?_) (fun u hu => ?_) (by unfold maxLen; omega) (by omega) hbase (fun v' w' h1 h2 _ h4 => ?_)
  · rw [Addr.add_mid, hg.cell, Nat.zero_add]
    simpa [itemL] using hu
  · simp only [itemL, List.mem_cons, List.not_mem_nil, or_false] at hu
    rcases hu with rfl | rfl | rfl | rfl <;> rfl
  · have h3 : OwnIt w' base v' (xs ++ [y]) := by unfold OwnIt; simpa [List.flatMap_append] using h1
    obtain ⟨A', c', rfl, _⟩ := h3.form
    have e : (xs ++ [y]).length = n + 1 := by simp [hl]
    rw [e] at h3 h4 ⊢
    refine h A' c' w' h3 ⟨⟨h2.os, h2.tape, h2.output, h2.size, fun k hk => h2.block k (by omega) (fun e => ?_)⟩, fun k hk hne => h2.block k hk (fun e => hne e.symm), h4⟩
    have := World.ownsRow.lt hown k e.symm
    omega

end Go.Proofs.Ytgdeaddfkcokpaa
