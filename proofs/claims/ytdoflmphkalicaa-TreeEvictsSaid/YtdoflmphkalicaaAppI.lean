/-
  An empty row of ints, and what is appended to a row of ints.
-/
import Derived.Test.YtdoflmphkalicaaOwnI
import Derived.Test.YtdoflmphkalicaaOneP
import Derived.Lib.LazyBuf
namespace Go.Proofs.Ytdoflmphkalicaa
open Go.RowKit

theorem has3 (w : World) (x y : Obj) (t : TypeId) (cs : Array Value) : Has (((w.alloc x).alloc y).alloc (.cells cs t)) (w.heap.size + 1 + 1) t cs := by
  have h := Has.made ((w.alloc x).alloc y) t cs
  have e : ((w.alloc x).alloc y).heap.size = w.heap.size + 1 + 1 := by simp
  rw [e] at h
  exact h
theorem below3 (w : World) (x y z : Obj) : Below w.heap.size w (((w.alloc x).alloc y).alloc z) := below_alloc (below_alloc (below_alloc (Below.refl _ _) (Nat.le_refl _) _) (Nat.le_refl _) _) (Nat.le_refl _) _

theorem own_empty (w : World) : OwnI (w.alloc (.cells #[] 3)) w.heap.size (.slice (some ⟨w.heap.size, 0, none⟩) 0 0) [] :=
  ⟨rfl, Or.inr ⟨w.heap.size, 0, #[], rfl, Nat.le_refl _, Has.made w 3 #[], Nat.le_refl _, Nat.zero_le _, rfl, rfl⟩⟩
/-- 's = append(s, ys...)' in a walk, s empty. -/
theorem app_ints {ops : Array Oper} {rest : List Oper} {op : Oper} {p : Act} {w : World} {Q : Exit → Act → World → Prop} (hgd : op.guard = none) (s x : Operand)
    (ho : op.op = .call { callee := .builtin .append, args := #[s, x], argTypes := #[22, 22] })
    {base b o n c : Nat} {v : Value} {ys : List Int} (hs : p.eval s = v) (hown : OwnI w base v []) (hx : p.eval x = .slice (some ⟨b, o, none⟩) n c) (hy : Ints w (some ⟨b, o, none⟩) n ys)
    (hn0 : 0 < n) (hn : n ≤ 8192) (hbase : base ≤ w.heap.size)
    (h : ∀ A c' w', OwnI w' base (.slice A n c') ys → Below base w w' → wpList Try.prog ops Q rest (p.put op.dst (.slice A n c')) w') : wpList Try.prog ops Q (op :: rest) p w := by
  obtain ⟨i0, hi, hz, hs0, hy0⟩ := info_parts Try.infoInt
  have hl := hy.1
  obtain ⟨b', o', e, hc⟩ := hy.at_ hn0
  injection e with e
  injection e with e1 e2
  subst e1 e2
  refine wpList_append_own w hgd s x 22 ho base 3 i0 _ 1 8 Try.underlying22 hi hz hs0 hy0 rfl (by omega) v 0 [] hs hown ⟨b, o, none⟩ n c (intL ys) hx (by simp [intL, hl])
    (fun j u hu => ?_) (fun u hu => ?_) (by unfold maxLen; omega) (by omega) hbase (fun v' w' h1 h2 _ => ?_)
  · have hj : j < n := by have := (List.getElem?_eq_some_iff.1 hu).1; simpa [intL, hl] using this
    rw [Addr.add_mid, hc j hj, ← hu]
    simp [intL, nth, hl, hj]
  · obtain ⟨z, _, rfl⟩ := List.mem_map.1 hu
    rfl
  · have h3 : OwnI w' base v' ys := by unfold OwnI; rw [hl]; simpa using h1
    obtain ⟨A, c', rfl, _⟩ := h3.form
    rw [hl] at h3 ⊢
    refine h A c' w' h3 ⟨h2.os, h2.tape, h2.output, h2.size, fun k hk => h2.block k (by omega) (fun e => ?_)⟩
    have := World.ownsRow.lt hown k e.symm
    omega

end Go.Proofs.Ytdoflmphkalicaa
