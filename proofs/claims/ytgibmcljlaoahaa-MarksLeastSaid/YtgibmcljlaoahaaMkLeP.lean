/-
  The marks and the law's own row of the same times, side by side.
-/
import Derived.Test.YtgibmcljlaoahaaMkAwake
import Derived.Test.YtgibmcljlaoahaaOpenP
import Derived.IntWalk
namespace Go.Proofs.Ytgibmcljlaoahaa
open Go.RowKit

theorem place_at (a : Int) {m : Nat} (hm : 1 ≤ m ∧ m ≤ 8) : ∃ k : Nat, k < m ∧ (IntKind.u64.wrap a).tmod (m : Int) = k := by
  have h1 : 0 ≤ IntKind.u64.wrap a := by rw [IntKind.wrap_u64]; omega
  have h2 := Int.tmod_nonneg (m : Int) h1
  have h3 := Int.tmod_lt_of_pos (IntKind.u64.wrap a) (show (0 : Int) < (m : Int) by omega)
  obtain ⟨k, hk⟩ := Int.eq_ofNat_of_zero_le h2
  rw [hk] at h3 ⊢
  exact ⟨k, by omega, rfl⟩
theorem tmod1000 (a : Int) : -1000 < a.tmod 1000 ∧ a.tmod 1000 < 1000 := by
  have h1 := Int.tmod_lt_of_pos a (show (0 : Int) < 1000 by omega)
  have h2 := Int.lt_tmod_of_pos a (show (0 : Int) < 1000 by omega)
  omega

/-- The law's row while it grows. -/
structure RoS (w0 : World) (g b c k : Nat) (B : Nat) (A : Option Addr) (j rc : Nat) (w : World) : Prop where
  mkk : MkK 51 w0 g b c (noneM k) w
  own : OwnI w B (.slice A j rc) (noneM j)
  lg : g < B
  lb : b < B
  lB : w0.heap.size ≤ B
  lw : B ≤ w.heap.size
theorem RoS.one {w0 : World} {g b c k B : Nat} {A : Option Addr} {j rc : Nat} {w : World} (h : RoS w0 g b c k B A j rc w) (o : Obj) : RoS w0 g b c k B A j rc (w.alloc o) :=
  have hb : Below w.heap.size w (w.alloc o) := (Below.refl _ _).alloc (Nat.le_refl _) _
  ⟨h.mkk.mono hb, h.own.below hb, h.lg, h.lb, h.lB, Nat.le_trans h.lw hb.size⟩
theorem RoS.next {w0 : World} {g b c k B : Nat} {A A2 : Option Addr} {j m rc r2 : Nat} {w w' : World} (h : RoS w0 g b c k B A j rc w) (hm : m = j + 1) (ho : OwnI w' B (.slice A2 m r2) (noneM j ++ [-4398046511104])) (hg : w.grownBy w' (Value.slice A j rc).ownBlock) : RoS w0 g b c k B A2 (j + 1) r2 w' := by
  subst hm
  have e : noneM j ++ [-4398046511104] = noneM (j + 1) := by unfold noneM; rw [List.replicate_succ']
  rw [e] at ho
  have hb : Below B w w' := ⟨hg.os, hg.tape, hg.output, hg.size, fun i hi => hg.block i (Nat.lt_of_lt_of_le hi h.lw) (fun e => by have := own_ge h.own e.symm; omega)⟩
  exact ⟨⟨h.mkk.row.under hb h.lg h.lb, h.mkk.keep.trans (hb.mono h.lB), h.mkk.fg, h.mkk.fb⟩, ho, h.lg, h.lb, h.lB, Nat.le_trans h.lw hb.size⟩

/-- The marks hold xs, and so does the law's own row. -/
structure LeS (w0 : World) (g b c rb rc k : Nat) (xs : List Int) (w : World) : Prop where
  mkk : MkK 51 w0 g b c xs w
  own : OwnI w 0 (.slice (some ⟨rb, 0, none⟩) xs.length rc) xs
  fr : w0.heap.size ≤ rb
  d1 : g ≠ rb
  d2 : b ≠ rb
  len : xs.length = k
theorem RoS.done {w0 : World} {g b c k B : Nat} {A : Option Addr} {rc : Nat} {w : World} (h : RoS w0 g b c k B A k rc w) (hk : 1 ≤ k) : ∃ rb, A = some ⟨rb, 0, none⟩ ∧ LeS w0 g b c rb rc k (noneM k) w := by
  have hl := noneM_len k
  have hg := h.lg
  have hb := h.lb
  rcases h.own.2 with ⟨e, h0⟩ | ⟨rb, cap, cur, e, hrb, hh, r⟩
  · rw [hl] at h0; omega
  · injection e with e1 e2 e3
    subst e1
    refine ⟨rb, rfl, h.mkk, ?_, Nat.le_trans h.lB hrb, by omega, by omega, hl⟩
    rw [hl]
    exact h.own.mono (Nat.zero_le _)
section
variable {w0 w w' : World} {g b c rb rc k : Nat} {xs : List Int}
theorem LeS.cellAt (h : LeS w0 g b c rb rc k xs w) (i : Nat) (hi : i < k) : w.cell? ⟨rb, i, none⟩ = some (.int .i64 (nth xs i)) := by
  have hl := h.len
  have := World.ownsRow.cellAt h.own i (by omega)
  rw [this]
  have : i < xs.length := by omega
  simp [intL, nth, this]
theorem LeS.markAt (h : LeS w0 g b c rb rc k xs w) (i : Nat) : w.frozen? ⟨rb, i, none⟩ = false := World.ownsRow.frozenAt h.own i
theorem LeS.rLt (h : LeS w0 g b c rb rc k xs w) : rb < w.heap.size := by
  obtain ⟨cur, hh, _⟩ := h.own.at_b
  exact hh.lt
theorem OwnI.keepAt {w w' : World} {rb n rc : Nat} {xs : List Int} (h : OwnI w 0 (.slice (some ⟨rb, 0, none⟩) n rc) xs) (hb : w'.heap[rb]? = w.heap[rb]?) : OwnI w' 0 (.slice (some ⟨rb, 0, none⟩) n rc) xs := by
  refine ⟨h.1, ?_⟩
  rcases h.2 with h0 | ⟨k, cap, cur, e, hk, hh, r⟩
  · exact .inl h0
  · refine .inr ⟨k, cap, cur, e, hk, ?_, r⟩
    injection e with e1 e2 e3
    injection e1 with e1
    injection e1 with e1 e4 e5
    subst e1
    exact hb.trans hh
/-- Behind Set the law's row is written as well. -/
theorem LeS.set (h : LeS w0 g b c rb rc k xs w) {s : Nat} {t M : Int} {ys : List Int} (hm : Mk 51 w' g b c ys) (hb : ButS [b] w w') (hM : max (nth xs s) t = M) (hy : putM xs s t = ys) :
    w'.cell? ⟨rb, s, none⟩ = w.cell? ⟨rb, s, none⟩ ∧ w'.frozen? ⟨rb, s, none⟩ = false ∧ LeS w0 g b c rb rc k ys (w'.setCell ⟨rb, s, none⟩ (.int .i64 M)) := by
  subst hM hy
  have hr : w'.heap[rb]? = w.heap[rb]? := hb.other rb h.rLt (by simpa using h.d2.symm)
  have ho : OwnI w' 0 (.slice (some ⟨rb, 0, none⟩) xs.length rc) xs := h.own.keepAt hr
  have hK := h.mkk.butS hm hb
  refine ⟨World.cell?_of_block (a := ⟨rb, s, none⟩) hr, World.ownsRow.frozenAt ho s, ⟨⟨?_, ?_, hK.fg, hK.fb⟩, ?_, h.fr, h.d1, h.d2, by rw [putM_length]; exact h.len⟩⟩
  · exact hm.keep (heap_setCell_other _ _ _ _ (by exact h.d1)) (heap_setCell_other _ _ _ _ (by exact h.d2))
  · exact hK.keep.setCell h.fr _
  · rw [putM_length]
    exact ho.stored s _
theorem LeS.below (h : LeS w0 g b c rb rc k xs w) (hb : Below w.heap.size w w') : LeS w0 g b c rb rc k xs w' := ⟨h.mkk.mono hb, h.own.below hb, h.fr, h.d1, h.d2, h.len⟩
end

end Go.Proofs.Ytgibmcljlaoahaa
