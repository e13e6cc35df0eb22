/-
  A row of integers that the call itself appends to; results whose buckets may have room behind them.
-/
import Derived.Test.YtdoflmphkalicaaLaw0
import Derived.Test.YtdoflmphkalicaaIRow
import Derived.OwnWalk
namespace Go.Proofs.Ytdoflmphkalicaa
open Go.RowKit

theorem OwnI.rowL {w : World} {base g : Nat} {v : Value} {xs : List Int} (h : OwnI w base v xs) (hg : g < base) (cs : Array Value) : OwnI (w.setRow g cs) base v xs :=
  World.ownsRow.kept h (row := some g) ⟨rfl, rfl, rfl, by simp, fun k _ hne => setRow_other w g k cs (fun e => hne (by rw [e]))⟩ (by
    cases e : v.ownBlock with
    | none => exact .inl rfl
    | some k =>
      refine .inr (fun e2 => ?_)
      obtain ⟨A, c, rfl, _, _, h3⟩ := h.form
      cases A with
      | none => simp [Value.ownBlock] at e
      | some ad =>
        simp [Value.ownBlock] at e
        have := h3 ad rfl
        injection e2 with e2
        omega)

/-- 's = append(s, y)' in a walk, y laid into a new row of one first. -/
theorem app_int {ops : Array Oper} {rest : List Oper} {op : Oper} {p : Act} {w : World} {Q : Exit → Act → World → Prop} (hgd : op.guard = none) (s x : Operand)
    (ho : op.op = .call { callee := .builtin .append, args := #[s, x], argTypes := #[22, 22] })
    {base g : Nat} {v : Value} {xs : List Int} {y : Int} (hs : p.eval s = v) (hown : OwnI w base v xs) (hx : p.eval x = .slice (some ⟨g, 0, none⟩) 1 1) (hg : w.cell? ⟨g, 0, none⟩ = some (.int .i64 y))
    (hn : xs.length ≤ 8192) (hbase : base ≤ w.heap.size)
    (h : ∀ A c w', OwnI w' base (.slice A (xs.length + 1) c) (xs ++ [y]) → Below base w w' → wpList Try.prog ops Q rest (p.put op.dst (.slice A (xs.length + 1) c)) w') : wpList Try.prog ops Q (op :: rest) p w := by
  obtain ⟨i0, hi, hz, hs0, hy0⟩ := info_parts Try.infoInt
  refine wpList_append_own w hgd s x 22 ho base 3 i0 _ 1 8 Try.underlying22 hi hz hs0 hy0 rfl (by omega) v xs.length (intL xs) hs hown ⟨g, 0, none⟩ 1 1 [.int .i64 y] hx rfl
    (fun j u hu => ?_) (fun u hu => ?_) (by unfold maxLen; omega) (by omega) hbase (fun v' w' h1 h2 _ => ?_)
  · cases j with
    | zero => rw [Addr.add_mid]; simp at hu; rw [← hu]; exact hg
    | succ j => simp at hu
  · obtain rfl : u = .int .i64 y := by simpa using hu
    rfl
  · have h3 : OwnI w' base v' (xs ++ [y]) := by unfold OwnI intL; simpa [intL] using h1
    obtain ⟨A, c, rfl, _⟩ := h3.form
    have e : (xs ++ [y]).length = xs.length + 1 := by simp
    rw [e] at h3 ⊢
    refine h A c w' h3 ⟨h2.os, h2.tape, h2.output, h2.size, fun k hk => h2.block k (by omega) (fun e => ?_)⟩
    have := World.ownsRow.lt hown k e.symm
    omega

theorem cell_setRow_far {w : World} {g : Nat} {cs : Array Value} {p : Addr} (h : p.block ≠ g) : (w.setRow g cs).cell? p = w.cell? p := by
  unfold World.cell?
  rw [setRow_other w g p.block cs h]
theorem Ints.row {w : World} {A : Option Addr} {n : Nat} {xs : List Int} (h : Ints w A n xs) {g : Nat} (hg : ∀ ad, A = some ad → ad.block ≠ g) (cs : Array Value) : Ints (w.setRow g cs) A n xs :=
  ⟨h.1, fun hn => by
    obtain ⟨b, o, e, hc⟩ := h.2 hn
    exact ⟨b, o, e, fun k hk => (cell_setRow_far (p := ⟨b, o + k, none⟩) (show b ≠ g from hg _ e)).trans (hc k hk)⟩⟩

/-- Such a row's block holds integers. -/
theorem OwnI.typ {w : World} {base : Nat} {A : Option Addr} {n c : Nat} {xs : List Int} (h : OwnI w base (.slice A n c) xs) : ∀ ad, A = some ad → ∃ cs, Has w ad.block 3 cs := fun ad e => by
  rcases h.2 with ⟨e1, _⟩ | ⟨g, cap, cur, e1, hg, hh, _⟩
  · injection e1 with e2
    rw [e2] at e; cases e
  · injection e1 with e2
    rw [e2] at e
    injection e with e
    subst e
    exact ⟨cur, hh⟩
/-- An aggregate lies in a result: its buckets in new memory, with or without room behind them. -/
structure AccIn (w : World) (B : Nat) (a : Ac) (A : Option Addr) (n c : Nat) : Prop where
  hist : Ints w A n a.h
  cap : n ≤ c
  most : c ≤ maxLen
  new : ∀ ad, A = some ad → B ≤ ad.block
  typ : ∀ ad, A = some ad → ∃ cs, Has w ad.block 3 cs
theorem AccIn.below {w w' : World} {B n c : Nat} {a : Ac} {A : Option Addr} (h : AccIn w B a A n c) (hb : Below w.heap.size w w') : AccIn w' B a A n c := ⟨h.hist.below hb, h.cap, h.most, h.new, fun ad e => by obtain ⟨cs, hh⟩ := h.typ ad e; exact ⟨cs, hh.below hb hh.lt⟩⟩
theorem AccIn.mono {w : World} {B B' n c : Nat} {a : Ac} {A : Option Addr} (h : AccIn w B a A n c) (hB : B' ≤ B) : AccIn w B' a A n c := ⟨h.hist, h.cap, h.most, fun ad e => Nat.le_trans hB (h.new ad e), h.typ⟩
/-- The call hands out this aggregate alone. -/
def FoldAcc (a : Ac) (w : World) (e : Ending) (w' : World) : Prop :=
  ∃ A n c, e = .returned (accV a A n c) ∧ AccIn w' w.heap.size a A n c ∧ Below w.heap.size w w'

/-- A struct that is handed out alone: out of its cell. -/
theorem ret_row1 {P : Program} {fn : Func} {p : Tmp} {ty : TypeId} (h : fn.results = #[.cell p ty]) (tmps : Array Value) (w : World) (g : Nat) (t : TypeId) (cs : Array Value) (d : TypeDesc)
    (hp : tmps.getD p undef = .pointer (some ⟨g, 0, none⟩)) (hg : Has w g t cs) (hu : P.underlying ty = some d) (hd : (match d with | .struct _ | .array _ _ => true | _ => false) = true) (hi : (P.info? ty).map (·.size) = some cs.size) :
    (results fn tmps).run P w = .ok (.agg cs) w := by
  have hp' : tmps[p]?.getD undef = .pointer (some ⟨g, 0, none⟩) := by simpa using hp
  simp [results, h, hp', asAddr, run_loadVar_row w g t ty cs (0, 0) d hg hu hd hi]

end Go.Proofs.Ytdoflmphkalicaa
