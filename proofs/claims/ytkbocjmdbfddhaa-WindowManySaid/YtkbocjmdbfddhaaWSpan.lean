/-
  Rows of spans: read, owned, appended to; the laws' helpers SameSpans, SpoilSpans.
-/
import Derived.Test.YtkbocjmdbfddhaaMem
import Derived.Test.YtkbocjmdbfddhaaWFloor
import Derived.OwnWalk
import Derived.Deep.MidRow
namespace Go.Proofs.Ytkbocjmdbfddhaa
open Go.RowKit

def spC (s e : Int) : Array Value := #[.int .i64 s, .int .i64 e]
def spansL (ss : List (Int × Int)) : List Value := ss.flatMap fun p => [.int .i64 p.1, .int .i64 p.2]
def nthS (ss : List (Int × Int)) (k : Nat) : Int × Int := ss.getD k (0, 0)
theorem spansL_len (ss : List (Int × Int)) : (spansL ss).length = ss.length * 2 := by
  induction ss with
  | nil => rfl
  | cons p r ih =>
    have e : spansL (p :: r) = [.int .i64 p.1, .int .i64 p.2] ++ spansL r := rfl
    rw [e, List.length_append, ih, List.length_cons, List.length_cons, List.length_cons, List.length_nil]; omega
theorem spansL_snoc (ss : List (Int × Int)) (p : Int × Int) : spansL (ss ++ [p]) = spansL ss ++ [.int .i64 p.1, .int .i64 p.2] := by simp [spansL]
theorem spansL_at (ss : List (Int × Int)) {k : Nat} (hk : k < ss.length) : (spansL ss)[k * 2]? = some (.int .i64 (nthS ss k).1) ∧ (spansL ss)[k * 2 + 1]? = some (.int .i64 (nthS ss k).2) := by
  induction ss generalizing k with
  | nil => simp at hk
  | cons p r ih =>
    have e : spansL (p :: r) = .int .i64 p.1 :: .int .i64 p.2 :: spansL r := rfl
    rw [e]
    cases k with
    | zero => exact ⟨rfl, rfl⟩
    | succ k =>
      have := ih (k := k) (by simpa using hk)
      rw [show (k + 1) * 2 = k * 2 + 1 + 1 by omega]
      exact this
theorem nthS_of {ss : List (Int × Int)} {k : Nat} {p : Int × Int} (h : ss[k]? = some p) : nthS ss k = p := by
  unfold nthS; rw [List.getD_eq_getElem?_getD, h]; rfl

/-- The slice value '.slice A n _' reads as the spans ss. -/
def Spans (w : World) (A : Option Addr) (n : Nat) (ss : List (Int × Int)) : Prop :=
  ss.length = n ∧ (0 < n → ∃ b o : Nat, A = some ⟨b, o, none⟩ ∧ ∀ k, k < n → w.cell? ⟨b, o + k * 2, none⟩ = some (.int .i64 (nthS ss k).1) ∧ w.cell? ⟨b, o + k * 2 + 1, none⟩ = some (.int .i64 (nthS ss k).2))
section
variable {w w' : World} {n : Nat} {A : Option Addr} {ss : List (Int × Int)}
theorem Spans.at_ (h : Spans w A n ss) {k : Nat} (hk : k < n) : ∃ b o : Nat, A = some ⟨b, o, none⟩ ∧ ∀ k, k < n → w.cell? ⟨b, o + k * 2, none⟩ = some (.int .i64 (nthS ss k).1) ∧ w.cell? ⟨b, o + k * 2 + 1, none⟩ = some (.int .i64 (nthS ss k).2) := h.2 (by omega)
theorem Spans.keep (h : Spans w A n ss) (hk : ∀ p : Addr, p.block < w.heap.size → w'.cell? p = w.cell? p) : Spans w' A n ss :=
  ⟨h.1, fun hn => by
    obtain ⟨b, o, e, hc⟩ := h.2 hn
    refine ⟨b, o, e, fun k hk' => ?_⟩
    obtain ⟨c1, c2⟩ := hc k hk'
    rw [hk _ (block_lt_of_cell c1), hk _ (block_lt_of_cell c2)]
    exact ⟨c1, c2⟩⟩
theorem Spans.below (h : Spans w A n ss) (hb : Below w.heap.size w w') : Spans w' A n ss := h.keep fun _ hp => hb.cell hp
theorem Spans.nil : Spans w A 0 [] := ⟨rfl, fun h => absurd h (by omega)⟩
end
/-- v is a row of spans that the call owns, from block base on. -/
def OwnS (w : World) (base : Nat) (v : Value) (ss : List (Int × Int)) : Prop := w.ownsRow base 38 2 v ss.length (spansL ss)
theorem OwnS.nil (w : World) (base : Nat) : OwnS w base (.slice none 0 0) [] := World.ownsRow_nil _ _ _ _
theorem OwnS.form {w : World} {base : Nat} {v : Value} {ss : List (Int × Int)} (h : OwnS w base v ss) : ∃ A c, v = .slice A ss.length c ∧ ss.length ≤ c ∧ c ≤ maxLen ∧ (∀ ad, A = some ad → base ≤ ad.block) := by
  rcases h.2 with ⟨e, h0⟩ | ⟨g, cap, cur, e, hg, _, hc1, hc2, _⟩
  · exact ⟨none, 0, by rw [e, h0], by omega, Nat.zero_le _, fun ad h => by cases h⟩
  · exact ⟨some ⟨g, 0, none⟩, cap, e, hc1, hc2, fun ad h => by injection h with h; subst h; exact hg⟩
theorem OwnS.spans {w : World} {base : Nat} {A : Option Addr} {n c : Nat} {ss : List (Int × Int)} (h : OwnS w base (.slice A n c) ss) : Spans w A n ss := by
  rcases h.2 with ⟨e, h0⟩ | ⟨g, cap, cur, e, hg, hh, hn, hc, hs, ht⟩
  · injection e with e1 e2 e3
    subst e2
    exact ⟨h0, fun h => absurd h (by omega)⟩
  · injection e with e1 e2 e3
    subst e1; subst e2; subst e3
    refine ⟨rfl, fun hpos => ⟨g, 0, rfl, fun k hk => ?_⟩⟩
    obtain ⟨a1, a2⟩ := spansL_at ss hk
    rw [show 0 + k * 2 = k * 2 by omega, World.ownsRow.cellAt h (k * 2) (by omega), World.ownsRow.cellAt h (k * 2 + 1) (by omega)]
    exact ⟨a1, a2⟩
theorem OwnS.mono {w : World} {base base' : Nat} {v : Value} {ss : List (Int × Int)} (h : OwnS w base v ss) (hb : base' ≤ base) : OwnS w base' v ss := by
  refine ⟨h.1, ?_⟩
  rcases h.2 with h0 | ⟨g, cap, cur, e, hg, r⟩
  · exact .inl h0
  · exact .inr ⟨g, cap, cur, e, Nat.le_trans hb hg, r⟩
theorem OwnS.below {w w' : World} {base : Nat} {v : Value} {ss : List (Int × Int)} (h : OwnS w base v ss) (hb : Below w.heap.size w w') : OwnS w' base v ss :=
  World.ownsRow.kept h (row := none) ⟨hb.os, hb.tape, hb.output, hb.size, fun k hk _ => hb.block k hk⟩ (by
    cases e : v.ownBlock with
    | none => exact .inl rfl
    | some k => exact .inr (by simp))
theorem Try.infoSpan : (Try.prog.info? 38).map (fun i => (i.zero, i.size, i.bytes)) = some (some (.agg (spC 0 0)), 2, 16) := by kernel_rfl
theorem Try.sizeSpan : (Try.prog.info? 38).map (·.size) = some 2 := by kernel_rfl

/-- 's = append(s, span)' in a walk, the span laid into a new row of one first. -/
theorem app_span {ops : Array Oper} {rest : List Oper} {op : Oper} {p : Act} {w : World} {Q : Exit → Act → World → Prop} (hgd : op.guard = none) (s x : Operand)
    (ho : op.op = .call { callee := .builtin .append, args := #[s, x], argTypes := #[25, 25] })
    {base g : Nat} {v : Value} {ss : List (Int × Int)} {y z : Int} (hs : p.eval s = v) (hown : OwnS w base v ss) (hx : p.eval x = .slice (some ⟨g, 0, none⟩) 1 1) (hg : Has w g 38 #[.int .i64 y, .int .i64 z])
    (hn : ss.length ≤ 8192) (hbase : base ≤ w.heap.size)
    (h : ∀ A c w', OwnS w' base (.slice A (ss.length + 1) c) (ss ++ [(y, z)]) → Below base w w' → wpList Try.prog ops Q rest (p.put op.dst (.slice A (ss.length + 1) c)) w') : wpList Try.prog ops Q (op :: rest) p w := by
  obtain ⟨i0, hi, hz, hs0, hy0⟩ := info_parts Try.infoSpan
  refine wpList_append_own w hgd s x 25 ho base 38 i0 _ 2 16 Try.underlying25 hi hz hs0 hy0 rfl (by omega) v ss.length (spansL ss) hs hown ⟨g, 0, none⟩ 1 1 [.int .i64 y, .int .i64 z] hx rfl
    (fun j u hu => ?_) (fun u hu => ?_) (by unfold maxLen; omega) (by omega) hbase (fun v' w' h1 h2 _ => ?_)
  · rw [Addr.add_mid, hg.cell, Nat.zero_add]
    simpa using hu
  · simp only [List.mem_cons, List.not_mem_nil, or_false] at hu
    rcases hu with rfl | rfl <;> rfl
  · have h3 : OwnS w' base v' (ss ++ [(y, z)]) := by unfold OwnS; rw [spansL_snoc, List.length_append]; exact h1
    obtain ⟨A, c', rfl, _⟩ := h3.form
    have e : (ss ++ [(y, z)]).length = ss.length + 1 := by simp
    rw [e] at h3 ⊢
    refine h A c' w' h3 ⟨h2.os, h2.tape, h2.output, h2.size, fun k hk => h2.block k (by omega) (fun e => ?_)⟩
    have := World.ownsRow.lt hown k e.symm
    omega
/-- 'make([]Span, 0, n)' in a walk. -/
theorem make_span {ops : Array Oper} {rest : List Oper} {op : Oper} {p : Act} {w : World} {Q : Exit → Act → World → Prop} (hgd : op.guard = none) (l c : Operand) (ho : op.op = Op.makeSlice 25 l c)
    {C : Int} (n : Nat) (hl : p.eval l = .int .i64 0) (hc : p.eval c = .int .i64 C) (hC : C = (n : Int)) (hn : n ≤ 8192)
    (h : ∀ v w', OwnS w' w.heap.size v [] → Below w.heap.size w w' → wpList Try.prog ops Q rest (p.put op.dst v) w') : wpList Try.prog ops Q (op :: rest) p w := by
  obtain ⟨i0, hi, hz, hs0, hy0⟩ := info_parts Try.infoSpan
  exact wpList_make_own w hgd l c 25 ho w.heap.size 38 i0 _ 2 Try.underlying25 hi hz hs0 .i64 .i64 C n hl hc hC (by rw [hy0]; omega) (by unfold maxLen; omega) (Nat.le_refl _)
    fun w' h1 h2 => h _ w' h1 ⟨h2.os, h2.tape, h2.output, h2.size, fun k hk => h2.block k hk (by simp)⟩

set_option maxHeartbeats 1000000 in
theorem sameSpans_true (A B : Option Addr) (n c d : Nat) (ss : List (Int × Int)) (w : World) (ha : Spans w A n ss) (hb : Spans w B n ss) (hn : n ≤ maxLen) :
    Calls Try.prog 16 #[.slice A n c, .slice B n d] w fun e w' => e = .returned (.bool true) ∧ ∃ k, w' = w.drewN k := by
  unfold maxLen at hn
  go_enter Try.func16, Try.ntmps16
  go_wp2
  go_loopw [5] (fun i wr => ∃ j : Nat, j ≤ n ∧ i = .int .i64 j ∧ ∃ m, wr = w.drewN m) (fun i _ => n - (intOf i).toNat)
  case atStart => exact ⟨0, Nat.zero_le _, rfl, 0, rfl⟩
  case round =>
    obtain ⟨j, hj, rfl, m, rfl⟩ := hrel
    by_cases hlt : j < n
    · obtain ⟨b1, o1, rfl, hc1⟩ := ha.at_ (k := 0) (by omega)
      obtain ⟨b2, o2, rfl, hc2⟩ := hb.at_ (k := 0) (by omega)
      obtain ⟨hx1, hx2⟩ := hc1 j hlt
      obtain ⟨hy1, hy2⟩ := hc2 j hlt
      clear hc1 hc2
      have hlt2 : (j : Int) < (n : Int) := by omega
      go_wp2
      go_quiet (fail)
      go_wp2
      go_roundw
      case rel => exact ⟨j + 1, by omega, by go_num, m + nq, by first | rfl | rw [World.drewN_drewN]⟩
      case measure => simp [intOf]; omega
    · go_wp2
      go_ret
      exact ⟨rfl, m, rfl⟩


end Go.Proofs.Ytkbocjmdbfddhaa
