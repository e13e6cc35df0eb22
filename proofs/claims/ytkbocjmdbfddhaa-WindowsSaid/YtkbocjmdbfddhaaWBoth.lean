/-
  window.Of and the reference's Windows tell the same.
-/
import Derived.Test.YtkbocjmdbfddhaaWRef2
import Derived.Test.YtkbocjmdbfddhaaWLit
namespace Go.Proofs.Ytkbocjmdbfddhaa
open Go.RowKit

/-- The call hands out these spans, its own, with a code. -/
def BothS (ss : List (Int × Int)) (n : Nat) (code : Int) (w : World) (e : Ending) (w' : World) : Prop :=
  ∃ A c, e = .returned (.tuple #[.slice A n c, .int .i64 code]) ∧ OwnS w' w.heap.size (.slice A n c) ss ∧ Below w.heap.size w w'
theorem both_of {ss : List (Int × Int)} {w : World} {e : Ending} {w' : World} (h : OutSpans ss w e w') : BothS ss ss.length 0 w e w' := h
theorem both_no {w : World} {e : Ending} {w' : World} (h : NoSpans w e w') : BothS [] 0 400 w e w' := ⟨none, 0, h.1, OwnS.nil _ _, h.2⟩
theorem winQ_len (kd sz sl t : Int) : (winQ kd sz sl t).length = (t / stepQ kd sz sl - (t - sz) / stepQ kd sz sl).toNat := winL_len _ _ _ _
theorem both_win (kd ag sz sl rk t : Int) (m : Nat) (bs : List Int) (hm : m ≤ maxLen) : ∃ (ss : List (Int × Int)) (n : Nat) (code : Int), n ≤ maxLen ∧
    (∀ W B d, Ints W B m bs → Calls Try.prog 14 #[.agg #[.int .i64 kd, .int .i64 ag, .int .i64 sz, .int .i64 sl, .slice B m d, .int .i64 rk], .int .i64 t] W (BothS ss n code W)) ∧
    (∀ W B d, Ints W B m bs → Calls Try.prog 15 #[.agg #[.int .i64 kd, .int .i64 ag, .int .i64 sz, .int .i64 sl, .slice B m d, .int .i64 rk], .int .i64 t] W (BothS ss n code W)) := by
  cases h : (mayQ kd ag sz sl bs rk && (decide (kd ≠ 2) && wi t (-1099511627776) 1099511627776))
  · exact ⟨[], 0, 400, Nat.zero_le _, fun W B d hI => (of_bad kd ag sz sl rk t B m d bs W hI hm h).mono fun _ _ => both_no, fun W B d hI => (rwin_bad kd ag sz sl rk t B m d bs W hI hm h).mono fun _ _ => both_no⟩
  · simp only [Bool.and_eq_true] at h
    obtain ⟨h1, h2, h3⟩ := h
    have h2 := of_decide_eq_true h2
    obtain ⟨s1, s2, s3, s4, s5⟩ := stepQ_bd h1
    have hb := win_bd t (stepQ kd sz sl) sz s1 s2 s5
    refine ⟨winQ kd sz sl t, (winQ kd sz sl t).length, 0, ?_, fun W B d hI => (of_ok kd ag sz sl rk t B m d bs W hI hm h1 h2 h3).mono fun _ _ => both_of, fun W B d hI => (rwin_ok kd ag sz sl rk t B m d bs W hI hm h1 h2 h3).mono fun _ _ => both_of⟩
    rw [winQ_len]
    unfold maxLen
    omega
theorem OwnS.far {w w' : World} {base : Nat} {v : Value} {ss : List (Int × Int)} (h : OwnS w base v ss) (hk : ∀ k, v.ownBlock = some k → w'.heap[k]? = w.heap[k]?) : OwnS w' base v ss := by
  refine ⟨h.1, ?_⟩
  rcases h.2 with h0 | ⟨g, cap, cur, e, hg, hh, r⟩
  · exact .inl h0
  · exact .inr ⟨g, cap, cur, e, hg, (hk g (by rw [e]; rfl)).trans hh, r⟩
/-- The query in its variable, and the bounds that came in. -/
structure WiS (w : World) (q : Array Value) (B : Option Addr) (m : Nat) (bs : List Int) (wr : World) : Prop where
  box : Has wr w.heap.size 24 q
  bnd : Ints wr B m bs
  keep : Below w.heap.size w wr
theorem WiS.below {w : World} {q : Array Value} {B : Option Addr} {m : Nat} {bs : List Int} {wr wy : World} (h : WiS w q B m bs wr) (hi : Ints w B m bs) {b : Nat} (hb : Below b wr wy) (hw : w.heap.size < b) : WiS w q B m bs wy :=
  ⟨h.box.below hb hw, hi.below (h.keep.trans (hb.mono (by omega))), h.keep.trans (hb.mono (by omega))⟩


end Go.Proofs.Ytkbocjmdbfddhaa
