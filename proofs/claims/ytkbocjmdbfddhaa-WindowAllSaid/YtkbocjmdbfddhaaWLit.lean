/-
  window.Of where its answer is known; rows of spans as the laws write them; where windows lie in memory.
-/
import Derived.Test.YtkbocjmdbfddhaaWOf
namespace Go.Proofs.Ytkbocjmdbfddhaa
open Go.RowKit

/-- window.Of where its answer is known. -/
theorem of_lit (kd ag sz sl rk t : Int) (B : Option Addr) (m d : Nat) (bs : List Int) (ss : List (Int × Int)) (n : Nat) (w : World) (hb : Ints w B m bs) (hm : m ≤ maxLen)
    (h1 : mayQ kd ag sz sl bs rk = true) (h2 : kd ≠ 2) (h3 : wi t (-1099511627776) 1099511627776 = true) (hW : winQ kd sz sl t = ss) (hn : ss.length = n) :
    Calls Try.prog 14 #[.agg #[.int .i64 kd, .int .i64 ag, .int .i64 sz, .int .i64 sl, .slice B m d, .int .i64 rk], .int .i64 t] w
      fun e w' => ∃ A c, e = .returned (.tuple #[.slice A n c, .int .i64 0]) ∧ OwnS w' w.heap.size (.slice A n c) ss ∧ Below w.heap.size w w' := by
  have := of_ok kd ag sz sl rk t B m d bs w hb hm h1 h2 h3
  rw [hW] at this
  subst hn
  exact this
theorem spans_lit {w : World} {g n : Nat} {cs : Array Value} (ss : List (Int × Int)) (h : Has w g 38 cs) (he : cs = (spansL ss).toArray) (hn : ss.length = n) : Spans w (some ⟨g, 0, none⟩) n ss := by
  subst hn
  subst he
  refine ⟨rfl, fun _ => ⟨g, 0, rfl, fun k hk => ?_⟩⟩
  obtain ⟨a1, a2⟩ := spansL_at ss hk
  rw [show 0 + k * 2 = k * 2 by omega, h.cell, h.cell]
  simpa using ⟨a1, a2⟩
theorem own_keep {w w' : World} {B : Nat} {A : Option Addr} {n c : Nat} {ss : List (Int × Int)} (h : OwnS w B (.slice A n c) ss) (hb : Below w.heap.size w w') : Spans w' A n ss := (h.below hb).spans

theorem may_tumble (sz : Int) (h1 : 1 ≤ sz) (h2 : sz ≤ 1073741824) : mayQ 0 0 sz 0 [] 0 = true := by
  unfold mayQ
  rw [wi_mk (by decide), wi_mk (by decide), wi_mk ⟨h1, h2⟩]
  rfl
theorem tumble_list (sz t : Int) (h1 : 1 ≤ sz) : winQ 0 sz 0 t = [(t / sz * sz, t / sz * sz + sz)] := by
  have e : (t - sz) / sz = t / sz - 1 := by
    rw [show t - sz = t + (-1) * sz by omega, Int.add_mul_ediv_right _ _ (by omega)]; omega
  unfold winQ
  rw [show stepQ 0 sz 0 = sz from rfl, e, show (t / sz - (t / sz - 1)).toNat = 1 by omega]
  show [] ++ [((t / sz - 1 + 1 + ((0 : Nat) : Int)) * sz, (t / sz - 1 + 1 + ((0 : Nat) : Int)) * sz + sz)] = _
  rw [show t / sz - 1 + 1 + ((0 : Nat) : Int) = t / sz by omega]
  rfl
theorem tumble_any (sz t : Int) (W : World) (h1 : 1 ≤ sz) (h2 : sz ≤ 1073741824) (h3 : wi t (-1099511627776) 1099511627776 = true) :
    Calls Try.prog 14 #[.agg #[.int .i64 0, .int .i64 0, .int .i64 sz, .int .i64 0, .slice none 0 0, .int .i64 0], .int .i64 t] W
      fun e w' => ∃ A c, e = .returned (.tuple #[.slice A 1 c, .int .i64 0]) ∧ OwnS w' W.heap.size (.slice A 1 c) [(t / sz * sz, t / sz * sz + sz)] ∧ Below W.heap.size W w' :=
  of_lit 0 0 sz 0 0 t none 0 0 [] _ 1 W Ints.nil (Nat.zero_le _) (may_tumble sz h1 h2) (by decide) h3 (tumble_list sz t h1) rfl
/-- The one span of a row, in memory. -/
theorem one_span {w : World} {A : Option Addr} {s e : Int} (h : Spans w A 1 [(s, e)]) : ∃ b o : Nat, A = some ⟨b, o, none⟩ ∧ w.cell? ⟨b, o, none⟩ = some (.int .i64 s) ∧ w.cell? ⟨b, o + 1, none⟩ = some (.int .i64 e) := by
  obtain ⟨b, o, rfl, hc⟩ := h.at_ (k := 0) (by omega)
  have := hc 0 (by omega)
  exact ⟨b, o, rfl, this.1, this.2⟩

theorem nth_winL (a k m : Int) {n i : Nat} (h : i < n) : nthS (winL a k m n) i = ((a + 1 + i) * k, (a + 1 + i) * k + m) := nthS_of (winL_at a k m h)
/-- A row of windows, in memory: where the j-th one lies. -/
theorem span_at {w : World} {A : Option Addr} {n j : Nat} {a k m z : Int} (h : Spans w A n (winL a k m n)) (hj : j < n) (hz : (a + 1 + (j : Int)) * k = z) :
    ∃ b o : Nat, A = some ⟨b, o, none⟩ ∧ w.cell? ⟨b, o + j * 2, none⟩ = some (.int .i64 z) ∧ w.cell? ⟨b, o + j * 2 + 1, none⟩ = some (.int .i64 (z + m)) := by
  obtain ⟨b, o, rfl, hc⟩ := h.at_ hj
  have := hc j hj
  rw [nth_winL a k m hj, hz] at this
  exact ⟨b, o, rfl, this.1, this.2⟩
theorem moved (t c k m : Int) (hk : 1 ≤ k) : (t + c * k) / k = t / k + c ∧ (t + c * k - m) / k = (t - m) / k + c := by
  refine ⟨Int.add_mul_ediv_right _ _ (by omega), ?_⟩
  rw [show t + c * k - m = t - m + c * k by omega, Int.add_mul_ediv_right _ _ (by omega)]


end Go.Proofs.Ytkbocjmdbfddhaa
