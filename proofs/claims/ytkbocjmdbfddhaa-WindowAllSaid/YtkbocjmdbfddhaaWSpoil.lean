/-
  Walk: the laws' helper SpoilSpans.
-/
import Derived.Test.YtkbocjmdbfddhaaWSpan
import Derived.Great.Walk
namespace Go.Proofs.Ytkbocjmdbfddhaa
open Go.RowKit

/-- A slice of spans that may be written. -/
structure SpW (w : World) (base g n : Nat) (wr : World) : Prop where
  cells : ∃ t cs, Has wr g t cs ∧ ∀ i, i < n → ∃ z, cs[i * 2 + 1]? = some (.int .i64 z)
  keep : Below base w wr
  far : base ≤ g
  other : ∀ k, k ≠ g → wr.heap[k]? = w.heap[k]?

set_option maxHeartbeats 1000000 in
theorem spoilSpans_any (A : Option Addr) (n c : Nat) (ss : List (Int × Int)) (base : Nat) (w : World) (ho : OwnS w base (.slice A n c) ss) (hn : n ≤ maxLen) :
    Calls Try.prog 18 #[.slice A n c] w fun e w' => e = .returned (.tuple #[]) ∧ Below base w w' ∧ ∀ k, (∀ ad, A = some ad → k ≠ ad.block) → w'.heap[k]? = w.heap[k]? := by
  unfold maxLen at hn
  go_enter Try.func18, Try.ntmps18
  by_cases h0 : n = 0
  · subst h0
    go_wp2
    refine wp_loop_rounds 1 ?_; rw [rounds_succ]
    go_wp2
    exact Great.bodyPost_end0 rfl rfl ⟨rfl, Below.refl _ _, fun _ _ => rfl⟩
  · have hS : ∃ g, A = some ⟨g, 0, none⟩ ∧ SpW w base g n w := by
      have hsp := ho.spans
      obtain ⟨b, o, e, hc⟩ := hsp.at_ (k := 0) (by omega)
      rcases ho.2 with ⟨e1, h1⟩ | ⟨g, cap, cur, e1, hg, hh, hn1, hc1, hs1, _⟩
      · injection e1 with e2 e3 e4
        omega
      · injection e1 with e2 e3 e4
        subst e2
        refine ⟨g, rfl, ⟨38, cur, hh, fun i hi => ⟨(nthS ss i).2, ?_⟩⟩, Below.refl _ _, hg, fun _ _ => rfl⟩
        injection e with e
        injection e with e5 e6
        subst e5 e6
        have := (hc i hi).2
        rw [show 0 + i * 2 + 1 = i * 2 + 1 by omega] at this
        rw [← Has.cell (g := g) (w := w) hh (i * 2 + 1)]; exact this
    obtain ⟨g, rfl, hS⟩ := hS
    clear ho
    have HS := Lib.hid hS; clear hS
    go_wp2_with fail
    go_loopw [2] (fun i wr => ∃ j : Nat, j ≤ n ∧ i = .int .i64 j ∧ Hid (SpW w base g n wr)) (fun i _ => n - (intOf i).toNat)
    case atStart => exact ⟨0, Nat.zero_le _, rfl, HS⟩
    case round =>
      clear HS
      obtain ⟨j, hj, rfl, HS⟩ := hrel
      by_cases hlt : j < n
      · obtain ⟨t, cs, hh, hz⟩ := HS.out.cells
        obtain ⟨z, hz1⟩ := hz j hlt
        have hcell : wr.cell? ⟨g, j * 2 + 1, none⟩ = some (.int .i64 z) := (hh.cell (j * 2 + 1)).trans hz1
        have hmark := hh.mark (j * 2 + 1)
        have hjn : (j : Int) < (n : Int) := by omega
        have HZ := Lib.hid hz; clear hz
        have HH := Lib.hid hh; clear hh
        have HZ1 := Lib.hid hz1; clear hz1
        go_wp2_with fail
        go_roundw
        case rel =>
          refine ⟨j + 1, by omega, by go_num, ⟨t, _, HH.out.put (j * 2 + 1) _, fun i hi => ?_⟩, HS.out.keep.setCell HS.out.far _, HS.out.far, fun k hk => (heap_setCell_other _ _ k _ hk).trans (HS.out.other k hk)⟩
          by_cases e : j = i
          · subst e
            have hl : j * 2 + 1 < cs.size := (Array.getElem?_eq_some_iff.1 HZ1.out).1
            exact ⟨_, by rw [Array.getElem?_setIfInBounds_self_of_lt hl]⟩
          · obtain ⟨z2, hz2⟩ := HZ.out i hi
            exact ⟨z2, by rw [Array.getElem?_setIfInBounds_ne (by omega)]; exact hz2⟩
        case measure => simp [intOf]; omega
      · have hjn : j = n := by omega
        subst hjn
        go_wp2
        exact Great.bodyPost_end0 rfl rfl ⟨rfl, HS.out.keep, fun k hk => HS.out.other k (hk _ rfl)⟩

end Go.Proofs.Ytkbocjmdbfddhaa
