/-
  Walk: the laws' helper SpoilItems: no block but the row's is turned.
-/
import Derived.Test.YtmhmekmacdkdgaaItH
namespace Go.Proofs.Ytmhmekmacdkdgaa
open Go.RowKit

def SeqAt (cs : Array Value) (i : Nat) : Prop := ∃ z : Int, cs[i * 4 + 2]? = some (Value.int .i64 z)
/-- Items that are written over. -/
structure SpIt (w : World) (g n : Nat) (wr : World) : Prop where
  cells : ∃ cs, Has wr g 34 cs ∧ ∀ i, i < n → SeqAt cs i
  but : ButS [g] w wr

set_option maxRecDepth 100000 in
set_option maxHeartbeats 1000000 in
theorem spoilitems_any (b n c : Nat) (xs : List It) (base : Nat) (w : World) (ho : OwnIt w base (.slice (some ⟨b, 0, none⟩) n c) xs) (hn : n ≤ 1000000000) :
    Calls Try.prog 18 #[.slice (some ⟨b, 0, none⟩) n c] w fun e w' => e = .returned (.tuple #[]) ∧ ButS [b] w w' := by
  by_cases h0 : n = 0
  · subst h0
    clear ho
    go_enter Try.func18, Try.ntmps18
    go_wp2
    refine wp_loop_rounds 1 ?_; rw [rounds_succ]
    go_wp2
    exact Great.bodyPost_end0 rfl rfl ⟨rfl, ButS.refl _ _⟩
  · obtain ⟨h1, h2, h3, h4, cur, h5, h6, h7⟩ := ho.blk
    have HS : Hid (SpIt w b n w) := ⟨⟨cur, h5, fun i hi => ⟨(nthI xs i).q, by
      have := ho.item hi 2 _ rfl
      rw [h5.cell] at this
      exact this⟩⟩, ButS.refl _ _⟩
    clear ho h1 h2 h3 h4 h5 h6 h7 h0
    go_enter Try.func18, Try.ntmps18
    go_wp2_with fail
    go_loopw [2] (fun i wr => ∃ j : Nat, j ≤ n ∧ i = .int .i64 j ∧ Hid (SpIt w b n wr)) (fun i _ => n - (intOf i).toNat)
    case atStart => exact ⟨0, Nat.zero_le _, rfl, HS⟩
    case round =>
      clear HS
      obtain ⟨j, hj, rfl, HS⟩ := hrel
      by_cases hlt : j < n
      · obtain ⟨ct, hh, hz⟩ := HS.out.cells
        obtain ⟨z, hz1⟩ := hz j hlt
        have hcell : wr.cell? ⟨b, j * 4 + 2, none⟩ = some (.int .i64 z) := (hh.cell _).trans hz1
        have hmark := hh.mark (j * 4 + 2)
        have hjn : (j : Int) < (n : Int) := by omega
        have HSN : Hid (∀ v, SpIt w b n (wr.setCell ⟨b, j * 4 + 2, none⟩ (.int .i64 v))) := fun v => by
          refine ⟨⟨_, hh.put (j * 4 + 2) _, fun i hi => ?_⟩, HS.out.but.trans (setCell_butS _ _ _ _)⟩
          by_cases e : j = i
          · subst e
            have hl : j * 4 + 2 < ct.size := (Array.getElem?_eq_some_iff.1 hz1).1
            exact ⟨v, by rw [Array.getElem?_setIfInBounds_self_of_lt hl]⟩
          · obtain ⟨z2, hz2⟩ := hz i hi
            exact ⟨z2, by rw [Array.getElem?_setIfInBounds_ne (by omega)]; exact hz2⟩
        clear hh hz hz1
        go_wp2_with fail
        go_roundw
        case rel => exact ⟨j + 1, by omega, by go_num, HSN.out _⟩
        case measure => simp [intOf]; omega
      · have hjn : j = n := by omega
        subst hjn
        go_wp2
        exact Great.bodyPost_end0 rfl rfl ⟨rfl, HS.out.but⟩

end Go.Proofs.Ytmhmekmacdkdgaa
