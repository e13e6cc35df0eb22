/-
  Walk: slices.Clone of a []int. (Out of XStRaw.)
-/
import Derived.Test.YtdoflmphkalicaaAppA
import Derived.Laws.Slices
import Derived.BigQuiet
import Derived.Deep.QuietTactic
namespace Go.Proofs.Ytdoflmphkalicaa
open Go.RowKit

set_option maxRecDepth 100000 in
set_option maxHeartbeats 2000000 in
theorem sclone_some (ad : Addr) (n c : Nat) (xs : List Int) (w : World) (hr : Ints w (some ad) n xs) (hn : n * 8 ≤ 140737488351232) :
    Calls Try.prog 40 #[.slice (some ad) n c] w fun e w' => ∃ A' c', e = .returned (.slice A' n c') ∧ OwnI w' w.heap.size (.slice A' n c') xs ∧ Below w.heap.size w w' := by
  have hnil : ∀ W, (binOp .eql 22 (.slice (some ad) n c) (.slice none 0 0)).run Try.prog W = .ok (.bool false) W := fun W => Lib.run_eql_slice_nil (w := W) (h := Try.underlying22) ..
  go_enter Try.func40, Try.ntmps40
  go_wp2_with (refine app_intsA rfl _ _ rfl rfl (own_empty w) rfl (hr.below ((Below.refl _ _).alloc (Nat.le_refl _) _)) (fun e => by cases e) hn (by simp) ?_; intro A2 c2 wn hwn hbn)
  have hB : Below w.heap.size w wn := ((Below.refl _ _).alloc (Nat.le_refl _) _).trans hbn
  go_ret
  exact ⟨A2, _, rfl, hwn, hB⟩
set_option maxRecDepth 100000 in
set_option maxHeartbeats 400000 in
theorem sclone_none (w : World) :
    Calls Try.prog 40 #[.slice none 0 0] w fun e w' => e = .returned (.slice none 0 0) ∧ w = w' := by
  have hnil : ∀ W, (binOp .eql 22 (.slice none 0 0) (.slice none 0 0)).run Try.prog W = .ok (.bool true) W := fun W => Lib.run_eql_slice_nil (w := W) (h := Try.underlying22) ..
  go_enter Try.func40, Try.ntmps40
  go_wp2_with fail
  go_ret
  exact ⟨rfl, rfl⟩
theorem sclone_any (A : Option Addr) (n c : Nat) (xs : List Int) (w : World) (hr : Ints w A n xs) (hnil : A = none → c = 0) (hn : n * 8 ≤ 140737488351232) :
    Calls Try.prog 40 #[.slice A n c] w fun e w' => ∃ A' c', e = .returned (.slice A' n c') ∧ OwnI w' w.heap.size (.slice A' n c') xs ∧ Below w.heap.size w w' := by
  cases A with
  | some ad => exact sclone_some ad n c xs w hr hn
  | none =>
    have hc := hnil rfl
    subst hc
    have h0 : n = 0 := by
      rcases Nat.eq_zero_or_pos n with h | h
      · exact h
      · obtain ⟨b, o, e, _⟩ := hr.at_ h
        cases e
    subst h0
    obtain rfl : xs = [] := List.eq_nil_of_length_eq_zero hr.1
    refine (sclone_none w).mono ?_
    rintro e w' ⟨rfl, rfl⟩
    exact ⟨none, 0, rfl, OwnI.nil _ _, Below.refl _ _⟩

end Go.Proofs.Ytdoflmphkalicaa
