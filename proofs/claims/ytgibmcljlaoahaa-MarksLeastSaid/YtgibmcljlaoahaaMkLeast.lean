/-
  Walks: the least of marks: slices.Min, the program's Least, the reference's.
-/
import Derived.Test.YtgibmcljlaoahaaMkMem
namespace Go.Proofs.Ytgibmcljlaoahaa
open Go.RowKit


set_option maxRecDepth 100000 in
set_option maxHeartbeats 1000000 in
theorem smin_any (b o n c : Nat) (xs : List Int) (w : World) (hx : Ints w (some ⟨b, o, none⟩) (n + 1) xs) (hn : n ≤ 1000000000) :
    Calls Try.prog 19 #[.slice (some ⟨b, o, none⟩) (n + 1) c] w fun e w' => e = .returned (.int .i64 (least xs)) ∧ w = w' := by
  obtain ⟨b1, o1, e1, hc⟩ := hx.at_ (k := 0) (by omega)
  injection e1 with e1
  injection e1 with e1 e2
  subst e1 e2
  rw [least_at xs hx.1]
  have h0 : w.cell? ⟨b, o, none⟩ = some (.int .i64 (nth xs 0)) := hc 0 (by omega)
  have HC := Lib.hid hc
  clear hx hc
  have hpos : ¬ ((n + 1 : Nat) : Int) < 1 := by omega
  go_enter Try.func19, Try.ntmps19
  go_wp2_with fail
  go_loop [3, 4] (fun m i => ∃ j : Nat, j ≤ n ∧ i = .int .i64 (j + 1 : Nat) ∧ m = .int .i64 (minTo xs j)) (fun _ i => n + 1 - (intOf i).toNat)
  case atStart => exact ⟨0, by omega, rfl, rfl⟩
  case round =>
    obtain ⟨j, hj, rfl, rfl⟩ := hrel
    by_cases hlt : j < n
    · have hcell := HC.out (j + 1) (by omega)
      have hlt2 : ((j + 1 : Nat) : Int) < ((n + 1 : Nat) : Int) := by omega
      go_wp2_with fail
      exact ⟨⟨j + 1, by omega, by go_num, rfl⟩, by simp [intOf]; omega⟩
    · obtain rfl : j = n := by omega
      go_wp2_with fail
      go_ret
      exact ⟨rfl, rfl⟩

set_option maxHeartbeats 400000 in
theorem mleast_any (g b c : Nat) (xs : List Int) (w : World) (h : Mk 51 w g b c xs) :
    Calls Try.prog 10 #[.pointer (some ⟨g, 0, none⟩)] w fun e w' => e = .returned (.int .i64 (least xs)) ∧ w = w' := by
  obtain ⟨n, hn⟩ : ∃ n, xs.length = n + 1 := ⟨xs.length - 1, by have := h.pos; omega⟩
  have c0 := h.cell0
  have hi := h.own.ints
  have hs := h.small
  rw [hn] at c0 hi hs
  have HM := Lib.hid (smin_any b 0 n c xs w hi (by omega))
  clear hi h
  have hz : ¬ ((n + 1 : Nat) : Int) = 0 := by omega
  go_enter Try.func10, Try.ntmps10
  go_wp2_with fail
  refine (HM.out).mono ?_; rintro e w1 ⟨rfl, rfl⟩
  go_wp2_with fail
  go_ret
  exact ⟨rfl, rfl⟩

set_option maxRecDepth 100000 in
set_option maxHeartbeats 1000000 in
theorem rleast_any (g b c : Nat) (xs : List Int) (w : World) (h : Mk 43 w g b c xs) :
    Calls Try.prog 14 #[.pointer (some ⟨g, 0, none⟩)] w fun e w' => e = .returned (.int .i64 (least xs)) ∧ w = w' := by
  obtain ⟨n, hn⟩ : ∃ n, xs.length = n + 1 := ⟨xs.length - 1, by have := h.pos; omega⟩
  have c0 := h.cell0
  have hs := h.small
  have h0 := h.cellAt 0 (by omega)
  rw [hn] at c0 hs
  rw [least_at xs hn]
  have HC : Hid (∀ k, k < n + 1 → w.cell? ⟨b, k, none⟩ = some (.int .i64 (nth xs k))) := Lib.hid (fun k hk => h.cellAt k (by omega))
  clear h
  go_enter Try.func14, Try.ntmps14
  go_wp2_with fail
  go_loop [3, 4] (fun m i => ∃ j : Nat, j ≤ n ∧ i = .int .i64 (j + 1 : Nat) ∧ m = .int .i64 (minTo xs j)) (fun _ i => n + 1 - (intOf i).toNat)
  case atStart => exact ⟨0, by omega, rfl, rfl⟩
  case round =>
    obtain ⟨j, hj, rfl, rfl⟩ := hrel
    by_cases hlt : j < n
    · have hcell := HC.out (j + 1) (by omega)
      have hlt2 : ((j + 1 : Nat) : Int) < ((n + 1 : Nat) : Int) := by omega
      go_wp2_with fail
      exact ⟨⟨j + 1, by omega, by go_num, rfl⟩, by simp [intOf]; omega⟩
    · obtain rfl : j = n := by omega
      go_wp2_with fail
      go_ret
      exact ⟨rfl, rfl⟩

end Go.Proofs.Ytgibmcljlaoahaa
