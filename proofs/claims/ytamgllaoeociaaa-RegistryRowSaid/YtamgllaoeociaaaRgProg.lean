/-
  Walks: the registry's New, Has, Ids.
-/
import Derived.Test.YtamgllaoeociaaaRgMem
import Derived.Test.YtamgllaoeociaaaGClone
namespace Go.Proofs.Ytamgllaoeociaaa
open Go.RowKit

set_option maxHeartbeats 400000 in
theorem gnew_no (m : Int) (w : World) (h : m < 1 ∨ 64 < m) :
    Calls Try.prog 6 #[.int .i64 m] w fun e w' => e = .returned (.tuple #[.pointer none, .int .i64 1200]) ∧ w = w' := by
  go_enter Try.func6, Try.ntmps6
  go_wp2_with (go_at_call 17; refine (gwithin_no _ _ _ _ h).mono ?_; rintro e w' ⟨rfl, rfl⟩)
  go_ret2
  exact ⟨rfl, rfl⟩
/-- A new registry stands in blocks of its own. -/
def NewO (S : World → List Nat → Nat → Prop) (r : Int) (e : Ending) (w w' : World) : Prop :=
  ∃ g gs, e = .returned (.tuple #[.pointer (some ⟨g, 0, none⟩), .int .i64 r]) ∧ S w' gs g ∧ (∀ k ∈ gs, w.heap.size ≤ k) ∧ Below w.heap.size w w'
set_option maxHeartbeats 1000000 in
theorem gnew_ok (m : Int) (w : World) (h : 1 ≤ m ∧ m ≤ 64) :
    Calls Try.prog 6 #[.int .i64 m] w fun e w' => NewO (fun w gs g => Reg w gs g m []) 0 e w w' := by
  have hmm := @run_makeMap Try.prog
  have HN : Hid (NewO (fun w gs g => Reg w gs g m []) 0 (.returned (.tuple #[.pointer (some ⟨w.heap.size + 1, 0, none⟩), .int .i64 0])) w ((w.alloc (.map #[] 0)).alloc (.cells (regC m none 0 0 w.heap.size) 45))) := Lib.hid (by
    have e1 : (w.alloc (.map #[] 0)).heap.size = w.heap.size + 1 := by simp
    refine ⟨w.heap.size + 1, [w.heap.size + 1, w.heap.size], rfl, ⟨none, 0, w.heap.size, .map [], ?_⟩, ?_, ((Below.refl _ _).alloc (Nat.le_refl _) _).alloc (by simp) _⟩
    · refine ⟨?_, OwnI.nil _ _, (World.ownsMap_made w _ _ _).alloc _, Keys1.nil, by simp, by simp, (fun ad h => by cases h), .inl rfl, fun k hk => ?_⟩
      · have := Has.made (w.alloc (.map #[] 0)) 45 (regC m none 0 0 w.heap.size)
        rwa [e1] at this
      · simp only [List.mem_cons, List.not_mem_nil, or_false] at hk
        simp
        omega
    · intro k hk
      simp only [List.mem_cons, List.not_mem_nil, or_false] at hk
      omega)
  go_enter Try.func6, Try.ntmps6
  go_wp2_with (go_at_call 17; refine (gwithin_yes _ _ _ _ h).mono ?_; rintro e w' ⟨rfl, rfl⟩)
  go_ret2
  exact HN.out

set_option maxHeartbeats 400000 in
theorem ghas_any (gs : List Nat) (g : Nat) (m : Int) (ids : List Int) (x : Int) (w : World) (h : Reg w gs g m ids) (hx : (Lit.int .i64 x).wf = true) :
    Calls Try.prog 12 #[.pointer (some ⟨g, 0, none⟩), .int .i64 x] w fun e w' => e = .returned (.bool (decide (x ∈ ids))) ∧ w = w' := by
  obtain ⟨A, c, mp, D, h⟩ := h
  have hk := h.keys.has x
  have c2 : w.cell? ⟨g, 2, none⟩ = some (.map (some mp)) := h.st.cell 2
  have hown := h.map
  rw [← hk]
  clear h hk
  go_enter Try.func12, Try.ntmps12
  go_wp2_with (at_lookup; refine wpList_lookup_own_ok_int _ rfl _ _ 43 rfl 3 3 .i64 gkeyed Try.underlying43 Try.underlying3 (gzero _) mp _ D rfl hown _ _ rfl (Maps.keyOf_int_mk Try.underlying3 hx) ?_; intro c1 hat hwc)
  go_ret
  exact ⟨rfl, rfl⟩

set_option maxHeartbeats 400000 in
theorem gids_any (gs : List Nat) (g : Nat) (m : Int) (ids : List Int) (w : World) (h : Reg w gs g m ids) (hn : ids.length ≤ 1000000000) :
    Calls Try.prog 14 #[.pointer (some ⟨g, 0, none⟩)] w fun e w' => ∃ A c, e = .returned (.slice A ids.length c) ∧ OwnI w' w.heap.size (.slice A ids.length c) ids ∧ Below w.heap.size w w' := by
  obtain ⟨A, c, mp, D, h⟩ := h
  have c1 : w.cell? ⟨g, 1, none⟩ = some (.slice A ids.length c) := h.st.cell 1
  have HC := Lib.hid (gclone_any A ids.length c 0 ids w h.own h.nil hn)
  clear h
  generalize ids.length = n at c1 HC hn ⊢
  go_enter Try.func14, Try.ntmps14
  go_wp2_with fail
  refine (HC.out).mono ?_; rintro e w1 ⟨A1, d1, rfl, o1, b1⟩
  go_wp2_with fail
  go_ret
  exact ⟨A1, d1, rfl, o1, b1⟩

end Go.Proofs.Ytamgllaoeociaaa
