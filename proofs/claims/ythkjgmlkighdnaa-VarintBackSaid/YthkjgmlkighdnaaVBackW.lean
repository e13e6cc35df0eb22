/-
  Walk: VarintBack: there and back, whatever stands around.
-/
import Derived.Test.YthkjgmlkighdnaaVAwake
import Derived.OpenShut
import Derived.Laws.Closers25b
namespace Go.Proofs.Ythkjgmlkighdnaa
open Go.RowKit

theorem back_list (x y : Int) (tl : ByteArray) : (ByteArray.mk #[113] ++ encS x ++ encS y ++ tl).data.toList = [113] ++ (encX x ++ (encX y ++ tl.data.toList)) := by
  simp [ByteArray.data_append, encS, encX]
theorem back_list2 (x y : Int) (tl : ByteArray) : (ByteArray.mk #[113] ++ encS x ++ encS y ++ tl).data.toList = ([113] ++ encX x) ++ (encX y ++ tl.data.toList) := by
  rw [back_list]; simp
theorem back_get1 {x y : Int} (tl : ByteArray) (lx : -9223372036854775808 ≤ x) (ux : x ≤ 9223372036854775807) :
    getT (ByteArray.mk #[113] ++ encS x ++ encS y ++ tl).data.toList 1 = (x, 1 + ((encS x).size : Int), 0) := by
  rw [back_list, encS_size]
  exact getT_encX lx ux [113] _
theorem back_get2 {x y : Int} (tl : ByteArray) (ly : -9223372036854775808 ≤ y) (uy : y ≤ 9223372036854775807) :
    getT (ByteArray.mk #[113] ++ encS x ++ encS y ++ tl).data.toList (1 + ((encS x).size : Int)) = (y, 1 + ((encS x).size : Int) + ((encS y).size : Int), 0) := by
  have h := getT_encX ly uy ([113] ++ encX x) tl.data.toList
  rw [back_list2, encS_size, encS_size]
  have e : (([113] ++ encX x).length : Int) = 1 + ((encX x).length : Int) := by simp; omega
  rw [e] at h
  exact h
theorem back_get3 {x : Int} (lx : -9223372036854775808 ≤ x) (ux : x ≤ 9223372036854775807) :
    getT ((encS x).extract 0 ((encS x).size - 1)).data.toList 0 = (0, 0, 701) := by
  have e : ((encS x).extract 0 ((encS x).size - 1)).data.toList = (encX x).take ((encX x).length - 1) := by
    rw [ByteArray.data_extract, encS_size, Array.toList_extract, encS_list]
    simp [List.extract]
  rw [e]
  exact getT_cut lx ux
theorem back_size (x y : Int) (tl : ByteArray) : (ByteArray.mk #[113] ++ encS x ++ encS y ++ tl).size = 1 + (encS x).size + (encS y).size + tl.size := by
  simp [ByteArray.size_append]; rfl

theorem toList_pos {S : ByteArray} (h : 0 < S.size) : ¬ S.toList = [] := by
  rw [toList_nil_iff_emptyBytes]
  rintro rfl
  exact absurd h (by decide)
theorem isEmpty_pos {S : ByteArray} (h : 0 < S.size) : S.toList.isEmpty = false := by
  have := toList_pos h
  cases e : S.toList with
  | nil => exact absurd e this
  | cons => rfl
theorem lists_ne {S T : ByteArray} (h : ¬ S = T) : (S.toList == T.toList) = false := by
  rw [beq_eq_false_iff_ne]
  intro e
  rw [ByteArray.toList_eq, ByteArray.toList_eq] at e
  exact h (Go.WideShapes.bytes_inj e)
theorem back_size3 (S : ByteArray) (h : S.size ≤ 10) : (S.extract 0 (S.size - 1)).size ≤ maxLen := by
  rw [ByteArray.size_extract]; unfold maxLen; omega

set_option maxRecDepth 100000 in
set_option maxHeartbeats 1000000 in
theorem back_eq (x : Int) (tl S : ByteArray) (w : World)
    (HP : Hid (∀ w, Calls Try.prog 9 #[.int .i64 x] w fun e w' => e = .returned (.string S) ∧ Below w.heap.size w w'))
    (G1 : Hid (∀ w, Calls Try.prog 7 #[.string (⟨#[113]⟩ ++ S ++ S ++ tl), .int .i64 1] w fun e w' => e = .returned (.tuple #[.int .i64 x, .int .i64 (1 + S.size), .int .i64 0]) ∧ w = w'))
    (G2 : Hid (∀ w, Calls Try.prog 7 #[.string (⟨#[113]⟩ ++ S ++ S ++ tl), .int .i64 (1 + S.size)] w fun e w' => e = .returned (.tuple #[.int .i64 x, .int .i64 (1 + S.size + S.size), .int .i64 0]) ∧ w = w'))
    (G3 : Hid (∀ w, Calls Try.prog 7 #[.string (S.extract 0 (S.size - 1)), .int .i64 0] w fun e w' => e = .returned (.tuple #[.int .i64 0, .int .i64 0, .int .i64 701]) ∧ w = w'))
    (hs : tl.size ≤ 140737488351232) (h0 : 0 < S.size) (h1 : S.size ≤ 10) (n2 : S.toList.isEmpty = false) :
    Calls Try.prog 4 #[.int .i64 x, .int .i64 x, .string tl] w fun e w' => e = .returned (.bool true) ∧ Below w.heap.size w w' := by
  have HA := Lib.hid (fun w : World => awake_any w)
  go_enter Try.func4, Try.ntmps4
  go_wp2_with fail
  refine (HA.out _).mono ?_; rintro e w1 ⟨rfl, b1⟩
  go_wp2_with fail
  refine (HP.out _).mono ?_; rintro e w2 ⟨rfl, b2⟩
  go_wp2_with fail
  refine (HP.out _).mono ?_; rintro e w3 ⟨rfl, b3⟩
  go_wp2_with fail
  refine (G1.out _).mono ?_; rintro e w' ⟨rfl, rfl⟩
  go_wp2_with fail
  refine (G2.out _).mono ?_; rintro e w' ⟨rfl, rfl⟩
  go_wp2_with fail
  refine (G3.out _).mono ?_; rintro e w' ⟨rfl, rfl⟩
  go_wp2_with (go_at_call 11; refine (num_any _ _).mono ?_; rintro e w' ⟨rfl, rfl⟩)
  go_ret
  exact ⟨rfl, (b1.trans (b2.mono b1.size)).trans (b3.mono (Nat.le_trans b1.size b2.size))⟩

set_option maxRecDepth 100000 in
set_option maxHeartbeats 1000000 in
theorem back_ne (x y : Int) (tl S T : ByteArray) (w : World)
    (HP : Hid (∀ w, Calls Try.prog 9 #[.int .i64 x] w fun e w' => e = .returned (.string S) ∧ Below w.heap.size w w'))
    (HQ : Hid (∀ w, Calls Try.prog 9 #[.int .i64 y] w fun e w' => e = .returned (.string T) ∧ Below w.heap.size w w'))
    (G1 : Hid (∀ w, Calls Try.prog 7 #[.string (⟨#[113]⟩ ++ S ++ T ++ tl), .int .i64 1] w fun e w' => e = .returned (.tuple #[.int .i64 x, .int .i64 (1 + S.size), .int .i64 0]) ∧ w = w'))
    (G2 : Hid (∀ w, Calls Try.prog 7 #[.string (⟨#[113]⟩ ++ S ++ T ++ tl), .int .i64 (1 + S.size)] w fun e w' => e = .returned (.tuple #[.int .i64 y, .int .i64 (1 + S.size + T.size), .int .i64 0]) ∧ w = w'))
    (G3 : Hid (∀ w, Calls Try.prog 7 #[.string (S.extract 0 (S.size - 1)), .int .i64 0] w fun e w' => e = .returned (.tuple #[.int .i64 0, .int .i64 0, .int .i64 701]) ∧ w = w'))
    (hs : tl.size ≤ 140737488351232) (h0 : 0 < S.size) (h1 : S.size ≤ 10) (n2 : S.toList.isEmpty = false)
    (h3 : T.size ≤ 10) (m2 : T.toList.isEmpty = false) (hxy : ((x : Int) == y) = false) (hST : ¬ S = T) :
    Calls Try.prog 4 #[.int .i64 x, .int .i64 y, .string tl] w fun e w' => e = .returned (.bool true) ∧ Below w.heap.size w w' := by
  have HA := Lib.hid (fun w : World => awake_any w)
  have hST' := lists_ne hST
  clear hST
  go_enter Try.func4, Try.ntmps4
  go_wp2_with fail
  refine (HA.out _).mono ?_; rintro e w1 ⟨rfl, b1⟩
  go_wp2_with fail
  refine (HP.out _).mono ?_; rintro e w2 ⟨rfl, b2⟩
  go_wp2_with fail
  refine (HQ.out _).mono ?_; rintro e w3 ⟨rfl, b3⟩
  go_wp2_with fail
  refine (G1.out _).mono ?_; rintro e w' ⟨rfl, rfl⟩
  go_wp2_with fail
  refine (G2.out _).mono ?_; rintro e w' ⟨rfl, rfl⟩
  go_wp2_with fail
  refine (G3.out _).mono ?_; rintro e w' ⟨rfl, rfl⟩
  go_wp2_with (go_at_call 11; refine (num_any _ _).mono ?_; rintro e w' ⟨rfl, rfl⟩)
  go_ret
  exact ⟨rfl, (b1.trans (b2.mono b1.size)).trans (b3.mono (Nat.le_trans b1.size b2.size))⟩

theorem back_any (x y : Int) (tl : ByteArray) (w : World) (wx : (Lit.int .i64 x).wf = true) (wy : (Lit.int .i64 y).wf = true) (hs : tl.size ≤ 140737488351232) :
    Calls Try.prog 4 #[.int .i64 x, .int .i64 y, .string tl] w fun e w' => e = .returned (.bool true) ∧ Below w.heap.size w w' := by
  obtain ⟨lx, ux⟩ := bounds_i64 wx
  obtain ⟨ly, uy⟩ := bounds_i64 wy
  have HP := Lib.hid (fun w : World => put_any x lx ux w)
  have HQ := Lib.hid (fun w : World => put_any y ly uy w)
  have LX := encX_len lx ux
  have LY := encX_len ly uy
  rw [← encS_size] at LX LY
  have hm : (ByteArray.mk #[113] ++ encS x ++ encS y ++ tl).size ≤ maxLen := by rw [back_size]; unfold maxLen; omega
  have G1 := Lib.hid (fun w : World => get_tri _ _ _ _ _ (back_get1 (y := y) tl lx ux) hm w)
  have G2 := Lib.hid (fun w : World => get_tri _ _ _ _ _ (back_get2 (x := x) tl ly uy) hm w)
  have G3 := Lib.hid (fun w : World => get_tri _ _ _ _ _ (back_get3 lx ux) (back_size3 _ LX.2) w)
  by_cases hxy : x = y
  · subst hxy
    exact back_eq x tl _ w HP G1 G2 G3 hs LX.1 LX.2 (isEmpty_pos LX.1)
  · exact back_ne x y tl _ _ w HP HQ G1 G2 G3 hs LX.1 LX.2 (isEmpty_pos LX.1) LY.2 (isEmpty_pos LY.1) (by simpa using hxy) (fun e => hxy (encS_inj lx ux ly uy e))

end Go.Proofs.Ythkjgmlkighdnaa
