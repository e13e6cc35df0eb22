/-
  Walks: new marks, the program's and the reference's; All.
-/
import Derived.Test.YtgibmcljlaoahaaMkRep
import Derived.Test.YtgibmcljlaoahaaMkMem
import Derived.Test.YtgibmcljlaoahaaGClone
namespace Go.Proofs.Ytgibmcljlaoahaa
open Go.RowKit

/-- So many sources that told nothing. -/
def noneM (n : Nat) : List Int := List.replicate n (-4398046511104)
theorem noneM_len (n : Nat) : (noneM n).length = n := by simp [noneM]
/-- New marks stand in two blocks of their own. -/
def NewM (T : TypeId) (n : Nat) (e : Ending) (w w' : World) : Prop :=
  ∃ g b c, e = .returned (.tuple #[.pointer (some ⟨g, 0, none⟩), .int .i64 0]) ∧ Mk T w' g b c (noneM n) ∧ w.heap.size ≤ g ∧ w.heap.size ≤ b ∧ Below w.heap.size w w'
theorem Mk.made {T : TypeId} {w wr : World} {g b n : Nat} (hn : 1 ≤ n ∧ n ≤ 8) (hr : Has wr b 3 (ints (noneM n))) (hb : Below w.heap.size w wr) (hB : w.heap.size ≤ b) (hg : g = wr.heap.size) :
    NewM T n (.returned (.tuple #[.pointer (some ⟨g, 0, none⟩), .int .i64 0])) w (wr.alloc (.cells #[.slice (some ⟨b, 0, none⟩) n n] T)) := by
  subst hg
  have hlt := hr.lt
  have hl : Below wr.heap.size wr (wr.alloc (.cells #[.slice (some ⟨b, 0, none⟩) n n] T)) := (Below.refl _ _).alloc (Nat.le_refl _) _
  refine ⟨wr.heap.size, b, n, rfl, ⟨?_, ?_, by rw [noneM_len]; omega, by rw [noneM_len]; omega, by omega⟩, hb.size, hB, hb.trans (hl.mono hb.size)⟩
  · rw [noneM_len]; exact Has.made _ _ _
  · refine OwnI.below (w := wr) ?_ hl
    rw [noneM_len]
    refine ⟨by simp [intL], .inr ⟨b, n, ints (noneM n), by rw [noneM_len], Nat.zero_le _, hr, by rw [noneM_len]; exact Nat.le_refl _, by unfold maxLen; omega, by rw [size_ints, noneM_len, Nat.mul_one], ?_⟩⟩
    have e : (noneM n).length * 1 = ((noneM n).map (Value.int .i64)).length := by simp
    show List.take ((noneM n).length * 1) ((noneM n).map (Value.int .i64)) = (noneM n).map (Value.int .i64)
    rw [e, List.take_length]

set_option maxHeartbeats 400000 in
theorem mnew_no (m : Int) (w : World) (h : m < 1 ∨ 8 < m) :
    Calls Try.prog 6 #[.int .i64 m] w fun e w' => e = .returned (.tuple #[.pointer none, .int .i64 1300]) ∧ w = w' := by
  go_enter Try.func6, Try.ntmps6
  go_wp2_with (go_at_call 17; refine (gwithin_no _ _ _ _ h).mono ?_; rintro e w' ⟨rfl, rfl⟩)
  go_ret2
  exact ⟨rfl, rfl⟩
set_option maxRecDepth 100000 in
set_option maxHeartbeats 1000000 in
theorem mnew_ok (n : Nat) (w : World) (h : 1 ≤ n ∧ n ≤ 8) :
    Calls Try.prog 6 #[.int .i64 n] w fun e w' => NewM 51 n e w w' := by
  have h2 : 1 ≤ (n : Int) ∧ (n : Int) ≤ 8 := by omega
  have h1 : Below w.heap.size w (w.alloc (.cells #[.int .i64 (-4398046511104)] 3)) := (Below.refl _ _).alloc (Nat.le_refl _) _
  have H1 := Lib.hid h1
  have HC := Lib.hid (srep_any (-4398046511104) w.heap.size n (w.alloc (.cells #[.int .i64 (-4398046511104)] 3)) h ((Has.made w 3 #[.int .i64 (-4398046511104)]).cell 0))
  clear h1
  go_enter Try.func6, Try.ntmps6
  go_wp2_with (go_at_call 17; refine (gwithin_yes _ _ _ _ h2).mono ?_; rintro e w' ⟨rfl, rfl⟩)
  refine (HC.out).mono ?_; rintro e w2 ⟨b, rfl, r1, r2, r3⟩
  have HX := Lib.hid (Mk.made (T := 51) (w := w) (wr := w2) (g := w2.heap.size) (b := b) (n := n) h r2 (H1.out.trans (r3.mono H1.out.size)) (Nat.le_trans H1.out.size r1) rfl)
  clear r1 r2 r3
  go_wp2_with fail
  go_ret2
  exact HX.out

set_option maxHeartbeats 400000 in
theorem mall_any (g b c : Nat) (xs : List Int) (w : World) (h : Mk 51 w g b c xs) :
    Calls Try.prog 13 #[.pointer (some ⟨g, 0, none⟩)] w fun e w' => ∃ A c', e = .returned (.slice A xs.length c') ∧ OwnI w' w.heap.size (.slice A xs.length c') xs ∧ Below w.heap.size w w' := by
  have c0 := h.cell0
  have hs := h.small
  have HC := Lib.hid (gclone_any (some ⟨b, 0, none⟩) xs.length c 0 xs w h.own (.inr h.pos) (by omega))
  clear h
  generalize xs.length = n at c0 HC hs ⊢
  go_enter Try.func13, Try.ntmps13
  go_wp2_with fail
  refine (HC.out).mono ?_; rintro e w1 ⟨A1, d1, rfl, o1, b1⟩
  go_wp2_with fail
  go_ret
  exact ⟨A1, d1, rfl, o1, b1⟩

set_option maxHeartbeats 400000 in
theorem rnewm_no (m : Int) (w : World) (h : m < 1 ∨ 8 < m) :
    Calls Try.prog 7 #[.int .i64 m] w fun e w' => e = .returned (.tuple #[.pointer none, .int .i64 1300]) ∧ w = w' := by
  by_cases h1 : m < 1
  · go_enter Try.func7, Try.ntmps7
    go_wp2_with fail
    go_ret2
    exact ⟨rfl, rfl⟩
  · have h2 : 8 < m := by omega
    go_enter Try.func7, Try.ntmps7
    go_wp2_with fail
    go_ret2
    exact ⟨rfl, rfl⟩

/-- So many sources stand in the reference's new marks. -/
structure RnS (j : Nat) (w : World) (A : Option Addr) (c : Nat) (wr : World) : Prop where
  st : Has wr w.heap.size 43 #[.slice A j c]
  own : OwnI wr (w.heap.size + 1) (.slice A j c) (noneM j)
  keep : Below w.heap.size w wr
theorem own_ge {w : World} {base n c : Nat} {A : Option Addr} {xs : List Int} (h : OwnI w base (.slice A n c) xs) {k : Nat} (hk : (Value.slice A n c).ownBlock = some k) : base ≤ k := by
  rcases h.2 with ⟨e, _⟩ | ⟨g, cap, cur, e, hg, _⟩
  · rw [e] at hk; simp [Value.ownBlock] at hk
  · rw [e] at hk
    obtain rfl : g = k := by simpa [Value.ownBlock] using hk
    exact hg
theorem RnS.one {j : Nat} {w : World} {A : Option Addr} {c : Nat} {wr : World} (h : RnS j w A c wr) (o : Obj) : RnS j w A c (wr.alloc o) :=
  have hb : Below wr.heap.size wr (wr.alloc o) := (Below.refl _ _).alloc (Nat.le_refl _) _
  ⟨h.st.alloc o, h.own.below hb, h.keep.trans (hb.mono h.keep.size)⟩
theorem RnS.grown {j : Nat} {w : World} {A : Option Addr} {c : Nat} {wr w' : World} (h : RnS j w A c wr) (hg : wr.grownBy w' (Value.slice A j c).ownBlock) : Has w' w.heap.size 43 #[.slice A j c] ∧ Below w.heap.size w w' :=
  ⟨(hg.block _ h.st.lt (fun e => by have := own_ge h.own e.symm; omega)).trans h.st, h.keep.trans ⟨hg.os, hg.tape, hg.output, hg.size, fun k hk => hg.block k (Nat.lt_of_lt_of_le hk h.keep.size) (fun e => by have := own_ge h.own e.symm; omega)⟩⟩
theorem RnS.next {j m : Nat} {w : World} {A A2 : Option Addr} {c c2 : Nat} {w' : World} (h : Has w' w.heap.size 43 #[.slice A j c] ∧ Below w.heap.size w w') (hm : m = j + 1) (ho : OwnI w' (w.heap.size + 1) (.slice A2 m c2) (noneM j ++ [-4398046511104])) :
    RnS (j + 1) w A2 c2 (w'.setCell ⟨w.heap.size, 0, none⟩ (.slice A2 m c2)) := by
  subst hm
  have e : noneM j ++ [-4398046511104] = noneM (j + 1) := by unfold noneM; rw [List.replicate_succ']
  rw [e] at ho
  exact ⟨h.1.put 0 _, ho.set h.1 (by decide) 0 _, h.2.setCell (Nat.le_refl _) _⟩
theorem RnS.done {n : Nat} {w : World} {A : Option Addr} {c : Nat} {wr : World} (h : RnS n w A c wr) (hn : 1 ≤ n ∧ n ≤ 8) : NewM 43 n (.returned (.tuple #[.pointer (some ⟨w.heap.size, 0, none⟩), .int .i64 0])) w wr := by
  have hl := noneM_len n
  rcases h.own.2 with ⟨e, h0⟩ | ⟨b, cap, cur, e, hg, hh, r⟩
  · rw [hl] at h0; omega
  · injection e with e1 e2 e3
    subst e1 e3
    refine ⟨w.heap.size, b, c, rfl, ⟨by rw [hl]; exact h.st, ?_, by omega, by omega, by omega⟩, Nat.le_refl _, by omega, h.keep⟩
    rw [hl]
    exact h.own.mono (Nat.zero_le _)
set_option maxRecDepth 100000 in
set_option maxHeartbeats 2000000 in
theorem rnewm_ok (n : Nat) (w : World) (h : 1 ≤ n ∧ n ≤ 8) :
    Calls Try.prog 7 #[.int .i64 n] w fun e w' => NewM 43 n e w w' := by
  have h2 : ¬ (n : Int) < 1 := by omega
  have h3 : ¬ (8 : Int) < n := by omega
  have H0 : Hid (∃ A c, RnS 0 w A c (w.alloc (.cells #[.slice none 0 0] 43))) := Lib.hid ⟨none, 0, Has.made _ _ _, OwnI.nil _ _, (Below.refl _ _).alloc (Nat.le_refl _) _⟩
  go_enter Try.func7, Try.ntmps7
  go_wp2_with fail
  go_loopw [5] (fun i wr => ∃ j : Nat, j ≤ n ∧ i = .int .i64 j ∧ Hid (∃ A c, RnS j w A c wr)) (fun i _ => n - (intOf i).toNat)
  case atStart => exact ⟨0, by omega, rfl, H0⟩
  case round =>
    clear H0
    obtain ⟨j, hj, rfl, HS⟩ := hrel
    obtain ⟨A, c, hS⟩ := HS.out
    have HR := Lib.hid hS
    clear HS hS
    by_cases hlt : j < n
    · have hlt2 : (j : Int) < (n : Int) := by omega
      have c0 : wr.cell? ⟨w.heap.size, 0, none⟩ = some (.slice A j c) := HR.out.st.cell 0
      have H4 := Lib.hid (HR.out.one (.cells #[.int .i64 (-4398046511104)] 3))
      have hone : (wr.alloc (.cells #[.int .i64 (-4398046511104)] 3)).cell? ⟨wr.heap.size, 0, none⟩ = some (.int .i64 (-4398046511104)) := (Has.made wr 3 #[.int .i64 (-4398046511104)]).cell 0
      have HO := Lib.hid hone
      have HW := Lib.hid (Nat.lt_of_lt_of_le (Nat.lt_succ_self _) (by have := HR.out.st.lt; simp; omega : w.heap.size + 1 ≤ (wr.alloc (.cells #[.int .i64 (-4398046511104)] 3)).heap.size))
      clear hone
      go_wp2_with (refine gapp_int (y := -4398046511104) (n := j) rfl _ _ rfl rfl H4.out.own rfl HO.out (noneM_len j) (by omega) HW.out ?_; intro A2 m2 c2 w5 hm2 ho5 hg5 hl5; have hx5 := H4.out.grown hg5; have c5 := hx5.1.cell 0; have m5 := hx5.1.mark 0)
      subst hm2
      have HX := Lib.hid (RnS.next hx5 rfl ho5)
      clear hx5 ho5 hg5 hl5 HO H4
      go_roundw
      case rel => exact ⟨j + 1, by omega, by go_num, Lib.hid ⟨_, _, HX.out⟩⟩
      case measure => simp [intOf]; omega
    · obtain rfl : j = n := by omega
      go_wp2_with fail
      go_ret2
      exact HR.out.done h

end Go.Proofs.Ytgibmcljlaoahaa
