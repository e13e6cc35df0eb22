/-
  Walks: the reference's registry.
-/
import Derived.Test.YtamgllaoeociaaaRgAdd
namespace Go.Proofs.Ytamgllaoeociaaa
open Go.RowKit

set_option maxHeartbeats 400000 in
theorem rnew_no (m : Int) (w : World) (h : m < 1 ∨ 64 < m) :
    Calls Try.prog 7 #[.int .i64 m] w fun e w' => e = .returned (.tuple #[.pointer none, .int .i64 1200]) ∧ w = w' := by
  by_cases h1 : m < 1
  · go_enter Try.func7, Try.ntmps7
    go_wp2_with fail
    go_ret2
    exact ⟨rfl, rfl⟩
  · have h2 : 64 < m := by omega
    go_enter Try.func7, Try.ntmps7
    go_wp2_with fail
    go_ret2
    exact ⟨rfl, rfl⟩
set_option maxHeartbeats 400000 in
theorem rnew_ok (m : Int) (w : World) (h : 1 ≤ m ∧ m ≤ 64) :
    Calls Try.prog 7 #[.int .i64 m] w fun e w' => NewO (fun w gs g => Ref w gs g m []) 0 e w w' := by
  have h1 : ¬ m < 1 := by omega
  have h2 : ¬ 64 < m := by omega
  have HN : Hid (NewO (fun w gs g => Ref w gs g m []) 0 (.returned (.tuple #[.pointer (some ⟨w.heap.size, 0, none⟩), .int .i64 0])) w (w.alloc (.cells (refC m none 0 0) 38))) := Lib.hid (by
    refine ⟨w.heap.size, [w.heap.size], rfl, ⟨none, 0, Has.made w _ _, OwnI.nil _ _, by simp, (fun ad h => by cases h), fun k hk => ?_⟩, ?_, (Below.refl _ _).alloc (Nat.le_refl _) _⟩
    · simp only [List.mem_cons, List.not_mem_nil, or_false] at hk
      simp
      omega
    · intro k hk
      simp only [List.mem_cons, List.not_mem_nil, or_false] at hk
      omega)
  go_enter Try.func7, Try.ntmps7
  go_wp2_with fail
  go_ret2
  exact HN.out

/-- No number among the first j is x. -/
def NotYet (ids : List Int) (x : Int) (j : Nat) : Prop := ∀ k, k < j → nth ids k ≠ x
theorem NotYet.all {ids : List Int} {x : Int} {j : Nat} (h : NotYet ids x j) (hj : ids.length ≤ j) : decide (x ∈ ids) = false := by
  apply decide_eq_false
  intro hm
  obtain ⟨k, hk, e⟩ := List.getElem_of_mem hm
  exact h k (by omega) (by simp [nth, hk, e])
theorem nth_mem {ids : List Int} {j : Nat} (h : j < ids.length) : decide (nth ids j ∈ ids) = true := decide_eq_true (by simp [nth, h])
theorem NotYet.next {ids : List Int} {x : Int} {j : Nat} (h : NotYet ids x j) (hn : nth ids j ≠ x) : NotYet ids x (j + 1) := fun k hk => by
  by_cases e : k = j
  · rw [e]; exact hn
  · exact h k (by omega)

set_option maxRecDepth 100000 in
set_option maxHeartbeats 1000000 in
theorem rhas_any (gs : List Nat) (g : Nat) (m : Int) (ids : List Int) (x : Int) (w : World) (h : Ref w gs g m ids) (hl : ids.length ≤ 1000000000) :
    Calls Try.prog 13 #[.pointer (some ⟨g, 0, none⟩), .int .i64 x] w fun e w' => e = .returned (.bool (decide (x ∈ ids))) ∧ w = w' := by
  obtain ⟨A, c, h⟩ := h
  obtain ⟨n, hn⟩ : ∃ n, ids.length = n := ⟨_, rfl⟩
  have c1 : w.cell? ⟨g, 1, none⟩ = some (.slice A n c) := by rw [← hn]; exact h.st.cell 1
  have hi : Ints w A n ids := by have := h.own.ints; rwa [hn] at this
  have HI := Lib.hid hi
  have HL := Lib.hid hn
  have hn9 : n ≤ 1000000000 := by omega
  clear h hi hn hl
  have HY : Hid (NotYet ids x 0) := Lib.hid (fun k hk => by omega)
  go_enter Try.func13, Try.ntmps13
  go_wp2_with fail
  go_loopw [5] (fun i wr => ∃ j : Nat, j ≤ n ∧ i = .int .i64 j ∧ wr = w ∧ Hid (NotYet ids x j)) (fun i _ => n - (intOf i).toNat)
  case atStart => exact ⟨0, Nat.zero_le _, rfl, rfl, HY⟩
  case round =>
    clear HY
    obtain ⟨j, hj, rfl, rfl, HY⟩ := hrel
    by_cases hlt : j < n
    · obtain ⟨b1, o1, rfl, hc1⟩ := HI.out.at_ (k := 0) (by omega)
      have hx := hc1 j hlt
      clear hc1
      have hlt2 : (j : Int) < (n : Int) := by omega
      by_cases he : nth ids j = x
      · have HE : Hid (decide (x ∈ ids) = true) := Lib.hid (by rw [← he]; exact nth_mem (by rw [HL.out]; exact hlt))
        rw [he] at hx
        clear he
        go_wp2_with fail
        go_ret
        exact ⟨by rw [HE.out]; rfl, rfl⟩
      · have HE := Lib.hid (HY.out.next he)
        go_wp2_with fail
        go_roundw
        case rel => exact ⟨j + 1, by omega, by go_num, trivial, HE⟩
        case measure => simp [intOf]; omega
    · have hlt2 : ¬ (j : Int) < (n : Int) := by omega
      have HE : Hid (decide (x ∈ ids) = false) := Lib.hid (HY.out.all (by rw [HL.out]; omega))
      go_wp2_with fail
      go_ret
      exact ⟨by rw [HE.out]; rfl, rfl⟩

theorem Ref.put {w : World} {gs : List Nat} {g : Nat} {m : Int} {ids : List Int} {x : Int} {A : Option Addr} {c : Nat} {w0 w' : World} (h0 : ButS gs w0 w) (h : RefAt w gs g m ids A c) (hlt : ∀ k ∈ gs, k < w0.heap.size) {A2 : Option Addr} {n2 c2 : Nat} (hn : n2 = ids.length + 1)
    (ho : OwnI w' 0 (.slice A2 n2 c2) (ids ++ [x])) (hg : w.grownBy w' (Value.slice A ids.length c).ownBlock) (hl : ∀ ad, A2 = some ad → (Value.slice A ids.length c).ownBlock = some ad.block ∨ w.heap.size ≤ ad.block) {r : Int} (hr : regN m ids x = r) (hi : regI m ids x = ids ++ [x]) :
    AddO (fun w gs ids => Ref w gs g m ids) gs (regN m ids x) (regI m ids x) (.returned (.int .i64 r)) w0 (w'.setCell ⟨g, 1, none⟩ (.slice A2 n2 c2)) := by
  have hlen : (ids ++ [x]).length = ids.length + 1 := by simp
  rw [hi]
  have hne : (Value.slice A ids.length c).ownBlock ≠ some g := h.own.apart h.st (by decide)
  have hst : Has w' g 38 (refC m A ids.length c) := (hg.block g h.st.lt (fun e => hne e.symm)).trans h.st
  have hst2 : Has (w'.setCell ⟨g, 1, none⟩ (.slice A2 n2 c2)) g 38 (refC m A2 n2 c2) := hst.put 1 _
  have hw : ButS gs w w' := ⟨hg.os, hg.tape, hg.output, hg.size, fun k hk hn => hg.block k hk (fun e => hn (h.own.blk h.inA k e.symm))⟩
  have hs : ButS gs w' (w'.setCell ⟨g, 1, none⟩ (.slice A2 n2 c2)) := ⟨rfl, rfl, rfl, by simp [World.setCell], fun k _ hn => heap_setCell_other _ _ _ _ (fun e => hn (by simp only at e; rw [e]; exact h.inG))⟩
  have hall := (h0.trans hw).trans hs
  refine ⟨by rw [hr], (match A2 with | some ad => ad.block :: gs | none => gs), ⟨A2, c2, ?_, ?_, ?_, ?_, ?_⟩, hall, ?_⟩
  · rw [hlen, ← hn]; exact hst2
  · rw [hlen, ← hn]
    exact ho.set hst (by decide) 1 _
  · cases A2 with
    | none => exact h.inG
    | some ad => exact List.mem_cons_of_mem _ h.inG
  · intro ad e
    subst e
    exact List.mem_cons_self
  · cases A2 with
    | none => exact fun k hk => Nat.lt_of_lt_of_le (hlt k hk) hall.size
    | some ad =>
      intro k hk
      rcases List.mem_cons.1 hk with rfl | hk
      · have := World.ownsRow.lt ho ad.block (by
          rcases ho.2 with ⟨e, _⟩ | ⟨g', cap, cur, e, _⟩
          · cases e
          · injection e with e1; injection e1 with e1; subst e1; rfl)
        have h2 : (w'.setCell ⟨g, 1, none⟩ (.slice (some ad) n2 c2)).heap.size = w'.heap.size := by simp [World.setCell]
        omega
      · exact Nat.lt_of_lt_of_le (hlt k hk) hall.size
  · cases A2 with
    | none => exact fun k hk => .inl hk
    | some ad =>
      intro k hk
      rcases List.mem_cons.1 hk with rfl | hk
      · rcases hl ad rfl with h1 | h1
        · exact .inl (h.own.blk h.inA _ h1)
        · exact .inr (Nat.le_trans h0.size h1)
      · exact .inl hk
theorem RefAt.cell1 {gs : List Nat} {g : Nat} {m : Int} {ids : List Int} {A : Option Addr} {c : Nat} {wr w' : World} (h : RefAt wr gs g m ids A c) (hg : wr.grownBy w' (Value.slice A ids.length c).ownBlock) :
    w'.cell? ⟨g, 1, none⟩ = some (.slice A ids.length c) ∧ w'.frozen? ⟨g, 1, none⟩ = false := by
  have hne : (Value.slice A ids.length c).ownBlock ≠ some g := h.own.apart h.st (by decide)
  have hst : Has w' g 38 (refC m A ids.length c) := (hg.block g h.st.lt (fun e => hne e.symm)).trans h.st
  exact ⟨hst.cell 1, hst.mark 1⟩
theorem RefAt.below {gs : List Nat} {g : Nat} {m : Int} {ids : List Int} {A : Option Addr} {c : Nat} {w w' : World} (h : RefAt w gs g m ids A c) (hb : Below w.heap.size w w') : RefAt w' gs g m ids A c :=
  ⟨h.st.below hb h.st.lt, h.own.below hb, h.inG, h.inA, fun k hk => Nat.lt_of_lt_of_le (h.lt k hk) hb.size⟩

set_option maxRecDepth 100000 in
set_option maxHeartbeats 1000000 in
theorem radd_any (gs : List Nat) (g : Nat) (m : Int) (ids : List Int) (x : Int) (w : World) (h : Ref w gs g m ids) (hlen : ids.length ≤ 64) :
    Calls Try.prog 11 #[.pointer (some ⟨g, 0, none⟩), .int .i64 x] w fun e w' => AddO (fun w gs ids => Ref w gs g m ids) gs (regN m ids x) (regI m ids x) e w w' := by
  have HH := Lib.hid (rhas_any gs g m ids x w h (by omega))
  rcases reg_cases m ids x with hx | ⟨hx, h2⟩ | ⟨hx, h2, h3⟩ | ⟨hx, h2, h3⟩
  · have HE : Hid (AddO (fun w gs ids => Ref w gs g m ids) gs (regN m ids x) (regI m ids x) (.returned (.int .i64 1200)) w w) := Lib.hid (AddO.same (S := fun w gs ids => Ref w gs g m ids) h (reg_form hx).1 (reg_form hx).2 (fun _ hb => h.below hb) (Below.refl _ _))
    clear h HH
    by_cases h0 : x < 0
    · go_enter Try.func11, Try.ntmps11
      go_wp2_with fail
      go_ret
      exact HE.out
    · have h1 : 1048575 < x := by omega
      clear hx
      go_enter Try.func11, Try.ntmps11
      go_wp2_with fail
      go_ret
      exact HE.out
  all_goals
    have g0 : ¬ x < 0 := by omega
    have g1 : ¬ 1048575 < x := by omega
  · have HE : Hid (AddO (fun w gs ids => Ref w gs g m ids) gs (regN m ids x) (regI m ids x) (.returned (.int .i64 0)) w w) := Lib.hid (AddO.same (S := fun w gs ids => Ref w gs g m ids) h (reg_there hx h2).1 (reg_there hx h2).2 (fun _ hb => h.below hb) (Below.refl _ _))
    rw [decide_eq_true h2] at HH
    clear h h2 hx
    go_enter Try.func11, Try.ntmps11
    go_wp2_with fail
    refine (HH.out).mono ?_; rintro e w1 ⟨rfl, rfl⟩
    go_wp2_with fail
    go_ret
    exact HE.out
  · have HE : Hid (∀ w', Below w.heap.size w w' → AddO (fun w gs ids => Ref w gs g m ids) gs (regN m ids x) (regI m ids x) (.returned (.int .i64 1201)) w w') := Lib.hid (fun w' hb => AddO.same (S := fun w gs ids => Ref w gs g m ids) h (reg_full hx h2 h3).1 (reg_full hx h2 h3).2 (fun _ hb => h.below hb) hb)
    rw [decide_eq_false h2] at HH
    obtain ⟨A, c, h⟩ := h
    have c0 : w.cell? ⟨g, 0, none⟩ = some (.int .i64 m) := h.st.cell 0
    have c1 : w.cell? ⟨g, 1, none⟩ = some (.slice A ids.length c) := h.st.cell 1
    clear h h2 hx
    generalize ids.length = n at c1 h3 hlen
    go_enter Try.func11, Try.ntmps11
    go_wp2_with fail
    refine (HH.out).mono ?_; rintro e w1 ⟨rfl, rfl⟩
    go_wp2_with fail
    go_quiet (fail)
    go_wp2_with fail
    go_ret
    exact HE.out _ (below_drewN (Below.refl _ _) _)
  · have HE := Lib.hid (reg_new (m := m) hx h2 h3)
    rw [decide_eq_false h2] at HH
    obtain ⟨A, c, h⟩ := h
    obtain ⟨n, hn⟩ : ∃ n, ids.length = n := ⟨_, rfl⟩
    have c0 : w.cell? ⟨g, 0, none⟩ = some (.int .i64 m) := h.st.cell 0
    have c1 : w.cell? ⟨g, 1, none⟩ = some (.slice A n c) := by rw [← hn]; exact h.st.cell 1
    rw [hn] at h3 hlen
    have HR := Lib.hid h
    have HL := Lib.hid hn
    clear h h2 hn hx
    go_enter Try.func11, Try.ntmps11
    go_wp2_with fail
    refine (HH.out).mono ?_; rintro e w1 ⟨rfl, rfl⟩
    go_wp2_with fail
    go_quiet (fail)
    go_upto_region 7 with fail
    have hd : Below w.heap.size w (w.drewN nq) := below_drewN (Below.refl _ _) _
    have c3 : (w.drewN nq).cell? ⟨g, 1, none⟩ = some (.slice A n c) := c1
    generalize w.drewN nq = wd at hd c3 ⊢
    have hd2 : Below w.heap.size w (wd.alloc (.cells #[.int .i64 x] 3)) := hd.alloc hd.size _
    have H4 := Lib.hid (HR.out.below hd2)
    have hown : OwnI (wd.alloc (.cells #[.int .i64 x] 3)) 0 (.slice A n c) ids := by have := H4.out.own; rwa [HL.out] at this
    have hone : (wd.alloc (.cells #[.int .i64 x] 3)).cell? ⟨wd.heap.size, 0, none⟩ = some (.int .i64 x) := (Has.made wd 3 #[.int .i64 x]).cell 0
    have hn9 : n ≤ 1000000000 := by omega
    have HO := Lib.hid (And.intro hown (And.intro hone hd2))
    clear hown hone hd hd2
    have HQ : Hid (∀ w5 : World, (wd.alloc (.cells #[.int .i64 x] 3)).grownBy w5 (Value.slice A n c).ownBlock → w5.cell? ⟨g, 1, none⟩ = some (.slice A n c) ∧ w5.frozen? ⟨g, 1, none⟩ = false) := Lib.hid (fun w5 hg => by have := H4.out.cell1 (w' := w5) (by rw [HL.out]; exact hg); rwa [HL.out] at this)
    go_wp2_with (refine gapp_int (y := x) (n := n) rfl _ _ rfl rfl HO.out.1 rfl HO.out.2.1 HL.out hn9 (Nat.zero_le _) ?_; intro A2 m2 c2 w5 hm2 ho5 hg5 hl5; obtain ⟨c5, m5⟩ := HQ.out w5 hg5)
    subst hm2
    have HX := Lib.hid (Ref.put (below_butS HO.out.2.2 gs) H4.out HR.out.lt (by rw [HL.out]) ho5 (by rw [HL.out]; exact hg5) (by rw [HL.out]; exact hl5) HE.out.1 HE.out.2)
    go_ret
    exact HX.out

end Go.Proofs.Ytamgllaoeociaaa
