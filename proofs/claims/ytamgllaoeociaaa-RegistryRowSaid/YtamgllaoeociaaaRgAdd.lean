/-
  Walk: the registry's Add.
-/
import Derived.Test.YtamgllaoeociaaaRgProg
import Derived.Test.YtamgllaoeociaaaRgAddR
import Derived.Deep.Cut
namespace Go.Proofs.Ytamgllaoeociaaa
open Go.RowKit

/-- Nothing turned. -/
theorem AddO.same {S : World → List Nat → List Int → Prop} {gs : List Nat} {r r' : Int} {ids ids' : List Int} {w w' : World} (h : S w gs ids) (hr : r' = r) (hi : ids' = ids) (hb : ∀ w', Below w.heap.size w w' → S w' gs ids) (hw : Below w.heap.size w w') : AddO S gs r' ids' (.returned (.int .i64 r)) w w' := by
  subst hr hi
  exact ⟨rfl, gs, hb _ hw, below_butS hw gs, fun k hk => .inl hk⟩

set_option maxHeartbeats 400000 in
theorem gadd_form (gs : List Nat) (g : Nat) (m : Int) (ids : List Int) (x : Int) (w : World) (h : Reg w gs g m ids) (hx : x < 0 ∨ 1048575 < x) :
    Calls Try.prog 10 #[.pointer (some ⟨g, 0, none⟩), .int .i64 x] w fun e w' => AddO (fun w gs ids => Reg w gs g m ids) gs (regN m ids x) (regI m ids x) e w w' := by
  have HE : Hid (AddO (fun w gs ids => Reg w gs g m ids) gs (regN m ids x) (regI m ids x) (.returned (.int .i64 1200)) w w) := Lib.hid (AddO.same (S := fun w gs ids => Reg w gs g m ids) h (reg_form hx).1 (reg_form hx).2 (fun _ hb => h.below hb) (Below.refl _ _))
  clear h
  go_enter Try.func10, Try.ntmps10
  go_wp2_with (go_at_call 17; refine (gwithin_no _ _ _ _ hx).mono ?_; rintro e w' ⟨rfl, rfl⟩)
  go_ret
  exact HE.out
set_option maxHeartbeats 400000 in
theorem gadd_there (gs : List Nat) (g : Nat) (m : Int) (ids : List Int) (x : Int) (w : World) (h : Reg w gs g m ids) (hx : 0 ≤ x ∧ x ≤ 1048575) (h2 : x ∈ ids) :
    Calls Try.prog 10 #[.pointer (some ⟨g, 0, none⟩), .int .i64 x] w fun e w' => AddO (fun w gs ids => Reg w gs g m ids) gs (regN m ids x) (regI m ids x) e w w' := by
  have HE : Hid (AddO (fun w gs ids => Reg w gs g m ids) gs (regN m ids x) (regI m ids x) (.returned (.int .i64 0)) w w) := Lib.hid (AddO.same (S := fun w gs ids => Reg w gs g m ids) h (reg_there hx h2).1 (reg_there hx h2).2 (fun _ hb => h.below hb) (Below.refl _ _))
  have HH := Lib.hid (ghas_any gs g m ids x w h (WalkArith.wf_i64 (by omega)))
  rw [decide_eq_true h2] at HH
  clear h h2
  go_enter Try.func10, Try.ntmps10
  go_wp2_with (go_at_call 17; refine (gwithin_yes _ _ _ _ hx).mono ?_; rintro e w' ⟨rfl, rfl⟩)
  refine (HH.out).mono ?_; rintro e w1 ⟨rfl, rfl⟩
  go_wp2_with fail
  go_ret
  exact HE.out
set_option maxRecDepth 100000 in
set_option maxHeartbeats 1000000 in
theorem gadd_full (gs : List Nat) (g : Nat) (m : Int) (ids : List Int) (x : Int) (w : World) (h : Reg w gs g m ids) (hx : 0 ≤ x ∧ x ≤ 1048575) (h2 : x ∉ ids) (h3 : m ≤ ids.length) :
    Calls Try.prog 10 #[.pointer (some ⟨g, 0, none⟩), .int .i64 x] w fun e w' => AddO (fun w gs ids => Reg w gs g m ids) gs (regN m ids x) (regI m ids x) e w w' := by
  have HE : Hid (∀ w', Below w.heap.size w w' → AddO (fun w gs ids => Reg w gs g m ids) gs (regN m ids x) (regI m ids x) (.returned (.int .i64 1201)) w w') := Lib.hid (fun w' hb => AddO.same (S := fun w gs ids => Reg w gs g m ids) h (reg_full hx h2 h3).1 (reg_full hx h2 h3).2 (fun _ hb => h.below hb) hb)
  have HH := Lib.hid (ghas_any gs g m ids x w h (WalkArith.wf_i64 (by omega)))
  rw [decide_eq_false h2] at HH
  obtain ⟨A, c, mp, D, h⟩ := h
  have c0 : w.cell? ⟨g, 0, none⟩ = some (.int .i64 m) := h.st.cell 0
  have c1 : w.cell? ⟨g, 1, none⟩ = some (.slice A ids.length c) := h.st.cell 1
  clear h h2
  generalize ids.length = n at c1 h3
  go_enter Try.func10, Try.ntmps10
  go_wp2_with (go_at_call 17; refine (gwithin_yes _ _ _ _ hx).mono ?_; rintro e w' ⟨rfl, rfl⟩)
  refine (HH.out).mono ?_; rintro e w1 ⟨rfl, rfl⟩
  go_wp2_with fail
  go_quiet (fail)
  go_wp2_with fail
  go_ret
  exact HE.out _ (below_drewN (Below.refl _ _) _)

/-- The memory behind the store into the map, and behind the append's one cell. -/
structure AdS (gs : List Nat) (g : Nat) (m : Int) (ids : List Int) (x : Int) (A : Option Addr) (c mp : Nat) (D : DataW Unit) (w wr : World) : Prop where
  st : Has wr g 45 (regC m A ids.length c mp)
  own : OwnI wr 0 (.slice A ids.length c) ids
  map : wr.ownsMap Try.prog 3 (plainElem Try.prog 3) mp (ids.length + 1) D
  keys : Keys1 D (ids ++ [x])
  inG : g ∈ gs
  inM : mp ∈ gs
  inA : ∀ ad, A = some ad → ad.block ∈ gs
  lt : ∀ k ∈ gs, k < w.heap.size
  but : ButS gs w wr
theorem map_apart {P : Program} {k : TypeId} {R : Value → Option (DataW Unit × List MemPlace)} {w : World} {mp n : Nat} {D : DataW Unit} (h : w.ownsMap P k R mp n D) {g : Nat} {t : TypeId} {cs : Array Value} (hg : Has w g t cs) : g ≠ mp := by
  obtain ⟨es, clock, hm, _⟩ := h
  intro e
  subst e
  unfold Has at hg
  rw [hm] at hg
  cases hg
theorem own_map_apart {P : Program} {k : TypeId} {R : Value → Option (DataW Unit × List MemPlace)} {w : World} {mp n : Nat} {D : DataW Unit} (h : w.ownsMap P k R mp n D) {base : Nat} {v : Value} {xs : List Int} (ho : OwnI w base v xs) : v.ownBlock ≠ some mp := by
  rcases ho.2 with ⟨e, _⟩ | ⟨g, cap, cur, e, hg, hr, _⟩
  · rw [e]; simp [Value.ownBlock]
  · rw [e]
    intro hk
    obtain rfl : g = mp := by simpa [Value.ownBlock] using hk
    obtain ⟨es, clock, hm, _⟩ := h
    rw [hm] at hr
    cases hr
theorem OwnI.grow {w w' : World} {base : Nat} {v : Value} {xs : List Int} {row : Option Nat} (h : OwnI w base v xs) (hg : w.grownBy w' row) (hne : v.ownBlock = none ∨ v.ownBlock ≠ row) : OwnI w' base v xs := World.ownsRow.kept h hg hne
theorem AdS.made {gs : List Nat} {g : Nat} {m : Int} {ids : List Int} {x : Int} {A : Option Addr} {c mp : Nat} {D D' : DataW Unit} {w wd w' : World} (h : RegAt w gs g m ids A c mp D) (hd : Below w.heap.size w wd) (hk : Keys1 D' (ids ++ [x]))
    (hm : w'.ownsMap Try.prog 3 (plainElem Try.prog 3) mp (ids.length + 1) D') (hg : wd.grownBy w' (some mp)) : AdS gs g m ids x A c mp D' w w' := by
  have hst := h.st.below hd h.st.lt
  have hown := h.own.below hd
  have hmp : wd.ownsMap Try.prog 3 (plainElem Try.prog 3) mp ids.length D := h.map.kept (row := none) ⟨hd.os, hd.tape, hd.output, hd.size, fun k hk _ => hd.block k hk⟩ (by simp)
  have hne := map_apart hmp hst
  have hne2 := own_map_apart hmp hown
  exact ⟨(hg.block g hst.lt (fun e => hne (by injection e))).trans hst, hown.grow hg (.inr hne2), hm, hk, h.inG, h.inM, h.inA, h.lt, (below_butS hd gs).trans (grow_butS hg h.inM)⟩
theorem AdS.one {gs : List Nat} {g : Nat} {m : Int} {ids : List Int} {x : Int} {A : Option Addr} {c mp : Nat} {D : DataW Unit} {w wr : World} (h : AdS gs g m ids x A c mp D w wr) (o : Obj) : AdS gs g m ids x A c mp D w (wr.alloc o) :=
  have hb : Below wr.heap.size wr (wr.alloc o) := (Below.refl _ _).alloc (Nat.le_refl _) _
  ⟨h.st.alloc o, h.own.below hb, h.map.alloc o, h.keys, h.inG, h.inM, h.inA, h.lt, h.but.trans (below_butS hb gs)⟩
theorem AdS.cell1 {gs : List Nat} {g : Nat} {m : Int} {ids : List Int} {x : Int} {A : Option Addr} {c mp : Nat} {D : DataW Unit} {w wr w' : World} (h : AdS gs g m ids x A c mp D w wr) (hg : wr.grownBy w' (Value.slice A ids.length c).ownBlock) :
    w'.cell? ⟨g, 1, none⟩ = some (.slice A ids.length c) ∧ w'.frozen? ⟨g, 1, none⟩ = false := by
  have hne : (Value.slice A ids.length c).ownBlock ≠ some g := h.own.apart h.st (by decide)
  have hst : Has w' g 45 (regC m A ids.length c mp) := (hg.block g h.st.lt (fun e => hne e.symm)).trans h.st
  exact ⟨hst.cell 1, hst.mark 1⟩
/-- .. behind the append: what the store of the row leaves is the registry. -/
theorem AdS.done {gs : List Nat} {g : Nat} {m : Int} {ids : List Int} {x : Int} {A : Option Addr} {c mp : Nat} {D : DataW Unit} {w wr w' : World} (h : AdS gs g m ids x A c mp D w wr) {A2 : Option Addr} {n2 c2 : Nat} (hn : n2 = ids.length + 1)
    (ho : OwnI w' 0 (.slice A2 n2 c2) (ids ++ [x])) (hg : wr.grownBy w' (Value.slice A ids.length c).ownBlock) (hl : ∀ ad, A2 = some ad → (Value.slice A ids.length c).ownBlock = some ad.block ∨ wr.heap.size ≤ ad.block) {r : Int} (hr : regN m ids x = r) (hi : regI m ids x = ids ++ [x]) :
    AddO (fun w gs ids => Reg w gs g m ids) gs (regN m ids x) (regI m ids x) (.returned (.int .i64 r)) w (w'.setCell ⟨g, 1, none⟩ (.slice A2 n2 c2)) := by
  have hlen : (ids ++ [x]).length = ids.length + 1 := by simp
  rw [hi]
  have hne : (Value.slice A ids.length c).ownBlock ≠ some g := h.own.apart h.st (by decide)
  have hnm := own_map_apart h.map h.own
  have hst : Has w' g 45 (regC m A ids.length c mp) := (hg.block g h.st.lt (fun e => hne e.symm)).trans h.st
  have hmp : w'.ownsMap Try.prog 3 (plainElem Try.prog 3) mp (ids.length + 1) D := h.map.kept hg (fun e => hnm e.symm)
  have hst2 : Has (w'.setCell ⟨g, 1, none⟩ (.slice A2 n2 c2)) g 45 (regC m A2 n2 c2 mp) := hst.put 1 _
  have hw : ButS gs wr w' := ⟨hg.os, hg.tape, hg.output, hg.size, fun k hk hn => hg.block k hk (fun e => hn (h.own.blk h.inA k e.symm))⟩
  have hs : ButS gs w' (w'.setCell ⟨g, 1, none⟩ (.slice A2 n2 c2)) := ⟨rfl, rfl, rfl, by simp [World.setCell], fun k _ hn => heap_setCell_other _ _ _ _ (fun e => hn (by simp only at e; rw [e]; exact h.inG))⟩
  have hall := (h.but.trans hw).trans hs
  refine ⟨by rw [hr], (match A2 with | some ad => ad.block :: gs | none => gs), ⟨A2, c2, mp, D, ?_, ?_, ?_, h.keys, ?_, ?_, ?_, .inr (by omega), ?_⟩, hall, ?_⟩
  · rw [hlen, ← hn]; exact hst2
  · rw [hlen, ← hn]
    exact ho.set hst (by decide) 1 _
  · rw [hlen]; exact hmp.setCell (Ne.symm (map_apart hmp hst)) _
  · cases A2 with
    | none => exact h.inG
    | some ad => exact List.mem_cons_of_mem _ h.inG
  · cases A2 with
    | none => exact h.inM
    | some ad => exact List.mem_cons_of_mem _ h.inM
  · intro ad e
    subst e
    exact List.mem_cons_self
  · cases A2 with
    | none => exact fun k hk => Nat.lt_of_lt_of_le (h.lt k hk) hall.size
    | some ad =>
      intro k hk
      rcases List.mem_cons.1 hk with rfl | hk
      · have := World.ownsRow.lt ho ad.block (by
          rcases ho.2 with ⟨e, _⟩ | ⟨g', cap, cur, e, _⟩
          · cases e
          · injection e with e1; injection e1 with e1; subst e1; rfl)
        have h2 : (w'.setCell ⟨g, 1, none⟩ (.slice (some ad) n2 c2)).heap.size = w'.heap.size := by simp [World.setCell]
        omega
      · exact Nat.lt_of_lt_of_le (h.lt k hk) hall.size
  · cases A2 with
    | none => exact fun k hk => .inl hk
    | some ad =>
      intro k hk
      rcases List.mem_cons.1 hk with rfl | hk
      · rcases hl ad rfl with h1 | h1
        · exact .inl (h.own.blk h.inA _ h1)
        · exact .inr (Nat.le_trans h.but.size h1)
      · exact .inl hk

set_option maxRecDepth 100000 in
set_option maxHeartbeats 2000000 in
theorem gadd_new (gs : List Nat) (g : Nat) (m : Int) (ids : List Int) (x : Int) (w : World) (h : Reg w gs g m ids) (hx : 0 ≤ x ∧ x ≤ 1048575) (h2 : x ∉ ids) (h3 : (ids.length : Int) < m) (hm : m ≤ 64) :
    Calls Try.prog 10 #[.pointer (some ⟨g, 0, none⟩), .int .i64 x] w fun e w' => AddO (fun w gs ids => Reg w gs g m ids) gs (regN m ids x) (regI m ids x) e w w' := by
  have HE := Lib.hid (reg_new (m := m) hx h2 h3)
  have HH := Lib.hid (ghas_any gs g m ids x w h (WalkArith.wf_i64 (by omega)))
  rw [decide_eq_false h2] at HH
  obtain ⟨A, c, mp, D, h⟩ := h
  obtain ⟨n, hn⟩ : ∃ n, ids.length = n := ⟨_, rfl⟩
  have c0 : w.cell? ⟨g, 0, none⟩ = some (.int .i64 m) := h.st.cell 0
  have c1 : w.cell? ⟨g, 1, none⟩ = some (.slice A n c) := by rw [← hn]; exact h.st.cell 1
  rw [hn] at h3
  have HR := Lib.hid h
  have HL := Lib.hid hn
  have hx64 : (Lit.int .i64 x).wf = true := WalkArith.wf_i64 (by omega)
  have hn64 : (Lit.int .i64 (n : Int)).wf = true := WalkArith.wf_i64 (by omega)
  clear h h2 hn
  go_enter Try.func10, Try.ntmps10
  go_wp2_with (go_at_call 17; refine (gwithin_yes _ _ _ _ hx).mono ?_; rintro e w' ⟨rfl, rfl⟩)
  refine (HH.out).mono ?_; rintro e w1 ⟨rfl, rfl⟩
  go_wp2_with fail
  go_quiet (fail)
  go_upto_region 9 with fail
  have hd : Below w.heap.size w (w.drewN nq) := below_drewN (Below.refl _ _) _
  generalize w.drewN nq = wd at hd ⊢
  refine ga9_any (g := g) (n := n) (c := c) (mp := mp) (m := m) (x := x) (A := A) ⟨rfl, rfl, rfl, by rw [← HL.out]; exact HR.out.st.below hd HR.out.st.lt⟩ (by kernel_rfl) ?_
  intro w2 hb2
  have hd2 : Below w.heap.size w w2 := hd.trans (hb2.mono hd.size)
  clear hd hb2
  simp only [putAll, Act.put, List.setIfInBounds_toArray, List.set_cons_succ, List.set_cons_zero, List.drop_succ_cons, List.drop_zero]
  have hmp : w2.ownsMap Try.prog 3 (plainElem Try.prog 3) mp n D := by rw [← HL.out]; exact HR.out.map.kept (row := none) ⟨hd2.os, hd2.tape, hd2.output, hd2.size, fun k hk _ => hd2.block k hk⟩ (by simp)
  refine wpList_mapUpdate_own _ rfl _ _ _ 43 rfl 3 3 gkeyed Try.underlying43 _ mp n D rfl hmp (by unfold maxLen; omega) _ _ _ rfl rfl (Maps.keyOf_int_mk Try.underlying3 hx64) _ [] (plainElem_int Try.underlying3 hn64) ?_
  intro w3 hown3 hg3
  have H3 := Lib.hid (AdS.made HR.out hd2 (HR.out.keys.put x _) (by rw [HL.out]; exact hown3) hg3)
  clear hd2 hmp hown3 hg3 HR
  have c3 : w3.cell? ⟨g, 1, none⟩ = some (.slice A n c) := by rw [← HL.out]; exact H3.out.st.cell 1
  have H4 : Hid (AdS gs g m ids x A c mp (D.put (Lit.int .i64 x) (DataW.lit (Lit.int .i64 (n : Int)))) w (w3.alloc (.cells #[.int .i64 x] 3))) := Lib.hid (H3.out.one _)
  have hown : OwnI (w3.alloc (.cells #[.int .i64 x] 3)) 0 (.slice A n c) ids := by have := H4.out.own; rwa [HL.out] at this
  have hone : (w3.alloc (.cells #[.int .i64 x] 3)).cell? ⟨w3.heap.size, 0, none⟩ = some (.int .i64 x) := (Has.made w3 3 #[.int .i64 x]).cell 0
  have hn9 : n ≤ 1000000000 := by omega
  have HO := Lib.hid (And.intro hown hone)
  clear hown hone
  have HQ : Hid (∀ w5 : World, (w3.alloc (.cells #[.int .i64 x] 3)).grownBy w5 (Value.slice A n c).ownBlock → w5.cell? ⟨g, 1, none⟩ = some (.slice A n c) ∧ w5.frozen? ⟨g, 1, none⟩ = false) := Lib.hid (fun w5 hg => by have := H4.out.cell1 (w' := w5) (by rw [HL.out]; exact hg); rwa [HL.out] at this)
  go_wp2_with (refine gapp_int (y := x) (n := n) rfl _ _ rfl rfl HO.out.1 rfl HO.out.2 HL.out hn9 (Nat.zero_le _) ?_; intro A2 m2 c2 w5 hm2 ho5 hg5 hl5; obtain ⟨c5, m5⟩ := HQ.out w5 hg5)
  subst hm2
  have HX := Lib.hid (H4.out.done (by rw [HL.out]) ho5 (by rw [HL.out]; exact hg5) (by rw [HL.out]; exact hl5) HE.out.1 HE.out.2)
  go_ret
  exact HX.out

theorem gadd_any (gs : List Nat) (g : Nat) (m : Int) (ids : List Int) (x : Int) (w : World) (h : Reg w gs g m ids) (hm : m ≤ 64) :
    Calls Try.prog 10 #[.pointer (some ⟨g, 0, none⟩), .int .i64 x] w fun e w' => AddO (fun w gs ids => Reg w gs g m ids) gs (regN m ids x) (regI m ids x) e w w' := by
  rcases reg_cases m ids x with h1 | ⟨h1, h2⟩ | ⟨h1, h2, h3⟩ | ⟨h1, h2, h3⟩
  · exact gadd_form gs g m ids x w h h1
  · exact gadd_there gs g m ids x w h h1 h2
  · exact gadd_full gs g m ids x w h h1 h2 h3
  · exact gadd_new gs g m ids x w h h1 h2 h3 hm

end Go.Proofs.Ytamgllaoeociaaa
