/-
  Walks: the reference's scanner: bad, walk, Write, Close, LoadScanner.
  Walks: the reference's LoadScanner of what may not be loaded; the laws' framed.
-/
import Derived.Test.YtoechlmahckchaaG11j
import Derived.Test.YtoechlmahckchaaFrPut
namespace Go.Proofs.Ytoechlmahckchaa
open Go.RowKit

set_option maxRecDepth 100000 in
set_option maxHeartbeats 1000000 in
theorem rbad_any (g : Nat) (l : List UInt8) (b : Nat) (w : World) (hb : b ≤ 1073741823) (h : Has w g 27 (scC l b)) :
    Calls Try.prog 33 #[.pointer (some ⟨g, 0, none⟩)] w fun e w' => WroteO g 27 (tellB b) l 0 e w w' := by
  have c1 : w.cell? ⟨g, 1, none⟩ = some (.int .i64 b) := h.cell 1
  have m1 := h.mark 1
  by_cases h0 : b = 0
  · subst h0
    have HE : Hid (WroteO g 27 (tellB 0) l 0 (.returned (.slice none 0 0)) w w) := Lib.hid ⟨none, 0, rfl, OwnO.nil _ _, h, grow_refl _ _⟩
    clear h
    go_enter Try.func33, Try.ntmps33
    go_wp2_with fail
    go_ret
    exact HE.out
  · have q0 : ((b : Int) == 0) = false := by simp; omega
    have e0 : tellB b = [badP b] := if_neg h0
    have HE : Hid (WroteO g 27 (tellB b) l 0 (.returned (.slice (some ⟨w.heap.size, 0, none⟩) 1 1)) w ((w.setCell ⟨g, 1, none⟩ (.int .i64 0)).alloc (.cells #[.int .i64 3, .int .i64 0, .int .i64 0, .int .i64 0, .int .i64 b] 49))) := Lib.hid (by
      have h1 := h.put 1 (.int .i64 0)
      have g1 : w.grownBy (w.setCell ⟨g, 1, none⟩ (.int .i64 0)) (some g) := grow_set (grow_refl _ _) (.inl rfl) _ rfl _
      have e1 : (w.setCell ⟨g, 1, none⟩ (.int .i64 0)).heap.size = w.heap.size := by simp [World.setCell]
      generalize w.setCell ⟨g, 1, none⟩ (.int .i64 0) = w1 at h1 g1 e1 ⊢
      have hown := own_litO w1 (base := w.heap.size) (by omega) [badP b] (by simp) (cs := #[.int .i64 3, .int .i64 0, .int .i64 0, .int .i64 0, .int .i64 b]) rfl
      rw [e1] at hown
      rw [e0]
      exact ⟨_, _, rfl, hown, h1.alloc _, grow_trans g1 (below_grow ((Below.refl _ _).alloc (Nat.le_refl _) _) none) (by simp)⟩)
    have hglt := h.lt
    clear h e0 h0
    go_enter Try.func33, Try.ntmps33
    go_wp2_with fail
    go_ret
    exact HE.out

set_option maxRecDepth 100000 in
set_option maxHeartbeats 4000000 in
theorem rwalk_any (g : Nat) (last : Bool) (l : List UInt8) (b0 : Nat) (w : World) (h : Has w g 27 (scC l b0)) (hs : l.length ≤ 1000000000000) (hb : b0 ≤ 1073741823) (os : List Po) (r : List UInt8) (b : Nat) (hr : runL last l b0 = (os, r, b)) :
    Calls Try.prog 31 #[.pointer (some ⟨g, 0, none⟩), .bool last] w fun e w' => WroteO g 27 os r b e w w' := by
  have HR := Lib.hid hr; clear hr
  have HS : Hid (RdS g 27 l last b0 l w 0 none 0 0 b0 [] w) := Lib.hid ⟨h, OwnO.nil _ _, grow_refl _ _, hb, by simp⟩
  clear h
  obtain ⟨s, hsl⟩ : ∃ s : ByteArray, txt l = s := ⟨_, rfl⟩
  have HZ := Lib.hid (show s.size = l.length by rw [← hsl, txt_size])
  have hs2 : s.size ≤ 1000000000000 := by have := HZ.out; omega
  clear hs
  have hL : s.data.toList = l := by rw [← hsl]; rfl
  have HT := Lib.hid (And.intro hsl hL); clear hsl hL
  have HC : Hid (∀ (j : Nat) (A : Option Addr) (n c b : Nat) (os : List Po) (wr : World), RdS g 27 l last b0 l w j A n c b os wr → wr.cell? ⟨g, 0, none⟩ = some (.string s) ∧ wr.frozen? ⟨g, 0, none⟩ = false) := Lib.hid (fun j A n c b os wr h => ⟨by rw [← HT.out.1]; exact h.sc.cell 0, h.sc.mark 0⟩)
  have HD : Hid (∀ j, s.extract j s.size = txt (l.drop j)) := Lib.hid (fun j => by rw [txt_drop, HT.out.2])
  -- what is handed out
  have HW : Hid (∀ (j : Nat) (A : Option Addr) (n c b1 : Nat) (os1 : List Po) (wr : World), RdS g 27 l last b0 l w j A n c b1 os1 wr → os1 = os ∧ l.drop j = r ∧ b1 = b → WroteO g 27 os r b (.returned (.slice A n c)) w (wr.setCell ⟨g, 0, none⟩ (.string (s.extract j s.size)))) := Lib.hid (by
    intro j A n c b1 os1 wr S hF
    have hl := S.own.slice.1
    obtain ⟨e1, e2, e3⟩ := hF
    subst e1 e2 e3
    refine ⟨A, c, by rw [hl], ?_, ?_, grow_set S.gr (.inl rfl) _ rfl _⟩
    · rw [hl]
      exact S.own.grow (row := some g) (grow_set (grow_refl _ _) (.inl rfl) _ rfl _) (.inr (S.own.apart S.sc (by decide)))
    · have := S.sc.put 0 (.string (s.extract j s.size))
      rw [HD.out j] at this ⊢
      exact this)
  go_enter Try.func31, Try.ntmps31
  go_wp2_with fail
  go_loopw [5, 6] (fun v i wr => ∃ (j : Nat) (A : Option Addr) (n c b : Nat) (os : List Po), j ≤ s.size ∧ v = .slice A n c ∧ i = .int .i64 j ∧ Hid (RdS g 27 l last b0 l w j A n c b os wr)) (fun _ i _ => s.size - (intOf i).toNat)
  case atStart => exact ⟨0, none, 0, 0, b0, [], Nat.zero_le _, rfl, rfl, HS⟩
  case round =>
    clear HS
    obtain ⟨j, A, n, c, b1, os1, hj, rfl, rfl, HS⟩ := hrel
    obtain ⟨cw, mw⟩ := HC.out _ _ _ _ _ _ _ HS.out
    by_cases hlt : j < s.size
    · have hjn : (j : Int) < (s.size : Int) := by omega
      obtain ⟨st, o, k, hk⟩ : ∃ st o k, lookL (l.drop j) = (st, o, k) := ⟨_, _, _, rfl⟩
      obtain ⟨x, z, hxz, hH⟩ := here_any s j hs2 hj st o k (by rw [HT.out.2]; exact hk)
      have hkind := look_kinds hk
      have HK := Lib.hid hk; clear hk
      have HX := Lib.hid hxz; clear hxz
      rcases hkind with ⟨rfl, _⟩ | ⟨rfl, _⟩ | ⟨rfl, hrest⟩
      · cases last with
        | false =>
          have HL2 := Lib.hid (hH false true rfl rfl)
          clear hH
          have hF : os1 = os ∧ l.drop j = r ∧ b1 = b := by
            have h1 := HS.out.cut HK.out
            rw [HR.out] at h1
            simp only [Prod.mk.injEq] at h1
            exact ⟨h1.1.symm, h1.2.1.symm, h1.2.2.symm⟩
          have HE : Hid (∀ w1 : World, Below wr.heap.size wr w1 → WroteO g 27 os r b (.returned (.slice A n c)) w (w1.setCell ⟨g, 0, none⟩ (.string (s.extract j s.size)))) := Lib.hid (fun w1 hb1 => HW.out _ _ _ _ _ _ _ (HS.out.below hb1) hF)
          have HM : Hid (∀ w1 : World, Below wr.heap.size wr w1 → w1.cell? ⟨g, 0, none⟩ = some (.string s) ∧ w1.frozen? ⟨g, 0, none⟩ = false) := Lib.hid (fun w1 hb1 => HC.out _ _ _ _ _ _ _ (HS.out.below hb1))
          clear HS HK HX HW HC HD HR hF
          go_wp2_with fail
          refine (HL2.out _).mono ?_; rintro e w1 ⟨rfl, hb1⟩
          have hb3 : Below wr.heap.size wr (w1.alloc (.cells #[.int .i64 x.k, .int .i64 x.so, .int .i64 x.se, .int .i64 x.ti, .int .i64 x.va] 49)) := hb1.alloc hb1.size _
          obtain ⟨c1, m1⟩ := HM.out _ hb3
          clear hb1 HM
          go_wp2_with fail
          go_ret
          exact HE.out _ hb3
        | true =>
          have HL2 := Lib.hid (hH false true rfl rfl)
          clear hH
          have hbd := HS.out.bd
          have HN : Hid (∀ (w1 : World) (u : Int), Below wr.heap.size wr w1 → u = (upB b1 : Nat) → RdS g 27 l true b0 l w (j + 1) A n c (upB b1) os1 (w1.setCell ⟨g, 1, none⟩ (.int .i64 u))) := Lib.hid (fun w1 u hb1 hu => (HS.out.below hb1).none (by decide) HK.out (by have := HZ.out; omega) (.inr ⟨rfl, rfl⟩) hu)
          have HM : Hid (∀ w1 : World, Below wr.heap.size wr w1 → (∀ ob, (w1.alloc ob).cell? ⟨g, 1, none⟩ = some (.int .i64 b1)) ∧ ∀ ob, (w1.alloc ob).frozen? ⟨g, 1, none⟩ = false) := Lib.hid (fun w1 hb1 => ⟨fun ob => ((HS.out.sc.below hb1 HS.out.sc.lt).alloc ob).cell 1, fun ob => ((HS.out.sc.below hb1 HS.out.sc.lt).alloc ob).mark 1⟩)
          clear HS HK HX HW HC HD HR
          go_wp2_with fail
          refine (HL2.out _).mono ?_; rintro e w1 ⟨rfl, hb1⟩
          obtain ⟨c1, m1⟩ := HM.out w1 hb1
          have HN2 := Lib.hid (fun u hu => HN.out (w1.alloc (.cells #[.int .i64 x.k, .int .i64 x.so, .int .i64 x.se, .int .i64 x.ti, .int .i64 x.va] 49)) u (hb1.alloc hb1.size _) hu)
          clear HN HM hb1
          have h3 : (b1 : Int) + 1 < 1073741823 ∨ (b1 : Int) + 1 = 1073741823 ∨ 1073741823 < (b1 : Int) + 1 := by omega
          rcases h3 with h3 | h3 | h3
          all_goals
            go_wp2_with fail
            go_roundw
            case rel => exact ⟨j + 1, A, n, c, upB b1, os1, by omega, rfl, by go_num, Lib.hid (HN2.out _ (by unfold upB; omega))⟩
            case measure => simp [intOf]; omega
      · have HL2 := Lib.hid (hH false false rfl rfl)
        clear hH
        have hbd := HS.out.bd
        have HN : Hid (∀ (w1 : World) (u : Int), Below wr.heap.size wr w1 → u = (upB b1 : Nat) → RdS g 27 l last b0 l w (j + 1) A n c (upB b1) os1 (w1.setCell ⟨g, 1, none⟩ (.int .i64 u))) := Lib.hid (fun w1 u hb1 hu => (HS.out.below hb1).none (by decide) HK.out (by have := HZ.out; omega) (.inl rfl) hu)
        have HM : Hid (∀ w1 : World, Below wr.heap.size wr w1 → (∀ ob, (w1.alloc ob).cell? ⟨g, 1, none⟩ = some (.int .i64 b1)) ∧ ∀ ob, (w1.alloc ob).frozen? ⟨g, 1, none⟩ = false) := Lib.hid (fun w1 hb1 => ⟨fun ob => ((HS.out.sc.below hb1 HS.out.sc.lt).alloc ob).cell 1, fun ob => ((HS.out.sc.below hb1 HS.out.sc.lt).alloc ob).mark 1⟩)
        clear HS HK HX HW HC HD HR
        go_wp2_with fail
        refine (HL2.out _).mono ?_; rintro e w1 ⟨rfl, hb1⟩
        obtain ⟨c1, m1⟩ := HM.out w1 hb1
        have HN2 := Lib.hid (fun u hu => HN.out (w1.alloc (.cells #[.int .i64 x.k, .int .i64 x.so, .int .i64 x.se, .int .i64 x.ti, .int .i64 x.va] 49)) u (hb1.alloc hb1.size _) hu)
        clear HN HM hb1
        have h3 : (b1 : Int) + 1 < 1073741823 ∨ (b1 : Int) + 1 = 1073741823 ∨ 1073741823 < (b1 : Int) + 1 := by omega
        rcases h3 with h3 | h3 | h3
        all_goals
          go_wp2_with fail
          go_roundw
          case rel => exact ⟨j + 1, A, n, c, upB b1, os1, by omega, rfl, by go_num, Lib.hid (HN2.out _ (by unfold upB; omega))⟩
          case measure => simp [intOf]; omega
      · have HL2 := Lib.hid (hH true false rfl rfl)
        clear hH
        obtain ⟨hx, hz⟩ := HX.out rfl
        clear HX
        subst hx hz
        obtain ⟨hk5, hkl⟩ : 5 ≤ k ∧ k ≤ (l.drop j).length := ⟨hrest.2.1, hrest.2.2.1⟩
        clear hrest
        have hjk : j + k ≤ s.size := by have := HZ.out; rw [List.length_drop] at hkl; omega
        clear hkl
        have hbd := HS.out.bd
        have hroom := HS.out.room hb
        have hroom2 : n ≤ 2000000000000 := by have := HZ.out; omega
        have hlt1 : (tellB b1).length ≤ 1 := by unfold tellB; split <;> simp
        clear HW HD HR hroom
        go_wp2_with fail
        refine (HL2.out _).mono ?_; rintro e w1 ⟨rfl, hb1⟩
        have S1 := HS.out.below hb1
        have hy := Has.made w1 49 (opC x)
        have hv : ∀ kk, (Value.slice A n c).ownBlock = some kk → kk < w1.heap.size := fun kk hkk => (S1.own.lt hkk).1
        have S2 := S1.below (w' := w1.alloc (.cells (opC x) 49)) ((Below.refl _ _).alloc (Nat.le_refl _) _)
        have HP := Lib.hid (And.intro S2 (And.intro hy hv))
        clear HL2 S1 hy hv S2 HS hb1
        go_wp2_with fail
        refine (rbad_any g l b1 _ hbd HP.out.1.sc).mono ?_
        rintro e w5 ⟨A1, c1, rfl, k1, k2, k3⟩
        generalize hm1 : (tellB b1).length = m1 at k1 hlt1 ⊢
        clear hm1
        have hyg : (some g : Option Nat) ≠ some w1.heap.size := fun e => by injection e with e; subst e; exact has_types HP.out.1.sc HP.out.2.1 (by decide)
        have hO5 := HP.out.1.own.grow k3 (.inr (HP.out.1.own.apart HP.out.1.sc (by decide)))
        have hy5 := HP.out.2.1.grow k3 hyg
        have hg5 : w.grownBy w5 (some g) := grow_trans HP.out.1.gr k3 (fun b hb => .inl hb)
        have hv5 : (Value.slice A n c).ownBlock ≠ some w1.heap.size := fun e => by have := HP.out.2.2 _ e; omega
        have hn1 := k1.slice.2.2
        have HQ := Lib.hid (And.intro hO5 (And.intro hy5 (And.intro hg5 (And.intro hv5 (And.intro k1.ops (And.intro hn1 k2))))))
        have hs5 : w.heap.size ≤ w5.heap.size := hg5.size
        have HF := Lib.hid HP.out.1
        clear hO5 hy5 hg5 hv5 hn1 k1 k2 k3 hyg HP
        have HF2 : Hid (∀ (w7 : World) (A3 : Option Addr) (c3 : Nat), Has w7 g 27 (scC l 0) → OwnO w7 w.heap.size (.slice A3 (n + m1 + 1) c3) ((os1 ++ tellB b1) ++ [x]) → w.grownBy w7 (some g) → RdS g 27 l last b0 l w (j + k) A3 (n + m1 + 1) c3 0 ((os1 ++ tellB b1) ++ [x]) w7) := Lib.hid (fun w7 A3 c3 h1 h2 h3 => HF.out.op HK.out (by omega) h1 h2 h3)
        clear HF HK
        go_wp2_with (first
          | (refine app_ops rfl _ _ rfl rfl HQ.out.1 rfl HQ.out.2.2.2.2.1 HQ.out.2.2.2.2.2.1 (by omega) hs5 (fun A2 c2 w6 g1 g2 g3 => ?_); have hs6 := Nat.le_trans hs5 g2.size; have hy6 := HQ.out.2.1.grow g2 HQ.out.2.2.2.1; have HR6 := Lib.hid (And.intro g1 (And.intro (HQ.out.2.2.2.2.2.2.grow g2 (HQ.out.1.apart HQ.out.2.2.2.2.2.2 (by decide))) (grow_trans HQ.out.2.2.1 g2 (fun kk hkk => .inr (HQ.out.1.lt hkk).2)))); clear g1 g2 g3)
          | (refine load_op rfl _ rfl _ rfl hy6 ?_)
          | (refine app_ops (base := w.heap.size) rfl _ _ rfl rfl (HR6.out.1.below ((Below.refl _ _).alloc (Nat.le_refl _) _)) rfl (Ops.one (x := x) (Has.made w6 _ (opC x)) rfl) (fun h => by cases h) (by omega) (by simp; omega) (fun A3 c3 w7 g1 g2 g3 => ?_); have HR7 := Lib.hid (And.intro g1 (And.intro g2 g3)); clear g1 g2 g3))
        have b8 : Below w6.heap.size w6 (w6.alloc (.cells (opC x) 49)) := (Below.refl _ _).alloc (Nat.le_refl _) _
        have o8 := HR6.out.1.below b8
        have s8 := HR6.out.2.1.below b8 HR6.out.2.1.lt
        have g8 := grow_trans HR6.out.2.2 (below_grow b8 none) (by simp)
        exact ⟨⟨j + k, A3, n + m1 + 1, c3, 0, _, hjk, rfl, by go_num, Lib.hid (HF2.out w7 A3 c3 (s8.grow HR7.out.2.1 (o8.apart s8 (by decide))) HR7.out.1 (grow_trans g8 HR7.out.2.1 (fun kk hkk => .inr (o8.lt hkk).2)))⟩, by simp [intOf]; omega⟩
    · have hF : os1 = os ∧ l.drop j = r ∧ b1 = b := by
        have hz := HZ.out
        have h1 := HS.out.stop (by omega)
        rw [HR.out] at h1
        simp only [Prod.mk.injEq] at h1
        exact ⟨h1.1.symm, by rw [List.drop_eq_nil_of_le (by omega)]; exact h1.2.1.symm, h1.2.2.symm⟩
      have HE := Lib.hid (HW.out _ _ _ _ _ _ _ HS.out hF)
      have hjn : ¬ (j : Int) < (s.size : Int) := by omega
      clear hF HS HR HW HC HD
      go_wp2_with fail
      go_ret
      exact HE.out

set_option maxRecDepth 100000 in
set_option maxHeartbeats 1000000 in
theorem rwrite_any (g : Nat) (l : List UInt8) (b0 : Nat) (s : ByteArray) (w : World) (h : Has w g 27 (scC l b0)) (hs : l.length + s.size ≤ 1000000000000) (hb : b0 ≤ 1073741823) (os : List Po) (r : List UInt8) (b : Nat) (hr : runL false (l ++ s.data.toList) b0 = (os, r, b)) :
    Calls Try.prog 14 #[.pointer (some ⟨g, 0, none⟩), .string s] w fun e w' => WroteO g 27 os r b e w w' := by
  have c0 : w.cell? ⟨g, 0, none⟩ = some (.string (txt l)) := h.cell 0
  have m0 := h.mark 0
  have hsz := txt_size l
  have hcat : txt l ++ s = txt (l ++ s.data.toList) := txt_cat l s
  have h1 : Has (w.setCell ⟨g, 0, none⟩ (.string (txt l ++ s))) g 27 (scC (l ++ s.data.toList) b0) := by
    have := h.put 0 (.string (txt l ++ s))
    rw [hcat] at this ⊢
    exact this
  have g1 : w.grownBy (w.setCell ⟨g, 0, none⟩ (.string (txt l ++ s))) (some g) := grow_set (grow_refl _ _) (.inl rfl) _ rfl _
  have HR := Lib.hid (rwalk_any g false (l ++ s.data.toList) b0 _ h1 (by rw [List.length_append]; simpa using hs) hb os r b hr)
  have HG := Lib.hid g1
  clear h hr hcat h1 g1
  generalize txt l = t at c0 HR hsz HG
  go_enter Try.func14, Try.ntmps14
  go_wp2_with fail
  refine (HR.out).mono ?_; rintro e w1 ⟨A, c, rfl, h1, h2, h3⟩
  have hz : (w.setCell ⟨g, 0, none⟩ (.string (t ++ s))).heap.size = w.heap.size := by simp [World.setCell]
  rw [hz] at h1
  have g3 := grow_trans HG.out h3 (fun b hb => .inl hb)
  clear h3 HG HR hz
  go_wp2_with fail
  go_ret
  exact ⟨A, c, rfl, h1, h2, g3⟩

set_option maxRecDepth 100000 in
set_option maxHeartbeats 1000000 in
theorem rclose_any (g : Nat) (l : List UInt8) (b0 : Nat) (w : World) (h : Has w g 27 (scC l b0)) (hs : l.length ≤ 1000000000000) (hb : b0 ≤ 1073741823) (os : List Po) (hr : allL l b0 = os) :
    Calls Try.prog 20 #[.pointer (some ⟨g, 0, none⟩)] w fun e w' => WroteO g 27 os [] 0 e w w' := by
  obtain ⟨os1, r1, b1, h1⟩ : ∃ os1 r1 b1, runL true l b0 = (os1, r1, b1) := ⟨_, _, _, rfl⟩
  have hf := runL_fits true l.length l b0 (Nat.le_refl _) hb
  rw [h1] at hf
  have hr1 : r1 = [] := hf.2.1 rfl
  subst hr1
  have hb1 : b1 ≤ 1073741823 := hf.2.2.1
  have hl1 : os1.length ≤ 2000000000000 := by have := hf.2.2.2.1; simp only at this; omega
  have he := Lib.hid (show os1 ++ tellB b1 = os by unfold allL at hr; rw [h1] at hr; exact hr)
  have HR := Lib.hid (rwalk_any g true l b0 w h hs hb os1 [] b1 h1)
  clear h hr hf h1
  go_enter Try.func20, Try.ntmps20
  go_wp2_with fail
  refine (HR.out).mono ?_; rintro e w1 ⟨A, c, rfl, h1, h2, h3⟩
  have hbs := h3.size
  have HT := Lib.hid (rbad_any g [] b1 w1 hb1 h2)
  have HG := Lib.hid (And.intro h1 (And.intro h2 h3))
  have hlt1 : (tellB b1).length ≤ 1 := by unfold tellB; split <;> simp
  clear h1 h2 h3 HR
  go_wp2_with fail
  refine (HT.out).mono ?_; rintro e w2 ⟨A2, c2, rfl, k1, k2, k3⟩
  generalize hm1 : (tellB b1).length = m1 at k1 hlt1 ⊢
  have hsum : os1.length + m1 = os.length := by rw [← he.out, List.length_append, hm1]
  have HSU := Lib.hid hsum; clear hsum
  clear hm1
  have o2 := HG.out.1.grow k3 (.inr (HG.out.1.apart HG.out.2.1 (by decide)))
  have g2 : w.grownBy w2 (some g) := grow_trans HG.out.2.2 k3 (fun b hb => .inl hb)
  have hbs2 : w.heap.size ≤ w2.heap.size := g2.size
  have HQ := Lib.hid (And.intro o2 (And.intro g2 (And.intro k1.ops (And.intro k1.slice.2.2 k2))))
  clear o2 g2 k1 k2 k3 HG HT
  have HE : Hid (∀ (w3 : World) (A3 : Option Addr) (c3 : Nat), OwnO w3 w.heap.size (.slice A3 (os1.length + m1) c3) (os1 ++ tellB b1) → w2.grownBy w3 (Value.slice A os1.length c).ownBlock → WroteO g 27 os [] 0 (.returned (.slice A3 (os1.length + m1) c3)) w w3) := Lib.hid (fun w3 A3 c3 p1 p2 => by
    rw [HSU.out] at p1 ⊢
    rw [he.out] at p1
    exact ⟨A3, c3, rfl, p1, HQ.out.2.2.2.2.grow p2 (HQ.out.1.apart HQ.out.2.2.2.2 (by decide)), grow_trans HQ.out.2.1 p2 (fun kk hkk => .inr (HQ.out.1.lt hkk).2)⟩)
  generalize os1.length = n1 at *
  go_wp2_with (refine app_ops rfl _ _ rfl rfl HQ.out.1 rfl HQ.out.2.2.1 HQ.out.2.2.2.1 (by omega) hbs2 (fun A3 c3 w3 p1 p2 _ => ?_); have HE2 := Lib.hid (HE.out w3 A3 c3 p1 p2); clear p1 p2)
  go_ret
  exact HE2.out

set_option maxRecDepth 100000 in
set_option maxHeartbeats 1000000 in
theorem rload_ok (s : ByteArray) (bad : Nat) (w : World) (hs : s.size ≤ 1000000000000) (h : LoadOk s bad) :
    Calls Try.prog 11 #[.string s, .int .i64 bad] w fun e w' => ∃ g, e = .returned (.tuple #[.pointer (some ⟨g, 0, none⟩), .int .i64 0]) ∧ Has w' g 27 (scC s.data.toList bad) ∧ w.heap.size ≤ g ∧ Below w.heap.size w w' := by
  have hg : getF s.data.toList 0 = (⟨#[]⟩, 0, 801) := by
    have h2 := look_two h.2
    rcases getL_cases s.data.toList with ⟨hg, _⟩ | ⟨hg, _⟩ | ⟨b, t, h1, h60, _, hg⟩
    · exact getF_err (a := 0) (Nat.zero_le _) (by decide) hg
    · rw [look_bad hg (by decide) (by decide)] at h2
      exact absurd (congrArg (·.1) h2.1) (by decide)
    · rcases getO_back b with ⟨k1, k2, k3, k4, k5, _, ho, _⟩ | ho
      · rw [look_op hg ho] at h2
        exact absurd (congrArg (·.1) h2.1) (by simp)
      · rw [look_no hg ho (by decide)] at h2
        exact absurd (congrArg (·.1) h2.1) (by decide)
  have HG := Lib.hid (fun w : World => frget_tri s 0 _ 0 801 hg (by omega) w)
  have HT := Lib.hid (txt_of s)
  have h1 := h.1.1
  have h2 := h.1.2
  have q1 : decide ((bad : Int) < 0) = false := by simp
  have q2 : decide ((1073741823 : Int) < (bad : Int)) = false := by simp; omega
  clear hg h
  by_cases h0 : s.toList.isEmpty = true
  · go_enter Try.func11, Try.ntmps11
    go_wp2_with fail
    refine (HG.out _).mono ?_; rintro e w1 ⟨rfl, rfl⟩
    go_wp2_with fail
    go_ret2
    refine ⟨w.heap.size, rfl, ?_, Nat.le_refl _, (Below.refl _ _).alloc (Nat.le_refl _) _⟩
    unfold scC
    rw [HT.out]
    exact Has.made w _ _
  · have h0 : s.toList.isEmpty = false := by simpa using h0
    go_enter Try.func11, Try.ntmps11
    go_wp2_with fail
    refine (HG.out _).mono ?_; rintro e w1 ⟨rfl, rfl⟩
    go_wp2_with fail
    go_ret2
    refine ⟨w.heap.size, rfl, ?_, Nat.le_refl _, (Below.refl _ _).alloc (Nat.le_refl _) _⟩
    unfold scC
    rw [HT.out]
    exact Has.made w _ _

end Go.Proofs.Ytoechlmahckchaa

namespace Go.Proofs.Ytoechlmahckchaa
open Go.RowKit

set_option maxRecDepth 100000 in
set_option maxHeartbeats 1000000 in
theorem rload_bad (s : ByteArray) (bad : Int) (w : World) (hs : s.size ≤ 1000000000000) (h : ¬ LoadOk s bad) :
    Calls Try.prog 11 #[.string s, .int .i64 bad] w fun e w' => e = .returned (.tuple #[.pointer none, .int .i64 1100]) ∧ w = w' := by
  obtain ⟨b, y, z, hg⟩ : ∃ b y z, getF s.data.toList 0 = (b, y, z) := ⟨_, _, _, rfl⟩
  have HG := Lib.hid (fun w : World => frget_tri s 0 b y z hg (by omega) w)
  by_cases hlo : bad < 0
  · clear hg h
    have q1 : decide (bad < 0) = true := by simpa using hlo
    go_enter Try.func11, Try.ntmps11
    go_wp2_with fail
    refine (HG.out _).mono ?_; rintro e w1 ⟨rfl, rfl⟩
    go_wp2_with fail
    go_ret2
    exact ⟨rfl, rfl⟩
  · have q1 : decide (bad < 0) = false := by simpa using hlo
    by_cases hhi : 1073741823 < bad
    · clear hg h
      have q2 : decide ((1073741823 : Int) < bad) = true := by simpa using hhi
      go_enter Try.func11, Try.ntmps11
      go_wp2_with fail
      refine (HG.out _).mono ?_; rintro e w1 ⟨rfl, rfl⟩
      go_wp2_with fail
      go_ret2
      exact ⟨rfl, rfl⟩
    · have q2 : decide ((1073741823 : Int) < bad) = false := by simp; omega
      have h2 : ¬ (lookL s.data.toList).1 = 2 := fun e => h ⟨⟨by omega, by omega⟩, e⟩
      have hz : (z == 801) = false := by
        rcases getL_cases s.data.toList with ⟨hl, _⟩ | ⟨hl, _⟩ | ⟨b', t, h1, h60, _, hl⟩
        · exact absurd (congrArg (·.1) (look_cut hl)) h2
        · have e := getF_err (l := s.data.toList) (a := 0) (Nat.zero_le _) (by decide) hl
          have e2 := hg.symm.trans e
          simp only [Prod.mk.injEq] at e2
          rw [e2.2.2]; rfl
        · have e := getF_ok (l := s.data.toList) (a := 0) (Nat.zero_le _) hl
          have e2 := hg.symm.trans e
          simp only [Prod.mk.injEq] at e2
          rw [e2.2.2]; rfl
      have h0 : s.toList.isEmpty = false := by
        cases e : s.toList with
        | nil =>
          rw [toList_nil_iff_emptyBytes] at e
          subst e
          exact absurd rfl h2
        | cons => rfl
      clear hg h h2
      go_enter Try.func11, Try.ntmps11
      go_wp2_with fail
      refine (HG.out _).mono ?_; rintro e w1 ⟨rfl, rfl⟩
      go_wp2_with fail
      go_ret2
      exact ⟨rfl, rfl⟩

/-- PutFrame of what an operation's bytes are. -/
theorem frameO_put {o : Po} (h : MayP o) : txt (frameO o) = putS ⟨(encs (numsO o.k o.so o.se o.ti o.va)).toArray⟩ := by
  rw [frameO_yes h]; rfl
set_option maxRecDepth 100000 in
set_option maxHeartbeats 1000000 in
theorem framed_any (o : Po) (w : World) :
    Calls Try.prog 24 #[.agg #[.int .i64 o.k, .int .i64 o.so, .int .i64 o.se, .int .i64 o.ti, .int .i64 o.va]] w fun e w' => e = .returned (.string (txt (frameO o))) ∧ Below w.heap.size w w' := by
  by_cases hM : MayP o
  · have h1 := encs_size hM
    have hp : putO o.k o.so o.se o.ti o.va = (⟨(encs (numsO o.k o.so o.se o.ti o.va)).toArray⟩, 0) := if_pos (mayB_yes hM)
    have hsz : (⟨(encs (numsO o.k o.so o.se o.ti o.va)).toArray⟩ : ByteArray).size = (encs (numsO o.k o.so o.se o.ti o.va)).length := by show Array.size _ = _; simp
    have HP := Lib.hid (fun w : World => rwput_any o.k o.so o.se o.ti o.va _ _ hp w)
    have HF := Lib.hid (fun w : World => rput_ok ⟨(encs (numsO o.k o.so o.se o.ti o.va)).toArray⟩ w (by omega) (by omega))
    have he := frameO_put hM
    rw [he]
    clear hp hsz h1 he
    generalize putS ⟨(encs (numsO o.k o.so o.se o.ti o.va)).toArray⟩ = F at HF ⊢
    generalize (⟨(encs (numsO o.k o.so o.se o.ti o.va)).toArray⟩ : ByteArray) = B at HP HF
    have h1 : Has (w.alloc (.cells (opC o) 49)) w.heap.size 49 (opC o) := Has.made w _ _
    go_enter Try.func24, Try.ntmps24
    go_wp2_with (refine load_op rfl _ rfl _ rfl h1 ?_)
    refine (HP.out _).mono ?_; rintro e w1 ⟨rfl, b1⟩
    have c1 : Below w.heap.size w w1 := ((Below.refl _ _).alloc (Nat.le_refl _) _).trans (b1.mono (by simp))
    clear b1
    go_wp2_with fail
    refine (HF.out _).mono ?_; rintro e w2 ⟨rfl, b2⟩
    have c2 := c1.trans (b2.mono c1.size)
    clear c1 b2
    go_wp2_with fail
    go_ret
    exact ⟨rfl, c2⟩
  · have hp : putO o.k o.so o.se o.ti o.va = (⟨#[]⟩, 900) := if_neg (by rw [mayB_no hM]; simp)
    have HP := Lib.hid (fun w : World => rwput_any o.k o.so o.se o.ti o.va _ _ hp w)
    have he : txt (frameO o) = ⟨#[]⟩ := by rw [frameO_no hM]; rfl
    rw [he]
    clear hp he
    have h1 : Has (w.alloc (.cells (opC o) 49)) w.heap.size 49 (opC o) := Has.made w _ _
    go_enter Try.func24, Try.ntmps24
    go_wp2_with (refine load_op rfl _ rfl _ rfl h1 ?_)
    refine (HP.out _).mono ?_; rintro e w1 ⟨rfl, b1⟩
    have c1 : Below w.heap.size w w1 := ((Below.refl _ _).alloc (Nat.le_refl _) _).trans (b1.mono (by simp))
    clear b1
    go_wp2_with fail
    go_ret
    exact ⟨rfl, c1⟩

end Go.Proofs.Ytoechlmahckchaa
