/-
  Walks: the heap's swap, rise, sink.
-/
import Derived.Test.YtmhmekmacdkdgaaHpMov
namespace Go.Proofs.Ytmhmekmacdkdgaa
open Go.RowKit

section
variable {gs : List Nat} {g c : Nat} {m : Int} {ys : List It} {A : Option Addr} {w w' : World}
/-- What swap leaves. -/
theorem HpAt.swapped {b : Nat} (h : HpAt HT w gs g m ys (some ⟨b, 0, none⟩) c) {p q : Nat} (h3 : 1 ≤ q) (h4 : q ≤ ys.length)
    (hI : MI [b] (RowI HT g b ys.length c m ys (ys.set (p - 1) (pl ys q))) w true false w') : w'.there b ((q - 1) * 4) 4 ∧ HpAt HT (w'.setCells b ((q - 1) * 4) (itemL (pl ys p))) gs g m (swp ys p q) (some ⟨b, 0, none⟩) c ∧ ButS gs w (w'.setCells b ((q - 1) * 4) (itemL (pl ys p))) := by
  have ho := hI.st.2
  rw [if_pos rfl] at ho
  have hset := ho.set (i := q - 1) (by omega) (pl ys p)
  have hgb : g ≠ b := fun e => by
    obtain ⟨_, _, _, _, cur, h5, _⟩ := h.own.blk
    have hst := h.st
    subst e
    exact has_types hst h5 (by decide)
  have hb : ButS [b] w _ := hI.gr.trans hset.2
  have hin := h.inA _ rfl
  refine ⟨ho.there (by omega), ⟨by rw [swp_len]; exact h.st.butS hb (by simpa using hgb), by rw [swp_len]; exact hset.1, h.inG, h.inA, fun k hk => Nat.lt_of_lt_of_le (h.lt k hk) hb.size⟩, ⟨hb.os, hb.tape, hb.output, hb.size, fun k hk hn => hb.other k hk (fun e => hn (by have e2 : k = b := (by simpa using e); rw [e2]; exact hin))⟩⟩

set_option maxRecDepth 100000 in
set_option maxHeartbeats 1000000 in
theorem swap_any (h : HpAt HT w gs g m ys A c) {p q : Nat} (h1 : 1 ≤ p) (h2 : p ≤ ys.length) (h3 : 1 ≤ q) (h4 : q ≤ ys.length) (hn : ys.length ≤ 8192) (z1 z2 : Int) (hz1 : z1 = p) (hz2 : z2 = q) :
    Calls Try.prog 25 #[.pointer (some ⟨g, 0, none⟩), .int .i64 z1, .int .i64 z2] w fun e w' => e = .returned (.tuple #[]) ∧ HpAt HT w' gs g m (swp ys p q) A c ∧ ButS gs w w' := by
  obtain ⟨b, rfl⟩ := h.ablk (by omega)
  have HF := Lib.hid (fun w' => h.swapped (w' := w') (p := p) h3 h4)
  have HS := Lib.hid h.st
  have HO := Lib.hid h.own
  clear h
  go_enter Try.func25, Try.ntmps25
  refine hsw0_any (g := g) (b := b) (c := c) (n := ys.length) (k1 := p - 1) (k2 := q - 1) (m := m) (z1 := z1) (z2 := z2) (x := pl ys p) (y := pl ys q) (ys := ys) ⟨rfl, rfl, rfl, rfl, HS.out, HO.out, by omega, by omega, by omega, by omega, by omega, rfl, rfl⟩ (by kernel_rfl) ?_
  intro w9 h9
  have H9 := Lib.hid (HF.out w9 h9)
  clear h9
  simp only [putAll, Act.put, List.setIfInBounds_toArray, List.set_cons_succ, List.set_cons_zero, List.drop_succ_cons, List.drop_zero]
  go_wp2_with (refine store_item rfl _ _ rfl b ((q - 1) * 4) (pl ys p) (by simp [go_sem]) (by simp [go_sem]) H9.out.1 ?_)
  exact Great.bodyPost_end0 rfl rfl ⟨rfl, H9.out.2⟩

/-- A heap in the midst of a move. -/
structure Mv (I : List It → Nat → Prop) (w0 : World) (gs : List Nat) (g c : Nat) (m : Int) (A : Option Addr) (ys zs : List It) (p : Nat) (w : World) : Prop where
  at_ : HpAt HT w gs g m zs A c
  inv : I zs p
  perm : zs.Perm ys
  but : ButS gs w0 w
theorem Mv.len {I : List It → Nat → Prop} {w0 : World} {zs : List It} {p : Nat} (h : Mv I w0 gs g c m A ys zs p w) : zs.length = ys.length := h.perm.length_eq
theorem Mv.below {I : List It → Nat → Prop} {w0 : World} {zs : List It} {p : Nat} (h : Mv I w0 gs g c m A ys zs p w) (hb : Below w.heap.size w w') : Mv I w0 gs g c m A ys zs p w' := ⟨h.at_.below hb, h.inv, h.perm, h.but.trans (below_butS hb gs)⟩
/-- Behind the move. -/
def MvO (w0 : World) (gs : List Nat) (g c : Nat) (m : Int) (A : Option Addr) (ys : List It) (w : World) : Prop := ∃ zs, HpAt HT w gs g m zs A c ∧ HeapOk zs ∧ zs.Perm ys ∧ ButS gs w0 w

set_option maxRecDepth 100000 in
set_option maxHeartbeats 1000000 in
theorem rise_any (h : HpAt HT w gs g m ys A c) {p0 : Nat} (hi : UpI ys p0) (hn : ys.length ≤ 8192) (z : Int) (hz : z = p0) :
    Calls Try.prog 29 #[.pointer (some ⟨g, 0, none⟩), .int .i64 z] w fun e w' => e = .returned (.tuple #[]) ∧ MvO w gs g c m A ys w' := by
  have HS : Hid (Mv UpI w gs g c m A ys ys p0 w) := ⟨h, hi, List.Perm.refl _, ButS.refl _ _⟩
  clear h hi
  subst hz
  go_enter Try.func29, Try.ntmps29
  go_wp2_with fail
  go_loopw [1] (fun i wr => ∃ (p : Nat) (zs : List It), i = .int .i64 p ∧ Hid (Mv UpI w gs g c m A ys zs p wr)) (fun i _ => (intOf i).toNat)
  case atStart => exact ⟨p0, ys, rfl, HS⟩
  case round =>
    clear HS
    obtain ⟨p, zs, rfl, HM⟩ := hrel
    have hl : zs.length ≤ 8192 := by rw [HM.out.len]; exact hn
    have hhi := HM.out.inv.hi
    by_cases h2 : 2 ≤ p
    · have HA := Lib.hid (ahead_any HM.out.at_ (p := p) (q := p / 2) (by omega) hhi (by omega) (by omega) (by omega) (p : Int) ((p : Int) / 2) rfl (by omega))
      cases hb : lt4 (pl zs p) (pl zs (p / 2)) with
      | false =>
        rw [hb] at HA
        have HE : Hid (HeapOk zs) := upI_end HM.out.inv (.inr hb)
        clear hb
        go_wp2_with fail
        refine (HA.out).mono ?_
        rintro e w1 ⟨rfl, h1⟩
        have HM2 := Lib.hid (HM.out.below h1)
        clear h1
        go_wp2_with fail
        exact Great.bodyPost_end0 rfl rfl ⟨rfl, zs, HM2.out.at_, HE.out, HM2.out.perm, HM2.out.but⟩
      | true =>
        rw [hb] at HA
        have HU := Lib.hid (upI_step HM.out.inv h2 hb)
        clear hb
        go_wp2_with fail
        refine (HA.out).mono ?_
        rintro e w1 ⟨rfl, h1⟩
        have HM2 := Lib.hid (HM.out.below h1)
        clear h1
        have HC := Lib.hid (swap_any HM2.out.at_ (p := p) (q := p / 2) (by omega) hhi (by omega) (by omega) (by omega) (p : Int) ((p : Int) / 2) rfl (by omega))
        have HP : Hid ((swp zs p (p / 2)).Perm ys) := (swp_perm (by omega) hhi (by omega) (by omega)).trans HM.out.perm
        go_wp2_with fail
        refine (HC.out).mono ?_
        rintro e w2 ⟨rfl, h1, h2b⟩
        have HM3 : Hid (Mv UpI w gs g c m A ys (swp zs p (p / 2)) (p / 2) w2) := ⟨h1, HU.out, HP.out, HM2.out.but.trans h2b⟩
        clear h1 h2b
        go_wp2_with fail
        go_roundw
        case rel => exact ⟨p / 2, swp zs p (p / 2), by rw [show ((p : Int) / 2) = ((p / 2 : Nat) : Int) by omega], HM3⟩
        case measure => simp [intOf]; omega
    · have hp : p = 1 := by have := HM.out.inv.lo; omega
      have HE : Hid (HeapOk zs) := upI_end HM.out.inv (.inl hp)
      subst hp
      go_wp2_with fail
      exact Great.bodyPost_end0 rfl rfl ⟨rfl, zs, HM.out.at_, HE.out, HM.out.perm, HM.out.but⟩

set_option maxRecDepth 100000 in
set_option maxHeartbeats 1000000 in
theorem sink_any (h : HpAt HT w gs g m ys A c) (hi : DnI ys 1) (hn : ys.length ≤ 8192) :
    Calls Try.prog 26 #[.pointer (some ⟨g, 0, none⟩), .int .i64 1] w fun e w' => e = .returned (.tuple #[]) ∧ MvO w gs g c m A ys w' := by
  have HK := Lib.hid (kid_any h (p := 1) (Nat.le_refl _) (by omega) hn 1 rfl)
  have HS : Hid (∀ w', Below w.heap.size w w' → Mv DnI w gs g c m A ys ys 1 w') := fun w' hb => ⟨h.below hb, hi, List.Perm.refl _, below_butS hb gs⟩
  clear h hi
  go_enter Try.func26, Try.ntmps26
  go_wp2_with fail
  refine (HK.out).mono ?_
  rintro e w1 ⟨rfl, h1⟩
  have HM0 := Lib.hid (HS.out w1 h1)
  clear h1 HK HS
  go_wp2_with fail
  go_loopw [1, 4] (fun i k wr => ∃ (p q : Nat) (zs : List It), i = .int .i64 p ∧ k = .int .i64 q ∧ p ≤ 8192 ∧ Hid (q = kid zs p) ∧ Hid (Mv DnI w gs g c m A ys zs p wr)) (fun i _ _ => 8193 - (intOf i).toNat)
  case atStart => exact ⟨1, kid ys 1, ys, rfl, rfl, by omega, rfl, HM0⟩
  case round =>
    clear HM0
    obtain ⟨p, q, zs, rfl, rfl, hp, HQ, HM⟩ := hrel
    have hl : zs.length ≤ 8192 := by rw [HM.out.len]; exact hn
    have hlo := HM.out.inv.lo
    by_cases h0 : q = 0
    · have HE : Hid (HeapOk zs) := dnI_end HM.out.inv (.inl (by rw [← HQ.out]; exact h0))
      subst h0
      go_wp2_with fail
      exact Great.bodyPost_end0 rfl rfl ⟨rfl, zs, HM.out.at_, HE.out, HM.out.perm, HM.out.but⟩
    · have hq : 2 ≤ q ∧ q ≤ zs.length ∧ q / 2 = p ∧ p < q := by
        rcases kid_cases zs p hlo with ⟨k1, _⟩ | ⟨k1, k2, k3, k4, _⟩
        · exact absurd (HQ.out.trans k1) h0
        · rw [HQ.out]; exact ⟨k1, k2, k3, k4⟩
      obtain ⟨q1, q2, q3, q4⟩ := hq
      have HQ3 := Lib.hid q3
      clear q3 h0
      have HA := Lib.hid (ahead_any HM.out.at_ (p := q) (q := p) (by omega) q2 hlo (by omega) hl (q : Int) (p : Int) rfl rfl)
      cases hb : lt4 (pl zs q) (pl zs p) with
      | false =>
        rw [hb] at HA
        have HE : Hid (HeapOk zs) := dnI_end HM.out.inv (.inr (by rw [← HQ.out]; exact hb))
        clear hb
        go_wp2_with fail
        refine (HA.out).mono ?_
        rintro e w1 ⟨rfl, h1⟩
        have HM2 := Lib.hid (HM.out.below h1)
        clear h1
        go_wp2_with fail
        exact Great.bodyPost_end0 rfl rfl ⟨rfl, zs, HM2.out.at_, HE.out, HM2.out.perm, HM2.out.but⟩
      | true =>
        rw [hb] at HA
        have HU : Hid (DnI (swp zs q p) q) := by
          have := dnI_step HM.out.inv (by rw [← HQ.out]; omega) (by rw [← HQ.out]; exact hb)
          rw [← HQ.out] at this
          exact this
        clear hb
        go_wp2_with fail
        refine (HA.out).mono ?_
        rintro e w1 ⟨rfl, h1⟩
        have HM2 := Lib.hid (HM.out.below h1)
        clear h1
        have HC := Lib.hid (swap_any HM2.out.at_ (p := q) (q := p) (by omega) q2 hlo (by omega) hl (q : Int) (p : Int) rfl rfl)
        have HP : Hid ((swp zs q p).Perm ys) := (swp_perm (by omega) q2 hlo (by omega)).trans HM.out.perm
        have hl2 : (swp zs q p).length ≤ 8192 := by rw [swp_len]; exact hl
        generalize swp zs q p = us at HC HP HU hl2
        go_wp2_with fail
        refine (HC.out).mono ?_
        rintro e w2 ⟨rfl, h1, h2b⟩
        have HM3 : Hid (Mv DnI w gs g c m A ys us q w2) := ⟨h1, HU.out, HP.out, HM2.out.but.trans h2b⟩
        have HK := Lib.hid (kid_any h1 (p := q) (by omega) (by omega) hl2 q rfl)
        clear h1 h2b HM2 HM HC HA
        go_wp2_with fail
        refine (HK.out).mono ?_
        rintro e w3 ⟨rfl, h3⟩
        have HM4 := Lib.hid (HM3.out.below h3)
        clear h3
        go_wp2_with fail
        go_roundw
        case rel => exact ⟨q, kid us q, us, rfl, rfl, by omega, rfl, HM4⟩
        case measure => simp [intOf]; omega
end

end Go.Proofs.Ytmhmekmacdkdgaa
