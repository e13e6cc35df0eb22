/-
  Walk: Windows: any query, any time: the program answers as the document.
-/
import Derived.Test.YtigjnmjmjhbigaaWEnd
import Derived.Deep.DeepCutAuto
import Derived.Deep.Onto
namespace Go.Proofs.Ytigjnmjmjhbigaa
open Go.RowKit

/-- The call hands out these spans, its own, with a code. -/
def BothS (ss : List (Int × Int)) (n : Nat) (code : Int) (w : World) (e : Ending) (w' : World) : Prop :=
  ∃ A c, e = .returned (.tuple #[.slice A n c, .int .i64 code]) ∧ OwnS w' w.heap.size (.slice A n c) ss ∧ Below w.heap.size w w'
theorem both_of {ss : List (Int × Int)} {w : World} {e : Ending} {w' : World} (h : OutSpans ss w e w') : BothS ss ss.length 0 w e w' := h
theorem both_no {w : World} {e : Ending} {w' : World} (h : NoSpans w e w') : BothS [] 0 400 w e w' := ⟨none, 0, h.1, OwnS.nil _ _, h.2⟩
theorem winQ_len (kd sz sl t : Int) : (winQ kd sz sl t).length = (t / stepQ kd sz sl - (t - sz) / stepQ kd sz sl).toNat := winL_len _ _ _ _
theorem both_win (kd ag sz sl rk t : Int) (m : Nat) (bs : List Int) (hm : m ≤ maxLen) : ∃ (ss : List (Int × Int)) (n : Nat) (code : Int), n ≤ maxLen ∧
    (∀ W B d, Ints W B m bs → Calls Try.prog 31 #[.agg #[.int .i64 kd, .int .i64 ag, .int .i64 sz, .int .i64 sl, .slice B m d, .int .i64 rk], .int .i64 t] W (BothS ss n code W)) ∧
    (∀ W B d, Ints W B m bs → Calls Try.prog 32 #[.agg #[.int .i64 kd, .int .i64 ag, .int .i64 sz, .int .i64 sl, .slice B m d, .int .i64 rk], .int .i64 t] W (BothS ss n code W)) := by
  cases h : (mayQ kd ag sz sl bs rk && (decide (kd ≠ 2) && wi t (-1099511627776) 1099511627776))
  · exact ⟨[], 0, 400, Nat.zero_le _, fun W B d hI => (of_bad kd ag sz sl rk t B m d bs W hI hm h).mono fun _ _ => both_no, fun W B d hI => (rwin_bad kd ag sz sl rk t B m d bs W hI hm h).mono fun _ _ => both_no⟩
  · simp only [Bool.and_eq_true] at h
    obtain ⟨h1, h2, h3⟩ := h
    have h2 := of_decide_eq_true h2
    obtain ⟨s1, s2, s3, s4, s5⟩ := stepQ_bd h1
    have hb := win_bd t (stepQ kd sz sl) sz s1 s2 s5
    refine ⟨winQ kd sz sl t, (winQ kd sz sl t).length, 0, ?_, fun W B d hI => (of_ok kd ag sz sl rk t B m d bs W hI hm h1 h2 h3).mono fun _ _ => both_of, fun W B d hI => (rwin_ok kd ag sz sl rk t B m d bs W hI hm h1 h2 h3).mono fun _ _ => both_of⟩
    rw [winQ_len]
    unfold maxLen
    omega
theorem OwnS.far {w w' : World} {base : Nat} {v : Value} {ss : List (Int × Int)} (h : OwnS w base v ss) (hk : ∀ k, v.ownBlock = some k → w'.heap[k]? = w.heap[k]?) : OwnS w' base v ss := by
  refine ⟨h.1, ?_⟩
  rcases h.2 with h0 | ⟨g, cap, cur, e, hg, hh, r⟩
  · exact .inl h0
  · exact .inr ⟨g, cap, cur, e, hg, (hk g (by rw [e]; rfl)).trans hh, r⟩
/-- The query in its variable, and the bounds that came in. -/
structure WiS (w : World) (q : Array Value) (B : Option Addr) (m : Nat) (bs : List Int) (wr : World) : Prop where
  box : Has wr w.heap.size 53 q
  bnd : Ints wr B m bs
  keep : Below w.heap.size w wr
theorem WiS.below {w : World} {q : Array Value} {B : Option Addr} {m : Nat} {bs : List Int} {wr wy : World} (h : WiS w q B m bs wr) (hi : Ints w B m bs) {b : Nat} (hb : Below b wr wy) (hw : w.heap.size < b) : WiS w q B m bs wy :=
  ⟨h.box.below hb hw, hi.below (h.keep.trans (hb.mono (by omega))), h.keep.trans (hb.mono (by omega))⟩

set_option maxRecDepth 100000 in
set_option maxHeartbeats 2000000 in
theorem windows_any (kd ag sz sl rk t : Int) (B : Option Addr) (m d : Nat) (bs : List Int) (w : World) (hb : Ints w B m bs) (hm : m ≤ maxLen) :
    Calls Try.prog 6 #[.agg #[.int .i64 kd, .int .i64 ag, .int .i64 sz, .int .i64 sl, .slice B m d, .int .i64 rk], .int .i64 t] w fun e w' => e = .returned (.bool true) ∧ Below w.heap.size w w' := by
  obtain ⟨ss, n, code, hn, C1, C2⟩ := both_win kd ag sz sl rk t m bs hm
  have HC1 := Lib.hid C1; clear C1
  have HC2 := Lib.hid C2; clear C2
  have HI := Lib.hid hb; clear hb
  have HS0 : Hid (WiS w #[.int .i64 kd, .int .i64 ag, .int .i64 sz, .int .i64 sl, .slice B m d, .int .i64 rk] B m bs (w.alloc (.cells #[.int .i64 kd, .int .i64 ag, .int .i64 sz, .int .i64 sl, .slice B m d, .int .i64 rk] 53))) :=
    ⟨Has.made _ _ _, HI.out.below ((Below.refl _ _).alloc (Nat.le_refl _) _), (Below.refl _ _).alloc (Nat.le_refl _) _⟩
  go_enter Try.func6, Try.ntmps6
  go_wp2_with fail
  refine (HC1.out _ _ _ HS0.out.bnd).mono ?_
  rintro e w1 ⟨A1, c1, rfl, o1, b1⟩
  have HS1 := Lib.hid (HS0.out.below HI.out b1 (by simp))
  have HO1 : Hid (OwnS w1 (w.heap.size + 1) (.slice A1 n c1) ss) := o1.mono (by simp)
  have hc1 : ∀ i, w1.cell? ⟨w.heap.size, i, none⟩ = _ := fun i => HS1.out.box.cell i
  clear o1 b1 HS0
  go_wp2_with fail
  refine (HC2.out _ _ _ HS1.out.bnd).mono ?_
  rintro e w2 ⟨A2, c2, rfl, o2, b2⟩
  have HS2 := Lib.hid (HS1.out.below HI.out b2 HS1.out.box.lt)
  have HLT : Hid (∀ ad, A1 = some ad → ad.block < w1.heap.size) := fun ad e => (World.ownsRow.lt HO1.out ad.block (by rw [e]; rfl)).2
  have HO2 := Lib.hid (HO1.out.below b2)
  have HP2 := Lib.hid o2
  clear o2 b2 hc1 HS1 HO1
  go_wp2_with fail
  refine (sameSpans_true A1 A2 n c1 c2 ss _ HO2.out.spans HP2.out.spans hn).mono ?_
  rintro e w3 ⟨rfl, k3, hw3⟩
  have hb3 : Below w2.heap.size w2 w3 := by rw [hw3]; exact below_drewN (Below.refl _ _) k3
  have HS3 := Lib.hid (HS2.out.below HI.out hb3 HS2.out.box.lt)
  have HO3 := Lib.hid (HO2.out.below hb3)
  have HP3 := Lib.hid (HP2.out.below hb3)
  clear hb3 hw3 HS2 HO2 HP2
  go_wp2_with (go_at_call 19; refine (wnum_any _ _).mono ?_; rintro e w' ⟨rfl, rfl⟩)
  refine (spoilSpans_any A1 n c1 ss (w.heap.size + 1) _ HO3.out hn).mono ?_
  rintro e w4 ⟨rfl, hb4, ho4⟩
  have HS4 := Lib.hid (HS3.out.below HI.out hb4 (by omega))
  have HP4 : Hid (OwnS w4 w1.heap.size (.slice A2 n c2) ss) := HP3.out.far fun k hk => ho4 k fun ad e => by
    have h1 := (World.ownsRow.lt HP3.out k hk).1
    have h2 := HLT.out ad e
    omega
  have hc4 : ∀ i, w4.cell? ⟨w.heap.size, i, none⟩ = _ := fun i => HS4.out.box.cell i
  clear hb4 ho4 HS3 HO3 HP3 HLT
  go_wp2_with fail
  refine (HC1.out _ _ _ HS4.out.bnd).mono ?_
  rintro e w5 ⟨A5, c5, rfl, o5, b5⟩
  have HS5 := Lib.hid (HS4.out.below HI.out b5 HS4.out.box.lt)
  have HP5 := Lib.hid (HP4.out.below b5)
  have HO5 := Lib.hid o5
  clear o5 b5 hc4 HS4 HP4
  go_upto_region 7 with fail
  refine wn7_any (A1 := A5) (A2 := A2) (n := n) (c1 := c5) (c2 := c2) (ss := ss) (g := w.heap.size) (kd := kd) (ag := ag) (sz := sz) (sl := sl) (rk := rk) (B := B) (m := m) (d := d) (V := mayQ kd ag sz sl bs rk) (bs := bs) ⟨rfl, rfl, rfl, rfl, HO5.out.spans, HP5.out.spans, hn, HS5.out.box, HS5.out.bnd, hm, rfl⟩ (by kernel_rfl) ?_
  intro ax wx hbx hdx hvx
  go_wp2_with fail
  have hv2 : ax.tmps[4]?.getD undef = .bool true := by simpa using hvx
  exact bodyPost_ret (v := .bool true) (by simp [results, Try.results6, hv2, go_sem]) hdx ⟨rfl, HS5.out.keep.trans (hbx.mono HS5.out.keep.size)⟩

theorem windows_all (kd ag sz sl rk : Int) (B : Option Addr) (m d : Nat) (bs : List Int) (t : Int) (w : World) (hb : Ints w B m bs) (hm : m ≤ maxLen) (_ : (Lit.int .i64 t).wf = true) :
    Calls Try.prog 6 #[.agg #[.int .i64 kd, .int .i64 ag, .int .i64 sz, .int .i64 sl, .slice B m d, .int .i64 rk], .int .i64 t] w fun e w' => e = .returned (.bool true) ∧ Below w.heap.size w w' := windows_any kd ag sz sl rk t B m d bs w hb hm

end Go.Proofs.Ytigjnmjmjhbigaa
