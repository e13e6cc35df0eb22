/-
  Walk: Slices: any query, time, span: the program answers as the document.
-/
import Derived.Test.YtkbocjmdbfddhaaSlRef
import Derived.Test.YtkbocjmdbfddhaaSlAwake
import Derived.Test.YtkbocjmdbfddhaaWBoth
namespace Go.Proofs.Ytkbocjmdbfddhaa
open Go.RowKit

theorem both_unit (kd ag sz sl rk : Int) (m : Nat) (bs : List Int) (hm : m ≤ maxLen) : ∃ u code : Int,
    (∀ W B d, Ints W B m bs → Calls Try.prog 22 #[.agg #[.int .i64 kd, .int .i64 ag, .int .i64 sz, .int .i64 sl, .slice B m d, .int .i64 rk]] W fun x w' => x = .returned (.tuple #[.int .i64 u, .int .i64 code]) ∧ Below W.heap.size W w') ∧
    (∀ W B d, Ints W B m bs → Calls Try.prog 23 #[.agg #[.int .i64 kd, .int .i64 ag, .int .i64 sz, .int .i64 sl, .slice B m d, .int .i64 rk]] W fun x w' => x = .returned (.tuple #[.int .i64 u, .int .i64 code]) ∧ Below W.heap.size W w') := by
  cases h : (mayQ kd ag sz sl bs rk && decide (kd ≠ 2))
  · exact ⟨0, 500, fun W B d hI => unit_bad kd ag sz sl rk B m d bs W hI hm h, fun W B d hI => runit_bad kd ag sz sl rk B m d bs W hI hm h⟩
  · simp only [Bool.and_eq_true] at h
    have h2 := of_decide_eq_true h.2
    exact ⟨unitQ kd sz sl, 0, fun W B d hI => unit_ok kd ag sz sl rk B m d bs W hI hm h.1 h2, fun W B d hI => runit_ok kd ag sz sl rk B m d bs W hI hm h.1 h2⟩
theorem both_at (kd ag sz sl rk t : Int) (m : Nat) (bs : List Int) (hm : m ≤ maxLen) : ∃ s e code : Int,
    (∀ W B d, Ints W B m bs → Calls Try.prog 24 #[.agg #[.int .i64 kd, .int .i64 ag, .int .i64 sz, .int .i64 sl, .slice B m d, .int .i64 rk], .int .i64 t] W fun x w' => x = .returned (.tuple #[.agg #[.int .i64 s, .int .i64 e], .int .i64 code]) ∧ Below W.heap.size W w') ∧
    (∀ W B d, Ints W B m bs → Calls Try.prog 25 #[.agg #[.int .i64 kd, .int .i64 ag, .int .i64 sz, .int .i64 sl, .slice B m d, .int .i64 rk], .int .i64 t] W fun x w' => x = .returned (.tuple #[.agg #[.int .i64 s, .int .i64 e], .int .i64 code]) ∧ Below W.heap.size W w') := by
  cases h : (mayQ kd ag sz sl bs rk && (decide (kd ≠ 2) && wi t (-1099511627776) 1099511627776))
  · exact ⟨0, 0, 500, fun W B d hI => at_bad kd ag sz sl rk t B m d bs W hI hm h, fun W B d hI => rat_bad kd ag sz sl rk t B m d bs W hI hm h⟩
  · simp only [Bool.and_eq_true] at h
    obtain ⟨h1, h2, h3⟩ := h
    have h2 := of_decide_eq_true h2
    exact ⟨_, _, 0, fun W B d hI => at_ok kd ag sz sl rk t B m d bs W hI hm h1 h2 h3, fun W B d hI => rat_ok kd ag sz sl rk t B m d bs W hI hm h1 h2 h3⟩
theorem both_cut (kd ag sz sl rk s e : Int) (m : Nat) (bs : List Int) (hm : m ≤ maxLen) (hs : (Lit.int .i64 s).wf = true) (he : (Lit.int .i64 e).wf = true) : ∃ (ss : List (Int × Int)) (n : Nat) (code : Int), n ≤ maxLen ∧
    (∀ W B d, Ints W B m bs → Calls Try.prog 26 #[.agg #[.int .i64 kd, .int .i64 ag, .int .i64 sz, .int .i64 sl, .slice B m d, .int .i64 rk], .agg #[.int .i64 s, .int .i64 e]] W (BothS ss n code W)) ∧
    (∀ W B d, Ints W B m bs → Calls Try.prog 27 #[.agg #[.int .i64 kd, .int .i64 ag, .int .i64 sz, .int .i64 sl, .slice B m d, .int .i64 rk], .agg #[.int .i64 s, .int .i64 e]] W (BothS ss n code W)) := by
  cases h : (mayQ kd ag sz sl bs rk && (decide (kd ≠ 2) && cutB kd sz sl s e))
  · exact ⟨[], 0, 500, Nat.zero_le _, fun W B d hI => (cut_bad kd ag sz sl rk s e B m d bs W hI hm h).mono fun _ _ h => ⟨none, 0, h.1, OwnS.nil _ _, h.2⟩, fun W B d hI => (rcut_bad kd ag sz sl rk s e B m d bs W hI hm he hs h).mono fun _ _ h => ⟨none, 0, h.1, OwnS.nil _ _, h.2⟩⟩
  · simp only [Bool.and_eq_true] at h
    obtain ⟨h1, h2, h3⟩ := h
    have h2 := of_decide_eq_true h2
    obtain ⟨u1, u2, u3, _, u5⟩ := unitQ_bd h1 h2
    obtain ⟨_, _, s3, _, _⟩ := stepQ_bd h1
    obtain ⟨n, c1, c2, c3, c4⟩ := cut_count u1 u3 s3 u5
    refine ⟨cutL s (unitQ kd sz sl) n, (cutL s (unitQ kd sz sl) n).length, 0, ?_, fun W B d hI => (cut_ok kd ag sz sl rk s e B m d n bs W hI hm h1 h2 h3 c1).mono fun _ _ => both_of, fun W B d hI => (rcut_ok kd ag sz sl rk s e B m d n bs W hI hm h1 h2 h3 c1).mono fun _ _ => both_of⟩
    rw [cutL_len]
    unfold maxLen
    omega
/-- The query and the span in their variables, and the bounds that came in. -/
structure SlS (w : World) (q sp : Array Value) (B : Option Addr) (m : Nat) (bs : List Int) (wr : World) : Prop where
  box : Has wr w.heap.size 24 q
  spn : Has wr (w.heap.size + 1) 38 sp
  bnd : Ints wr B m bs
  keep : Below w.heap.size w wr
theorem SlS.below {w : World} {q sp : Array Value} {B : Option Addr} {m : Nat} {bs : List Int} {wr wy : World} (h : SlS w q sp B m bs wr) (hi : Ints w B m bs) (hb : Below wr.heap.size wr wy) : SlS w q sp B m bs wy :=
  ⟨h.box.below hb h.box.lt, h.spn.below hb h.spn.lt, hi.below (h.keep.trans (hb.mono h.keep.size)), h.keep.trans (hb.mono h.keep.size)⟩
theorem SlS.alloc {w : World} {q sp : Array Value} {B : Option Addr} {m : Nat} {bs : List Int} {wr : World} (h : SlS w q sp B m bs wr) (hi : Ints w B m bs) (o : Obj) : SlS w q sp B m bs (wr.alloc o) := h.below hi ((Below.refl _ _).alloc (Nat.le_refl _) _)

set_option maxRecDepth 100000 in
set_option maxHeartbeats 4000000 in
theorem slices_any (kd ag sz sl rk : Int) (B : Option Addr) (m d : Nat) (bs : List Int) (t s e : Int) (w : World) (hb : Ints w B m bs) (hm : m ≤ maxLen) (_ : (Lit.int .i64 t).wf = true) (hs : (Lit.int .i64 s).wf = true) (he : (Lit.int .i64 e).wf = true) :
    Calls Try.prog 9 #[.agg #[.int .i64 kd, .int .i64 ag, .int .i64 sz, .int .i64 sl, .slice B m d, .int .i64 rk], .int .i64 t, .agg #[.int .i64 s, .int .i64 e]] w fun e w' => e = .returned (.bool true) ∧ Below w.heap.size w w' := by
  obtain ⟨u, cu, U1, U2⟩ := both_unit kd ag sz sl rk m bs hm
  obtain ⟨x, y, ca, A1, A2⟩ := both_at kd ag sz sl rk t m bs hm
  obtain ⟨ss, n, cc, hn, C1, C2⟩ := both_cut kd ag sz sl rk s e m bs hm hs he
  have U1 := Lib.hid U1
  have U2 := Lib.hid U2
  have A1 := Lib.hid A1
  have A2 := Lib.hid A2
  have C1 := Lib.hid C1
  have C2 := Lib.hid C2
  have HI := Lib.hid hb; clear hb
  have HBOX : Below w.heap.size w ((w.alloc (.cells #[.int .i64 kd, .int .i64 ag, .int .i64 sz, .int .i64 sl, .slice B m d, .int .i64 rk] 24)).alloc (.cells #[.int .i64 s, .int .i64 e] 38)) := below_alloc ((Below.refl _ _).alloc (Nat.le_refl _) _) (Nat.le_refl _) _
  have HS0 : Hid (SlS w #[.int .i64 kd, .int .i64 ag, .int .i64 sz, .int .i64 sl, .slice B m d, .int .i64 rk] #[.int .i64 s, .int .i64 e] B m bs ((w.alloc (.cells #[.int .i64 kd, .int .i64 ag, .int .i64 sz, .int .i64 sl, .slice B m d, .int .i64 rk] 24)).alloc (.cells #[.int .i64 s, .int .i64 e] 38))) :=
    ⟨(Has.made _ _ _).alloc _, heap_alloc2_new w _ _, HI.out.below HBOX, HBOX⟩
  clear HBOX
  go_enter Try.func9, Try.ntmps9
  go_wp2_with fail
  refine (U1.out _ _ _ HS0.out.bnd).mono ?_
  rintro e1 w1 ⟨rfl, b1⟩
  have HS1 := Lib.hid (HS0.out.below HI.out b1)
  have hc1 : ∀ i, w1.cell? ⟨w.heap.size, i, none⟩ = _ := fun i => HS1.out.box.cell i
  clear b1 HS0 U1
  go_wp2_with fail
  refine (U2.out _ _ _ HS1.out.bnd).mono ?_
  rintro e2 w2 ⟨rfl, b2⟩
  have HS2 := Lib.hid (HS1.out.below HI.out b2)
  have hc2 : ∀ i, w2.cell? ⟨w.heap.size, i, none⟩ = _ := fun i => HS2.out.box.cell i
  clear b2 hc1 HS1 U2
  go_wp2_with fail
  refine (A1.out _ _ _ HS2.out.bnd).mono ?_
  rintro e3 w3 ⟨rfl, b3⟩
  have HS3 := Lib.hid (HS2.out.below HI.out b3)
  have hc3 : ∀ o i, (w3.alloc o).cell? ⟨w.heap.size, i, none⟩ = _ := fun o i => (HS3.out.box.alloc o).cell i
  clear b3 hc2 HS2 A1
  have HP3 : Hid (Has (w3.alloc (.cells #[.int .i64 x, .int .i64 y] 38)) w3.heap.size 38 #[.int .i64 x, .int .i64 y]) := Has.made _ _ _
  have HS3' := Lib.hid (HS3.out.alloc HI.out (.cells #[.int .i64 x, .int .i64 y] 38))
  go_wp2_with fail
  refine (A2.out _ _ _ HS3'.out.bnd).mono ?_
  rintro e4 w4 ⟨rfl, b4⟩
  have HS4 := Lib.hid (HS3'.out.below HI.out b4)
  have HP4 := Lib.hid (HP3.out.below b4 HP3.out.lt)
  generalize w3.heap.size = g1 at *
  clear b4 hc3 HS3 HS3' HP3 A2
  have hc4 : ∀ o i, (w4.alloc o).cell? ⟨w.heap.size, i, none⟩ = _ := fun o i => (HS4.out.box.alloc o).cell i
  have hd4 : ∀ o i, (w4.alloc o).cell? ⟨w.heap.size + 1, i, none⟩ = _ := fun o i => (HS4.out.spn.alloc o).cell i
  have HR4 : Hid (Has (w4.alloc (.cells #[.int .i64 x, .int .i64 y] 38)) w4.heap.size 38 #[.int .i64 x, .int .i64 y]) := Has.made _ _ _
  have HP4' := Lib.hid (HP4.out.alloc (.cells #[.int .i64 x, .int .i64 y] 38))
  have HS4' := Lib.hid (HS4.out.alloc HI.out (.cells #[.int .i64 x, .int .i64 y] 38))
  go_wp2_with fail
  refine (C1.out _ _ _ HS4'.out.bnd).mono ?_
  rintro e5 w5 ⟨D1, c1, rfl, o5, b5⟩
  have HS5 := Lib.hid (HS4'.out.below HI.out b5)
  have HP5 := Lib.hid (HP4'.out.below b5 HP4'.out.lt)
  have HR5 := Lib.hid (HR4.out.below b5 HR4.out.lt)
  have HO5 : Hid (OwnS w5 0 (.slice D1 n c1) ss) := o5.mono (Nat.zero_le _)
  generalize w4.heap.size = g2 at *
  clear b5 o5 hc4 hd4 HS4 HS4' HP4 HP4' HR4 C1
  have hc5 : ∀ i, w5.cell? ⟨w.heap.size, i, none⟩ = _ := fun i => HS5.out.box.cell i
  have hd5 : ∀ i, w5.cell? ⟨w.heap.size + 1, i, none⟩ = _ := fun i => HS5.out.spn.cell i
  go_wp2_with fail
  refine (C2.out _ _ _ HS5.out.bnd).mono ?_
  rintro e6 w6 ⟨D2, c2, rfl, o6, b6⟩
  have HS6 := Lib.hid (HS5.out.below HI.out b6)
  have HP6 := Lib.hid (HP5.out.below b6 HP5.out.lt)
  have HR6 := Lib.hid (HR5.out.below b6 HR5.out.lt)
  have HO6 := Lib.hid (HO5.out.below b6)
  have HV6 := Lib.hid o6.spans
  clear b6 o6 hc5 hd5 HS5 HP5 HR5 HO5 C2
  have hp6 : ∀ i, w6.cell? ⟨g1, i, none⟩ = _ := fun i => HP6.out.cell i
  have hr6 : ∀ i, w6.cell? ⟨g2, i, none⟩ = _ := fun i => HR6.out.cell i
  go_wp2_with (go_at_call 17; refine (wnum_any _ _).mono ?_; rintro e w' ⟨rfl, rfl⟩)
  refine (sameSpans_true D1 D2 n c1 c2 ss _ HO6.out.spans HV6.out hn).mono ?_
  rintro e7 w7 ⟨rfl, k7, hw7⟩
  have hB7 : Below w6.heap.size w6 w7 := by rw [hw7]; exact below_drewN (Below.refl _ _) k7
  have HS7 := Lib.hid (HS6.out.below HI.out hB7)
  clear hB7 hw7 hp6 hr6 HS6 HP6 HR6 HO6 HV6
  go_wp2_with (go_at_call 17; refine (wnum_any _ _).mono ?_; rintro e w' ⟨rfl, rfl⟩)
  refine (sawake_any _).mono ?_
  rintro e8 w8 ⟨rfl, b8⟩
  go_wp2_with fail
  go_ret
  exact ⟨rfl, HS7.out.keep.trans (b8.mono HS7.out.keep.size)⟩

end Go.Proofs.Ytkbocjmdbfddhaa
