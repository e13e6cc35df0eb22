/-
  Walk: Records: any record, any bytes, as the document says.
-/
import Derived.Test.YtdbcmcdmipehgaaRcRg8
import Derived.Test.YtdbcmcdmipehgaaRcRGet3
import Derived.Test.YtdbcmcdmipehgaaRcRPut
namespace Go.Proofs.Ytdbcmcdmipehgaa
open Go.RowKit

/-- The reference's GetRec of any bytes: its record and its row of numbers. -/
theorem rget_own (s : ByteArray) (r : Rc) (z : Int) (h : getR s.data.toList = (r, z)) (hs : s.size ≤ maxLen) (w : World) :
    Calls Try.prog 9 #[.string s] w fun e w' => ∃ A c, e = .returned (.tuple #[.agg (recC r A r.hs.length c), .int .i64 z]) ∧ OwnI w' w.heap.size (.slice A r.hs.length c) r.hs ∧ Below w.heap.size w w' := by
  refine (rget_rec s hs w).mono fun e w' hx => ?_
  rw [h] at hx
  obtain ⟨r', z', A, n, c, hf, he, ho, hb⟩ := hx
  simp only [Prod.mk.injEq] at hf
  obtain ⟨rfl, rfl⟩ := hf
  obtain ⟨A', c', e2, _⟩ := ho.form
  injection e2 with e3 e4 e5
  subst e3 e4 e5
  exact ⟨A, c, he, ho, hb⟩

/-- A record that came in, in its box. -/
structure BxS (w0 : World) (r : Rc) (A : Option Addr) (n c : Nat) (w : World) : Prop where
  old : Below w0.heap.size w0 w
  box : Has w w0.heap.size 30 (recC r A n c)
  i : Ints w A n r.hs
section
variable {w0 w w' : World} {r : Rc} {A : Option Addr} {n c : Nat}
theorem BxS.made (w0 : World) (c : Nat) (h : Ints w0 A n r.hs) : BxS w0 r A n c (w0.alloc (.cells (recC r A n c) 30)) :=
  have hb := (Below.refl w0.heap.size w0).alloc (Nat.le_refl _) (.cells (recC r A n c) 30)
  ⟨hb, Has.made _ _ _, h.below hb⟩
theorem BxS.below (h : BxS w0 r A n c w) (hb : Below w.heap.size w w') : BxS w0 r A n c w' := ⟨h.old.trans (hb.mono h.old.size), h.box.below hb h.box.lt, h.i.below hb⟩
/-- Only what lies behind the box turns. -/
theorem BxS.behind (h : BxS w0 r A n c w) (hi : Ints w0 A n r.hs) {B : Nat} (hB : w0.heap.size < B) (hb : Below B w w') : BxS w0 r A n c w' :=
  have h2 := h.old.trans (hb.mono (Nat.le_of_lt hB))
  ⟨h2, h.box.below hb hB, hi.below h2⟩
end

set_option maxRecDepth 100000 in
set_option maxHeartbeats 1000000 in
theorem records_any (r : Rc) (A : Option Addr) (n c : Nat) (s : ByteArray) (w : World) (hI : Ints w A n r.hs) (_ : n ≤ maxLen) (hs : s.size ≤ 140737488351232) :
    Calls Try.prog 3 #[.agg (recC r A n c), .string s] w fun e w' => e = .returned (.bool true) ∧ Below w.heap.size w w' := by
  have hm : s.size ≤ maxLen := by unfold maxLen; omega
  obtain ⟨p, z, hp⟩ : ∃ p z, putR r = (p, z) := ⟨_, _, rfl⟩
  obtain ⟨q, y, hg⟩ : ∃ q y, getR s.data.toList = (q, y) := ⟨_, _, rfl⟩
  obtain ⟨v, hv⟩ : ∃ v, mayR r = v := ⟨_, rfl⟩
  have hq9 : q.hs.length ≤ 9 := by
    rcases getR_back s.data.toList with ⟨q', hq', e, _⟩ | e
    · rw [hg] at e
      injection e with e1 _
      subst e1
      unfold MayR ResM OutM NoX at hq'
      rcases hq' with h | h | h | h
      · exact h.2.1.2.2.2.2.2.2.1
      · rw [h.2.2.1.2.2.2.2.2.2]; simp
      · rw [h.2.1.2.2.2.2.2.2]; simp
      · rw [h.2.2.1.2.2.2.2.2.2]; simp
    · rw [hg] at e
      injection e with e1 _
      subst e1
      simp [zeroR]
  have hqm : q.hs.length ≤ maxLen := by unfold maxLen; omega
  have P1 := Lib.hid (fun (w : World) hI => put_rec r A n c p z hp w hI)
  have P2 := Lib.hid (fun (w : World) hI => rput_rec r A n c p z hp w hI)
  have G1 := Lib.hid (fun w : World => get_own s q y hg hm w)
  have G2 := Lib.hid (fun w : World => rget_own s q y hg hm w)
  have HV := Lib.hid hv
  have HI := Lib.hid hI
  have HQ := Lib.hid hqm
  clear hs hm hp hg hv hI hq9 hqm
  obtain ⟨k, hk⟩ : ∃ k, q.hs.length = k := ⟨_, rfl⟩
  have S0 := BxS.made w c HI.out
  go_enter Try.func3, Try.ntmps3
  go_wp2_with (refine load_rec rfl _ rfl _ rfl S0.box ?_)
  refine (P1.out _ S0.i).mono ?_; rintro e w1 ⟨rfl, b⟩
  have S1 := S0.below b
  clear S0 b
  go_wp2_with (refine load_rec rfl _ rfl _ rfl S1.box ?_)
  refine (P2.out _ S1.i).mono ?_; rintro e w2 ⟨rfl, b⟩
  have S2 := S1.below b
  clear S1 b P1 P2
  go_wp2_with fail
  have hz2 : w.heap.size < w2.heap.size := S2.box.lt
  refine (G1.out _).mono ?_; rintro e w3 ⟨A1, c1, rfl, o3, b⟩
  have S3 := S2.below b
  clear S2 b G1
  rw [hk] at o3 ⊢
  go_wp2_with (refine store_recN (r := q) (A := A1) (n := k) (c := c1) rfl _ _ rfl rfl rfl rfl ?_; intro w4 b4 z4 h4)
  have S4 := S3.below b4
  have o4 := o3.below b4
  clear S3 o3 b4 z4
  refine (G2.out _).mono ?_; rintro e w5 ⟨A2, c2, rfl, o5, b⟩
  have S5 := S4.below b
  have p5 := o4.below b
  have h5 := h4.below b h4.lt
  clear S4 o4 h4 b G2
  rw [hk] at o5 ⊢
  go_wp2_with (first
    | (refine store_recN (r := q) (A := A2) (n := k) (c := c2) rfl _ _ rfl rfl rfl rfl ?_; intro w6 b6 z6 j6; have S6 := S5.below b6; have p6 := p5.below b6; have o6 := o5.below b6; have h6 := h5.below b6 h5.lt; clear S5 p5 o5 h5 b6 z6)
    | (go_at_call 10; refine (num_any _ _).mono ?_; rintro e w' ⟨rfl, rfl⟩)
    | (refine load_rec rfl _ rfl _ rfl h6 ?_)
    | (refine load_rec rfl _ rfl _ rfl j6 ?_))
  have HK : Hid (k ≤ maxLen) := Lib.hid (by have := HQ.out; omega)
  refine (samerec_true q A1 A2 k c1 c2 _ p6.ints o6.ints HK.out).mono ?_; rintro e w7 ⟨rfl, b⟩
  have S7 := S6.below b
  have p7 := p6.below b
  have h7 := h6.below b h6.lt
  clear S6 p6 o6 h6 j6 b hk HQ
  have c7 : w7.cell? ⟨w3.heap.size, 7, none⟩ = some (.slice A1 k c1) := h7.cell 7
  go_wp2_with (go_at_call 10; refine (num_any _ _).mono ?_; rintro e w' ⟨rfl, rfl⟩)
  refine (spoil_any A1 k c1 q.hs _ _ p7 HK.out).mono ?_; rintro e w8 ⟨rfl, b⟩
  have S8 := S7.behind HI.out hz2 b
  clear S7 p7 h7 c7 b HK HI hz2
  go_wp2_with fail
  refine rr8_any (r := r) (A := A) (n := n) (c := c) (g := w.heap.size) (v := v) ⟨rfl, rfl, S8.box, S8.i, HV.out⟩ rfl (fun w9 b9 => ?_)
  have S9 := S8.below b9
  clear S8 b9 HV
  simp only [putAll, Act.put, List.setIfInBounds_toArray, List.set_cons_succ, List.set_cons_zero]
  go_wp2_with fail
  go_ret
  exact ⟨rfl, S9.old⟩

end Go.Proofs.Ytdbcmcdmipehgaa
