/-
  Walk: SliceRows: slices stand one behind the other.
-/
import Derived.Test.YtkbocjmdbfddhaaSlAwake
namespace Go.Proofs.Ytkbocjmdbfddhaa
open Go.RowKit

theorem next_at (p u : Int) (h : 1 ≤ u) : (p * u + u) / u * u = p * u + u ∧ (p * u - 1) / u * u = p * u - u := by
  constructor
  · rw [show p * u + u = (p + 1) * u by rw [Int.add_mul, Int.one_mul], Int.mul_ediv_cancel _ (by omega)]
  · have : (p * u - 1) / u = p - 1 ∧ (p * u - 1) % u = u - 1 := (Int.ediv_emod_unique (show 0 < u by omega)).2 ⟨by rw [Int.mul_sub, Int.mul_comm u p, Int.mul_one]; omega, by omega, by omega⟩
    rw [this.1, Int.sub_mul, Int.one_mul]
/-- The query in its variable, and the bounds that came in. -/
structure SrS (w : World) (q : Array Value) (B : Option Addr) (m : Nat) (bs : List Int) (wr : World) : Prop where
  box : Has wr w.heap.size 24 q
  bnd : Ints wr B m bs
  keep : Below w.heap.size w wr
theorem SrS.below {w : World} {q : Array Value} {B : Option Addr} {m : Nat} {bs : List Int} {wr wy : World} (h : SrS w q B m bs wr) (hi : Ints w B m bs) (hb : Below wr.heap.size wr wy) : SrS w q B m bs wy :=
  ⟨h.box.below hb h.box.lt, hi.below (h.keep.trans (hb.mono h.keep.size)), h.keep.trans (hb.mono h.keep.size)⟩
theorem SrS.alloc {w : World} {q : Array Value} {B : Option Addr} {m : Nat} {bs : List Int} {wr : World} (h : SrS w q B m bs wr) (hi : Ints w B m bs) (o : Obj) : SrS w q B m bs (wr.alloc o) := h.below hi ((Below.refl _ _).alloc (Nat.le_refl _) _)

set_option maxRecDepth 100000 in
set_option maxHeartbeats 4000000 in
theorem srows_any (kd ag sz sl rk : Int) (B : Option Addr) (m d : Nat) (bs : List Int) (time : Int) (w : World) (hb : Ints w B m bs) (hm : m ≤ maxLen) (_ : (Lit.int .i64 time).wf = true) :
    Calls Try.prog 12 #[.agg #[.int .i64 kd, .int .i64 ag, .int .i64 sz, .int .i64 sl, .slice B m d, .int .i64 rk], .int .i64 time] w fun e w' => e = .returned (.bool true) ∧ Below w.heap.size w w' := by
  obtain ⟨t, t1, t2, t3⟩ : ∃ T : Int, time.tmod 1000000 = T ∧ -1000000 ≤ T ∧ T ≤ 1000000 := ⟨_, rfl, by have := Int.lt_tmod_of_pos time (show (0 : Int) < 1000000 by decide); omega, by have := Int.tmod_lt_of_pos time (show (0 : Int) < 1000000 by decide); omega⟩
  have HI := Lib.hid hb; clear hb
  have HBOX : Below w.heap.size w (w.alloc (.cells #[.int .i64 kd, .int .i64 ag, .int .i64 sz, .int .i64 sl, .slice B m d, .int .i64 rk] 24)) := (Below.refl _ _).alloc (Nat.le_refl _) _
  have HS0 : Hid (SrS w #[.int .i64 kd, .int .i64 ag, .int .i64 sz, .int .i64 sl, .slice B m d, .int .i64 rk] B m bs (w.alloc (.cells #[.int .i64 kd, .int .i64 ag, .int .i64 sz, .int .i64 sl, .slice B m d, .int .i64 rk] 24))) :=
    ⟨Has.made _ _ _, HI.out.below HBOX, HBOX⟩
  clear HBOX
  go_enter Try.func12, Try.ntmps12
  go_wp2_with fail
  refine (sawake_any _).mono ?_
  rintro e w1 ⟨rfl, b1⟩
  have HS1 := Lib.hid (HS0.out.below HI.out b1)
  have hc1 : ∀ i, w1.cell? ⟨w.heap.size, i, none⟩ = _ := fun i => HS1.out.box.cell i
  clear b1 HS0
  go_wp2_with fail
  cases h : (mayQ kd ag sz sl bs rk && decide (kd ≠ 2))
  · have U1 := Lib.hid (fun W hI => unit_bad kd ag sz sl rk B m d bs W hI hm h)
    have A1 := Lib.hid (fun W hI => at_bad kd ag sz sl rk t B m d bs W hI hm (by rw [← Bool.and_assoc, h]; rfl))
    clear h
    refine (U1.out _ HS1.out.bnd).mono ?_
    rintro e w2 ⟨rfl, b2⟩
    have HS2 := Lib.hid (HS1.out.below HI.out b2)
    have hc2 : ∀ i, w2.cell? ⟨w.heap.size, i, none⟩ = _ := fun i => HS2.out.box.cell i
    clear b2 hc1 HS1 U1
    go_wp2_with (go_at_call 17; refine (wnum_any _ _).mono ?_; rintro e w' ⟨rfl, rfl⟩)
    refine (A1.out _ HS2.out.bnd).mono ?_
    rintro e w3 ⟨rfl, b3⟩
    have HB3 := Lib.hid (HS2.out.keep.trans (b3.mono HS2.out.keep.size))
    clear b3 hc2 HS2 A1
    go_wp2_with (go_at_call 17; refine (wnum_any _ _).mono ?_; rintro e w' ⟨rfl, rfl⟩)
    go_ret
    exact ⟨rfl, HB3.out.alloc HB3.out.size _⟩
  · simp only [Bool.and_eq_true] at h
    obtain ⟨h1, h2⟩ := h
    have h2 := of_decide_eq_true h2
    obtain ⟨u1, u2, _, _, _⟩ := unitQ_bd h1 h2
    obtain ⟨_, _, s3, s4, _⟩ := stepQ_bd h1
    obtain ⟨p1, p2⟩ := at_bd t (unitQ kd sz sl) u1
    obtain ⟨n1, n2⟩ := next_at (t / unitQ kd sz sl) (unitQ kd sz sl) u1
    have n3 : (t / unitQ kd sz sl * unitQ kd sz sl).tmod (unitQ kd sz sl) = 0 := Int.mul_tmod_left _ _
    have U1 := Lib.hid (fun W hI => unit_lit kd ag sz sl rk (unitQ kd sz sl) B m d bs W hI hm h1 h2 rfl)
    have A1 := Lib.hid (fun W hI => at_lit kd ag sz sl rk t (t / unitQ kd sz sl * unitQ kd sz sl) (t / unitQ kd sz sl * unitQ kd sz sl + unitQ kd sz sl) B m d bs W hI hm h1 h2 (wi_mk (by omega)) rfl rfl)
    have A2 := Lib.hid (fun W hI => at_lit kd ag sz sl rk (t / unitQ kd sz sl * unitQ kd sz sl + unitQ kd sz sl) (t / unitQ kd sz sl * unitQ kd sz sl + unitQ kd sz sl) (t / unitQ kd sz sl * unitQ kd sz sl + unitQ kd sz sl + unitQ kd sz sl) B m d bs W hI hm h1 h2 (wi_mk (by omega)) n1 rfl)
    have A3 := Lib.hid (fun W hI => at_lit kd ag sz sl rk (t / unitQ kd sz sl * unitQ kd sz sl - 1) (t / unitQ kd sz sl * unitQ kd sz sl - unitQ kd sz sl) (t / unitQ kd sz sl * unitQ kd sz sl) B m d bs W hI hm h1 h2 (wi_mk (by omega)) n2 (by omega))
    clear h1 h2 n1 n2
    generalize unitQ kd sz sl = u at *
    generalize t / u * u = z at *
    refine (U1.out _ HS1.out.bnd).mono ?_
    rintro e w2 ⟨rfl, b2⟩
    have HS2 := Lib.hid (HS1.out.below HI.out b2)
    have hc2 : ∀ i, w2.cell? ⟨w.heap.size, i, none⟩ = _ := fun i => HS2.out.box.cell i
    clear b2 hc1 HS1 U1
    go_wp2_with (go_at_call 17; refine (wnum_any _ _).mono ?_; rintro e w' ⟨rfl, rfl⟩)
    refine (A1.out _ HS2.out.bnd).mono ?_
    rintro e w3 ⟨rfl, b3⟩
    have HP3 : Hid (Has (w3.alloc (.cells #[.int .i64 z, .int .i64 (z + u)] 38)) w3.heap.size 38 #[.int .i64 z, .int .i64 (z + u)]) := Has.made _ _ _
    have HS3 := Lib.hid ((HS2.out.below HI.out b3).alloc HI.out (.cells #[.int .i64 z, .int .i64 (z + u)] 38))
    have hc3 : ∀ i, (w3.alloc (.cells #[.int .i64 z, .int .i64 (z + u)] 38)).cell? ⟨w.heap.size, i, none⟩ = _ := fun i => HS3.out.box.cell i
    have hp3 : ∀ i, (w3.alloc (.cells #[.int .i64 z, .int .i64 (z + u)] 38)).cell? ⟨w3.heap.size, i, none⟩ = _ := fun i => HP3.out.cell i
    clear b3 hc2 HS2 A1
    go_wp2_with fail
    refine (A2.out _ HS3.out.bnd).mono ?_
    rintro e w4 ⟨rfl, b4⟩
    have HP4 := Lib.hid ((HP3.out.below b4 HP3.out.lt).alloc (.cells #[.int .i64 (z + u), .int .i64 (z + u + u)] 38))
    have HR4 : Hid (Has (w4.alloc (.cells #[.int .i64 (z + u), .int .i64 (z + u + u)] 38)) w4.heap.size 38 #[.int .i64 (z + u), .int .i64 (z + u + u)]) := Has.made _ _ _
    have HS4 := Lib.hid ((HS3.out.below HI.out b4).alloc HI.out (.cells #[.int .i64 (z + u), .int .i64 (z + u + u)] 38))
    generalize w3.heap.size = g1 at *
    clear b4 hc3 hp3 HS3 HP3 A2
    have hc4 : ∀ i, (w4.alloc (.cells #[.int .i64 (z + u), .int .i64 (z + u + u)] 38)).cell? ⟨w.heap.size, i, none⟩ = _ := fun i => HS4.out.box.cell i
    have hp4 : ∀ i, (w4.alloc (.cells #[.int .i64 (z + u), .int .i64 (z + u + u)] 38)).cell? ⟨g1, i, none⟩ = _ := fun i => HP4.out.cell i
    go_wp2_with fail
    refine (A3.out _ HS4.out.bnd).mono ?_
    rintro e w5 ⟨rfl, b5⟩
    have HP5 := Lib.hid ((HP4.out.below b5 HP4.out.lt).alloc (.cells #[.int .i64 (z - u), .int .i64 z] 38))
    have HR5 := Lib.hid ((HR4.out.below b5 HR4.out.lt).alloc (.cells #[.int .i64 (z - u), .int .i64 z] 38))
    have HT5 : Hid (Has (w5.alloc (.cells #[.int .i64 (z - u), .int .i64 z] 38)) w5.heap.size 38 #[.int .i64 (z - u), .int .i64 z]) := Has.made _ _ _
    have HS5 := Lib.hid ((HS4.out.below HI.out b5).alloc HI.out (.cells #[.int .i64 (z - u), .int .i64 z] 38))
    generalize w4.heap.size = g2 at *
    clear b5 hc4 hp4 HS4 HP4 HR4 A3
    have hp5 : ∀ i, (w5.alloc (.cells #[.int .i64 (z - u), .int .i64 z] 38)).cell? ⟨g1, i, none⟩ = _ := fun i => HP5.out.cell i
    have hr5 : ∀ i, (w5.alloc (.cells #[.int .i64 (z - u), .int .i64 z] 38)).cell? ⟨g2, i, none⟩ = _ := fun i => HR5.out.cell i
    have ht5 : ∀ i, (w5.alloc (.cells #[.int .i64 (z - u), .int .i64 z] 38)).cell? ⟨w5.heap.size, i, none⟩ = _ := fun i => HT5.out.cell i
    have q1 : wrap64 (z + u - z) = u := by unfold wrap64; omega
    have q2 : ((z + u - z) == u) = true := by rw [show z + u - z = u by omega]; exact beq_self_eq_true u
    go_wp2_with (go_at_call 17; refine (wnum_any _ _).mono ?_; rintro e w' ⟨rfl, rfl⟩)
    go_ret
    exact ⟨rfl, HS5.out.keep⟩

end Go.Proofs.Ytkbocjmdbfddhaa
