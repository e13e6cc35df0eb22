/-
  Walk: the record laws' first look.
-/
import Derived.Test.YtdbcmcdmipehgaaRcPut
import Derived.Test.YtdbcmcdmipehgaaRcRPut
import Derived.Test.YtdbcmcdmipehgaaRcGet2
import Derived.Test.YtdbcmcdmipehgaaRcSame
import Derived.Test.YtdbcmcdmipehgaaRcBackP
namespace Go.Proofs.Ytdbcmcdmipehgaa
open Go.RowKit

def recA : Rc := ⟨0, 1, 2, -3, 4, 0, false, [1, 2], 0, 0, 0, 0⟩
def recB : Rc := ⟨1, 0, 0, 0, 0, 0, false, [], 1, 2, 3, 0⟩
def recD : Rc := ⟨5, 0, 0, 0, 0, 0, false, [], 0, 0, 0, 0⟩
theorem may_aA : mayR recA = true := by decide
theorem may_aB : mayR recB = true := by decide
theorem may_aD : mayR recD = false := by decide
theorem encs_aA : encs [0, 1, 2, -3, 4, 0, 0, 2, 1, 2] = [0, 2, 4, 5, 8, 0, 0, 4, 2, 4] := by
  have e0 : encL (foldI 0).toNat = [0] := by rw [show (foldI 0).toNat = 0 by decide, encL_end (by decide)]; rfl
  have e1 : encL (foldI 1).toNat = [2] := by rw [show (foldI 1).toNat = 2 by decide, encL_end (by decide)]; rfl
  have e2 : encL (foldI 2).toNat = [4] := by rw [show (foldI 2).toNat = 4 by decide, encL_end (by decide)]; rfl
  have e3 : encL (foldI (-3)).toNat = [5] := by rw [show (foldI (-3)).toNat = 5 by decide, encL_end (by decide)]; rfl
  have e4 : encL (foldI 4).toNat = [8] := by rw [show (foldI 4).toNat = 8 by decide, encL_end (by decide)]; rfl
  simp only [encs, e0, e1, e2, e3, e4]
  rfl
theorem encs_aB : encs [1, 1, 2, 3] = [2, 2, 4, 6] := by
  have e1 : encL (foldI 1).toNat = [2] := by rw [show (foldI 1).toNat = 2 by decide, encL_end (by decide)]; rfl
  have e2 : encL (foldI 2).toNat = [4] := by rw [show (foldI 2).toNat = 4 by decide, encL_end (by decide)]; rfl
  have e3 : encL (foldI 3).toNat = [6] := by rw [show (foldI 3).toNat = 6 by decide, encL_end (by decide)]; rfl
  simp only [encs, e1, e2, e3]
  rfl
theorem put_aA : putR recA = (⟨#[0, 2, 4, 5, 8, 0, 0, 4, 2, 4]⟩, 0) := by
  rw [putR, if_pos may_aA]
  show ((⟨(encs [0, 1, 2, -3, 4, 0, 0, 2, 1, 2]).toArray⟩ : ByteArray), (0 : Int)) = _
  rw [encs_aA]
theorem put_aB : putR recB = (⟨#[2, 2, 4, 6]⟩, 0) := by
  rw [putR, if_pos may_aB]
  show ((⟨(encs [1, 1, 2, 3]).toArray⟩ : ByteArray), (0 : Int)) = _
  rw [encs_aB]
theorem put_aD : putR recD = (⟨#[]⟩, 1000) := by rw [putR, if_neg (by simp [may_aD])]
theorem get_aA : getR [0, 2, 4, 5, 8, 0, 0, 4, 2, 4] = (recA, 0) := by
  have h := getR_put (mayR_iff.1 may_aA)
  rw [show encs (numsR recA) = [0, 2, 4, 5, 8, 0, 0, 4, 2, 4] from encs_aA] at h
  exact h
theorem get_aX : getR [0, 2, 4, 5, 8, 0, 0, 4, 2, 4, 0] = (zeroR, 1000) := by
  rcases getR_back [0, 2, 4, 5, 8, 0, 0, 4, 2, 4, 0] with ⟨q, hq, _, e⟩ | h
  · exfalso
    have e2 : encs (numsR recA) ++ [0] = encs (numsR q) := by
      rw [e, show encs (numsR recA) = [0, 2, 4, 5, 8, 0, 0, 4, 2, 4] from encs_aA]; rfl
    obtain ⟨zs, e3, e4⟩ := encs_prefix _ _ _ (numsR_in (mayR_iff.1 may_aA)) (numsR_in hq) e2
    have := numsR_on e3
    subst this
    simp [encs] at e4
  · exact h

/-- Get of any bytes: its record and its row of numbers. -/
theorem get_own (s : ByteArray) (r : Rc) (z : Int) (h : getR s.data.toList = (r, z)) (hs : s.size ≤ maxLen) (w : World) :
    Calls Try.prog 8 #[.string s] w fun e w' => ∃ A c, e = .returned (.tuple #[.agg (recC r A r.hs.length c), .int .i64 z]) ∧ OwnI w' w.heap.size (.slice A r.hs.length c) r.hs ∧ Below w.heap.size w w' := by
  refine (get_rec s hs w).mono fun e w' hx => ?_
  rw [h] at hx
  obtain ⟨r', z', A, n, c, hf, he, ho, hb⟩ := hx
  simp only [Prod.mk.injEq] at hf
  obtain ⟨rfl, rfl⟩ := hf
  obtain ⟨A', c', e2, _⟩ := ho.form
  injection e2 with e3 e4 e5
  subst e3 e4 e5
  exact ⟨A, c, he, ho, hb⟩
theorem get_cat (w : World) : Calls Try.prog 8 #[.string ((⟨#[0, 2, 4, 5, 8, 0, 0, 4, 2, 4]⟩ : ByteArray) ++ (⟨#[0]⟩ : ByteArray))] w fun e w' => ∃ A c, e = .returned (.tuple #[.agg (recC zeroR A 0 c), .int .i64 1000]) ∧ OwnI w' w.heap.size (.slice A 0 c) [] ∧ Below w.heap.size w w' := by
  rw [show (⟨#[0, 2, 4, 5, 8, 0, 0, 4, 2, 4]⟩ : ByteArray) ++ (⟨#[0]⟩ : ByteArray) = ⟨#[0, 2, 4, 5, 8, 0, 0, 4, 2, 4, 0]⟩ from cat_bytes [0, 2, 4, 5, 8, 0, 0, 4, 2, 4] [0]]
  exact get_own ⟨#[0, 2, 4, 5, 8, 0, 0, 4, 2, 4, 0]⟩ zeroR 1000 get_aX (by decide) w

/-- The first record in memory. -/
structure AwS (w0 w : World) : Prop where
  old : Below w0.heap.size w0 w
  r : Has w (w0.heap.size + 1) 30 (recC recA (some ⟨w0.heap.size, 0, none⟩) 2 2)
  i : Ints w (some ⟨w0.heap.size, 0, none⟩) 2 [1, 2]
theorem AwS.below {w0 w w' : World} (h : AwS w0 w) (hb : Below w.heap.size w w') : AwS w0 w' := ⟨h.old.trans (hb.mono h.old.size), h.r.below hb h.r.lt, h.i.below hb⟩
theorem AwS.made (w0 : World) : AwS w0 ((w0.alloc (.cells #[.int .i64 1, .int .i64 2] 3)).alloc (.cells (recC recA (some ⟨w0.heap.size, 0, none⟩) 2 2) 30)) := by
  have h1 : Has ((w0.alloc (.cells #[.int .i64 1, .int .i64 2] 3)).alloc (.cells (recC recA (some ⟨w0.heap.size, 0, none⟩) 2 2) 30)) w0.heap.size 3 #[.int .i64 1, .int .i64 2] := (Has.made w0 _ _).alloc _
  refine ⟨((Below.refl _ _).alloc (Nat.le_refl _) _).alloc (by simp) _, by simpa using Has.made (w0.alloc (.cells #[.int .i64 1, .int .i64 2] 3)) 30 (recC recA (some ⟨w0.heap.size, 0, none⟩) 2 2), rfl, fun _ => ⟨w0.heap.size, 0, rfl, fun k hk => ?_⟩⟩
  match k, hk with
  | 0, _ => exact h1.cell 0
  | 1, _ => exact h1.cell 1

set_option maxRecDepth 100000 in
set_option maxHeartbeats 1000000 in
theorem awake_any (w : World) :
    Calls Try.prog 15 #[] w fun e w' => e = .returned (.bool true) ∧ Below w.heap.size w w' := by
  have P1 := Lib.hid (fun (w : World) A hI => put_rec recA A 2 2 _ _ put_aA w hI)
  have P2 := Lib.hid (fun w : World => put_rec recD none 0 0 _ _ put_aD w Ints.nil)
  have P3 := Lib.hid (fun w : World => put_rec recB none 0 0 _ _ put_aB w Ints.nil)
  have G1 : Hid (∀ w : World, Calls Try.prog 8 #[.string ⟨#[0, 2, 4, 5, 8, 0, 0, 4, 2, 4]⟩] w fun e w' => ∃ A c, e = .returned (.tuple #[.agg (recC recA A 2 c), .int .i64 0]) ∧ OwnI w' w.heap.size (.slice A 2 c) [1, 2] ∧ Below w.heap.size w w') := fun w => get_own ⟨#[0, 2, 4, 5, 8, 0, 0, 4, 2, 4]⟩ recA 0 get_aA (by decide) w
  have G2 := Lib.hid (fun w : World => get_cat w)
  go_enter Try.func15, Try.ntmps15
  go_wp2_with fail
  have S0 := AwS.made w
  refine (P1.out _ _ S0.i).mono ?_; rintro e w1 ⟨rfl, b⟩
  have S1 := S0.below b
  clear S0 b P1
  go_wp2_with fail
  refine (G1.out _).mono ?_; rintro e w2 ⟨A1, c1, rfl, o2, b⟩
  have S2 := S1.below b
  clear S1 b G1
  go_wp2_with (refine store_recN (r := recA) (A := A1) (n := 2) (c := c1) rfl _ _ rfl rfl rfl rfl ?_; intro w3 b3 z3 h3)
  have S3 := S2.below b3
  have o3 := o2.below b3
  have hz3 := h3.lt
  clear S2 o2 b3 z3
  refine (G2.out _).mono ?_; rintro e w4 ⟨A2, c2, rfl, _, b⟩
  have S4 := S3.below b
  have o4 := o3.below b
  have h4 := h3.below b hz3
  clear S3 o3 h3 b hz3 G2
  go_wp2_with (refine store_recN (r := zeroR) (A := A2) (n := 0) (c := c2) rfl _ _ rfl rfl rfl rfl ?_; intro w5 b5 z5 _)
  have S5 := S4.below b5
  have o5 := o4.below b5
  have h5 := h4.below b5 h4.lt
  clear S4 o4 h4 b5 z5
  refine (P2.out _).mono ?_; rintro e w6 ⟨rfl, b⟩
  have S6 := S5.below b
  have o6 := o5.below b
  have h6 := h5.below b h5.lt
  clear S5 o5 h5 b P2
  go_wp2_with fail
  refine (P3.out _).mono ?_; rintro e w7 ⟨rfl, b⟩
  have S7 := S6.below b
  have o7 := o6.below b
  have h7 := h6.below b h6.lt
  clear S6 o6 h6 b P3
  go_wp2_with (first
    | (go_at_call 10; refine (num_any _ _).mono ?_; rintro e w' ⟨rfl, rfl⟩)
    | (refine load_rec rfl _ rfl _ rfl h7 ?_)
    | (refine load_rec rfl _ rfl _ rfl S7.r ?_))
  refine (samerec_true recA A1 _ 2 c1 2 _ o7.ints S7.i (by decide)).mono ?_; rintro e w8 ⟨rfl, b⟩
  have S8 := S7.below b
  clear S7 o7 h7 b
  go_wp2_with (first
    | (go_at_call 10; refine (num_any _ _).mono ?_; rintro e w' ⟨rfl, rfl⟩)
    | (refine load_rec rfl _ rfl _ rfl S8.r ?_))
  refine (may_any recA _ 2 2 true may_aA _ S8.i).mono ?_; rintro e w9 ⟨rfl, b⟩
  have S9 := S8.below b
  clear S8 b
  go_wp2_with fail
  go_ret
  exact ⟨rfl, S9.old⟩

end Go.Proofs.Ytdbcmcdmipehgaa
