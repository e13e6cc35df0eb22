/-
  Walk: the frame laws' first look.
-/
import Derived.Test.YtbdlncfdjmgmdaaFrGet
import Derived.Test.YtbdlncfdjmgmdaaFrPut
namespace Go.Proofs.Ytbdlncfdjmgmdaa
open Go.RowKit

/-- What Put answers. -/
def putP (s : ByteArray) : ByteArray × Int := if s.size < 1 ∨ 60 < s.size then (⟨#[]⟩, 800) else (putS s, 0)
theorem putP_bad {s : ByteArray} (h : s.size < 1 ∨ 60 < s.size) : putP s = (⟨#[]⟩, 800) := if_pos h
theorem putP_ok {s : ByteArray} (h : ¬ (s.size < 1 ∨ 60 < s.size)) : putP s = (putS s, 0) := if_neg h
theorem put_pair (s x : ByteArray) (z : Int) (h : putP s = (x, z)) (w : World) :
    Calls Try.prog 8 #[.string s] w fun e w' => e = .returned (.tuple #[.string x, .int .i64 z]) ∧ Below w.heap.size w w' := by
  by_cases hs : s.size < 1 ∨ 60 < s.size
  · rw [putP_bad hs] at h
    injection h with h1 h2
    subst h1; subst h2
    exact (put_bad s w hs).mono fun e w' ⟨he, hw⟩ => ⟨he, hw ▸ Below.refl _ _⟩
  · rw [putP_ok hs] at h
    injection h with h1 h2
    subst h1; subst h2
    exact put_ok s w (by omega) (by omega)
theorem rput_pair (s x : ByteArray) (z : Int) (h : putP s = (x, z)) (w : World) :
    Calls Try.prog 9 #[.string s] w fun e w' => e = .returned (.tuple #[.string x, .int .i64 z]) ∧ Below w.heap.size w w' := by
  by_cases hs : s.size < 1 ∨ 60 < s.size
  · rw [putP_bad hs] at h
    injection h with h1 h2
    subst h1; subst h2
    exact (rput_bad s w hs).mono fun e w' ⟨he, hw⟩ => ⟨he, hw ▸ Below.refl _ _⟩
  · rw [putP_ok hs] at h
    injection h with h1 h2
    subst h1; subst h2
    exact rput_ok s w (by omega) (by omega)

/-- Put, Get, Sum of bytes that are written out. -/
theorem put_lit (d : Array UInt8) (r : List UInt8) (hd : ¬ (d.size < 1 ∨ 60 < d.size)) (h : putL d.toList = r) (w : World) :
    Calls Try.prog 8 #[.string ⟨d⟩] w fun e w' => e = .returned (.tuple #[.string ⟨r.toArray⟩, .int .i64 0]) ∧ Below w.heap.size w w' := by
  subst h
  exact put_pair ⟨d⟩ _ _ (putP_ok hd) w
theorem get_lit (d : Array UInt8) (a : Int) (x : List UInt8) (y z : Int) (h : getF d.toList a = (⟨x.toArray⟩, y, z)) (hs : d.size ≤ 1000) (w : World) :
    Calls Try.prog 10 #[.string ⟨d⟩, .int .i64 a] w fun e w' => e = .returned (.tuple #[.string ⟨x.toArray⟩, .int .i64 y, .int .i64 z]) ∧ Below w.heap.size w w' :=
  get_tri ⟨d⟩ a _ y z h (show d.size ≤ 140737488355328 by omega) w
theorem sum_lit (d : Array UInt8) (x : Nat) (h : sumL d.toList = x) (hs : d.size ≤ 1000) (w : World) :
    Calls Try.prog 13 #[.string ⟨d⟩] w fun e w' => e = .returned (.int .i64 x) ∧ w = w' := by
  have h2 := sum_any ⟨d⟩ (show d.size ≤ maxLen by unfold maxLen; omega) w
  rw [show (ByteArray.mk d).data.toList = d.toList from rfl, h] at h2
  exact h2

theorem getF_x {l b : List UInt8} {a : Int} {n k e : Nat} (ha : a = n) (hn : n ≤ l.length) (h : getL (l.drop n) = (b, k, e)) (y : Int) (hy : y = if e = 0 then a + k else 0) (he : e = 0 ∨ b = []) : getF l a = ((⟨b.toArray⟩ : ByteArray), y, (e : Int)) := by
  subst ha
  by_cases h0 : e = 0
  · subst h0
    rw [getF_ok hn h, hy]; rfl
  · rw [getF_err hn h0 h, hy, if_neg h0]
    rcases he with he | rfl
    · exact absurd he h0
    · rfl

theorem put_a1 : putL [49, 50, 51, 52, 53, 54, 55, 56, 57] = [181, 9, 49, 50, 51, 52, 53, 54, 55, 56, 57, 245, 244] := by decide +kernel
theorem get_a1 : getF [122, 181, 9, 49, 50, 51, 52, 53, 54, 55, 56, 57, 245, 244, 113] 1 = (⟨[49, 50, 51, 52, 53, 54, 55, 56, 57].toArray⟩, 14, 0) := getF_x (n := 1) (k := 13) rfl (by decide) (by decide +kernel) _ (by decide) (.inl rfl)
theorem get_a2 : getF [122] 0 = (⟨([] : List UInt8).toArray⟩, 0, 800) := getF_x (n := 0) (k := 0) rfl (by decide) (by decide +kernel) _ (by decide) (.inr rfl)
theorem get_a3 : getF [181] 0 = (⟨([] : List UInt8).toArray⟩, 0, 801) := getF_x (n := 0) (k := 0) rfl (by decide) (by decide +kernel) _ (by decide) (.inr rfl)
theorem sum_a1 : sumL [49, 50, 51, 52, 53, 54, 55, 56, 57] = 10673 := by decide +kernel
theorem sum_a2 : sumL [] = 65535 := by decide +kernel

set_option maxRecDepth 100000 in
set_option maxHeartbeats 1000000 in
theorem awake_any (w : World) :
    Calls Try.prog 15 #[] w fun e w' => e = .returned (.bool true) ∧ Below w.heap.size w w' := by
  have P1 := Lib.hid (fun w : World => put_lit #[49, 50, 51, 52, 53, 54, 55, 56, 57] _ (by decide) put_a1 w)
  have P2 := Lib.hid (fun w : World => put_pair ⟨#[]⟩ _ _ (putP_bad (.inl (by decide))) w)
  have G1 := Lib.hid (fun w : World => get_lit #[122, 181, 9, 49, 50, 51, 52, 53, 54, 55, 56, 57, 245, 244, 113] 1 _ _ _ get_a1 (by decide) w)
  have G2 := Lib.hid (fun w : World => get_lit #[122] 0 _ _ _ get_a2 (by decide) w)
  have G3 := Lib.hid (fun w : World => get_lit #[181] 0 _ _ _ get_a3 (by decide) w)
  have S1 := Lib.hid (fun w : World => sum_lit #[49, 50, 51, 52, 53, 54, 55, 56, 57] _ sum_a1 (by decide) w)
  have S2 := Lib.hid (fun w : World => sum_lit #[] _ sum_a2 (by decide) w)
  have hx : ((⟨#[181, 9, 49, 50, 51, 52, 53, 54, 55, 56, 57, 245, 244]⟩ : ByteArray).extract 0 2).toList = [181, 9] := by rw [ByteArray.toList_eq]; rfl
  go_enter Try.func15, Try.ntmps15
  go_wp2_with fail
  refine (P1.out _).mono ?_; rintro e w1 ⟨rfl, b1⟩
  go_wp2_with fail
  refine (G1.out _).mono ?_; rintro e w2 ⟨rfl, b2⟩
  go_wp2_with fail
  refine (G2.out _).mono ?_; rintro e w3 ⟨rfl, b3⟩
  go_wp2_with fail
  refine (G3.out _).mono ?_; rintro e w4 ⟨rfl, b4⟩
  go_wp2_with fail
  refine (P2.out _).mono ?_; rintro e w5 ⟨rfl, b5⟩
  have b12 := b1.trans (b2.mono b1.size)
  have b13 := b12.trans (b3.mono b12.size)
  have b14 := b13.trans (b4.mono b13.size)
  have b15 := b14.trans (b5.mono b14.size)
  clear b1 b2 b3 b4 b5 b12 b13 b14
  go_wp2_with fail
  refine (S1.out _).mono ?_; rintro e w' ⟨rfl, rfl⟩
  go_wp2_with fail
  refine (S2.out _).mono ?_; rintro e w' ⟨rfl, rfl⟩
  go_wp2_with (go_at_call 12; refine (num_any _ _).mono ?_; rintro e w' ⟨rfl, rfl⟩)
  go_ret
  exact ⟨rfl, b15⟩

end Go.Proofs.Ytbdlncfdjmgmdaa
