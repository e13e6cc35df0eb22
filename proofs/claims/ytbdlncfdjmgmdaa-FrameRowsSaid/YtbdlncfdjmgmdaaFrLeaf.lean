/-
  Walks of package frame's leaves: next, sumTold, headFits; rules.Within; the helper Num.
-/
import Derived.Test.YtbdlncfdjmgmdaaProg
import Derived.Test.YtbdlncfdjmgmdaaFrP
import Derived.WalkKit
import Derived.WalkSpells
import Derived.WalkLawsBesides
import Derived.BigQuiet
import Derived.Deep.QuietTactic
import Derived.Below
import Derived.Laws.Bits64
import Derived.Laws.Bits64b
namespace Go.Proofs.Ytbdlncfdjmgmdaa
open Go.RowKit

theorem ret_v {k : IntKind} {a b : Int} (h : a = b) : Ending.returned (.int k a) = .returned (.int k b) := by rw [h]
theorem drop_at (s : ByteArray) (j : Nat) (h : j < s.size) : s.data.toList.drop j = s[j] :: s.data.toList.drop (j + 1) := by
  rw [List.drop_eq_getElem_cons (by simpa using h)]; rfl

set_option maxHeartbeats 400000 in
theorem num_any (n : Int) (w : World) :
    Calls Try.prog 12 #[.int .i64 n] w fun e w' => e = .returned (.int .i64 n) ∧ w = w' := by
  go_enter Try.func12, Try.ntmps12
  go_wp2
  go_ret
  exact ⟨rfl, rfl⟩

set_option maxHeartbeats 400000 in
theorem within_yes (n lo hi : Int) (w : World) (h1 : lo ≤ n) (h2 : n ≤ hi) :
    Calls Try.prog 16 #[.int .i64 n, .int .i64 lo, .int .i64 hi] w fun e w' => e = .returned (.bool true) ∧ w = w' := by
  go_enter Try.func16, Try.ntmps16
  go_wp2
  go_ret
  exact ⟨rfl, rfl⟩
set_option maxHeartbeats 400000 in
theorem within_no (n lo hi : Int) (w : World) (h : n < lo ∨ hi < n) :
    Calls Try.prog 16 #[.int .i64 n, .int .i64 lo, .int .i64 hi] w fun e w' => e = .returned (.bool false) ∧ w = w' := by
  by_cases h1 : lo ≤ n
  · have h2 : ¬ n ≤ hi := by omega
    go_enter Try.func16, Try.ntmps16
    go_wp2
    go_ret
    exact ⟨rfl, rfl⟩
  · go_enter Try.func16, Try.ntmps16
    go_wp2
    go_ret
    exact ⟨rfl, rfl⟩

set_option maxHeartbeats 400000 in
theorem next_any (x : Nat) (h : x < 65536) (w : World) :
    Calls Try.prog 20 #[.int .u16 x] w fun e w' => e = .returned (.int .u16 (nxt x)) ∧ w = w' := by
  have hn := nxt_u16 h
  go_enter Try.func20, Try.ntmps20
  go_wp2
  go_ret
  exact ⟨rfl, rfl⟩

theorem told_bits {h l : Nat} (hh : h < 256) (hl : l < 256) : bits .or .i64 ((h : Int) * 256) (l : Int) = ((h * 256 + l : Nat) : Int) := by
  have hj := bits_join .i64 63 (by decide) (fun n h0 h1 => by rw [IntKind.wrap_i64]; omega) 8 ((h : Int) * 256) l (by omega) (by omega) (by omega) (by omega) (by omega) (by omega)
  omega
set_option maxHeartbeats 400000 in
theorem told_at (s : ByteArray) (h l : UInt8) (h2 : 2 ≤ s.size) (eh : s[0] = h) (el : s[1] = l) (w : World) :
    Calls Try.prog 18 #[.string s] w fun e w' => e = .returned (.int .i64 ((h.toNat * 256 + l.toNat : Nat) : Int)) ∧ ∃ m, w' = w.drewN m := by
  subst eh; subst el
  have hb := told_bits s[0].toNat_lt s[1].toNat_lt
  have h0 : 0 < s.size := by omega
  have h1 : 1 < s.size := by omega
  have h1' : (1 : Int) < (s.size : Int) := by omega
  go_enter Try.func18, Try.ntmps18
  go_wp2_with fail
  go_quiet (fail)
  go_wp2_with fail
  go_ret
  refine ⟨ret_v ?_, _, rfl⟩
  rw [← hb]
  have hl0 := s[0].toNat_lt
  have hl1 := s[1].toNat_lt
  rw [show wrap64 (s[0].toNat : Int) = s[0].toNat by unfold wrap64; omega, show wrap64 (s[1].toNat : Int) = s[1].toNat by unfold wrap64; omega, show wrap64 ((s[0].toNat : Int) * 256) = (s[0].toNat : Int) * 256 by unfold wrap64; omega]

theorem told_any (s : ByteArray) (h l : UInt8) (t : List UInt8) (hl : s.data.toList = h :: l :: t) (w : World) :
    Calls Try.prog 18 #[.string s] w fun e w' => e = .returned (.int .i64 ((h.toNat * 256 + l.toNat : Nat) : Int)) ∧ ∃ m, w' = w.drewN m := by
  have hz : s.size = t.length + 2 := by
    have h1 : s.data.toList.length = s.size := by simp
    rw [← h1, hl]; simp
  have e0 := drop_at s 0 (by omega)
  have e1 := drop_at s 1 (by omega)
  rw [hl] at e0 e1
  simp only [List.drop_zero, List.drop_succ_cons, List.cons.injEq] at e0 e1
  exact told_at s h l (by omega) e0.1.symm e1.1.symm w

set_option maxHeartbeats 400000 in
theorem fits_nil (s : ByteArray) (h0 : s.size = 0) (w : World) :
    Calls Try.prog 17 #[.string s] w fun e w' => e = .returned (.bool true) ∧ w = w' := by
  have hb : (((s.size : Nat) : Int) == 0) = true := by simp [h0]
  go_enter Try.func17, Try.ntmps17
  go_wp2_with fail
  go_ret
  exact ⟨rfl, rfl⟩
set_option maxHeartbeats 400000 in
theorem fits_mark (s : ByteArray) (h0 : 0 < s.size) (hm : ¬ s[0].toNat = 181) (w : World) :
    Calls Try.prog 17 #[.string s] w fun e w' => e = .returned (.bool false) ∧ w = w' := by
  have hb : (((s.size : Nat) : Int) == 0) = false := by rw [beq_eq_false_iff_ne]; omega
  have hc : ((s[0].toNat : Int) == 181) = false := by rw [beq_eq_false_iff_ne]; omega
  go_enter Try.func17, Try.ntmps17
  go_wp2_with fail
  go_ret
  exact ⟨rfl, rfl⟩
set_option maxHeartbeats 400000 in
theorem fits_one (s : ByteArray) (h0 : s.size = 1) (hm : s[0].toNat = 181) (w : World) :
    Calls Try.prog 17 #[.string s] w fun e w' => e = .returned (.bool true) ∧ w = w' := by
  have hb : (((s.size : Nat) : Int) == 0) = false := by rw [beq_eq_false_iff_ne]; omega
  have hc : ((s[0].toNat : Int) == 181) = true := by rw [hm]; rfl
  have hl : 0 < s.size := by omega
  go_enter Try.func17, Try.ntmps17
  go_wp2_with fail
  go_ret
  exact ⟨rfl, rfl⟩
set_option maxHeartbeats 400000 in
theorem fits_yes (s : ByteArray) (h0 : 2 ≤ s.size) (hm : s[0].toNat = 181) (hk : 1 ≤ s[1].toNat ∧ s[1].toNat ≤ 60) (w : World) :
    Calls Try.prog 17 #[.string s] w fun e w' => e = .returned (.bool true) ∧ w = w' := by
  have hb : (((s.size : Nat) : Int) == 0) = false := by rw [beq_eq_false_iff_ne]; omega
  have hc : ((s[0].toNat : Int) == 181) = true := by rw [hm]; rfl
  have hl : 0 < s.size := by omega
  have hl1 : 1 < s.size := by omega
  have hl1' : (1 : Int) < (s.size : Int) := by omega
  have hd : decide ((s.size : Int) ≤ 1) = false := by simp; omega
  have hwr : wrap64 (s[1].toNat : Int) = s[1].toNat := by have := s[1].toNat_lt; unfold wrap64; omega
  have HK : Hid (∀ w, Calls Try.prog 16 #[.int .i64 s[1].toNat, .int .i64 1, .int .i64 60] w fun e w' => e = .returned (.bool true) ∧ w = w') := Lib.hid fun w => within_yes _ _ _ w (by omega) (by omega)
  clear hk hm
  go_enter Try.func17, Try.ntmps17
  go_wp2_with (go_at_call 16; refine (HK.out _).mono ?_; rintro e w' ⟨rfl, rfl⟩)
  go_ret
  exact ⟨rfl, rfl⟩
set_option maxHeartbeats 400000 in
theorem fits_no (s : ByteArray) (h0 : 2 ≤ s.size) (hm : s[0].toNat = 181) (hk : s[1].toNat < 1 ∨ 60 < s[1].toNat) (w : World) :
    Calls Try.prog 17 #[.string s] w fun e w' => e = .returned (.bool false) ∧ w = w' := by
  have hb : (((s.size : Nat) : Int) == 0) = false := by rw [beq_eq_false_iff_ne]; omega
  have hc : ((s[0].toNat : Int) == 181) = true := by rw [hm]; rfl
  have hl : 0 < s.size := by omega
  have hl1 : 1 < s.size := by omega
  have hl1' : (1 : Int) < (s.size : Int) := by omega
  have hd : decide ((s.size : Int) ≤ 1) = false := by simp; omega
  have hwr : wrap64 (s[1].toNat : Int) = s[1].toNat := by have := s[1].toNat_lt; unfold wrap64; omega
  have HK : Hid (∀ w, Calls Try.prog 16 #[.int .i64 s[1].toNat, .int .i64 1, .int .i64 60] w fun e w' => e = .returned (.bool false) ∧ w = w') := Lib.hid fun w => within_no _ _ _ w (by omega)
  clear hk hm
  go_enter Try.func17, Try.ntmps17
  go_wp2_with (go_at_call 16; refine (HK.out _).mono ?_; rintro e w' ⟨rfl, rfl⟩)
  go_ret
  exact ⟨rfl, rfl⟩

end Go.Proofs.Ytbdlncfdjmgmdaa
