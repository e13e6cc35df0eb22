/-
  Walk: Floors: any two numbers, as the document says.
-/
import Derived.Test.YtdpjmkpgphgleabFAwake
import Derived.Test.YtdpjmkpgphgleabFRef
namespace Go.Proofs.Ytdpjmkpgphgleab
open Go.RowKit

set_option maxHeartbeats 4000000 in
theorem floors_any (a0 a1 : Int) (w0 : (Lit.int .i64 a0).wf = true) (w1 : (Lit.int .i64 a1).wf = true) (w : World) :
    Calls Try.prog 4 #[.int .i64 a0, .int .i64 a1] w fun e w' => e = .returned (.bool true) ∧ Below w.heap.size w w' := by
  obtain ⟨l0, u0⟩ := bounds_i64 w0
  obtain ⟨l1, u1⟩ := bounds_i64 w1
  have HA : Hid (∀ w : World, Calls Try.prog 21 #[] w fun e w' => e = .returned (.bool true) ∧ ∃ k, w' = w.drewN k) := awake_any
  by_cases hb : a1 < 1
  · go_enter Try.func4, Try.ntmps4
    go_wp2_with (first
      | (go_at_call 15; refine (div_bad _ _ hb _).mono ?_; rintro e w' ⟨rfl, rfl⟩)
      | (go_at_call 16; refine (rdiv_bad _ _ hb _).mono ?_; rintro e w' ⟨rfl, rfl⟩)
      | (go_at_call 17; refine (mod_bad _ _ hb _).mono ?_; rintro e w' ⟨rfl, rfl⟩)
      | (go_at_call 18; refine (rmod_bad _ _ hb _).mono ?_; rintro e w' ⟨rfl, rfl⟩)
      | (go_at_call 19; refine (gcd_bad2 _ _ hb _).mono ?_; rintro e w' ⟨rfl, rfl⟩)
      | (go_at_call 20; refine (rgcd_bad2 _ _ hb _).mono ?_; rintro e w' ⟨rfl, rfl⟩)
      | (go_at_call 14; refine (num_any _ _).mono ?_; rintro e w' ⟨rfl, rfl⟩)
      | (go_at_call 21; refine (HA.out _).mono ?_; rintro e w' ⟨rfl, k, rfl⟩))
    go_ret
    exact ⟨rfl, below_drewN (Below.refl _ _) _⟩
  · have hb1 : 1 ≤ a1 := by omega
    obtain ⟨q, hq⟩ : ∃ q, a0 / a1 = q := ⟨_, rfl⟩
    obtain ⟨r, hr⟩ : ∃ r, a0 % a1 = r := ⟨_, rfl⟩
    have C1 := Lib.hid (fun w => div_ok a0 a1 q l0 u0 hb1 hq w)
    have C2 := Lib.hid (fun w => rdiv_ok a0 a1 q l0 u0 hb1 hq w)
    have C3 := Lib.hid (fun w => mod_ok a0 a1 r hb1 u1 hr w)
    have C4 := Lib.hid (fun w => rmod_ok a0 a1 r hb1 u1 hr w)
    clear hq hr
    by_cases ha : a0 < 1
    · go_enter Try.func4, Try.ntmps4
      go_wp2_with (first
        | (go_at_call 15; refine (C1.out _).mono ?_; rintro e w' ⟨rfl, rfl⟩)
        | (go_at_call 16; refine (C2.out _).mono ?_; rintro e w' ⟨rfl, rfl⟩)
        | (go_at_call 17; refine (C3.out _).mono ?_; rintro e w' ⟨rfl, rfl⟩)
        | (go_at_call 18; refine (C4.out _).mono ?_; rintro e w' ⟨rfl, rfl⟩)
        | (go_at_call 19; refine (gcd_bad1 _ _ ha _).mono ?_; rintro e w' ⟨rfl, rfl⟩)
        | (go_at_call 20; refine (rgcd_bad1 _ _ ha _).mono ?_; rintro e w' ⟨rfl, rfl⟩)
        | (go_at_call 14; refine (num_any _ _).mono ?_; rintro e w' ⟨rfl, rfl⟩)
        | (go_at_call 21; refine (HA.out _).mono ?_; rintro e w' ⟨rfl, k, rfl⟩))
      go_ret
      exact ⟨rfl, below_drewN (Below.refl _ _) _⟩
    · have ha1 : 1 ≤ a0 := by omega
      obtain ⟨g, hg⟩ : ∃ g, gcdI a0 a1 = g := ⟨_, rfl⟩
      have C5 := Lib.hid (fun w => gcd_ok a0 a1 g ha1 u0 hb1 u1 hg w)
      have C6 := Lib.hid (fun w => rgcd_ok a0 a1 g ha1 u0 hb1 u1 hg w)
      clear hg
      go_enter Try.func4, Try.ntmps4
      go_wp2_with (first
        | (go_at_call 15; refine (C1.out _).mono ?_; rintro e w' ⟨rfl, rfl⟩)
        | (go_at_call 16; refine (C2.out _).mono ?_; rintro e w' ⟨rfl, rfl⟩)
        | (go_at_call 17; refine (C3.out _).mono ?_; rintro e w' ⟨rfl, rfl⟩)
        | (go_at_call 18; refine (C4.out _).mono ?_; rintro e w' ⟨rfl, rfl⟩)
        | (go_at_call 19; refine (C5.out _).mono ?_; rintro e w' ⟨rfl, k5, rfl⟩)
        | (go_at_call 20; refine (C6.out _).mono ?_; rintro e w' ⟨rfl, k6, rfl⟩)
        | (go_at_call 14; refine (num_any _ _).mono ?_; rintro e w' ⟨rfl, rfl⟩)
        | (go_at_call 21; refine (HA.out _).mono ?_; rintro e w' ⟨rfl, k, rfl⟩))
      go_ret
      exact ⟨rfl, below_drewN (Below.refl _ _) _⟩

end Go.Proofs.Ytdpjmkpgphgleab
