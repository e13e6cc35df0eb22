/-
  Walk: the floor laws' first look.
-/
import Derived.Test.YtdpjmkpgphgleabFloor
import Derived.Test.YtdpjmkpgphgleabFMask
import Derived.OpenShut
namespace Go.Proofs.Ytdpjmkpgphgleab
open Go.RowKit

set_option maxHeartbeats 1000000 in
theorem awake_any (w : World) :
    Calls Try.prog 21 #[] w fun e w' => e = .returned (.bool true) ∧ ∃ k, w' = w.drewN k := by
  go_enter Try.func21, Try.ntmps21
  go_wp2_with fail
  refine (div_ok (-7) 2 (-4) (by omega) (by omega) (by omega) (by decide) _).mono ?_
  rintro e w' ⟨rfl, rfl⟩
  go_wp2_with fail
  refine (mod_ok (-7) 2 1 (by omega) (by omega) (by decide) _).mono ?_
  rintro e w' ⟨rfl, rfl⟩
  go_wp2_with fail
  refine (gcd_ok 12 18 6 (by omega) (by omega) (by omega) (by omega) (by decide) _).mono ?_
  rintro e w' ⟨rfl, k, rfl⟩
  go_wp2_with fail
  refine (div_bad 1 0 (by omega) _).mono ?_
  rintro e w' ⟨rfl, rfl⟩
  go_wp2_with fail
  refine (gcd_bad1 0 1 (by omega) _).mono ?_
  rintro e w' ⟨rfl, rfl⟩
  go_wp2_with (go_at_call 14; refine (num_any _ _).mono ?_; rintro e w' ⟨rfl, rfl⟩)
  go_ret
  exact ⟨rfl, k, rfl⟩

end Go.Proofs.Ytdpjmkpgphgleab
