/-
  Walk: Varints: any number, bytes, place, as the document says.
-/
import Derived.Test.YthkjgmlkighdnaaVAwake
import Derived.Test.YthkjgmlkighdnaaVRGet
import Derived.OpenShut
namespace Go.Proofs.Ythkjgmlkighdnaa
open Go.RowKit

set_option maxRecDepth 100000 in
set_option maxHeartbeats 1000000 in
theorem varints_any (x : Int) (s : ByteArray) (a : Int) (w : World) (wx : (Lit.int .i64 x).wf = true) (hs : s.size ≤ 140737488351232) (_ : (Lit.int .i64 a).wf = true) :
    Calls Try.prog 3 #[.int .i64 x, .string s, .int .i64 a] w fun e w' => e = .returned (.bool true) ∧ Below w.heap.size w w' := by
  obtain ⟨lx, ux⟩ := bounds_i64 wx
  have HA := Lib.hid (fun w : World => awake_any w)
  have hm : s.size ≤ maxLen := by unfold maxLen; omega
  obtain ⟨p, q, r, hT⟩ : ∃ p q r, getT s.data.toList a = (p, q, r) := ⟨_, _, _, rfl⟩
  have HG := Lib.hid (fun w : World => get_tri s a p q r hT hm w)
  have HR := Lib.hid (fun w : World => rget_tri s a p q r hT hm w)
  have HP := Lib.hid (fun w : World => put_any x lx ux w)
  have HQ := Lib.hid (fun w : World => rput_any x lx ux w)
  generalize encS x = E at HP HQ
  clear hm hs lx ux wx hT
  go_enter Try.func3, Try.ntmps3
  go_wp2_with fail
  refine (HG.out _).mono ?_; rintro e w' ⟨rfl, rfl⟩
  go_wp2_with fail
  refine (HR.out _).mono ?_; rintro e w' ⟨rfl, rfl⟩
  go_wp2_with fail
  refine (HP.out _).mono ?_; rintro e w1 ⟨rfl, b1⟩
  go_wp2_with fail
  refine (HQ.out _).mono ?_; rintro e w2 ⟨rfl, b2⟩
  go_wp2_with (first
    | (go_at_call 11; refine (num_any _ _).mono ?_; rintro e w' ⟨rfl, rfl⟩)
    | (go_at_call 12; refine (HA.out _).mono ?_; rintro e w3 ⟨rfl, b3⟩))
  go_ret
  exact ⟨rfl, (b1.trans (b2.mono b1.size)).trans (b3.mono (Nat.le_trans b1.size b2.size))⟩

end Go.Proofs.Ythkjgmlkighdnaa
