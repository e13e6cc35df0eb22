/-
  Walk: Frames: any text, any place, as the document says.
-/
import Derived.Test.YtbdlncfdjmgmdaaFrAwake
import Derived.Test.YtbdlncfdjmgmdaaFrRGet
import Derived.OpenShut
namespace Go.Proofs.Ytbdlncfdjmgmdaa
open Go.RowKit

set_option maxRecDepth 100000 in
set_option maxHeartbeats 1000000 in
theorem frames_any (s : ByteArray) (a : Int) (w : World) (hs : s.size ≤ 140737488351232) (_ : (Lit.int .i64 a).wf = true) :
    Calls Try.prog 3 #[.string s, .int .i64 a] w fun e w' => e = .returned (.bool true) ∧ Below w.heap.size w w' := by
  have HA := Lib.hid (fun w : World => awake_any w)
  have hm : s.size ≤ 140737488355328 := by omega
  have hM : s.size ≤ maxLen := by unfold maxLen; omega
  obtain ⟨p, q, r, hT⟩ : ∃ p q r, getF s.data.toList a = (p, q, r) := ⟨_, _, _, rfl⟩
  obtain ⟨u, v, hU⟩ : ∃ u v, putP s = (u, v) := ⟨_, _, rfl⟩
  have HG := Lib.hid (fun w : World => get_tri s a p q r hT hm w)
  have HR := Lib.hid (fun w : World => rget_tri s a p q r hT hm w)
  have HP := Lib.hid (fun w : World => put_pair s u v hU w)
  have HQ := Lib.hid (fun w : World => rput_pair s u v hU w)
  have HS := Lib.hid (fun w : World => sum_any s hM w)
  have HT := Lib.hid (fun w : World => rsum_any s hM w)
  generalize sumL s.data.toList = X at HS HT
  clear hm hs hM hT hU
  go_enter Try.func3, Try.ntmps3
  go_wp2_with fail
  refine (HP.out _).mono ?_; rintro e w1 ⟨rfl, b1⟩
  go_wp2_with fail
  refine (HQ.out _).mono ?_; rintro e w2 ⟨rfl, b2⟩
  go_wp2_with fail
  refine (HG.out _).mono ?_; rintro e w3 ⟨rfl, b3⟩
  go_wp2_with fail
  refine (HR.out _).mono ?_; rintro e w' ⟨rfl, rfl⟩
  have b12 := b1.trans (b2.mono b1.size)
  have b13 := b12.trans (b3.mono b12.size)
  clear b1 b2 b3 b12
  go_wp2_with (first
    | (go_at_call 12; refine (num_any _ _).mono ?_; rintro e w' ⟨rfl, rfl⟩)
    | (go_at_call 13; refine (HS.out _).mono ?_; rintro e w' ⟨rfl, rfl⟩)
    | (go_at_call 14; refine (HT.out _).mono ?_; rintro e w' ⟨rfl, rfl⟩)
    | (go_at_call 15; refine (HA.out _).mono ?_; rintro e w4 ⟨rfl, b4⟩))
  go_ret
  exact ⟨rfl, b13.trans (b4.mono b13.size)⟩

end Go.Proofs.Ytbdlncfdjmgmdaa
