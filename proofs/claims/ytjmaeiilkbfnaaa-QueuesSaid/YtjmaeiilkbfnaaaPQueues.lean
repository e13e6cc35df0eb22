/-
  The statement Queues, proved: its walks are in the texts it imports; here it is taken in its outer form.
-/
import Derived.Test.YtjmaeiilkbfnaaaRows
import Derived.WalkKit
import Derived.ProofKit
import Derived.OpenShut
import Derived.ShutString
import Derived.ChangeOld
import Derived.Below
import Derived.Test.YtjmaeiilkbfnaaaQ1
import Derived.SizedLaws
import Derived.Test.YtjmaeiilkbfnaaaStQsW
namespace Go.Proofs.Ytjmaeiilkbfnaaa.queues
open Go.ChangeShapes Go.WideShapes Go.ChangeAt Go.RowKit

theorem own : ownKnob Try.prog.godebug = none := by kernel_rfl
theorem laidOut : laidOutB Try.prog = true := by kernel_rfl

set_option maxRecDepth 100000 in
theorem lifted (os : Os) (started : os.Started) (H : Type) (enc : TypeId × Value → H) :
    ReturnsInHanded {} Try.checked os 4 .any (Rows.queuesSpec.pre6 enc Try.prog Try.f4 Rows.queuesRow.domain false) (Rows.queuesSpec.post enc Try.prog Try.f4 false true false false) := by
  refine returnsInHanded_of_change_sized (C := Try.checked) own started (by kernel_rfl) Try.func4
    (ChangeSpec.witness6 (enc := enc) (C := Try.checked) false ⟨#[], #[.slice none 0 0, .slice none 0 0, .slice none 0 0], []⟩ 8 (by kernel_rfl) (by kernel_rfl) (by kernel_rfl) (by kernel_rfl)) ?_
  intro W base args ds gs before hval0 hW hcnd hsz0 _
  have hsz : (DataW.weightsEach Try.prog (Try.f4.params.toList ++ Rows.queuesSpec.plain.varTypes Try.prog) (ds ++ gs)).all (· ≤ reachBytes) = true := hsz0
  have hval : ∀ (j : Nat) t v, Try.f4.params[j]? = some t → args[j]? = some v → Value.okWide Try.prog W .any base t v := hval0
  have hW' := hW
  obtain ⟨p, q, hA0, hV, rfl, hfz, hnd⟩ := hW
  have hA : DataW.TrodAll enc Try.prog W 0 (fun _ => true) true Try.f4.params.toList args.toList ds p := hA0
  rw [Try.params4] at hA hval hsz
  obtain ⟨v0, vs0, d0, ds0, p0, q0, hargs, rfl, rfl, h0, r0⟩ := trodAll_cons hA
  obtain ⟨v1, vs1, d1, ds1, p1, q1, rfl, rfl, rfl, h1, r1⟩ := trodAll_cons r0
  obtain ⟨v2, vs2, d2, ds2, p2, q2, rfl, rfl, rfl, h2, r2⟩ := trodAll_cons r1
  obtain ⟨rfl, rfl, rfl⟩ := trodAll_nil r2
  obtain rfl : args = #[v0, v1, v2] := by cases args; simp_all
  obtain ⟨rfl, rfl⟩ := trodVars_none hV
  have k0 := h0
  have lt0 : ∀ x ∈ p0, x.block < W.heap.size := by obtain ⟨m, hm⟩ := k0; exact DataW.trod_lt m _ _ _ hm
  obtain ⟨A0, n0, c0, rfl⟩ := okWide_slice Try.underlying25 (hval 0 25 v0 rfl rfl)
  have hall0 : ∀ n ∈ d0.weights Try.prog 25, n ≤ 140737488351232 := fun n hn => by
    have hr := List.all_eq_true.1 hsz _ (DataW.weights_mem_each (j := 0) rfl rfl _ hn)
    have hr2 : n ≤ reachBytes := of_decide_eq_true hr
    unfold reachBytes at hr2
    omega
  obtain ⟨xs0, hxs0, hm0, hnil0⟩ := open_bounds h0 (fun _ => rfl) hall0
  have k1 := h1
  have lt1 : ∀ x ∈ p1, x.block < W.heap.size := by obtain ⟨m, hm⟩ := k1; exact DataW.trod_lt m _ _ _ hm
  obtain ⟨A1, n1, c1, rfl⟩ := okWide_slice Try.underlying24 (hval 1 24 v1 rfl rfl)
  have hall1 : ∀ n ∈ d1.weights Try.prog 24, n ≤ 140737488351232 := fun n hn => by
    have hr := List.all_eq_true.1 hsz _ (DataW.weights_mem_each (j := 1) rfl rfl _ hn)
    have hr2 : n ≤ reachBytes := of_decide_eq_true hr
    unfold reachBytes at hr2
    omega
  obtain ⟨xs1, hxs1, hm1⟩ := open_accs h1 (fun _ => rfl) hall1
  have k2 := h2
  have lt2 : ∀ x ∈ p2, x.block < W.heap.size := by obtain ⟨m, hm⟩ := k2; exact DataW.trod_lt m _ _ _ hm
  obtain ⟨A2, n2, c2, rfl⟩ := okWide_slice Try.underlying25 (hval 2 25 v2 rfl rfl)
  have hall2 : ∀ n ∈ d2.weights Try.prog 25, n ≤ 140737488351232 := fun n hn => by
    have hr := List.all_eq_true.1 hsz _ (DataW.weights_mem_each (j := 2) rfl rfl _ hn)
    have hr2 : n ≤ reachBytes := of_decide_eq_true hr
    unfold reachBytes at hr2
    omega
  obtain ⟨xs2, hxs2, hm2, hnil2⟩ := open_bounds h2 (fun _ => rfl) hall2
  clear hA0 hval0
  try simp only [List.append_nil] at hW'
  refine (queues_any A0 n0 c0 xs0 A1 n1 c1 xs1 A2 n2 c2 xs2 W hxs0 hm0 hnil0 hxs1 hm1 hxs2 hm2 hnil2).mono fun e W' ⟨he, bel⟩ => ?_
  subst he
  exact ⟨_, rfl, _, _, _, [], _, [], hW', trodAll_mk1 (shut_bool Try.underlying4 _), (trodAll_cons_mk (Below.trod laidOut (by kernel_rfl) (of_decide_eq_true (by kernel_rfl)) k0 bel lt0) (trodAll_cons_mk (Below.trod laidOut (by kernel_rfl) (of_decide_eq_true (by kernel_rfl)) k1 bel lt1) (trodAll_cons_mk (Below.trod laidOut (by kernel_rfl) (of_decide_eq_true (by kernel_rfl)) k2 bel lt2) trodAll_mk0))), rfl, bel.frame _, fun h => by cases h⟩

theorem over : Rows.queuesRow.holds Try.pinned (OpenSpec.ofChange Rows.queuesSpec) :=
  OpenClaim.holds_of_wide 4 Try.f4 rfl rfl rfl rfl rfl rfl rfl ⟨rfl, rfl, rfl, rfl, rfl⟩ rfl rfl rfl rfl rfl (by kernel_rfl) Try.func4 (by kernel_rfl)
    (of_decide_eq_true (by kernel_rfl)) (by unfold Func.isWrapper; first | (rw [if_pos (by decide +kernel)]; kernel_rfl) | (rw [if_neg (by decide +kernel)]; exact ⟨rfl, rfl⟩))
    (fun os started H enc _ => lifted os started H enc)

theorem proved : Rows.QueuesSaid :=
  over
end Go.Proofs.Ytjmaeiilkbfnaaa.queues
