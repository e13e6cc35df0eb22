/-
  The law for regions whose calls write scanners, where later operations know that they did.
-/
import Derived.Test.YtoechlmahckchaaScTwo
import Derived.Test.YtoechlmahckchaaHeadN
namespace Go.Proofs.Ytoechlmahckchaa
open Go.RowKit

theorem region_twoL {Q : Exit → Act → World → Prop} {a0 : Act} {w0 : World} {id : Nat} {l : List Oper} (gs : List Nat) (I : Bool → Bool → World → Prop) (q1 q2 : Nat) (fs : List Fact) (D : List (Option Tmp)) (N n : Nat) (hn : a0.tmps.size = n) (hm : Try.prog.follows .mixedOrders = true) (hbook : bookB2 l n = true) (hD : l.map (·.dst) = D) (htail : tailB l N = true) (ls : List Nat) (hlate : lateOk l (if q2 < N then q2 else q1) ls = true)
    (hqN : q1 < N) (hq12 : q1 < q2) (hqq : (((l[q2]?).map fun o => o.after.any fun e => Region.binds .any e && e.on == q1) == some false) = false)
    (hI : ∀ b1 b2 w w', I b1 b2 w → Below w.heap.size w w' → I b1 b2 w') (h0 : I false false w0)
    (mono : ∀ f ∈ fs, Mono f) (monoS : ∀ f ∈ fs, MonoS gs f)
    (hstep : AllOps (fun j o => ∀ (a : Act) (w : World) (b1 b2 : Bool), (j = q1 → b1 = false ∧ b2 = false) → (j = q2 → b1 = true ∧ b2 = false) → (j ∈ ls → b1 = true ∧ (q2 < N → b2 = true)) → MI gs I w0 b1 b2 w → FrD (D.take N) a0 a → needs D fs a w o.after.toList → AskM Try.prog D (factAt fs j) (ButS gs) (ButS gs) (MI gs I w0) q1 q2 j o a w) 0 (l.take N))
    (hend : ∀ (a : Act) (w : World), MI gs I w0 true (decide (q2 < N)) w → FrD (D.take N) a0 a → (∀ j d, j < N → D[j]? = some d → factAt fs j (slotOf a d) w) → wpList Try.prog l.toArray Q (l.drop N) a w) :
    (Code.region id l.toArray true).wp Try.prog Q a0 w0 :=
  region_headN (ButS gs) (ButS gs) (MI gs I w0) q1 q2 fs D N n hn hm hbook hD htail ls hlate (fun w => ButS.refl gs w) (fun w => ButS.refl gs w) hqN hq12 (fun e => by rw [e] at hqq; simp at hqq)
    (fun b1 b2 w w' h hb => ⟨h.gr.trans (below_butS hb gs), hI b1 b2 w w' h.st hb⟩) ⟨below_butS (Below.drew (Below.refl _ _)) gs, hI _ _ _ _ h0 (Below.drew (Below.refl _ _))⟩ mono (fun j _ => factS_at monoS j) (fun j _ => factS_at monoS j) hstep hend

end Go.Proofs.Ytoechlmahckchaa
