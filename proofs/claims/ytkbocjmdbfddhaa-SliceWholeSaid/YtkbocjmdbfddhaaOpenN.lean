/-
  A cell that stands in memory is no named spot. (Out of XOpen.)
-/
import Derived.Test.YtkbocjmdbfddhaaProg
import Derived.Test.YtkbocjmdbfddhaaMem
import Derived.ProofKit
import Derived.OpenShut
import Derived.ChangeOld
import Derived.Lib.SmallJoins
namespace Go.Proofs.Ytkbocjmdbfddhaa
open Go.ChangeShapes Go.WideShapes Go.ChangeAt Go.RowKit Go.Joins Go.Deep

theorem spot_none {w : World} {x : Addr} {v : Value} (h : w.cell? x = some v) : x.spot = none := by
  unfold World.cell? at h
  split at h
  · cases e : x.spot with
    | none => rfl
    | some y => rw [e] at h; simp at h
  · cases h

end Go.Proofs.Ytkbocjmdbfddhaa
