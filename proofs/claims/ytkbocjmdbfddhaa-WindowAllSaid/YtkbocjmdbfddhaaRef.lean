/-
  Walks of the reference's leaves: within, ItemMay, Before, BoundsMay.
-/
import Derived.Test.YtkbocjmdbfddhaaBucket
import Derived.Test.YtkbocjmdbfddhaaPlain
import Derived.Test.YtkbocjmdbfddhaaRfB
import Derived.Test.YtkbocjmdbfddhaaRIt
import Derived.Test.YtkbocjmdbfddhaaRBef
namespace Go.Proofs.Ytkbocjmdbfddhaa
open Go.RowKit

end Go.Proofs.Ytkbocjmdbfddhaa
