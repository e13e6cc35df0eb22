/-
  What the reference's Windows leans on.
-/
import Derived.Test.YtkbocjmdbfddhaaWOf
import Derived.Test.YtkbocjmdbfddhaaWFRef
import Derived.Test.YtkbocjmdbfddhaaRef
import Derived.Test.YtkbocjmdbfddhaaWQMay
namespace Go.Proofs.Ytkbocjmdbfddhaa
open Go.RowKit

end Go.Proofs.Ytkbocjmdbfddhaa
