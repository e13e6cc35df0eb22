/-
  Walks of the reference's leaves: within, ItemMay, Before, BoundsMay.
-/
import Derived.Test.YtjmaeiilkbfnaaaBucket
import Derived.Test.YtjmaeiilkbfnaaaPlain
import Derived.Test.YtjmaeiilkbfnaaaRfB
import Derived.Test.YtjmaeiilkbfnaaaRIt
import Derived.Test.YtjmaeiilkbfnaaaRBef
namespace Go.Proofs.Ytjmaeiilkbfnaaa
open Go.RowKit

end Go.Proofs.Ytjmaeiilkbfnaaa
