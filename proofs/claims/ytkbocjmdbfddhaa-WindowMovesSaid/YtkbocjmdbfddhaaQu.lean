/-
  A query, as its parts. No program here.
-/
import Derived.Test.YtkbocjmdbfddhaaPure
namespace Go.Proofs.Ytkbocjmdbfddhaa
open Go.RowKit

/-- A query. -/
structure Qu where
  kind : Int
  agg : Int
  size : Int
  slide : Int
  bs : List Int
  rank : Int
def quC (q : Qu) (B : Option Addr) (m d : Nat) : Array Value := #[.int .i64 q.kind, .int .i64 q.agg, .int .i64 q.size, .int .i64 q.slide, .slice B m d, .int .i64 q.rank]

end Go.Proofs.Ytkbocjmdbfddhaa
