/- Chapter 2: the functions of numbers, both ways. -/
import Derived.Test.YtbgdhiieeegnjacK0
import Derived.Test.YtbgdhiieeegnjacC1
namespace Go.Proofs.Ytbgdhiieeegnjac
open Go Go.RowKit RM

/-- a number and whether there is one; the world is as it was -/
def QI (w : World) (r : Int) (ok : Bool) (e : Ending) (w' : World) : Prop := e = .returned (.tuple #[.int .i64 r, .bool ok]) ∧ w = w'

/-- a number and whether there is one; nothing that was there is written -/
def QB0 (w : World) (r : Int) (ok : Bool) (e : Ending) (w' : World) : Prop := e = .returned (.tuple #[.int .i64 r, .bool ok]) ∧ Below w.heap.size w w'














end Go.Proofs.Ytbgdhiieeegnjac
