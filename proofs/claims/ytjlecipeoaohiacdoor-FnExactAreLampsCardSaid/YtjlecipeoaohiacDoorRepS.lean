/- slices.Repeat of the library at texts: one text, so many times. -/
import Derived.Test.YtjlecipeoaohiacDoorRep
import Derived.Test.YtjlecipeoaohiacDoorV1
import Derived.Laws.CopyRow
import Derived.Laws.CopyOwn
namespace Go.Proofs.YtjlecipeoaohiacDoor
open Go Go.RowKit RM
def rrow (y z : Value) (k m : Nat) : Array Value := (List.replicate k y ++ List.replicate m z).toArray
theorem rrow_size (y z : Value) (k m : Nat) : (rrow y z k m).size = k + m := by simp [rrow]
end Go.Proofs.YtjlecipeoaohiacDoor
