/- strings.Repeat of the library: the shelf's contract, laid at this program. -/
import Derived.Shelf.Strings.Repeat
import Derived.Test.YtjlecipeoaohiacDoorH
namespace Go.Proofs.YtjlecipeoaohiacDoor
open Go.Shelf Go.RowKit
end Go.Proofs.YtjlecipeoaohiacDoor
