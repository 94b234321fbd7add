/- strings.Clone of the library: the shelf's contract, laid at this program. -/
import Derived.Shelf.Pu.Clone
import Derived.Test.YtbeciklnknkilaaBase0
namespace Go.Proofs.Ytbeciklnknkilaa
open Go.Shelf Go.RowKit
end Go.Proofs.Ytbeciklnknkilaa
