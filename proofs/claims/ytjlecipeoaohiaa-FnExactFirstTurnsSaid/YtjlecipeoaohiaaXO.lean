/- CanTurn, by the program. -/
import Derived.Test.YtjlecipeoaohiaaXN
namespace Go.Proofs.Ytjlecipeoaohiaa
open Go Go.RowKit RM
end Go.Proofs.Ytjlecipeoaohiaa
