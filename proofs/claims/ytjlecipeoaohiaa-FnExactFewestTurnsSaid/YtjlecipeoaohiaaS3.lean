import Derived.Test.YtjlecipeoaohiaaS2
namespace Go.Proofs.Ytjlecipeoaohiaa
open Go Go.RowKit RM


theorem tx_zero (x : Nat) : tx 0 x = [] := rfl

end Go.Proofs.Ytjlecipeoaohiaa
