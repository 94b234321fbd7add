import Derived.Test.YthddgnimkbjadaaDoorS2
namespace Go.Proofs.YthddgnimkbjadaaDoor
open Go Go.RowKit RM


theorem tx_zero (x : Nat) : tx 0 x = [] := rfl

end Go.Proofs.YthddgnimkbjadaaDoor
