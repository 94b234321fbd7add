import Derived.Test.YtkcoabdngjbhdabS2
namespace Go.Proofs.Ytkcoabdngjbhdab
open Go Go.RowKit RM


theorem tx_zero (x : Nat) : tx 0 x = [] := rfl

end Go.Proofs.Ytkcoabdngjbhdab
