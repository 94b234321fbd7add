import Derived.Test.YtkcoabdngjbhdacS2
namespace Go.Proofs.Ytkcoabdngjbhdac
open Go Go.RowKit RM


theorem tx_zero (x : Nat) : tx 0 x = [] := rfl

end Go.Proofs.Ytkcoabdngjbhdac
