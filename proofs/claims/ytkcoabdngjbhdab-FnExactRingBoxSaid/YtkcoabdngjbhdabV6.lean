/- Which texts are keys, on both sides. -/
import Derived.Test.YtkcoabdngjbhdabV5
namespace Go.Proofs.Ytkcoabdngjbhdab
open Go Go.RowKit RM
end Go.Proofs.Ytkcoabdngjbhdab
