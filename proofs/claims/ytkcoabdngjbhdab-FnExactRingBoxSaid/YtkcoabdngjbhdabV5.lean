import Derived.Test.YtkcoabdngjbhdabV4
namespace Go.Proofs.Ytkcoabdngjbhdab
end Go.Proofs.Ytkcoabdngjbhdab
