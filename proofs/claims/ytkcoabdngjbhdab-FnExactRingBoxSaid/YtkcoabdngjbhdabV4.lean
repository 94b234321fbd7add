import Derived.Test.YtkcoabdngjbhdabV3
namespace Go.Proofs.Ytkcoabdngjbhdab
end Go.Proofs.Ytkcoabdngjbhdab
