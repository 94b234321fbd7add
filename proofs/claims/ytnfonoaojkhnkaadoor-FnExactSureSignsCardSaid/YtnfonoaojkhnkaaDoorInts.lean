import Derived.Test.YtnfonoaojkhnkaaDoorH
import Derived.Lib.BufferOwn
import Derived.Deep.RegionWith
namespace Go.Proofs.YtnfonoaojkhnkaaDoor
end Go.Proofs.YtnfonoaojkhnkaaDoor
