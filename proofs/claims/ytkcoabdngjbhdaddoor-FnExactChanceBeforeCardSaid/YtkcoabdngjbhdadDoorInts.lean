import Derived.Test.YtkcoabdngjbhdadDoorH
import Derived.Lib.BufferOwn
import Derived.Deep.RegionWith
namespace Go.Proofs.YtkcoabdngjbhdadDoor
end Go.Proofs.YtkcoabdngjbhdadDoor
