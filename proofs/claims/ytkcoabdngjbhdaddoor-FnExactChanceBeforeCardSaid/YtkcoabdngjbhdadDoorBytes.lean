import Derived.Test.YtkcoabdngjbhdadDoorH
import Derived.Lib.BufferOwn
import Derived.Laws.IdiomStrings
namespace Go.Proofs.YtkcoabdngjbhdadDoor
end Go.Proofs.YtkcoabdngjbhdadDoor
