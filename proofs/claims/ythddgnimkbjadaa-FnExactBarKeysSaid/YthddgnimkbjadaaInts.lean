import Derived.Test.YthddgnimkbjadaaH
import Derived.Lib.BufferOwn
import Derived.Deep.RegionWith
namespace Go.Proofs.Ythddgnimkbjadaa
end Go.Proofs.Ythddgnimkbjadaa
