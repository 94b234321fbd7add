import Derived.Test.YtjlecipeoaohiacH
import Derived.Lib.BufferOwn
import Derived.Deep.RegionWith
namespace Go.Proofs.Ytjlecipeoaohiac
end Go.Proofs.Ytjlecipeoaohiac
