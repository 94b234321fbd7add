/- Small joins of worlds. -/
import Derived.Test.YtmjeilimdnngpaaDoorG3
namespace Go.Proofs.YtmjeilimdnngpaaDoor
open Go Go.RowKit RM
theorem ba1 (w : World) (o : Obj) : Below w.heap.size w (w.alloc o) := (Below.refl _ _).alloc (Nat.le_refl _) o
theorem bt1 {w a b : World} (h : Below w.heap.size w a) (k : Below a.heap.size a b) : Below w.heap.size w b := h.trans (k.mono h.size)
theorem bt2 {w a b : World} {B : Nat} (h : Below B w a) (k : Below a.heap.size a b) (hB : B ≤ a.heap.size) : Below B w b := h.trans (k.mono hB)
end Go.Proofs.YtmjeilimdnngpaaDoor
