/- The library's tables of the seats of lamps: none that a walk reads; a world for the witness. -/
import Derived.Test.YtjlecipeoaohiacDoorCards
import Derived.Test.YtjlecipeoaohiacDoorTie
import Derived.Test.YtjlecipeoaohiacDoorRows
import Derived.ProofKit
import Derived.OpenShut
import Derived.ShutString
import Derived.ChangeOld
import Derived.Deep.DeepHandedRow
import Derived.Lib.LaidTab
namespace Go.Proofs.YtjlecipeoaohiacDoor
open Go Go.ChangeShapes Go.WideShapes Go.ChangeAt Go.RowKit
theorem own : ownKnob Tryd.prog.godebug = none := by kernel_rfl
theorem laidOut : laidOutB Tryd.prog = true := by kernel_rfl
/-- what a walk asks of the tables: nothing -/
def TabOk (_w : World) : Prop := True
theorem TabOk.below {w w' : World} (_h : TabOk w) (_hb : Below w.heap.size w w') : TabOk w' := True.intro
theorem tabOk {W : World} {l : List (String × DataW Unit)} (_h : laidMetH Tryd.prog l W) : TabOk W := True.intro
mutual
/-- the values that a datum of numbers is -/
def litVals {H : Type} : DataW H → List Value
  | .lit (.int k n) => [.int k n]
  | .agg ds => litValsL ds
  | _ => []
def litValsL {H : Type} : List (DataW H) → List Value
  | [] => []
  | d :: ds => litVals d ++ litValsL ds
end
def putTab (vs : List Value) : Obj → Obj
  | .cells _ t frozen => .cells vs.toArray t frozen
  | o => o
/-- a world for the witness: the settled one, the two tables as their text lays them -/
noncomputable def laidWorld (os : Os) : World :=
  { World.holding Tryd.prog os ⟨#[], #[], []⟩ with heap := ((World.holding Tryd.prog os ⟨#[], #[], []⟩).heap.modify 2 (putTab (litVals (Rows.laid_unicode_utf8_acceptRanges (H := Unit))))).modify 1 (putTab (litVals Rows.laid_unicode_utf8_first)) }
theorem laid_met (os : Os) (args : Array Value) : laidMet Tryd.prog [("unicode/utf8.acceptRanges", Rows.laid_unicode_utf8_acceptRanges), ("unicode/utf8.first", Rows.laid_unicode_utf8_first)] ((laidWorld os).forCall (fun _ _ => 0) ⟨#[], args, []⟩).memory :=
  laidMet_of_run' 8 (by kernel_rfl) (by kernel_rfl)
end Go.Proofs.YtjlecipeoaohiacDoor
