/- The program's table of powers, as the row lists it: what a walk reads; a world for the witness. -/
import Derived.Test.YtbgdhiieeegnjacDoorCards
import Derived.Test.YtbgdhiieeegnjacDoorTie
import Derived.Test.YtbgdhiieeegnjacDoorPow
import Derived.ProofKit
import Derived.OpenShut
import Derived.ShutString
import Derived.ChangeOld
import Derived.Deep.DeepHandedRow
import Derived.Lib.LaidTab
import Derived.OpenVars
import Derived.ChangeVars
namespace Go.Proofs.YtbgdhiieeegnjacDoor
open Go Go.ChangeShapes Go.WideShapes Go.ChangeAt Go.RowKit

theorem own : ownKnob Tryd.prog.godebug = none := by kernel_rfl
theorem laidOut : laidOutB Tryd.prog = true := by kernel_rfl
theorem gPow : Tryd.prog.globalNamed "loop.example/g01314/impl.powers" = some 0 := by kernel_rfl
theorem gPowType : (Tryd.prog.globals[0]?).map (·.type) = some 38 := by kernel_rfl
theorem cellsPow : Tryd.prog.cellsOf 38 = 41 := by kernel_rfl
theorem cellsInt : Tryd.prog.cellsOf 3 = 1 := by kernel_rfl

def tabPow : List Int := [1, 2, 4, 8, 16, 32, 64, 128, 256, 512, 1024, 2048, 4096, 8192, 16384, 32768, 65536, 131072, 262144, 524288, 1048576, 2097152, 4194304, 8388608, 16777216, 33554432, 67108864, 134217728, 268435456, 536870912, 1073741824, 2147483648, 4294967296, 8589934592, 17179869184, 34359738368, 68719476736, 137438953472, 274877906944, 549755813888, 1099511627776]

theorem tabOk {W : World} (h : laidMetH Tryd.prog [("loop.example/g01314/impl.powers", Rows.laid_loop_example_g01314_impl_powers)] W) : PowOk W := by
  have h' : Lib.TabIs Tryd.prog W "loop.example/g01314/impl.powers" .i64 tabPow := Lib.tabIs_of_head (rest := []) gPow gPowType Tryd.underlying38 Tryd.underlying3 cellsInt cellsPow h
  intro j hj
  rw [h'.cell gPow j (by simp [tabPow]; omega)]
  congr 2
  revert hj
  revert j
  decide +kernel

def putTab (vs : List Int) : Obj → Obj
  | .cells _ t frozen => .cells (vs.map (Value.int .i64)).toArray t frozen
  | o => o
/-- a world for the witness: the settled one, the table as its text lays it -/
noncomputable def laidWorld (os : Os) : World :=
  { World.holding Tryd.prog os ⟨#[], #[], []⟩ with heap := (World.holding Tryd.prog os ⟨#[], #[], []⟩).heap.modify 0 (putTab tabPow) }
theorem laid_met (os : Os) (args : Array Value) : laidMet Tryd.prog [("loop.example/g01314/impl.powers", Rows.laid_loop_example_g01314_impl_powers)] ((laidWorld os).forCall (fun _ _ => 0) ⟨#[], args, []⟩).memory :=
  laidMet_of_run' 8 (by kernel_rfl) (by kernel_rfl)
end Go.Proofs.YtbgdhiieeegnjacDoor
