/-
  NARROWER THAN 'FOR EVERY INPUT', by the rows' own cells (each row's printed sentence says how): FnExactCountOn: laid · FnExactAllOn: laid · FnExactMovesOf: laid · FnExactMoveRing: laid · FnExactPlayMoves: laid · FnExactMoveThatFails: laid · FnExactNumberOfState: laid · FnExactStateOfNumber: laid · FnExactMovesToClear: laid · FnExactOtherEnd: laid · FnExactFewestMoves: laid · FnExactMiddleOf: laid.
  DERIVED. THE GIVEN ROWS OF THIS SEAT. 12 by the template 'for every input the law returns true; each argument reads behind the call as it read before'; 0 by the template 'total and deterministic' (their statements: YtbgdhiieeegnjaaDoorTotals.lean).
  GIVEN WITH THE SEED: the statements are not yours to turn. If you find one false, say at which input.
  Laid BY PROGRAM, IN A SANDBOX (cutbox-rows.mjs): the forced cells as the released guide's own fill.sh prints them over the translation 4de106b1937c2a57… (all of the seat's roots in one cut). By AI agents, Wed Nov 11 2026. No macro, syntax, notation, axiom, sorry.
-/
import Derived.Test.YtbgdhiieeegnjaaDoorChecked
import GoSem.Claim
import GoSem.ClaimJoined
import GoSem.ClaimMapViews
import Derived.JoinedTies
import Derived.KernelRfl
namespace Go.Proofs.YtbgdhiieeegnjaaDoor
/- THE CELL 'sum', in the pinned program and in every row, IS THE sha256 OF THE DUMP (.gsa) THAT YtbgdhiieeegnjaaDoorProg.lean LOADS. Nothing in Lean hashes anything: it is a label: what it is worth is what the hold of that sum in a sandbox is worth. -/
noncomputable def Tryd.pinned : Pinned := { name := "ytbgdhiieeegnjaadoor", sum := "4de106b1937c2a571ff3102a79eb9139f6f5738a06ad5cd57b105d228703bd40", checked := Tryd.checked }
namespace Rows
def none {H : Type} : Left H := { results := [], args := [] }

/- WHAT THE LISTED PACKAGE-LEVEL VARIABLES READ AS WHEN THE CALL BEGINS. Each datum BY PROGRAM (the guide's laid-datum.mjs) off the statement by which the dump's own 'gosem.cut.vars' lays the variable. In a bare row this is a premise. The card (YtbgdhiieeegnjaaDoorCards.lean) ties it to the program's text. -/
def laid_math_bits_deBruijn32tab {H : Type} : DataW H := .agg [.lit (.int .u8 0), .lit (.int .u8 1), .lit (.int .u8 28), .lit (.int .u8 2), .lit (.int .u8 29), .lit (.int .u8 14), .lit (.int .u8 24), .lit (.int .u8 3), .lit (.int .u8 30), .lit (.int .u8 22), .lit (.int .u8 20), .lit (.int .u8 15), .lit (.int .u8 25), .lit (.int .u8 17), .lit (.int .u8 4), .lit (.int .u8 8), .lit (.int .u8 31), .lit (.int .u8 27), .lit (.int .u8 13), .lit (.int .u8 23), .lit (.int .u8 21), .lit (.int .u8 19), .lit (.int .u8 16), .lit (.int .u8 7), .lit (.int .u8 26), .lit (.int .u8 12), .lit (.int .u8 18), .lit (.int .u8 6), .lit (.int .u8 11), .lit (.int .u8 5), .lit (.int .u8 10), .lit (.int .u8 9)]
def laid_math_bits_deBruijn64tab {H : Type} : DataW H := .agg [.lit (.int .u8 0), .lit (.int .u8 1), .lit (.int .u8 56), .lit (.int .u8 2), .lit (.int .u8 57), .lit (.int .u8 49), .lit (.int .u8 28), .lit (.int .u8 3), .lit (.int .u8 61), .lit (.int .u8 58), .lit (.int .u8 42), .lit (.int .u8 50), .lit (.int .u8 38), .lit (.int .u8 29), .lit (.int .u8 17), .lit (.int .u8 4), .lit (.int .u8 62), .lit (.int .u8 47), .lit (.int .u8 59), .lit (.int .u8 36), .lit (.int .u8 45), .lit (.int .u8 43), .lit (.int .u8 51), .lit (.int .u8 22), .lit (.int .u8 53), .lit (.int .u8 39), .lit (.int .u8 33), .lit (.int .u8 30), .lit (.int .u8 24), .lit (.int .u8 18), .lit (.int .u8 12), .lit (.int .u8 5), .lit (.int .u8 63), .lit (.int .u8 55), .lit (.int .u8 48), .lit (.int .u8 27), .lit (.int .u8 60), .lit (.int .u8 41), .lit (.int .u8 37), .lit (.int .u8 16), .lit (.int .u8 46), .lit (.int .u8 35), .lit (.int .u8 44), .lit (.int .u8 21), .lit (.int .u8 52), .lit (.int .u8 32), .lit (.int .u8 23), .lit (.int .u8 11), .lit (.int .u8 54), .lit (.int .u8 26), .lit (.int .u8 40), .lit (.int .u8 15), .lit (.int .u8 34), .lit (.int .u8 20), .lit (.int .u8 31), .lit (.int .u8 10), .lit (.int .u8 25), .lit (.int .u8 14), .lit (.int .u8 19), .lit (.int .u8 9), .lit (.int .u8 13), .lit (.int .u8 8), .lit (.int .u8 7), .lit (.int .u8 6)]

/-- 'laws.FnExactCountOn': WHATEVER THE INPUT: true; the input reads as it did. -/
def fnExactCountOnSpec : ChangeSpec := { name := "fnExactCountOn", fn := fun _ => fun
  | [d] => { results := [.lit (.bool true)], args := [d] }
  | _ => none }
def fnExactCountOnRow : OpenClaim := { program := "ytbgdhiieeegnjaadoor", sum := "4de106b1937c2a571ff3102a79eb9139f6f5738a06ad5cd57b105d228703bd40", func := "loop.example/g01314/laws.FnExactCountOn", spec := "fnExactCountOn", named := ["math/bits.deBruijn32tab", "math/bits.deBruijn64tab"], apart := false, laid := [("math/bits.deBruijn32tab", laid_math_bits_deBruijn32tab), ("math/bits.deBruijn64tab", laid_math_bits_deBruijn64tab)] }
def FnExactCountOnSaid : Prop := fnExactCountOnRow.holds Tryd.pinned (OpenSpec.ofChange fnExactCountOnSpec)

/-- ITS FALSE NEIGHBOUR: 'it returns false'. Refute it at one input. -/
def fnExactCountOnWrong : ChangeSpec := { name := "fnExactCountOn", fn := fun _ => fun
  | [d] => { results := [.lit (.bool false)], args := [d] }
  | _ => none }
def FnExactCountOnWrongFalsely : Prop := fnExactCountOnRow.holds Tryd.pinned (OpenSpec.ofChange fnExactCountOnWrong)

/-- 'laws.FnExactAllOn': WHATEVER THE INPUT: true; the input reads as it did. -/
def fnExactAllOnSpec : ChangeSpec := { name := "fnExactAllOn", fn := fun _ => fun
  | [d] => { results := [.lit (.bool true)], args := [d] }
  | _ => none }
def fnExactAllOnRow : OpenClaim := { program := "ytbgdhiieeegnjaadoor", sum := "4de106b1937c2a571ff3102a79eb9139f6f5738a06ad5cd57b105d228703bd40", func := "loop.example/g01314/laws.FnExactAllOn", spec := "fnExactAllOn", named := ["math/bits.deBruijn32tab", "math/bits.deBruijn64tab"], apart := false, laid := [("math/bits.deBruijn32tab", laid_math_bits_deBruijn32tab), ("math/bits.deBruijn64tab", laid_math_bits_deBruijn64tab)] }
def FnExactAllOnSaid : Prop := fnExactAllOnRow.holds Tryd.pinned (OpenSpec.ofChange fnExactAllOnSpec)

/-- ITS FALSE NEIGHBOUR: 'it returns false'. Refute it at one input. -/
def fnExactAllOnWrong : ChangeSpec := { name := "fnExactAllOn", fn := fun _ => fun
  | [d] => { results := [.lit (.bool false)], args := [d] }
  | _ => none }
def FnExactAllOnWrongFalsely : Prop := fnExactAllOnRow.holds Tryd.pinned (OpenSpec.ofChange fnExactAllOnWrong)

/-- 'laws.FnExactMovesOf': WHATEVER THE INPUT: true; the input reads as it did. -/
def fnExactMovesOfSpec : ChangeSpec := { name := "fnExactMovesOf", fn := fun _ => fun
  | [d] => { results := [.lit (.bool true)], args := [d] }
  | _ => none }
def fnExactMovesOfRow : OpenClaim := { program := "ytbgdhiieeegnjaadoor", sum := "4de106b1937c2a571ff3102a79eb9139f6f5738a06ad5cd57b105d228703bd40", func := "loop.example/g01314/laws.FnExactMovesOf", spec := "fnExactMovesOf", named := ["math/bits.deBruijn32tab", "math/bits.deBruijn64tab"], apart := false, laid := [("math/bits.deBruijn32tab", laid_math_bits_deBruijn32tab), ("math/bits.deBruijn64tab", laid_math_bits_deBruijn64tab)] }
def FnExactMovesOfSaid : Prop := fnExactMovesOfRow.holds Tryd.pinned (OpenSpec.ofChange fnExactMovesOfSpec)

/-- ITS FALSE NEIGHBOUR: 'it returns false'. Refute it at one input. -/
def fnExactMovesOfWrong : ChangeSpec := { name := "fnExactMovesOf", fn := fun _ => fun
  | [d] => { results := [.lit (.bool false)], args := [d] }
  | _ => none }
def FnExactMovesOfWrongFalsely : Prop := fnExactMovesOfRow.holds Tryd.pinned (OpenSpec.ofChange fnExactMovesOfWrong)

/-- 'laws.FnExactMoveRing': WHATEVER THE INPUT: true; the input reads as it did. -/
def fnExactMoveRingSpec : ChangeSpec := { name := "fnExactMoveRing", fn := fun _ => fun
  | [d1, d2] => { results := [.lit (.bool true)], args := [d1, d2] }
  | _ => none }
def fnExactMoveRingRow : OpenClaim := { program := "ytbgdhiieeegnjaadoor", sum := "4de106b1937c2a571ff3102a79eb9139f6f5738a06ad5cd57b105d228703bd40", func := "loop.example/g01314/laws.FnExactMoveRing", spec := "fnExactMoveRing", named := ["math/bits.deBruijn32tab", "math/bits.deBruijn64tab"], apart := false, laid := [("math/bits.deBruijn32tab", laid_math_bits_deBruijn32tab), ("math/bits.deBruijn64tab", laid_math_bits_deBruijn64tab)] }
def FnExactMoveRingSaid : Prop := fnExactMoveRingRow.holds Tryd.pinned (OpenSpec.ofChange fnExactMoveRingSpec)

/-- ITS FALSE NEIGHBOUR: 'it returns false'. Refute it at one input. -/
def fnExactMoveRingWrong : ChangeSpec := { name := "fnExactMoveRing", fn := fun _ => fun
  | [d1, d2] => { results := [.lit (.bool false)], args := [d1, d2] }
  | _ => none }
def FnExactMoveRingWrongFalsely : Prop := fnExactMoveRingRow.holds Tryd.pinned (OpenSpec.ofChange fnExactMoveRingWrong)

/-- 'laws.FnExactPlayMoves': WHATEVER THE INPUT: true; the input reads as it did. -/
def fnExactPlayMovesSpec : ChangeSpec := { name := "fnExactPlayMoves", fn := fun _ => fun
  | [d1, d2] => { results := [.lit (.bool true)], args := [d1, d2] }
  | _ => none }
def fnExactPlayMovesRow : OpenClaim := { program := "ytbgdhiieeegnjaadoor", sum := "4de106b1937c2a571ff3102a79eb9139f6f5738a06ad5cd57b105d228703bd40", func := "loop.example/g01314/laws.FnExactPlayMoves", spec := "fnExactPlayMoves", named := ["math/bits.deBruijn32tab", "math/bits.deBruijn64tab"], apart := false, laid := [("math/bits.deBruijn32tab", laid_math_bits_deBruijn32tab), ("math/bits.deBruijn64tab", laid_math_bits_deBruijn64tab)] }
def FnExactPlayMovesSaid : Prop := fnExactPlayMovesRow.holds Tryd.pinned (OpenSpec.ofChange fnExactPlayMovesSpec)

/-- ITS FALSE NEIGHBOUR: 'it returns false'. Refute it at one input. -/
def fnExactPlayMovesWrong : ChangeSpec := { name := "fnExactPlayMoves", fn := fun _ => fun
  | [d1, d2] => { results := [.lit (.bool false)], args := [d1, d2] }
  | _ => none }
def FnExactPlayMovesWrongFalsely : Prop := fnExactPlayMovesRow.holds Tryd.pinned (OpenSpec.ofChange fnExactPlayMovesWrong)

/-- 'laws.FnExactMoveThatFails': WHATEVER THE INPUT: true; the input reads as it did. -/
def fnExactMoveThatFailsSpec : ChangeSpec := { name := "fnExactMoveThatFails", fn := fun _ => fun
  | [d1, d2] => { results := [.lit (.bool true)], args := [d1, d2] }
  | _ => none }
def fnExactMoveThatFailsRow : OpenClaim := { program := "ytbgdhiieeegnjaadoor", sum := "4de106b1937c2a571ff3102a79eb9139f6f5738a06ad5cd57b105d228703bd40", func := "loop.example/g01314/laws.FnExactMoveThatFails", spec := "fnExactMoveThatFails", named := ["math/bits.deBruijn32tab", "math/bits.deBruijn64tab"], apart := false, laid := [("math/bits.deBruijn32tab", laid_math_bits_deBruijn32tab), ("math/bits.deBruijn64tab", laid_math_bits_deBruijn64tab)] }
def FnExactMoveThatFailsSaid : Prop := fnExactMoveThatFailsRow.holds Tryd.pinned (OpenSpec.ofChange fnExactMoveThatFailsSpec)

/-- ITS FALSE NEIGHBOUR: 'it returns false'. Refute it at one input. -/
def fnExactMoveThatFailsWrong : ChangeSpec := { name := "fnExactMoveThatFails", fn := fun _ => fun
  | [d1, d2] => { results := [.lit (.bool false)], args := [d1, d2] }
  | _ => none }
def FnExactMoveThatFailsWrongFalsely : Prop := fnExactMoveThatFailsRow.holds Tryd.pinned (OpenSpec.ofChange fnExactMoveThatFailsWrong)

/-- 'laws.FnExactNumberOfState': WHATEVER THE INPUT: true; the input reads as it did. -/
def fnExactNumberOfStateSpec : ChangeSpec := { name := "fnExactNumberOfState", fn := fun _ => fun
  | [d] => { results := [.lit (.bool true)], args := [d] }
  | _ => none }
def fnExactNumberOfStateRow : OpenClaim := { program := "ytbgdhiieeegnjaadoor", sum := "4de106b1937c2a571ff3102a79eb9139f6f5738a06ad5cd57b105d228703bd40", func := "loop.example/g01314/laws.FnExactNumberOfState", spec := "fnExactNumberOfState", named := ["math/bits.deBruijn32tab", "math/bits.deBruijn64tab"], apart := false, laid := [("math/bits.deBruijn32tab", laid_math_bits_deBruijn32tab), ("math/bits.deBruijn64tab", laid_math_bits_deBruijn64tab)] }
def FnExactNumberOfStateSaid : Prop := fnExactNumberOfStateRow.holds Tryd.pinned (OpenSpec.ofChange fnExactNumberOfStateSpec)

/-- ITS FALSE NEIGHBOUR: 'it returns false'. Refute it at one input. -/
def fnExactNumberOfStateWrong : ChangeSpec := { name := "fnExactNumberOfState", fn := fun _ => fun
  | [d] => { results := [.lit (.bool false)], args := [d] }
  | _ => none }
def FnExactNumberOfStateWrongFalsely : Prop := fnExactNumberOfStateRow.holds Tryd.pinned (OpenSpec.ofChange fnExactNumberOfStateWrong)

/-- 'laws.FnExactStateOfNumber': WHATEVER THE INPUT: true; the input reads as it did. -/
def fnExactStateOfNumberSpec : ChangeSpec := { name := "fnExactStateOfNumber", fn := fun _ => fun
  | [d1, d2] => { results := [.lit (.bool true)], args := [d1, d2] }
  | _ => none }
def fnExactStateOfNumberRow : OpenClaim := { program := "ytbgdhiieeegnjaadoor", sum := "4de106b1937c2a571ff3102a79eb9139f6f5738a06ad5cd57b105d228703bd40", func := "loop.example/g01314/laws.FnExactStateOfNumber", spec := "fnExactStateOfNumber", named := ["math/bits.deBruijn32tab", "math/bits.deBruijn64tab"], apart := false, laid := [("math/bits.deBruijn32tab", laid_math_bits_deBruijn32tab), ("math/bits.deBruijn64tab", laid_math_bits_deBruijn64tab)] }
def FnExactStateOfNumberSaid : Prop := fnExactStateOfNumberRow.holds Tryd.pinned (OpenSpec.ofChange fnExactStateOfNumberSpec)

/-- ITS FALSE NEIGHBOUR: 'it returns false'. Refute it at one input. -/
def fnExactStateOfNumberWrong : ChangeSpec := { name := "fnExactStateOfNumber", fn := fun _ => fun
  | [d1, d2] => { results := [.lit (.bool false)], args := [d1, d2] }
  | _ => none }
def FnExactStateOfNumberWrongFalsely : Prop := fnExactStateOfNumberRow.holds Tryd.pinned (OpenSpec.ofChange fnExactStateOfNumberWrong)

/-- 'laws.FnExactMovesToClear': WHATEVER THE INPUT: true; the input reads as it did. -/
def fnExactMovesToClearSpec : ChangeSpec := { name := "fnExactMovesToClear", fn := fun _ => fun
  | [d] => { results := [.lit (.bool true)], args := [d] }
  | _ => none }
def fnExactMovesToClearRow : OpenClaim := { program := "ytbgdhiieeegnjaadoor", sum := "4de106b1937c2a571ff3102a79eb9139f6f5738a06ad5cd57b105d228703bd40", func := "loop.example/g01314/laws.FnExactMovesToClear", spec := "fnExactMovesToClear", named := ["math/bits.deBruijn32tab", "math/bits.deBruijn64tab"], apart := false, laid := [("math/bits.deBruijn32tab", laid_math_bits_deBruijn32tab), ("math/bits.deBruijn64tab", laid_math_bits_deBruijn64tab)] }
def FnExactMovesToClearSaid : Prop := fnExactMovesToClearRow.holds Tryd.pinned (OpenSpec.ofChange fnExactMovesToClearSpec)

/-- ITS FALSE NEIGHBOUR: 'it returns false'. Refute it at one input. -/
def fnExactMovesToClearWrong : ChangeSpec := { name := "fnExactMovesToClear", fn := fun _ => fun
  | [d] => { results := [.lit (.bool false)], args := [d] }
  | _ => none }
def FnExactMovesToClearWrongFalsely : Prop := fnExactMovesToClearRow.holds Tryd.pinned (OpenSpec.ofChange fnExactMovesToClearWrong)

/-- 'laws.FnExactOtherEnd': WHATEVER THE INPUT: true; the input reads as it did. -/
def fnExactOtherEndSpec : ChangeSpec := { name := "fnExactOtherEnd", fn := fun _ => fun
  | [d] => { results := [.lit (.bool true)], args := [d] }
  | _ => none }
def fnExactOtherEndRow : OpenClaim := { program := "ytbgdhiieeegnjaadoor", sum := "4de106b1937c2a571ff3102a79eb9139f6f5738a06ad5cd57b105d228703bd40", func := "loop.example/g01314/laws.FnExactOtherEnd", spec := "fnExactOtherEnd", named := ["math/bits.deBruijn32tab", "math/bits.deBruijn64tab"], apart := false, laid := [("math/bits.deBruijn32tab", laid_math_bits_deBruijn32tab), ("math/bits.deBruijn64tab", laid_math_bits_deBruijn64tab)] }
def FnExactOtherEndSaid : Prop := fnExactOtherEndRow.holds Tryd.pinned (OpenSpec.ofChange fnExactOtherEndSpec)

/-- ITS FALSE NEIGHBOUR: 'it returns false'. Refute it at one input. -/
def fnExactOtherEndWrong : ChangeSpec := { name := "fnExactOtherEnd", fn := fun _ => fun
  | [d] => { results := [.lit (.bool false)], args := [d] }
  | _ => none }
def FnExactOtherEndWrongFalsely : Prop := fnExactOtherEndRow.holds Tryd.pinned (OpenSpec.ofChange fnExactOtherEndWrong)

/-- 'laws.FnExactFewestMoves': WHATEVER THE INPUT: true; the input reads as it did. -/
def fnExactFewestMovesSpec : ChangeSpec := { name := "fnExactFewestMoves", fn := fun _ => fun
  | [d1, d2] => { results := [.lit (.bool true)], args := [d1, d2] }
  | _ => none }
def fnExactFewestMovesRow : OpenClaim := { program := "ytbgdhiieeegnjaadoor", sum := "4de106b1937c2a571ff3102a79eb9139f6f5738a06ad5cd57b105d228703bd40", func := "loop.example/g01314/laws.FnExactFewestMoves", spec := "fnExactFewestMoves", named := ["math/bits.deBruijn32tab", "math/bits.deBruijn64tab"], apart := false, laid := [("math/bits.deBruijn32tab", laid_math_bits_deBruijn32tab), ("math/bits.deBruijn64tab", laid_math_bits_deBruijn64tab)] }
def FnExactFewestMovesSaid : Prop := fnExactFewestMovesRow.holds Tryd.pinned (OpenSpec.ofChange fnExactFewestMovesSpec)

/-- ITS FALSE NEIGHBOUR: 'it returns false'. Refute it at one input. -/
def fnExactFewestMovesWrong : ChangeSpec := { name := "fnExactFewestMoves", fn := fun _ => fun
  | [d1, d2] => { results := [.lit (.bool false)], args := [d1, d2] }
  | _ => none }
def FnExactFewestMovesWrongFalsely : Prop := fnExactFewestMovesRow.holds Tryd.pinned (OpenSpec.ofChange fnExactFewestMovesWrong)

/-- 'laws.FnExactMiddleOf': WHATEVER THE INPUT: true; the input reads as it did. -/
def fnExactMiddleOfSpec : ChangeSpec := { name := "fnExactMiddleOf", fn := fun _ => fun
  | [d1, d2] => { results := [.lit (.bool true)], args := [d1, d2] }
  | _ => none }
def fnExactMiddleOfRow : OpenClaim := { program := "ytbgdhiieeegnjaadoor", sum := "4de106b1937c2a571ff3102a79eb9139f6f5738a06ad5cd57b105d228703bd40", func := "loop.example/g01314/laws.FnExactMiddleOf", spec := "fnExactMiddleOf", named := ["math/bits.deBruijn32tab", "math/bits.deBruijn64tab"], apart := false, laid := [("math/bits.deBruijn32tab", laid_math_bits_deBruijn32tab), ("math/bits.deBruijn64tab", laid_math_bits_deBruijn64tab)] }
def FnExactMiddleOfSaid : Prop := fnExactMiddleOfRow.holds Tryd.pinned (OpenSpec.ofChange fnExactMiddleOfSpec)

/-- ITS FALSE NEIGHBOUR: 'it returns false'. Refute it at one input. -/
def fnExactMiddleOfWrong : ChangeSpec := { name := "fnExactMiddleOf", fn := fun _ => fun
  | [d1, d2] => { results := [.lit (.bool false)], args := [d1, d2] }
  | _ => none }
def FnExactMiddleOfWrongFalsely : Prop := fnExactMiddleOfRow.holds Tryd.pinned (OpenSpec.ofChange fnExactMiddleOfWrong)

/- THE SECOND FORM. 'bulk': how many values and letters a reading holds, each counted each time it is reached (what is shared counts as often as it is met; a slice's spare places count too). A statement '..UptoSaid' is the law's where the arguments, and the package variables that the reading takes, are together of bulk at most 1048576: NARROWER than '..Said'. Prove '..Said' where nothing that the law and all that it calls make is longer than what came in: it says more and counts as full. Else prove '..UptoSaid'. A law counts once. -/
mutual
def uptoBulk {H : Type} : DataW H → Nat
  | .lit (.string bytes) => bytes.length + 1
  | .lit _ => 1
  | .nil => 1
  | .ptr d => uptoBulk d + 1
  | .slice elems spare => uptoBulkAll elems + uptoBulkAll spare + 1
  | .agg parts => uptoBulkAll parts + 1
  | .iface _ d => uptoBulk d + 1
  | .map entries => uptoBulkEntries entries + 1
  | .held _ => 1
def uptoBulkAll {H : Type} : List (DataW H) → Nat
  | [] => 0
  | d :: r => uptoBulk d + uptoBulkAll r
def uptoBulkEntries {H : Type} : List (Lit × DataW H) → Nat
  | [] => 0
  | x :: r => uptoBulkEntry x + uptoBulkEntries r
def uptoBulkEntry {H : Type} : Lit × DataW H → Nat
  | (.string bytes, d) => bytes.length + uptoBulk d + 1
  | (_, d) => uptoBulk d + 1
 end
def uptoSmall : (H : Type) → List (DataW H) → Bool := fun _ ds => decide (uptoBulkAll ds ≤ 1048576)
def OpenSpec.upto (s : _root_.Go.ChangeSpec) : _root_.Go.OpenSpec := { _root_.Go.OpenSpec.ofChange s with cond := some uptoSmall }

/-- 'laws.FnExactCountOn', WHERE WHAT IT READS IS OF BULK AT MOST 1048576: true; the input reads as it did. -/
def fnExactCountOnUptoRow : OpenClaim := { program := "ytbgdhiieeegnjaadoor", sum := "4de106b1937c2a571ff3102a79eb9139f6f5738a06ad5cd57b105d228703bd40", func := "loop.example/g01314/laws.FnExactCountOn", spec := "fnExactCountOn", named := ["math/bits.deBruijn32tab", "math/bits.deBruijn64tab"], apart := false, laid := [("math/bits.deBruijn32tab", laid_math_bits_deBruijn32tab), ("math/bits.deBruijn64tab", laid_math_bits_deBruijn64tab)], narrowed := true }
def FnExactCountOnUptoSaid : Prop := fnExactCountOnUptoRow.holds Tryd.pinned (OpenSpec.upto fnExactCountOnSpec)

/-- 'laws.FnExactAllOn', WHERE WHAT IT READS IS OF BULK AT MOST 1048576: true; the input reads as it did. -/
def fnExactAllOnUptoRow : OpenClaim := { program := "ytbgdhiieeegnjaadoor", sum := "4de106b1937c2a571ff3102a79eb9139f6f5738a06ad5cd57b105d228703bd40", func := "loop.example/g01314/laws.FnExactAllOn", spec := "fnExactAllOn", named := ["math/bits.deBruijn32tab", "math/bits.deBruijn64tab"], apart := false, laid := [("math/bits.deBruijn32tab", laid_math_bits_deBruijn32tab), ("math/bits.deBruijn64tab", laid_math_bits_deBruijn64tab)], narrowed := true }
def FnExactAllOnUptoSaid : Prop := fnExactAllOnUptoRow.holds Tryd.pinned (OpenSpec.upto fnExactAllOnSpec)

/-- 'laws.FnExactMovesOf', WHERE WHAT IT READS IS OF BULK AT MOST 1048576: true; the input reads as it did. -/
def fnExactMovesOfUptoRow : OpenClaim := { program := "ytbgdhiieeegnjaadoor", sum := "4de106b1937c2a571ff3102a79eb9139f6f5738a06ad5cd57b105d228703bd40", func := "loop.example/g01314/laws.FnExactMovesOf", spec := "fnExactMovesOf", named := ["math/bits.deBruijn32tab", "math/bits.deBruijn64tab"], apart := false, laid := [("math/bits.deBruijn32tab", laid_math_bits_deBruijn32tab), ("math/bits.deBruijn64tab", laid_math_bits_deBruijn64tab)], narrowed := true }
def FnExactMovesOfUptoSaid : Prop := fnExactMovesOfUptoRow.holds Tryd.pinned (OpenSpec.upto fnExactMovesOfSpec)

/-- 'laws.FnExactMoveRing', WHERE WHAT IT READS IS OF BULK AT MOST 1048576: true; the input reads as it did. -/
def fnExactMoveRingUptoRow : OpenClaim := { program := "ytbgdhiieeegnjaadoor", sum := "4de106b1937c2a571ff3102a79eb9139f6f5738a06ad5cd57b105d228703bd40", func := "loop.example/g01314/laws.FnExactMoveRing", spec := "fnExactMoveRing", named := ["math/bits.deBruijn32tab", "math/bits.deBruijn64tab"], apart := false, laid := [("math/bits.deBruijn32tab", laid_math_bits_deBruijn32tab), ("math/bits.deBruijn64tab", laid_math_bits_deBruijn64tab)], narrowed := true }
def FnExactMoveRingUptoSaid : Prop := fnExactMoveRingUptoRow.holds Tryd.pinned (OpenSpec.upto fnExactMoveRingSpec)

/-- 'laws.FnExactPlayMoves', WHERE WHAT IT READS IS OF BULK AT MOST 1048576: true; the input reads as it did. -/
def fnExactPlayMovesUptoRow : OpenClaim := { program := "ytbgdhiieeegnjaadoor", sum := "4de106b1937c2a571ff3102a79eb9139f6f5738a06ad5cd57b105d228703bd40", func := "loop.example/g01314/laws.FnExactPlayMoves", spec := "fnExactPlayMoves", named := ["math/bits.deBruijn32tab", "math/bits.deBruijn64tab"], apart := false, laid := [("math/bits.deBruijn32tab", laid_math_bits_deBruijn32tab), ("math/bits.deBruijn64tab", laid_math_bits_deBruijn64tab)], narrowed := true }
def FnExactPlayMovesUptoSaid : Prop := fnExactPlayMovesUptoRow.holds Tryd.pinned (OpenSpec.upto fnExactPlayMovesSpec)

/-- 'laws.FnExactMoveThatFails', WHERE WHAT IT READS IS OF BULK AT MOST 1048576: true; the input reads as it did. -/
def fnExactMoveThatFailsUptoRow : OpenClaim := { program := "ytbgdhiieeegnjaadoor", sum := "4de106b1937c2a571ff3102a79eb9139f6f5738a06ad5cd57b105d228703bd40", func := "loop.example/g01314/laws.FnExactMoveThatFails", spec := "fnExactMoveThatFails", named := ["math/bits.deBruijn32tab", "math/bits.deBruijn64tab"], apart := false, laid := [("math/bits.deBruijn32tab", laid_math_bits_deBruijn32tab), ("math/bits.deBruijn64tab", laid_math_bits_deBruijn64tab)], narrowed := true }
def FnExactMoveThatFailsUptoSaid : Prop := fnExactMoveThatFailsUptoRow.holds Tryd.pinned (OpenSpec.upto fnExactMoveThatFailsSpec)

/-- 'laws.FnExactNumberOfState', WHERE WHAT IT READS IS OF BULK AT MOST 1048576: true; the input reads as it did. -/
def fnExactNumberOfStateUptoRow : OpenClaim := { program := "ytbgdhiieeegnjaadoor", sum := "4de106b1937c2a571ff3102a79eb9139f6f5738a06ad5cd57b105d228703bd40", func := "loop.example/g01314/laws.FnExactNumberOfState", spec := "fnExactNumberOfState", named := ["math/bits.deBruijn32tab", "math/bits.deBruijn64tab"], apart := false, laid := [("math/bits.deBruijn32tab", laid_math_bits_deBruijn32tab), ("math/bits.deBruijn64tab", laid_math_bits_deBruijn64tab)], narrowed := true }
def FnExactNumberOfStateUptoSaid : Prop := fnExactNumberOfStateUptoRow.holds Tryd.pinned (OpenSpec.upto fnExactNumberOfStateSpec)

/-- 'laws.FnExactStateOfNumber', WHERE WHAT IT READS IS OF BULK AT MOST 1048576: true; the input reads as it did. -/
def fnExactStateOfNumberUptoRow : OpenClaim := { program := "ytbgdhiieeegnjaadoor", sum := "4de106b1937c2a571ff3102a79eb9139f6f5738a06ad5cd57b105d228703bd40", func := "loop.example/g01314/laws.FnExactStateOfNumber", spec := "fnExactStateOfNumber", named := ["math/bits.deBruijn32tab", "math/bits.deBruijn64tab"], apart := false, laid := [("math/bits.deBruijn32tab", laid_math_bits_deBruijn32tab), ("math/bits.deBruijn64tab", laid_math_bits_deBruijn64tab)], narrowed := true }
def FnExactStateOfNumberUptoSaid : Prop := fnExactStateOfNumberUptoRow.holds Tryd.pinned (OpenSpec.upto fnExactStateOfNumberSpec)

/-- 'laws.FnExactMovesToClear', WHERE WHAT IT READS IS OF BULK AT MOST 1048576: true; the input reads as it did. -/
def fnExactMovesToClearUptoRow : OpenClaim := { program := "ytbgdhiieeegnjaadoor", sum := "4de106b1937c2a571ff3102a79eb9139f6f5738a06ad5cd57b105d228703bd40", func := "loop.example/g01314/laws.FnExactMovesToClear", spec := "fnExactMovesToClear", named := ["math/bits.deBruijn32tab", "math/bits.deBruijn64tab"], apart := false, laid := [("math/bits.deBruijn32tab", laid_math_bits_deBruijn32tab), ("math/bits.deBruijn64tab", laid_math_bits_deBruijn64tab)], narrowed := true }
def FnExactMovesToClearUptoSaid : Prop := fnExactMovesToClearUptoRow.holds Tryd.pinned (OpenSpec.upto fnExactMovesToClearSpec)

/-- 'laws.FnExactOtherEnd', WHERE WHAT IT READS IS OF BULK AT MOST 1048576: true; the input reads as it did. -/
def fnExactOtherEndUptoRow : OpenClaim := { program := "ytbgdhiieeegnjaadoor", sum := "4de106b1937c2a571ff3102a79eb9139f6f5738a06ad5cd57b105d228703bd40", func := "loop.example/g01314/laws.FnExactOtherEnd", spec := "fnExactOtherEnd", named := ["math/bits.deBruijn32tab", "math/bits.deBruijn64tab"], apart := false, laid := [("math/bits.deBruijn32tab", laid_math_bits_deBruijn32tab), ("math/bits.deBruijn64tab", laid_math_bits_deBruijn64tab)], narrowed := true }
def FnExactOtherEndUptoSaid : Prop := fnExactOtherEndUptoRow.holds Tryd.pinned (OpenSpec.upto fnExactOtherEndSpec)

/-- 'laws.FnExactFewestMoves', WHERE WHAT IT READS IS OF BULK AT MOST 1048576: true; the input reads as it did. -/
def fnExactFewestMovesUptoRow : OpenClaim := { program := "ytbgdhiieeegnjaadoor", sum := "4de106b1937c2a571ff3102a79eb9139f6f5738a06ad5cd57b105d228703bd40", func := "loop.example/g01314/laws.FnExactFewestMoves", spec := "fnExactFewestMoves", named := ["math/bits.deBruijn32tab", "math/bits.deBruijn64tab"], apart := false, laid := [("math/bits.deBruijn32tab", laid_math_bits_deBruijn32tab), ("math/bits.deBruijn64tab", laid_math_bits_deBruijn64tab)], narrowed := true }
def FnExactFewestMovesUptoSaid : Prop := fnExactFewestMovesUptoRow.holds Tryd.pinned (OpenSpec.upto fnExactFewestMovesSpec)

/-- 'laws.FnExactMiddleOf', WHERE WHAT IT READS IS OF BULK AT MOST 1048576: true; the input reads as it did. -/
def fnExactMiddleOfUptoRow : OpenClaim := { program := "ytbgdhiieeegnjaadoor", sum := "4de106b1937c2a571ff3102a79eb9139f6f5738a06ad5cd57b105d228703bd40", func := "loop.example/g01314/laws.FnExactMiddleOf", spec := "fnExactMiddleOf", named := ["math/bits.deBruijn32tab", "math/bits.deBruijn64tab"], apart := false, laid := [("math/bits.deBruijn32tab", laid_math_bits_deBruijn32tab), ("math/bits.deBruijn64tab", laid_math_bits_deBruijn64tab)], narrowed := true }
def FnExactMiddleOfUptoSaid : Prop := fnExactMiddleOfUptoRow.holds Tryd.pinned (OpenSpec.upto fnExactMiddleOfSpec)

end Rows
end Go.Proofs.YtbgdhiieeegnjaaDoor
