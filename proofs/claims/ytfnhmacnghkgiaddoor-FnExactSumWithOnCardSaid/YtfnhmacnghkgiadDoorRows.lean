/-
  NARROWER THAN 'FOR EVERY INPUT', by the rows' own cells (each row's printed sentence says how): FnExactMeanToClear: laid · FnExactMeanFrom: laid · FnExactChanceBefore: laid · FnExactCountWithOn: laid · FnExactLeastWithOn: laid · FnExactGreatestWithOn: laid · FnExactSumWithOn: laid.
  DERIVED. THE GIVEN ROWS OF THIS SEAT. 7 by the template 'for every input the law returns true; each argument reads behind the call as it read before'; 0 by the template 'total and deterministic' (their statements: YtfnhmacnghkgiadDoorTotals.lean).
  GIVEN WITH THE SEED: the statements are not yours to turn. If you find one false, say at which input.
  Laid BY PROGRAM, IN A SANDBOX (cutbox-rows.mjs): the forced cells as the released guide's own fill.sh prints them over the translation 1fda57ed0e698de4… (all of the seat's roots in one cut). By AI agents, Wed Nov 11 2026. No macro, syntax, notation, axiom, sorry.
-/
import Derived.Test.YtfnhmacnghkgiadDoorChecked
import GoSem.Claim
import GoSem.ClaimJoined
import GoSem.ClaimMapViews
import Derived.JoinedTies
import Derived.KernelRfl
namespace Go.Proofs.YtfnhmacnghkgiadDoor
/- THE CELL 'sum', in the pinned program and in every row, IS THE sha256 OF THE DUMP (.gsa) THAT YtfnhmacnghkgiadDoorProg.lean LOADS. Nothing in Lean hashes anything: it is a label: what it is worth is what the hold of that sum in a sandbox is worth. -/
noncomputable def Tryd.pinned : Pinned := { name := "ytfnhmacnghkgiaddoor", sum := "1fda57ed0e698de4abd3ace363ab5f28deb8cab110077ffe64f965450201bd17", checked := Tryd.checked }
namespace Rows
def none {H : Type} : Left H := { results := [], args := [] }

/- WHAT THE LISTED PACKAGE-LEVEL VARIABLES READ AS WHEN THE CALL BEGINS. Each datum BY PROGRAM (the guide's laid-datum.mjs) off the statement by which the dump's own 'gosem.cut.vars' lays the variable. In a bare row this is a premise. The card (YtfnhmacnghkgiadDoorCards.lean) ties it to the program's text. -/
def laid_math_bits_deBruijn32tab {H : Type} : DataW H := .agg [.lit (.int .u8 0), .lit (.int .u8 1), .lit (.int .u8 28), .lit (.int .u8 2), .lit (.int .u8 29), .lit (.int .u8 14), .lit (.int .u8 24), .lit (.int .u8 3), .lit (.int .u8 30), .lit (.int .u8 22), .lit (.int .u8 20), .lit (.int .u8 15), .lit (.int .u8 25), .lit (.int .u8 17), .lit (.int .u8 4), .lit (.int .u8 8), .lit (.int .u8 31), .lit (.int .u8 27), .lit (.int .u8 13), .lit (.int .u8 23), .lit (.int .u8 21), .lit (.int .u8 19), .lit (.int .u8 16), .lit (.int .u8 7), .lit (.int .u8 26), .lit (.int .u8 12), .lit (.int .u8 18), .lit (.int .u8 6), .lit (.int .u8 11), .lit (.int .u8 5), .lit (.int .u8 10), .lit (.int .u8 9)]
def laid_math_bits_deBruijn64tab {H : Type} : DataW H := .agg [.lit (.int .u8 0), .lit (.int .u8 1), .lit (.int .u8 56), .lit (.int .u8 2), .lit (.int .u8 57), .lit (.int .u8 49), .lit (.int .u8 28), .lit (.int .u8 3), .lit (.int .u8 61), .lit (.int .u8 58), .lit (.int .u8 42), .lit (.int .u8 50), .lit (.int .u8 38), .lit (.int .u8 29), .lit (.int .u8 17), .lit (.int .u8 4), .lit (.int .u8 62), .lit (.int .u8 47), .lit (.int .u8 59), .lit (.int .u8 36), .lit (.int .u8 45), .lit (.int .u8 43), .lit (.int .u8 51), .lit (.int .u8 22), .lit (.int .u8 53), .lit (.int .u8 39), .lit (.int .u8 33), .lit (.int .u8 30), .lit (.int .u8 24), .lit (.int .u8 18), .lit (.int .u8 12), .lit (.int .u8 5), .lit (.int .u8 63), .lit (.int .u8 55), .lit (.int .u8 48), .lit (.int .u8 27), .lit (.int .u8 60), .lit (.int .u8 41), .lit (.int .u8 37), .lit (.int .u8 16), .lit (.int .u8 46), .lit (.int .u8 35), .lit (.int .u8 44), .lit (.int .u8 21), .lit (.int .u8 52), .lit (.int .u8 32), .lit (.int .u8 23), .lit (.int .u8 11), .lit (.int .u8 54), .lit (.int .u8 26), .lit (.int .u8 40), .lit (.int .u8 15), .lit (.int .u8 34), .lit (.int .u8 20), .lit (.int .u8 31), .lit (.int .u8 10), .lit (.int .u8 25), .lit (.int .u8 14), .lit (.int .u8 19), .lit (.int .u8 9), .lit (.int .u8 13), .lit (.int .u8 8), .lit (.int .u8 7), .lit (.int .u8 6)]

/-- 'laws.FnExactMeanToClear': WHATEVER THE INPUT: true; the input reads as it did. -/
def fnExactMeanToClearSpec : ChangeSpec := { name := "fnExactMeanToClear", fn := fun _ => fun
  | [d] => { results := [.lit (.bool true)], args := [d] }
  | _ => none }
def fnExactMeanToClearRow : OpenClaim := { program := "ytfnhmacnghkgiaddoor", sum := "1fda57ed0e698de4abd3ace363ab5f28deb8cab110077ffe64f965450201bd17", func := "loop.example/g01314/laws.FnExactMeanToClear", spec := "fnExactMeanToClear", named := ["math/bits.deBruijn32tab", "math/bits.deBruijn64tab"], apart := false, laid := [("math/bits.deBruijn32tab", laid_math_bits_deBruijn32tab), ("math/bits.deBruijn64tab", laid_math_bits_deBruijn64tab)] }
def FnExactMeanToClearSaid : Prop := fnExactMeanToClearRow.holds Tryd.pinned (OpenSpec.ofChange fnExactMeanToClearSpec)

/-- ITS FALSE NEIGHBOUR: 'it returns false'. Refute it at one input. -/
def fnExactMeanToClearWrong : ChangeSpec := { name := "fnExactMeanToClear", fn := fun _ => fun
  | [d] => { results := [.lit (.bool false)], args := [d] }
  | _ => none }
def FnExactMeanToClearWrongFalsely : Prop := fnExactMeanToClearRow.holds Tryd.pinned (OpenSpec.ofChange fnExactMeanToClearWrong)

/-- 'laws.FnExactMeanFrom': WHATEVER THE INPUT: true; the input reads as it did. -/
def fnExactMeanFromSpec : ChangeSpec := { name := "fnExactMeanFrom", fn := fun _ => fun
  | [d1, d2] => { results := [.lit (.bool true)], args := [d1, d2] }
  | _ => none }
def fnExactMeanFromRow : OpenClaim := { program := "ytfnhmacnghkgiaddoor", sum := "1fda57ed0e698de4abd3ace363ab5f28deb8cab110077ffe64f965450201bd17", func := "loop.example/g01314/laws.FnExactMeanFrom", spec := "fnExactMeanFrom", named := ["math/bits.deBruijn32tab", "math/bits.deBruijn64tab"], apart := false, laid := [("math/bits.deBruijn32tab", laid_math_bits_deBruijn32tab), ("math/bits.deBruijn64tab", laid_math_bits_deBruijn64tab)] }
def FnExactMeanFromSaid : Prop := fnExactMeanFromRow.holds Tryd.pinned (OpenSpec.ofChange fnExactMeanFromSpec)

/-- ITS FALSE NEIGHBOUR: 'it returns false'. Refute it at one input. -/
def fnExactMeanFromWrong : ChangeSpec := { name := "fnExactMeanFrom", fn := fun _ => fun
  | [d1, d2] => { results := [.lit (.bool false)], args := [d1, d2] }
  | _ => none }
def FnExactMeanFromWrongFalsely : Prop := fnExactMeanFromRow.holds Tryd.pinned (OpenSpec.ofChange fnExactMeanFromWrong)

/-- 'laws.FnExactChanceBefore': WHATEVER THE INPUT: true; the input reads as it did. -/
def fnExactChanceBeforeSpec : ChangeSpec := { name := "fnExactChanceBefore", fn := fun _ => fun
  | [d1, d2, d3] => { results := [.lit (.bool true)], args := [d1, d2, d3] }
  | _ => none }
def fnExactChanceBeforeRow : OpenClaim := { program := "ytfnhmacnghkgiaddoor", sum := "1fda57ed0e698de4abd3ace363ab5f28deb8cab110077ffe64f965450201bd17", func := "loop.example/g01314/laws.FnExactChanceBefore", spec := "fnExactChanceBefore", named := ["math/bits.deBruijn32tab", "math/bits.deBruijn64tab"], apart := false, laid := [("math/bits.deBruijn32tab", laid_math_bits_deBruijn32tab), ("math/bits.deBruijn64tab", laid_math_bits_deBruijn64tab)] }
def FnExactChanceBeforeSaid : Prop := fnExactChanceBeforeRow.holds Tryd.pinned (OpenSpec.ofChange fnExactChanceBeforeSpec)

/-- ITS FALSE NEIGHBOUR: 'it returns false'. Refute it at one input. -/
def fnExactChanceBeforeWrong : ChangeSpec := { name := "fnExactChanceBefore", fn := fun _ => fun
  | [d1, d2, d3] => { results := [.lit (.bool false)], args := [d1, d2, d3] }
  | _ => none }
def FnExactChanceBeforeWrongFalsely : Prop := fnExactChanceBeforeRow.holds Tryd.pinned (OpenSpec.ofChange fnExactChanceBeforeWrong)

/-- 'laws.FnExactCountWithOn': WHATEVER THE INPUT: true; the input reads as it did. -/
def fnExactCountWithOnSpec : ChangeSpec := { name := "fnExactCountWithOn", fn := fun _ => fun
  | [d1, d2] => { results := [.lit (.bool true)], args := [d1, d2] }
  | _ => none }
def fnExactCountWithOnRow : OpenClaim := { program := "ytfnhmacnghkgiaddoor", sum := "1fda57ed0e698de4abd3ace363ab5f28deb8cab110077ffe64f965450201bd17", func := "loop.example/g01314/laws.FnExactCountWithOn", spec := "fnExactCountWithOn", named := ["math/bits.deBruijn32tab", "math/bits.deBruijn64tab"], apart := false, laid := [("math/bits.deBruijn32tab", laid_math_bits_deBruijn32tab), ("math/bits.deBruijn64tab", laid_math_bits_deBruijn64tab)] }
def FnExactCountWithOnSaid : Prop := fnExactCountWithOnRow.holds Tryd.pinned (OpenSpec.ofChange fnExactCountWithOnSpec)

/-- ITS FALSE NEIGHBOUR: 'it returns false'. Refute it at one input. -/
def fnExactCountWithOnWrong : ChangeSpec := { name := "fnExactCountWithOn", fn := fun _ => fun
  | [d1, d2] => { results := [.lit (.bool false)], args := [d1, d2] }
  | _ => none }
def FnExactCountWithOnWrongFalsely : Prop := fnExactCountWithOnRow.holds Tryd.pinned (OpenSpec.ofChange fnExactCountWithOnWrong)

/-- 'laws.FnExactLeastWithOn': WHATEVER THE INPUT: true; the input reads as it did. -/
def fnExactLeastWithOnSpec : ChangeSpec := { name := "fnExactLeastWithOn", fn := fun _ => fun
  | [d1, d2] => { results := [.lit (.bool true)], args := [d1, d2] }
  | _ => none }
def fnExactLeastWithOnRow : OpenClaim := { program := "ytfnhmacnghkgiaddoor", sum := "1fda57ed0e698de4abd3ace363ab5f28deb8cab110077ffe64f965450201bd17", func := "loop.example/g01314/laws.FnExactLeastWithOn", spec := "fnExactLeastWithOn", named := ["math/bits.deBruijn32tab", "math/bits.deBruijn64tab"], apart := false, laid := [("math/bits.deBruijn32tab", laid_math_bits_deBruijn32tab), ("math/bits.deBruijn64tab", laid_math_bits_deBruijn64tab)] }
def FnExactLeastWithOnSaid : Prop := fnExactLeastWithOnRow.holds Tryd.pinned (OpenSpec.ofChange fnExactLeastWithOnSpec)

/-- ITS FALSE NEIGHBOUR: 'it returns false'. Refute it at one input. -/
def fnExactLeastWithOnWrong : ChangeSpec := { name := "fnExactLeastWithOn", fn := fun _ => fun
  | [d1, d2] => { results := [.lit (.bool false)], args := [d1, d2] }
  | _ => none }
def FnExactLeastWithOnWrongFalsely : Prop := fnExactLeastWithOnRow.holds Tryd.pinned (OpenSpec.ofChange fnExactLeastWithOnWrong)

/-- 'laws.FnExactGreatestWithOn': WHATEVER THE INPUT: true; the input reads as it did. -/
def fnExactGreatestWithOnSpec : ChangeSpec := { name := "fnExactGreatestWithOn", fn := fun _ => fun
  | [d1, d2] => { results := [.lit (.bool true)], args := [d1, d2] }
  | _ => none }
def fnExactGreatestWithOnRow : OpenClaim := { program := "ytfnhmacnghkgiaddoor", sum := "1fda57ed0e698de4abd3ace363ab5f28deb8cab110077ffe64f965450201bd17", func := "loop.example/g01314/laws.FnExactGreatestWithOn", spec := "fnExactGreatestWithOn", named := ["math/bits.deBruijn32tab", "math/bits.deBruijn64tab"], apart := false, laid := [("math/bits.deBruijn32tab", laid_math_bits_deBruijn32tab), ("math/bits.deBruijn64tab", laid_math_bits_deBruijn64tab)] }
def FnExactGreatestWithOnSaid : Prop := fnExactGreatestWithOnRow.holds Tryd.pinned (OpenSpec.ofChange fnExactGreatestWithOnSpec)

/-- ITS FALSE NEIGHBOUR: 'it returns false'. Refute it at one input. -/
def fnExactGreatestWithOnWrong : ChangeSpec := { name := "fnExactGreatestWithOn", fn := fun _ => fun
  | [d1, d2] => { results := [.lit (.bool false)], args := [d1, d2] }
  | _ => none }
def FnExactGreatestWithOnWrongFalsely : Prop := fnExactGreatestWithOnRow.holds Tryd.pinned (OpenSpec.ofChange fnExactGreatestWithOnWrong)

/-- 'laws.FnExactSumWithOn': WHATEVER THE INPUT: true; the input reads as it did. -/
def fnExactSumWithOnSpec : ChangeSpec := { name := "fnExactSumWithOn", fn := fun _ => fun
  | [d1, d2] => { results := [.lit (.bool true)], args := [d1, d2] }
  | _ => none }
def fnExactSumWithOnRow : OpenClaim := { program := "ytfnhmacnghkgiaddoor", sum := "1fda57ed0e698de4abd3ace363ab5f28deb8cab110077ffe64f965450201bd17", func := "loop.example/g01314/laws.FnExactSumWithOn", spec := "fnExactSumWithOn", named := ["math/bits.deBruijn32tab", "math/bits.deBruijn64tab"], apart := false, laid := [("math/bits.deBruijn32tab", laid_math_bits_deBruijn32tab), ("math/bits.deBruijn64tab", laid_math_bits_deBruijn64tab)] }
def FnExactSumWithOnSaid : Prop := fnExactSumWithOnRow.holds Tryd.pinned (OpenSpec.ofChange fnExactSumWithOnSpec)

/-- ITS FALSE NEIGHBOUR: 'it returns false'. Refute it at one input. -/
def fnExactSumWithOnWrong : ChangeSpec := { name := "fnExactSumWithOn", fn := fun _ => fun
  | [d1, d2] => { results := [.lit (.bool false)], args := [d1, d2] }
  | _ => none }
def FnExactSumWithOnWrongFalsely : Prop := fnExactSumWithOnRow.holds Tryd.pinned (OpenSpec.ofChange fnExactSumWithOnWrong)

/- THE SECOND FORM. 'bulk': how many values and letters a reading holds, each counted each time it is reached (what is shared counts as often as it is met; a slice's spare places count too). A statement '..UptoSaid' is the law's where the arguments, and the package variables that the reading takes, are together of bulk at most 1048576: NARROWER than '..Said'. Prove '..Said' where nothing that the law and all that it calls make is longer than what came in: it says more and counts as full. Else prove '..UptoSaid'. A law counts once. -/
mutual
def uptoBulk {H : Type} : DataW H → Nat
  | .lit (.string bytes) => bytes.length + 1
  | .lit _ => 1
  | .nil => 1
  | .ptr d => uptoBulk d + 1
  | .slice elems spare => uptoBulkAll elems + uptoBulkAll spare + 1
  | .agg parts => uptoBulkAll parts + 1
  | .iface _ d => uptoBulk d + 1
  | .map entries => uptoBulkEntries entries + 1
  | .held _ => 1
def uptoBulkAll {H : Type} : List (DataW H) → Nat
  | [] => 0
  | d :: r => uptoBulk d + uptoBulkAll r
def uptoBulkEntries {H : Type} : List (Lit × DataW H) → Nat
  | [] => 0
  | x :: r => uptoBulkEntry x + uptoBulkEntries r
def uptoBulkEntry {H : Type} : Lit × DataW H → Nat
  | (.string bytes, d) => bytes.length + uptoBulk d + 1
  | (_, d) => uptoBulk d + 1
 end
def uptoSmall : (H : Type) → List (DataW H) → Bool := fun _ ds => decide (uptoBulkAll ds ≤ 1048576)
def OpenSpec.upto (s : _root_.Go.ChangeSpec) : _root_.Go.OpenSpec := { _root_.Go.OpenSpec.ofChange s with cond := some uptoSmall }

/-- 'laws.FnExactMeanToClear', WHERE WHAT IT READS IS OF BULK AT MOST 1048576: true; the input reads as it did. -/
def fnExactMeanToClearUptoRow : OpenClaim := { program := "ytfnhmacnghkgiaddoor", sum := "1fda57ed0e698de4abd3ace363ab5f28deb8cab110077ffe64f965450201bd17", func := "loop.example/g01314/laws.FnExactMeanToClear", spec := "fnExactMeanToClear", named := ["math/bits.deBruijn32tab", "math/bits.deBruijn64tab"], apart := false, laid := [("math/bits.deBruijn32tab", laid_math_bits_deBruijn32tab), ("math/bits.deBruijn64tab", laid_math_bits_deBruijn64tab)], narrowed := true }
def FnExactMeanToClearUptoSaid : Prop := fnExactMeanToClearUptoRow.holds Tryd.pinned (OpenSpec.upto fnExactMeanToClearSpec)

/-- 'laws.FnExactMeanFrom', WHERE WHAT IT READS IS OF BULK AT MOST 1048576: true; the input reads as it did. -/
def fnExactMeanFromUptoRow : OpenClaim := { program := "ytfnhmacnghkgiaddoor", sum := "1fda57ed0e698de4abd3ace363ab5f28deb8cab110077ffe64f965450201bd17", func := "loop.example/g01314/laws.FnExactMeanFrom", spec := "fnExactMeanFrom", named := ["math/bits.deBruijn32tab", "math/bits.deBruijn64tab"], apart := false, laid := [("math/bits.deBruijn32tab", laid_math_bits_deBruijn32tab), ("math/bits.deBruijn64tab", laid_math_bits_deBruijn64tab)], narrowed := true }
def FnExactMeanFromUptoSaid : Prop := fnExactMeanFromUptoRow.holds Tryd.pinned (OpenSpec.upto fnExactMeanFromSpec)

/-- 'laws.FnExactChanceBefore', WHERE WHAT IT READS IS OF BULK AT MOST 1048576: true; the input reads as it did. -/
def fnExactChanceBeforeUptoRow : OpenClaim := { program := "ytfnhmacnghkgiaddoor", sum := "1fda57ed0e698de4abd3ace363ab5f28deb8cab110077ffe64f965450201bd17", func := "loop.example/g01314/laws.FnExactChanceBefore", spec := "fnExactChanceBefore", named := ["math/bits.deBruijn32tab", "math/bits.deBruijn64tab"], apart := false, laid := [("math/bits.deBruijn32tab", laid_math_bits_deBruijn32tab), ("math/bits.deBruijn64tab", laid_math_bits_deBruijn64tab)], narrowed := true }
def FnExactChanceBeforeUptoSaid : Prop := fnExactChanceBeforeUptoRow.holds Tryd.pinned (OpenSpec.upto fnExactChanceBeforeSpec)

/-- 'laws.FnExactCountWithOn', WHERE WHAT IT READS IS OF BULK AT MOST 1048576: true; the input reads as it did. -/
def fnExactCountWithOnUptoRow : OpenClaim := { program := "ytfnhmacnghkgiaddoor", sum := "1fda57ed0e698de4abd3ace363ab5f28deb8cab110077ffe64f965450201bd17", func := "loop.example/g01314/laws.FnExactCountWithOn", spec := "fnExactCountWithOn", named := ["math/bits.deBruijn32tab", "math/bits.deBruijn64tab"], apart := false, laid := [("math/bits.deBruijn32tab", laid_math_bits_deBruijn32tab), ("math/bits.deBruijn64tab", laid_math_bits_deBruijn64tab)], narrowed := true }
def FnExactCountWithOnUptoSaid : Prop := fnExactCountWithOnUptoRow.holds Tryd.pinned (OpenSpec.upto fnExactCountWithOnSpec)

/-- 'laws.FnExactLeastWithOn', WHERE WHAT IT READS IS OF BULK AT MOST 1048576: true; the input reads as it did. -/
def fnExactLeastWithOnUptoRow : OpenClaim := { program := "ytfnhmacnghkgiaddoor", sum := "1fda57ed0e698de4abd3ace363ab5f28deb8cab110077ffe64f965450201bd17", func := "loop.example/g01314/laws.FnExactLeastWithOn", spec := "fnExactLeastWithOn", named := ["math/bits.deBruijn32tab", "math/bits.deBruijn64tab"], apart := false, laid := [("math/bits.deBruijn32tab", laid_math_bits_deBruijn32tab), ("math/bits.deBruijn64tab", laid_math_bits_deBruijn64tab)], narrowed := true }
def FnExactLeastWithOnUptoSaid : Prop := fnExactLeastWithOnUptoRow.holds Tryd.pinned (OpenSpec.upto fnExactLeastWithOnSpec)

/-- 'laws.FnExactGreatestWithOn', WHERE WHAT IT READS IS OF BULK AT MOST 1048576: true; the input reads as it did. -/
def fnExactGreatestWithOnUptoRow : OpenClaim := { program := "ytfnhmacnghkgiaddoor", sum := "1fda57ed0e698de4abd3ace363ab5f28deb8cab110077ffe64f965450201bd17", func := "loop.example/g01314/laws.FnExactGreatestWithOn", spec := "fnExactGreatestWithOn", named := ["math/bits.deBruijn32tab", "math/bits.deBruijn64tab"], apart := false, laid := [("math/bits.deBruijn32tab", laid_math_bits_deBruijn32tab), ("math/bits.deBruijn64tab", laid_math_bits_deBruijn64tab)], narrowed := true }
def FnExactGreatestWithOnUptoSaid : Prop := fnExactGreatestWithOnUptoRow.holds Tryd.pinned (OpenSpec.upto fnExactGreatestWithOnSpec)

/-- 'laws.FnExactSumWithOn', WHERE WHAT IT READS IS OF BULK AT MOST 1048576: true; the input reads as it did. -/
def fnExactSumWithOnUptoRow : OpenClaim := { program := "ytfnhmacnghkgiaddoor", sum := "1fda57ed0e698de4abd3ace363ab5f28deb8cab110077ffe64f965450201bd17", func := "loop.example/g01314/laws.FnExactSumWithOn", spec := "fnExactSumWithOn", named := ["math/bits.deBruijn32tab", "math/bits.deBruijn64tab"], apart := false, laid := [("math/bits.deBruijn32tab", laid_math_bits_deBruijn32tab), ("math/bits.deBruijn64tab", laid_math_bits_deBruijn64tab)], narrowed := true }
def FnExactSumWithOnUptoSaid : Prop := fnExactSumWithOnUptoRow.holds Tryd.pinned (OpenSpec.upto fnExactSumWithOnSpec)

end Rows
end Go.Proofs.YtfnhmacnghkgiadDoor
