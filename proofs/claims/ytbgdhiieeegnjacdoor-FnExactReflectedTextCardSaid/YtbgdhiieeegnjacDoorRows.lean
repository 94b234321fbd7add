/-
  NARROWER THAN 'FOR EVERY INPUT', by the rows' own cells (each row's printed sentence says how): FnExactChangedDigit: laid · FnExactReflectedText: laid · FnExactSetAt: laid.
  DERIVED. THE GIVEN ROWS OF THIS SEAT. 3 by the template 'for every input the law returns true; each argument reads behind the call as it read before'; 0 by the template 'total and deterministic' (their statements: YtbgdhiieeegnjacDoorTotals.lean).
  GIVEN WITH THE SEED: the statements are not yours to turn. If you find one false, say at which input.
  Laid BY PROGRAM, IN A SANDBOX (cutbox-rows.mjs): the forced cells as the released guide's own fill.sh prints them over the translation 79f2226a64be8ba7… (all of the seat's roots in one cut). By AI agents, Wed Nov 11 2026. No macro, syntax, notation, axiom, sorry.
-/
import Derived.Test.YtbgdhiieeegnjacDoorChecked
import GoSem.Claim
import GoSem.ClaimJoined
import GoSem.ClaimMapViews
import Derived.JoinedTies
import Derived.KernelRfl
namespace Go.Proofs.YtbgdhiieeegnjacDoor
/- THE CELL 'sum', in the pinned program and in every row, IS THE sha256 OF THE DUMP (.gsa) THAT YtbgdhiieeegnjacDoorProg.lean LOADS. Nothing in Lean hashes anything: it is a label: what it is worth is what the hold of that sum in a sandbox is worth. -/
noncomputable def Tryd.pinned : Pinned := { name := "ytbgdhiieeegnjacdoor", sum := "79f2226a64be8ba7a98cd40cec534da3f6de0de6f19cb3009acd7c28645220b7", checked := Tryd.checked }
namespace Rows
def none {H : Type} : Left H := { results := [], args := [] }

/- WHAT THE LISTED PACKAGE-LEVEL VARIABLES READ AS WHEN THE CALL BEGINS. Each datum BY PROGRAM (the guide's laid-datum.mjs) off the statement by which the dump's own 'gosem.cut.vars' lays the variable. In a bare row this is a premise. The card (YtbgdhiieeegnjacDoorCards.lean) ties it to the program's text. -/
def laid_math_bits_deBruijn32tab {H : Type} : DataW H := .agg [.lit (.int .u8 0), .lit (.int .u8 1), .lit (.int .u8 28), .lit (.int .u8 2), .lit (.int .u8 29), .lit (.int .u8 14), .lit (.int .u8 24), .lit (.int .u8 3), .lit (.int .u8 30), .lit (.int .u8 22), .lit (.int .u8 20), .lit (.int .u8 15), .lit (.int .u8 25), .lit (.int .u8 17), .lit (.int .u8 4), .lit (.int .u8 8), .lit (.int .u8 31), .lit (.int .u8 27), .lit (.int .u8 13), .lit (.int .u8 23), .lit (.int .u8 21), .lit (.int .u8 19), .lit (.int .u8 16), .lit (.int .u8 7), .lit (.int .u8 26), .lit (.int .u8 12), .lit (.int .u8 18), .lit (.int .u8 6), .lit (.int .u8 11), .lit (.int .u8 5), .lit (.int .u8 10), .lit (.int .u8 9)]
def laid_math_bits_deBruijn64tab {H : Type} : DataW H := .agg [.lit (.int .u8 0), .lit (.int .u8 1), .lit (.int .u8 56), .lit (.int .u8 2), .lit (.int .u8 57), .lit (.int .u8 49), .lit (.int .u8 28), .lit (.int .u8 3), .lit (.int .u8 61), .lit (.int .u8 58), .lit (.int .u8 42), .lit (.int .u8 50), .lit (.int .u8 38), .lit (.int .u8 29), .lit (.int .u8 17), .lit (.int .u8 4), .lit (.int .u8 62), .lit (.int .u8 47), .lit (.int .u8 59), .lit (.int .u8 36), .lit (.int .u8 45), .lit (.int .u8 43), .lit (.int .u8 51), .lit (.int .u8 22), .lit (.int .u8 53), .lit (.int .u8 39), .lit (.int .u8 33), .lit (.int .u8 30), .lit (.int .u8 24), .lit (.int .u8 18), .lit (.int .u8 12), .lit (.int .u8 5), .lit (.int .u8 63), .lit (.int .u8 55), .lit (.int .u8 48), .lit (.int .u8 27), .lit (.int .u8 60), .lit (.int .u8 41), .lit (.int .u8 37), .lit (.int .u8 16), .lit (.int .u8 46), .lit (.int .u8 35), .lit (.int .u8 44), .lit (.int .u8 21), .lit (.int .u8 52), .lit (.int .u8 32), .lit (.int .u8 23), .lit (.int .u8 11), .lit (.int .u8 54), .lit (.int .u8 26), .lit (.int .u8 40), .lit (.int .u8 15), .lit (.int .u8 34), .lit (.int .u8 20), .lit (.int .u8 31), .lit (.int .u8 10), .lit (.int .u8 25), .lit (.int .u8 14), .lit (.int .u8 19), .lit (.int .u8 9), .lit (.int .u8 13), .lit (.int .u8 8), .lit (.int .u8 7), .lit (.int .u8 6)]
def laid_loop_example_g01314_impl_powers {H : Type} : DataW H := .agg [.lit (.int .i64 1), .lit (.int .i64 2), .lit (.int .i64 4), .lit (.int .i64 8), .lit (.int .i64 16), .lit (.int .i64 32), .lit (.int .i64 64), .lit (.int .i64 128), .lit (.int .i64 256), .lit (.int .i64 512), .lit (.int .i64 1024), .lit (.int .i64 2048), .lit (.int .i64 4096), .lit (.int .i64 8192), .lit (.int .i64 16384), .lit (.int .i64 32768), .lit (.int .i64 65536), .lit (.int .i64 131072), .lit (.int .i64 262144), .lit (.int .i64 524288), .lit (.int .i64 1048576), .lit (.int .i64 2097152), .lit (.int .i64 4194304), .lit (.int .i64 8388608), .lit (.int .i64 16777216), .lit (.int .i64 33554432), .lit (.int .i64 67108864), .lit (.int .i64 134217728), .lit (.int .i64 268435456), .lit (.int .i64 536870912), .lit (.int .i64 1073741824), .lit (.int .i64 2147483648), .lit (.int .i64 4294967296), .lit (.int .i64 8589934592), .lit (.int .i64 17179869184), .lit (.int .i64 34359738368), .lit (.int .i64 68719476736), .lit (.int .i64 137438953472), .lit (.int .i64 274877906944), .lit (.int .i64 549755813888), .lit (.int .i64 1099511627776)]

/-- 'laws.FnExactChangedDigit': WHATEVER THE INPUT: true; the input reads as it did. -/
def fnExactChangedDigitSpec : ChangeSpec := { name := "fnExactChangedDigit", fn := fun _ => fun
  | [d] => { results := [.lit (.bool true)], args := [d] }
  | _ => none }
def fnExactChangedDigitRow : OpenClaim := { program := "ytbgdhiieeegnjacdoor", sum := "79f2226a64be8ba7a98cd40cec534da3f6de0de6f19cb3009acd7c28645220b7", func := "loop.example/g01314/laws.FnExactChangedDigit", spec := "fnExactChangedDigit", named := ["math/bits.deBruijn32tab", "math/bits.deBruijn64tab"], apart := false, laid := [("math/bits.deBruijn32tab", laid_math_bits_deBruijn32tab), ("math/bits.deBruijn64tab", laid_math_bits_deBruijn64tab)] }
def FnExactChangedDigitSaid : Prop := fnExactChangedDigitRow.holds Tryd.pinned (OpenSpec.ofChange fnExactChangedDigitSpec)

/-- ITS FALSE NEIGHBOUR: 'it returns false'. Refute it at one input. -/
def fnExactChangedDigitWrong : ChangeSpec := { name := "fnExactChangedDigit", fn := fun _ => fun
  | [d] => { results := [.lit (.bool false)], args := [d] }
  | _ => none }
def FnExactChangedDigitWrongFalsely : Prop := fnExactChangedDigitRow.holds Tryd.pinned (OpenSpec.ofChange fnExactChangedDigitWrong)

/-- 'laws.FnExactReflectedText': WHATEVER THE INPUT: true; the input reads as it did. -/
def fnExactReflectedTextSpec : ChangeSpec := { name := "fnExactReflectedText", vars := ["loop.example/g01314/impl.powers"], fn := fun _ => fun
  | [d1, d2, g1] => { results := [.lit (.bool true)], args := [d1, d2], vars := [g1] }
  | _ => none }
def fnExactReflectedTextRow : OpenClaim := { program := "ytbgdhiieeegnjacdoor", sum := "79f2226a64be8ba7a98cd40cec534da3f6de0de6f19cb3009acd7c28645220b7", func := "loop.example/g01314/laws.FnExactReflectedText", spec := "fnExactReflectedText", recurses := true, named := ["loop.example/g01314/impl.powers"], apart := false, laid := [("loop.example/g01314/impl.powers", laid_loop_example_g01314_impl_powers)] }
def FnExactReflectedTextSaid : Prop := fnExactReflectedTextRow.holds Tryd.pinned (OpenSpec.ofChange fnExactReflectedTextSpec)

/-- ITS FALSE NEIGHBOUR: 'it returns false'. Refute it at one input. -/
def fnExactReflectedTextWrong : ChangeSpec := { name := "fnExactReflectedText", vars := ["loop.example/g01314/impl.powers"], fn := fun _ => fun
  | [d1, d2, g1] => { results := [.lit (.bool false)], args := [d1, d2], vars := [g1] }
  | _ => none }
def FnExactReflectedTextWrongFalsely : Prop := fnExactReflectedTextRow.holds Tryd.pinned (OpenSpec.ofChange fnExactReflectedTextWrong)

/-- 'laws.FnExactSetAt': WHATEVER THE INPUT: true; the input reads as it did. -/
def fnExactSetAtSpec : ChangeSpec := { name := "fnExactSetAt", vars := ["loop.example/g01314/impl.powers"], fn := fun _ => fun
  | [d1, d2, g1] => { results := [.lit (.bool true)], args := [d1, d2], vars := [g1] }
  | _ => none }
def fnExactSetAtRow : OpenClaim := { program := "ytbgdhiieeegnjacdoor", sum := "79f2226a64be8ba7a98cd40cec534da3f6de0de6f19cb3009acd7c28645220b7", func := "loop.example/g01314/laws.FnExactSetAt", spec := "fnExactSetAt", named := ["loop.example/g01314/impl.powers"], apart := false, laid := [("loop.example/g01314/impl.powers", laid_loop_example_g01314_impl_powers)] }
def FnExactSetAtSaid : Prop := fnExactSetAtRow.holds Tryd.pinned (OpenSpec.ofChange fnExactSetAtSpec)

/-- ITS FALSE NEIGHBOUR: 'it returns false'. Refute it at one input. -/
def fnExactSetAtWrong : ChangeSpec := { name := "fnExactSetAt", vars := ["loop.example/g01314/impl.powers"], fn := fun _ => fun
  | [d1, d2, g1] => { results := [.lit (.bool false)], args := [d1, d2], vars := [g1] }
  | _ => none }
def FnExactSetAtWrongFalsely : Prop := fnExactSetAtRow.holds Tryd.pinned (OpenSpec.ofChange fnExactSetAtWrong)

/- THE SECOND FORM. 'bulk': how many values and letters a reading holds, each counted each time it is reached (what is shared counts as often as it is met; a slice's spare places count too). A statement '..UptoSaid' is the law's where the arguments, and the package variables that the reading takes, are together of bulk at most 1048576: NARROWER than '..Said'. Prove '..Said' where nothing that the law and all that it calls make is longer than what came in: it says more and counts as full. Else prove '..UptoSaid'. A law counts once. -/
mutual
def uptoBulk {H : Type} : DataW H → Nat
  | .lit (.string bytes) => bytes.length + 1
  | .lit _ => 1
  | .nil => 1
  | .ptr d => uptoBulk d + 1
  | .slice elems spare => uptoBulkAll elems + uptoBulkAll spare + 1
  | .agg parts => uptoBulkAll parts + 1
  | .iface _ d => uptoBulk d + 1
  | .map entries => uptoBulkEntries entries + 1
  | .held _ => 1
def uptoBulkAll {H : Type} : List (DataW H) → Nat
  | [] => 0
  | d :: r => uptoBulk d + uptoBulkAll r
def uptoBulkEntries {H : Type} : List (Lit × DataW H) → Nat
  | [] => 0
  | x :: r => uptoBulkEntry x + uptoBulkEntries r
def uptoBulkEntry {H : Type} : Lit × DataW H → Nat
  | (.string bytes, d) => bytes.length + uptoBulk d + 1
  | (_, d) => uptoBulk d + 1
 end
def uptoSmall : (H : Type) → List (DataW H) → Bool := fun _ ds => decide (uptoBulkAll ds ≤ 1048576)
def OpenSpec.upto (s : _root_.Go.ChangeSpec) : _root_.Go.OpenSpec := { _root_.Go.OpenSpec.ofChange s with cond := some uptoSmall }

/-- 'laws.FnExactChangedDigit', WHERE WHAT IT READS IS OF BULK AT MOST 1048576: true; the input reads as it did. -/
def fnExactChangedDigitUptoRow : OpenClaim := { program := "ytbgdhiieeegnjacdoor", sum := "79f2226a64be8ba7a98cd40cec534da3f6de0de6f19cb3009acd7c28645220b7", func := "loop.example/g01314/laws.FnExactChangedDigit", spec := "fnExactChangedDigit", named := ["math/bits.deBruijn32tab", "math/bits.deBruijn64tab"], apart := false, laid := [("math/bits.deBruijn32tab", laid_math_bits_deBruijn32tab), ("math/bits.deBruijn64tab", laid_math_bits_deBruijn64tab)], narrowed := true }
def FnExactChangedDigitUptoSaid : Prop := fnExactChangedDigitUptoRow.holds Tryd.pinned (OpenSpec.upto fnExactChangedDigitSpec)

/-- 'laws.FnExactReflectedText', WHERE WHAT IT READS IS OF BULK AT MOST 1048576: true; the input reads as it did. -/
def fnExactReflectedTextUptoRow : OpenClaim := { program := "ytbgdhiieeegnjacdoor", sum := "79f2226a64be8ba7a98cd40cec534da3f6de0de6f19cb3009acd7c28645220b7", func := "loop.example/g01314/laws.FnExactReflectedText", spec := "fnExactReflectedText", recurses := true, named := ["loop.example/g01314/impl.powers"], apart := false, laid := [("loop.example/g01314/impl.powers", laid_loop_example_g01314_impl_powers)], narrowed := true }
def FnExactReflectedTextUptoSaid : Prop := fnExactReflectedTextUptoRow.holds Tryd.pinned (OpenSpec.upto fnExactReflectedTextSpec)

/-- 'laws.FnExactSetAt', WHERE WHAT IT READS IS OF BULK AT MOST 1048576: true; the input reads as it did. -/
def fnExactSetAtUptoRow : OpenClaim := { program := "ytbgdhiieeegnjacdoor", sum := "79f2226a64be8ba7a98cd40cec534da3f6de0de6f19cb3009acd7c28645220b7", func := "loop.example/g01314/laws.FnExactSetAt", spec := "fnExactSetAt", named := ["loop.example/g01314/impl.powers"], apart := false, laid := [("loop.example/g01314/impl.powers", laid_loop_example_g01314_impl_powers)], narrowed := true }
def FnExactSetAtUptoSaid : Prop := fnExactSetAtUptoRow.holds Tryd.pinned (OpenSpec.upto fnExactSetAtSpec)

end Rows
end Go.Proofs.YtbgdhiieeegnjacDoor
