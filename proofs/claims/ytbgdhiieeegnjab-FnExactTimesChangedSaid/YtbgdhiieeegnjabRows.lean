/-
  No cell of these rows narrows 'for every input' (looked for: loops, veiled, ifaces, maps, wideKeys, modest, calm, conditions, laid).
  DERIVED. THE GIVEN ROWS OF THIS SEAT. 7 by the template 'for every input the law returns true; each argument reads behind the call as it read before'; 0 by the template 'total and deterministic' (their statements: YtbgdhiieeegnjabTotals.lean).
  GIVEN WITH THE SEED: the statements are not yours to turn. If you find one false, say at which input.
  Laid BY PROGRAM, IN A SANDBOX (cutbox-rows.mjs): the forced cells as the released guide's own fill.sh prints them over the translation 89b0da19921db45a… (all of the seat's roots in one cut). By AI agents, Wed Nov 11 2026. No macro, syntax, notation, axiom, sorry.
-/
import Derived.Test.YtbgdhiieeegnjabChecked
import GoSem.Claim
import GoSem.ClaimJoined
import GoSem.ClaimMapViews
import Derived.JoinedTies
import Derived.KernelRfl
namespace Go.Proofs.Ytbgdhiieeegnjab
/- THE CELL 'sum', in the pinned program and in every row, IS THE sha256 OF THE DUMP (.gsa) THAT YtbgdhiieeegnjabProg.lean LOADS. Nothing in Lean hashes anything: it is a label: what it is worth is what the hold of that sum in a sandbox is worth. -/
noncomputable def Try.pinned : Pinned := { name := "ytbgdhiieeegnjab", sum := "89b0da19921db45a025b4798af4dd36a323b0b184c47cde7596820b0a8a007f7", checked := Try.checked }
namespace Rows
def none {H : Type} : Left H := { results := [], args := [] }

/-- 'laws.FnExactIsState': WHATEVER THE INPUT: true; the input reads as it did. -/
def fnExactIsStateSpec : ChangeSpec := { name := "fnExactIsState", fn := fun _ => fun
  | [d] => { results := [.lit (.bool true)], args := [d] }
  | _ => none }
def fnExactIsStateRow : OpenClaim := { program := "ytbgdhiieeegnjab", sum := "89b0da19921db45a025b4798af4dd36a323b0b184c47cde7596820b0a8a007f7", func := "loop.example/g01314/laws.FnExactIsState", spec := "fnExactIsState", apart := false }
def FnExactIsStateSaid : Prop := fnExactIsStateRow.holds Try.pinned (OpenSpec.ofChange fnExactIsStateSpec)

/-- ITS FALSE NEIGHBOUR: 'it returns false'. Refute it at one input. -/
def fnExactIsStateWrong : ChangeSpec := { name := "fnExactIsState", fn := fun _ => fun
  | [d] => { results := [.lit (.bool false)], args := [d] }
  | _ => none }
def FnExactIsStateWrongFalsely : Prop := fnExactIsStateRow.holds Try.pinned (OpenSpec.ofChange fnExactIsStateWrong)

/-- 'laws.FnExactMovesText': WHATEVER THE INPUT: true; the input reads as it did. -/
def fnExactMovesTextSpec : ChangeSpec := { name := "fnExactMovesText", fn := fun _ => fun
  | [d] => { results := [.lit (.bool true)], args := [d] }
  | _ => none }
def fnExactMovesTextRow : OpenClaim := { program := "ytbgdhiieeegnjab", sum := "89b0da19921db45a025b4798af4dd36a323b0b184c47cde7596820b0a8a007f7", func := "loop.example/g01314/laws.FnExactMovesText", spec := "fnExactMovesText", apart := false }
def FnExactMovesTextSaid : Prop := fnExactMovesTextRow.holds Try.pinned (OpenSpec.ofChange fnExactMovesTextSpec)

/-- ITS FALSE NEIGHBOUR: 'it returns false'. Refute it at one input. -/
def fnExactMovesTextWrong : ChangeSpec := { name := "fnExactMovesText", fn := fun _ => fun
  | [d] => { results := [.lit (.bool false)], args := [d] }
  | _ => none }
def FnExactMovesTextWrongFalsely : Prop := fnExactMovesTextRow.holds Try.pinned (OpenSpec.ofChange fnExactMovesTextWrong)

/-- 'laws.FnExactParseMoves': WHATEVER THE INPUT: true; the input reads as it did. -/
def fnExactParseMovesSpec : ChangeSpec := { name := "fnExactParseMoves", fn := fun _ => fun
  | [d] => { results := [.lit (.bool true)], args := [d] }
  | _ => none }
def fnExactParseMovesRow : OpenClaim := { program := "ytbgdhiieeegnjab", sum := "89b0da19921db45a025b4798af4dd36a323b0b184c47cde7596820b0a8a007f7", func := "loop.example/g01314/laws.FnExactParseMoves", spec := "fnExactParseMoves", apart := false }
def FnExactParseMovesSaid : Prop := fnExactParseMovesRow.holds Try.pinned (OpenSpec.ofChange fnExactParseMovesSpec)

/-- ITS FALSE NEIGHBOUR: 'it returns false'. Refute it at one input. -/
def fnExactParseMovesWrong : ChangeSpec := { name := "fnExactParseMoves", fn := fun _ => fun
  | [d] => { results := [.lit (.bool false)], args := [d] }
  | _ => none }
def FnExactParseMovesWrongFalsely : Prop := fnExactParseMovesRow.holds Try.pinned (OpenSpec.ofChange fnExactParseMovesWrong)

/-- 'laws.FnExactReflectedOf': WHATEVER THE INPUT: true; the input reads as it did. -/
def fnExactReflectedOfSpec : ChangeSpec := { name := "fnExactReflectedOf", fn := fun _ => fun
  | [d] => { results := [.lit (.bool true)], args := [d] }
  | _ => none }
def fnExactReflectedOfRow : OpenClaim := { program := "ytbgdhiieeegnjab", sum := "89b0da19921db45a025b4798af4dd36a323b0b184c47cde7596820b0a8a007f7", func := "loop.example/g01314/laws.FnExactReflectedOf", spec := "fnExactReflectedOf", apart := false }
def FnExactReflectedOfSaid : Prop := fnExactReflectedOfRow.holds Try.pinned (OpenSpec.ofChange fnExactReflectedOfSpec)

/-- ITS FALSE NEIGHBOUR: 'it returns false'. Refute it at one input. -/
def fnExactReflectedOfWrong : ChangeSpec := { name := "fnExactReflectedOf", fn := fun _ => fun
  | [d] => { results := [.lit (.bool false)], args := [d] }
  | _ => none }
def FnExactReflectedOfWrongFalsely : Prop := fnExactReflectedOfRow.holds Try.pinned (OpenSpec.ofChange fnExactReflectedOfWrong)

/-- 'laws.FnExactNumberOfReflected': WHATEVER THE INPUT: true; the input reads as it did. -/
def fnExactNumberOfReflectedSpec : ChangeSpec := { name := "fnExactNumberOfReflected", fn := fun _ => fun
  | [d] => { results := [.lit (.bool true)], args := [d] }
  | _ => none }
def fnExactNumberOfReflectedRow : OpenClaim := { program := "ytbgdhiieeegnjab", sum := "89b0da19921db45a025b4798af4dd36a323b0b184c47cde7596820b0a8a007f7", func := "loop.example/g01314/laws.FnExactNumberOfReflected", spec := "fnExactNumberOfReflected", apart := false }
def FnExactNumberOfReflectedSaid : Prop := fnExactNumberOfReflectedRow.holds Try.pinned (OpenSpec.ofChange fnExactNumberOfReflectedSpec)

/-- ITS FALSE NEIGHBOUR: 'it returns false'. Refute it at one input. -/
def fnExactNumberOfReflectedWrong : ChangeSpec := { name := "fnExactNumberOfReflected", fn := fun _ => fun
  | [d] => { results := [.lit (.bool false)], args := [d] }
  | _ => none }
def FnExactNumberOfReflectedWrongFalsely : Prop := fnExactNumberOfReflectedRow.holds Try.pinned (OpenSpec.ofChange fnExactNumberOfReflectedWrong)

/-- 'laws.FnExactPlainSum': WHATEVER THE INPUT: true; the input reads as it did. -/
def fnExactPlainSumSpec : ChangeSpec := { name := "fnExactPlainSum", fn := fun _ => fun
  | [d1, d2] => { results := [.lit (.bool true)], args := [d1, d2] }
  | _ => none }
def fnExactPlainSumRow : OpenClaim := { program := "ytbgdhiieeegnjab", sum := "89b0da19921db45a025b4798af4dd36a323b0b184c47cde7596820b0a8a007f7", func := "loop.example/g01314/laws.FnExactPlainSum", spec := "fnExactPlainSum", apart := false }
def FnExactPlainSumSaid : Prop := fnExactPlainSumRow.holds Try.pinned (OpenSpec.ofChange fnExactPlainSumSpec)

/-- ITS FALSE NEIGHBOUR: 'it returns false'. Refute it at one input. -/
def fnExactPlainSumWrong : ChangeSpec := { name := "fnExactPlainSum", fn := fun _ => fun
  | [d1, d2] => { results := [.lit (.bool false)], args := [d1, d2] }
  | _ => none }
def FnExactPlainSumWrongFalsely : Prop := fnExactPlainSumRow.holds Try.pinned (OpenSpec.ofChange fnExactPlainSumWrong)

/-- 'laws.FnExactTimesChanged': WHATEVER THE INPUT: true; the input reads as it did. -/
def fnExactTimesChangedSpec : ChangeSpec := { name := "fnExactTimesChanged", fn := fun _ => fun
  | [d1, d2, d3] => { results := [.lit (.bool true)], args := [d1, d2, d3] }
  | _ => none }
def fnExactTimesChangedRow : OpenClaim := { program := "ytbgdhiieeegnjab", sum := "89b0da19921db45a025b4798af4dd36a323b0b184c47cde7596820b0a8a007f7", func := "loop.example/g01314/laws.FnExactTimesChanged", spec := "fnExactTimesChanged", apart := false }
def FnExactTimesChangedSaid : Prop := fnExactTimesChangedRow.holds Try.pinned (OpenSpec.ofChange fnExactTimesChangedSpec)

/-- ITS FALSE NEIGHBOUR: 'it returns false'. Refute it at one input. -/
def fnExactTimesChangedWrong : ChangeSpec := { name := "fnExactTimesChanged", fn := fun _ => fun
  | [d1, d2, d3] => { results := [.lit (.bool false)], args := [d1, d2, d3] }
  | _ => none }
def FnExactTimesChangedWrongFalsely : Prop := fnExactTimesChangedRow.holds Try.pinned (OpenSpec.ofChange fnExactTimesChangedWrong)

/- THE SECOND FORM. 'bulk': how many values and letters a reading holds, each counted each time it is reached (what is shared counts as often as it is met; a slice's spare places count too). A statement '..UptoSaid' is the law's where the arguments, and the package variables that the reading takes, are together of bulk at most 1048576: NARROWER than '..Said'. Prove '..Said' where nothing that the law and all that it calls make is longer than what came in: it says more and counts as full. Else prove '..UptoSaid'. A law counts once. -/
mutual
def uptoBulk {H : Type} : DataW H → Nat
  | .lit (.string bytes) => bytes.length + 1
  | .lit _ => 1
  | .nil => 1
  | .ptr d => uptoBulk d + 1
  | .slice elems spare => uptoBulkAll elems + uptoBulkAll spare + 1
  | .agg parts => uptoBulkAll parts + 1
  | .iface _ d => uptoBulk d + 1
  | .map entries => uptoBulkEntries entries + 1
  | .held _ => 1
def uptoBulkAll {H : Type} : List (DataW H) → Nat
  | [] => 0
  | d :: r => uptoBulk d + uptoBulkAll r
def uptoBulkEntries {H : Type} : List (Lit × DataW H) → Nat
  | [] => 0
  | x :: r => uptoBulkEntry x + uptoBulkEntries r
def uptoBulkEntry {H : Type} : Lit × DataW H → Nat
  | (.string bytes, d) => bytes.length + uptoBulk d + 1
  | (_, d) => uptoBulk d + 1
 end
def uptoSmall : (H : Type) → List (DataW H) → Bool := fun _ ds => decide (uptoBulkAll ds ≤ 1048576)
def OpenSpec.upto (s : _root_.Go.ChangeSpec) : _root_.Go.OpenSpec := { _root_.Go.OpenSpec.ofChange s with cond := some uptoSmall }

/-- 'laws.FnExactIsState', WHERE WHAT IT READS IS OF BULK AT MOST 1048576: true; the input reads as it did. -/
def fnExactIsStateUptoRow : OpenClaim := { program := "ytbgdhiieeegnjab", sum := "89b0da19921db45a025b4798af4dd36a323b0b184c47cde7596820b0a8a007f7", func := "loop.example/g01314/laws.FnExactIsState", spec := "fnExactIsState", apart := false, narrowed := true }
def FnExactIsStateUptoSaid : Prop := fnExactIsStateUptoRow.holds Try.pinned (OpenSpec.upto fnExactIsStateSpec)

/-- 'laws.FnExactMovesText', WHERE WHAT IT READS IS OF BULK AT MOST 1048576: true; the input reads as it did. -/
def fnExactMovesTextUptoRow : OpenClaim := { program := "ytbgdhiieeegnjab", sum := "89b0da19921db45a025b4798af4dd36a323b0b184c47cde7596820b0a8a007f7", func := "loop.example/g01314/laws.FnExactMovesText", spec := "fnExactMovesText", apart := false, narrowed := true }
def FnExactMovesTextUptoSaid : Prop := fnExactMovesTextUptoRow.holds Try.pinned (OpenSpec.upto fnExactMovesTextSpec)

/-- 'laws.FnExactParseMoves', WHERE WHAT IT READS IS OF BULK AT MOST 1048576: true; the input reads as it did. -/
def fnExactParseMovesUptoRow : OpenClaim := { program := "ytbgdhiieeegnjab", sum := "89b0da19921db45a025b4798af4dd36a323b0b184c47cde7596820b0a8a007f7", func := "loop.example/g01314/laws.FnExactParseMoves", spec := "fnExactParseMoves", apart := false, narrowed := true }
def FnExactParseMovesUptoSaid : Prop := fnExactParseMovesUptoRow.holds Try.pinned (OpenSpec.upto fnExactParseMovesSpec)

/-- 'laws.FnExactReflectedOf', WHERE WHAT IT READS IS OF BULK AT MOST 1048576: true; the input reads as it did. -/
def fnExactReflectedOfUptoRow : OpenClaim := { program := "ytbgdhiieeegnjab", sum := "89b0da19921db45a025b4798af4dd36a323b0b184c47cde7596820b0a8a007f7", func := "loop.example/g01314/laws.FnExactReflectedOf", spec := "fnExactReflectedOf", apart := false, narrowed := true }
def FnExactReflectedOfUptoSaid : Prop := fnExactReflectedOfUptoRow.holds Try.pinned (OpenSpec.upto fnExactReflectedOfSpec)

/-- 'laws.FnExactNumberOfReflected', WHERE WHAT IT READS IS OF BULK AT MOST 1048576: true; the input reads as it did. -/
def fnExactNumberOfReflectedUptoRow : OpenClaim := { program := "ytbgdhiieeegnjab", sum := "89b0da19921db45a025b4798af4dd36a323b0b184c47cde7596820b0a8a007f7", func := "loop.example/g01314/laws.FnExactNumberOfReflected", spec := "fnExactNumberOfReflected", apart := false, narrowed := true }
def FnExactNumberOfReflectedUptoSaid : Prop := fnExactNumberOfReflectedUptoRow.holds Try.pinned (OpenSpec.upto fnExactNumberOfReflectedSpec)

/-- 'laws.FnExactPlainSum', WHERE WHAT IT READS IS OF BULK AT MOST 1048576: true; the input reads as it did. -/
def fnExactPlainSumUptoRow : OpenClaim := { program := "ytbgdhiieeegnjab", sum := "89b0da19921db45a025b4798af4dd36a323b0b184c47cde7596820b0a8a007f7", func := "loop.example/g01314/laws.FnExactPlainSum", spec := "fnExactPlainSum", apart := false, narrowed := true }
def FnExactPlainSumUptoSaid : Prop := fnExactPlainSumUptoRow.holds Try.pinned (OpenSpec.upto fnExactPlainSumSpec)

/-- 'laws.FnExactTimesChanged', WHERE WHAT IT READS IS OF BULK AT MOST 1048576: true; the input reads as it did. -/
def fnExactTimesChangedUptoRow : OpenClaim := { program := "ytbgdhiieeegnjab", sum := "89b0da19921db45a025b4798af4dd36a323b0b184c47cde7596820b0a8a007f7", func := "loop.example/g01314/laws.FnExactTimesChanged", spec := "fnExactTimesChanged", apart := false, narrowed := true }
def FnExactTimesChangedUptoSaid : Prop := fnExactTimesChangedUptoRow.holds Try.pinned (OpenSpec.upto fnExactTimesChangedSpec)

end Rows
end Go.Proofs.Ytbgdhiieeegnjab
