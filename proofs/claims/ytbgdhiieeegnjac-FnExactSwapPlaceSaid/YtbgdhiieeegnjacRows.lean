/-
  No cell of these rows narrows 'for every input' (looked for: loops, veiled, ifaces, maps, wideKeys, modest, calm, conditions, laid).
  DERIVED. THE GIVEN ROWS OF THIS SEAT. 9 by the template 'for every input the law returns true; each argument reads behind the call as it read before'; 0 by the template 'total and deterministic' (their statements: YtbgdhiieeegnjacTotals.lean).
  GIVEN WITH THE SEED: the statements are not yours to turn. If you find one false, say at which input.
  Laid BY PROGRAM, IN A SANDBOX (cutbox-rows.mjs): the forced cells as the released guide's own fill.sh prints them over the translation 129e801958435ec1… (all of the seat's roots in one cut). By AI agents, Wed Nov 11 2026. No macro, syntax, notation, axiom, sorry.
-/
import Derived.Test.YtbgdhiieeegnjacChecked
import GoSem.Claim
import GoSem.ClaimJoined
import GoSem.ClaimMapViews
import Derived.JoinedTies
import Derived.KernelRfl
namespace Go.Proofs.Ytbgdhiieeegnjac
/- THE CELL 'sum', in the pinned program and in every row, IS THE sha256 OF THE DUMP (.gsa) THAT YtbgdhiieeegnjacProg.lean LOADS. Nothing in Lean hashes anything: it is a label: what it is worth is what the hold of that sum in a sandbox is worth. -/
noncomputable def Try.pinned : Pinned := { name := "ytbgdhiieeegnjac", sum := "129e801958435ec1b64e740fafcca07b145a81c81d549d65fe171be504ae3e16", checked := Try.checked }
namespace Rows
def none {H : Type} : Left H := { results := [], args := [] }

/-- 'laws.FnExactRankOfText': WHATEVER THE INPUT: true; the input reads as it did. -/
def fnExactRankOfTextSpec : ChangeSpec := { name := "fnExactRankOfText", fn := fun _ => fun
  | [d] => { results := [.lit (.bool true)], args := [d] }
  | _ => none }
def fnExactRankOfTextRow : OpenClaim := { program := "ytbgdhiieeegnjac", sum := "129e801958435ec1b64e740fafcca07b145a81c81d549d65fe171be504ae3e16", func := "loop.example/g01314/laws.FnExactRankOfText", spec := "fnExactRankOfText", apart := false }
def FnExactRankOfTextSaid : Prop := fnExactRankOfTextRow.holds Try.pinned (OpenSpec.ofChange fnExactRankOfTextSpec)

/-- ITS FALSE NEIGHBOUR: 'it returns false'. Refute it at one input. -/
def fnExactRankOfTextWrong : ChangeSpec := { name := "fnExactRankOfText", fn := fun _ => fun
  | [d] => { results := [.lit (.bool false)], args := [d] }
  | _ => none }
def FnExactRankOfTextWrongFalsely : Prop := fnExactRankOfTextRow.holds Try.pinned (OpenSpec.ofChange fnExactRankOfTextWrong)

/-- 'laws.FnExactCountChoices': WHATEVER THE INPUT: true; the input reads as it did. -/
def fnExactCountChoicesSpec : ChangeSpec := { name := "fnExactCountChoices", fn := fun _ => fun
  | [d1, d2] => { results := [.lit (.bool true)], args := [d1, d2] }
  | _ => none }
def fnExactCountChoicesRow : OpenClaim := { program := "ytbgdhiieeegnjac", sum := "129e801958435ec1b64e740fafcca07b145a81c81d549d65fe171be504ae3e16", func := "loop.example/g01314/laws.FnExactCountChoices", spec := "fnExactCountChoices", apart := false }
def FnExactCountChoicesSaid : Prop := fnExactCountChoicesRow.holds Try.pinned (OpenSpec.ofChange fnExactCountChoicesSpec)

/-- ITS FALSE NEIGHBOUR: 'it returns false'. Refute it at one input. -/
def fnExactCountChoicesWrong : ChangeSpec := { name := "fnExactCountChoices", fn := fun _ => fun
  | [d1, d2] => { results := [.lit (.bool false)], args := [d1, d2] }
  | _ => none }
def FnExactCountChoicesWrongFalsely : Prop := fnExactCountChoicesRow.holds Try.pinned (OpenSpec.ofChange fnExactCountChoicesWrong)

/-- 'laws.FnExactChoiceAt': WHATEVER THE INPUT: true; the input reads as it did. -/
def fnExactChoiceAtSpec : ChangeSpec := { name := "fnExactChoiceAt", fn := fun _ => fun
  | [d1, d2, d3] => { results := [.lit (.bool true)], args := [d1, d2, d3] }
  | _ => none }
def fnExactChoiceAtRow : OpenClaim := { program := "ytbgdhiieeegnjac", sum := "129e801958435ec1b64e740fafcca07b145a81c81d549d65fe171be504ae3e16", func := "loop.example/g01314/laws.FnExactChoiceAt", spec := "fnExactChoiceAt", unfollowed := true, recurses := true, apart := false }
def FnExactChoiceAtSaid : Prop := fnExactChoiceAtRow.holds Try.pinned (OpenSpec.ofChange fnExactChoiceAtSpec)

/-- ITS FALSE NEIGHBOUR: 'it returns false'. Refute it at one input. -/
def fnExactChoiceAtWrong : ChangeSpec := { name := "fnExactChoiceAt", fn := fun _ => fun
  | [d1, d2, d3] => { results := [.lit (.bool false)], args := [d1, d2, d3] }
  | _ => none }
def FnExactChoiceAtWrongFalsely : Prop := fnExactChoiceAtRow.holds Try.pinned (OpenSpec.ofChange fnExactChoiceAtWrong)

/-- 'laws.FnExactRankOfChoice': WHATEVER THE INPUT: true; the input reads as it did. -/
def fnExactRankOfChoiceSpec : ChangeSpec := { name := "fnExactRankOfChoice", fn := fun _ => fun
  | [d1, d2] => { results := [.lit (.bool true)], args := [d1, d2] }
  | _ => none }
def fnExactRankOfChoiceRow : OpenClaim := { program := "ytbgdhiieeegnjac", sum := "129e801958435ec1b64e740fafcca07b145a81c81d549d65fe171be504ae3e16", func := "loop.example/g01314/laws.FnExactRankOfChoice", spec := "fnExactRankOfChoice", recurses := true, apart := false }
def FnExactRankOfChoiceSaid : Prop := fnExactRankOfChoiceRow.holds Try.pinned (OpenSpec.ofChange fnExactRankOfChoiceSpec)

/-- ITS FALSE NEIGHBOUR: 'it returns false'. Refute it at one input. -/
def fnExactRankOfChoiceWrong : ChangeSpec := { name := "fnExactRankOfChoice", fn := fun _ => fun
  | [d1, d2] => { results := [.lit (.bool false)], args := [d1, d2] }
  | _ => none }
def FnExactRankOfChoiceWrongFalsely : Prop := fnExactRankOfChoiceRow.holds Try.pinned (OpenSpec.ofChange fnExactRankOfChoiceWrong)

/-- 'laws.FnExactSwappedAt': WHATEVER THE INPUT: true; the input reads as it did. -/
def fnExactSwappedAtSpec : ChangeSpec := { name := "fnExactSwappedAt", fn := fun _ => fun
  | [d1, d2] => { results := [.lit (.bool true)], args := [d1, d2] }
  | _ => none }
def fnExactSwappedAtRow : OpenClaim := { program := "ytbgdhiieeegnjac", sum := "129e801958435ec1b64e740fafcca07b145a81c81d549d65fe171be504ae3e16", func := "loop.example/g01314/laws.FnExactSwappedAt", spec := "fnExactSwappedAt", inPlace := ["slices.overlaps[int]"], recurses := true, apart := false }
def FnExactSwappedAtSaid : Prop := fnExactSwappedAtRow.holds Try.pinned (OpenSpec.ofChange fnExactSwappedAtSpec)

/-- ITS FALSE NEIGHBOUR: 'it returns false'. Refute it at one input. -/
def fnExactSwappedAtWrong : ChangeSpec := { name := "fnExactSwappedAt", fn := fun _ => fun
  | [d1, d2] => { results := [.lit (.bool false)], args := [d1, d2] }
  | _ => none }
def FnExactSwappedAtWrongFalsely : Prop := fnExactSwappedAtRow.holds Try.pinned (OpenSpec.ofChange fnExactSwappedAtWrong)

/-- 'laws.FnExactRankOfSwapped': WHATEVER THE INPUT: true; the input reads as it did. -/
def fnExactRankOfSwappedSpec : ChangeSpec := { name := "fnExactRankOfSwapped", fn := fun _ => fun
  | [d] => { results := [.lit (.bool true)], args := [d] }
  | _ => none }
def fnExactRankOfSwappedRow : OpenClaim := { program := "ytbgdhiieeegnjac", sum := "129e801958435ec1b64e740fafcca07b145a81c81d549d65fe171be504ae3e16", func := "loop.example/g01314/laws.FnExactRankOfSwapped", spec := "fnExactRankOfSwapped", apart := false }
def FnExactRankOfSwappedSaid : Prop := fnExactRankOfSwappedRow.holds Try.pinned (OpenSpec.ofChange fnExactRankOfSwappedSpec)

/-- ITS FALSE NEIGHBOUR: 'it returns false'. Refute it at one input. -/
def fnExactRankOfSwappedWrong : ChangeSpec := { name := "fnExactRankOfSwapped", fn := fun _ => fun
  | [d] => { results := [.lit (.bool false)], args := [d] }
  | _ => none }
def FnExactRankOfSwappedWrongFalsely : Prop := fnExactRankOfSwappedRow.holds Try.pinned (OpenSpec.ofChange fnExactRankOfSwappedWrong)

/-- 'laws.FnExactSwapPlace': WHATEVER THE INPUT: true; the input reads as it did. -/
def fnExactSwapPlaceSpec : ChangeSpec := { name := "fnExactSwapPlace", fn := fun _ => fun
  | [d1, d2] => { results := [.lit (.bool true)], args := [d1, d2] }
  | _ => none }
def fnExactSwapPlaceRow : OpenClaim := { program := "ytbgdhiieeegnjac", sum := "129e801958435ec1b64e740fafcca07b145a81c81d549d65fe171be504ae3e16", func := "loop.example/g01314/laws.FnExactSwapPlace", spec := "fnExactSwapPlace", inPlace := ["slices.overlaps[int]"], recurses := true, apart := false }
def FnExactSwapPlaceSaid : Prop := fnExactSwapPlaceRow.holds Try.pinned (OpenSpec.ofChange fnExactSwapPlaceSpec)

/-- ITS FALSE NEIGHBOUR: 'it returns false'. Refute it at one input. -/
def fnExactSwapPlaceWrong : ChangeSpec := { name := "fnExactSwapPlace", fn := fun _ => fun
  | [d1, d2] => { results := [.lit (.bool false)], args := [d1, d2] }
  | _ => none }
def FnExactSwapPlaceWrongFalsely : Prop := fnExactSwapPlaceRow.holds Try.pinned (OpenSpec.ofChange fnExactSwapPlaceWrong)

/-- 'laws.FnExactMixedAt': WHATEVER THE INPUT: true; the input reads as it did. -/
def fnExactMixedAtSpec : ChangeSpec := { name := "fnExactMixedAt", fn := fun _ => fun
  | [d1, d2] => { results := [.lit (.bool true)], args := [d1, d2] }
  | _ => none }
def fnExactMixedAtRow : OpenClaim := { program := "ytbgdhiieeegnjac", sum := "129e801958435ec1b64e740fafcca07b145a81c81d549d65fe171be504ae3e16", func := "loop.example/g01314/laws.FnExactMixedAt", spec := "fnExactMixedAt", apart := false }
def FnExactMixedAtSaid : Prop := fnExactMixedAtRow.holds Try.pinned (OpenSpec.ofChange fnExactMixedAtSpec)

/-- ITS FALSE NEIGHBOUR: 'it returns false'. Refute it at one input. -/
def fnExactMixedAtWrong : ChangeSpec := { name := "fnExactMixedAt", fn := fun _ => fun
  | [d1, d2] => { results := [.lit (.bool false)], args := [d1, d2] }
  | _ => none }
def FnExactMixedAtWrongFalsely : Prop := fnExactMixedAtRow.holds Try.pinned (OpenSpec.ofChange fnExactMixedAtWrong)

/-- 'laws.FnExactRankOfMixed': WHATEVER THE INPUT: true; the input reads as it did. -/
def fnExactRankOfMixedSpec : ChangeSpec := { name := "fnExactRankOfMixed", fn := fun _ => fun
  | [d1, d2] => { results := [.lit (.bool true)], args := [d1, d2] }
  | _ => none }
def fnExactRankOfMixedRow : OpenClaim := { program := "ytbgdhiieeegnjac", sum := "129e801958435ec1b64e740fafcca07b145a81c81d549d65fe171be504ae3e16", func := "loop.example/g01314/laws.FnExactRankOfMixed", spec := "fnExactRankOfMixed", apart := false }
def FnExactRankOfMixedSaid : Prop := fnExactRankOfMixedRow.holds Try.pinned (OpenSpec.ofChange fnExactRankOfMixedSpec)

/-- ITS FALSE NEIGHBOUR: 'it returns false'. Refute it at one input. -/
def fnExactRankOfMixedWrong : ChangeSpec := { name := "fnExactRankOfMixed", fn := fun _ => fun
  | [d1, d2] => { results := [.lit (.bool false)], args := [d1, d2] }
  | _ => none }
def FnExactRankOfMixedWrongFalsely : Prop := fnExactRankOfMixedRow.holds Try.pinned (OpenSpec.ofChange fnExactRankOfMixedWrong)

/- THE SECOND FORM. 'bulk': how many values and letters a reading holds, each counted each time it is reached (what is shared counts as often as it is met; a slice's spare places count too). A statement '..UptoSaid' is the law's where the arguments, and the package variables that the reading takes, are together of bulk at most 1048576: NARROWER than '..Said'. Prove '..Said' where nothing that the law and all that it calls make is longer than what came in: it says more and counts as full. Else prove '..UptoSaid'. A law counts once. -/
mutual
def uptoBulk {H : Type} : DataW H → Nat
  | .lit (.string bytes) => bytes.length + 1
  | .lit _ => 1
  | .nil => 1
  | .ptr d => uptoBulk d + 1
  | .slice elems spare => uptoBulkAll elems + uptoBulkAll spare + 1
  | .agg parts => uptoBulkAll parts + 1
  | .iface _ d => uptoBulk d + 1
  | .map entries => uptoBulkEntries entries + 1
  | .held _ => 1
def uptoBulkAll {H : Type} : List (DataW H) → Nat
  | [] => 0
  | d :: r => uptoBulk d + uptoBulkAll r
def uptoBulkEntries {H : Type} : List (Lit × DataW H) → Nat
  | [] => 0
  | x :: r => uptoBulkEntry x + uptoBulkEntries r
def uptoBulkEntry {H : Type} : Lit × DataW H → Nat
  | (.string bytes, d) => bytes.length + uptoBulk d + 1
  | (_, d) => uptoBulk d + 1
 end
def uptoSmall : (H : Type) → List (DataW H) → Bool := fun _ ds => decide (uptoBulkAll ds ≤ 1048576)
def OpenSpec.upto (s : _root_.Go.ChangeSpec) : _root_.Go.OpenSpec := { _root_.Go.OpenSpec.ofChange s with cond := some uptoSmall }

/-- 'laws.FnExactRankOfText', WHERE WHAT IT READS IS OF BULK AT MOST 1048576: true; the input reads as it did. -/
def fnExactRankOfTextUptoRow : OpenClaim := { program := "ytbgdhiieeegnjac", sum := "129e801958435ec1b64e740fafcca07b145a81c81d549d65fe171be504ae3e16", func := "loop.example/g01314/laws.FnExactRankOfText", spec := "fnExactRankOfText", apart := false, narrowed := true }
def FnExactRankOfTextUptoSaid : Prop := fnExactRankOfTextUptoRow.holds Try.pinned (OpenSpec.upto fnExactRankOfTextSpec)

/-- 'laws.FnExactCountChoices', WHERE WHAT IT READS IS OF BULK AT MOST 1048576: true; the input reads as it did. -/
def fnExactCountChoicesUptoRow : OpenClaim := { program := "ytbgdhiieeegnjac", sum := "129e801958435ec1b64e740fafcca07b145a81c81d549d65fe171be504ae3e16", func := "loop.example/g01314/laws.FnExactCountChoices", spec := "fnExactCountChoices", apart := false, narrowed := true }
def FnExactCountChoicesUptoSaid : Prop := fnExactCountChoicesUptoRow.holds Try.pinned (OpenSpec.upto fnExactCountChoicesSpec)

/-- 'laws.FnExactChoiceAt', WHERE WHAT IT READS IS OF BULK AT MOST 1048576: true; the input reads as it did. -/
def fnExactChoiceAtUptoRow : OpenClaim := { program := "ytbgdhiieeegnjac", sum := "129e801958435ec1b64e740fafcca07b145a81c81d549d65fe171be504ae3e16", func := "loop.example/g01314/laws.FnExactChoiceAt", spec := "fnExactChoiceAt", unfollowed := true, recurses := true, apart := false, narrowed := true }
def FnExactChoiceAtUptoSaid : Prop := fnExactChoiceAtUptoRow.holds Try.pinned (OpenSpec.upto fnExactChoiceAtSpec)

/-- 'laws.FnExactRankOfChoice', WHERE WHAT IT READS IS OF BULK AT MOST 1048576: true; the input reads as it did. -/
def fnExactRankOfChoiceUptoRow : OpenClaim := { program := "ytbgdhiieeegnjac", sum := "129e801958435ec1b64e740fafcca07b145a81c81d549d65fe171be504ae3e16", func := "loop.example/g01314/laws.FnExactRankOfChoice", spec := "fnExactRankOfChoice", recurses := true, apart := false, narrowed := true }
def FnExactRankOfChoiceUptoSaid : Prop := fnExactRankOfChoiceUptoRow.holds Try.pinned (OpenSpec.upto fnExactRankOfChoiceSpec)

/-- 'laws.FnExactSwappedAt', WHERE WHAT IT READS IS OF BULK AT MOST 1048576: true; the input reads as it did. -/
def fnExactSwappedAtUptoRow : OpenClaim := { program := "ytbgdhiieeegnjac", sum := "129e801958435ec1b64e740fafcca07b145a81c81d549d65fe171be504ae3e16", func := "loop.example/g01314/laws.FnExactSwappedAt", spec := "fnExactSwappedAt", inPlace := ["slices.overlaps[int]"], recurses := true, apart := false, narrowed := true }
def FnExactSwappedAtUptoSaid : Prop := fnExactSwappedAtUptoRow.holds Try.pinned (OpenSpec.upto fnExactSwappedAtSpec)

/-- 'laws.FnExactRankOfSwapped', WHERE WHAT IT READS IS OF BULK AT MOST 1048576: true; the input reads as it did. -/
def fnExactRankOfSwappedUptoRow : OpenClaim := { program := "ytbgdhiieeegnjac", sum := "129e801958435ec1b64e740fafcca07b145a81c81d549d65fe171be504ae3e16", func := "loop.example/g01314/laws.FnExactRankOfSwapped", spec := "fnExactRankOfSwapped", apart := false, narrowed := true }
def FnExactRankOfSwappedUptoSaid : Prop := fnExactRankOfSwappedUptoRow.holds Try.pinned (OpenSpec.upto fnExactRankOfSwappedSpec)

/-- 'laws.FnExactSwapPlace', WHERE WHAT IT READS IS OF BULK AT MOST 1048576: true; the input reads as it did. -/
def fnExactSwapPlaceUptoRow : OpenClaim := { program := "ytbgdhiieeegnjac", sum := "129e801958435ec1b64e740fafcca07b145a81c81d549d65fe171be504ae3e16", func := "loop.example/g01314/laws.FnExactSwapPlace", spec := "fnExactSwapPlace", inPlace := ["slices.overlaps[int]"], recurses := true, apart := false, narrowed := true }
def FnExactSwapPlaceUptoSaid : Prop := fnExactSwapPlaceUptoRow.holds Try.pinned (OpenSpec.upto fnExactSwapPlaceSpec)

/-- 'laws.FnExactMixedAt', WHERE WHAT IT READS IS OF BULK AT MOST 1048576: true; the input reads as it did. -/
def fnExactMixedAtUptoRow : OpenClaim := { program := "ytbgdhiieeegnjac", sum := "129e801958435ec1b64e740fafcca07b145a81c81d549d65fe171be504ae3e16", func := "loop.example/g01314/laws.FnExactMixedAt", spec := "fnExactMixedAt", apart := false, narrowed := true }
def FnExactMixedAtUptoSaid : Prop := fnExactMixedAtUptoRow.holds Try.pinned (OpenSpec.upto fnExactMixedAtSpec)

/-- 'laws.FnExactRankOfMixed', WHERE WHAT IT READS IS OF BULK AT MOST 1048576: true; the input reads as it did. -/
def fnExactRankOfMixedUptoRow : OpenClaim := { program := "ytbgdhiieeegnjac", sum := "129e801958435ec1b64e740fafcca07b145a81c81d549d65fe171be504ae3e16", func := "loop.example/g01314/laws.FnExactRankOfMixed", spec := "fnExactRankOfMixed", apart := false, narrowed := true }
def FnExactRankOfMixedUptoSaid : Prop := fnExactRankOfMixedUptoRow.holds Try.pinned (OpenSpec.upto fnExactRankOfMixedSpec)

end Rows
end Go.Proofs.Ytbgdhiieeegnjac
