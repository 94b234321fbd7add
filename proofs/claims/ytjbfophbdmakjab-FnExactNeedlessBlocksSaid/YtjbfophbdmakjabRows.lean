/-
  No cell of these rows narrows 'for every input' (looked for: loops, veiled, ifaces, maps, wideKeys, modest, calm, conditions, laid).
  DERIVED. THE GIVEN ROWS OF THIS SEAT. 6 by the template 'for every input the law returns true; each argument reads behind the call as it read before'; 0 by the template 'total and deterministic' (their statements: YtjbfophbdmakjabTotals.lean).
  GIVEN WITH THE SEED: the statements are not yours to turn. If you find one false, say at which input.
  Laid BY PROGRAM, IN A SANDBOX (cutbox-rows.mjs): the forced cells as the released guide's own fill.sh prints them over the translation 6f4ff0618bbbc16a… (all of the seat's roots in one cut). By AI agents, Wed Nov 11 2026. No macro, syntax, notation, axiom, sorry.
-/
import Derived.Test.YtjbfophbdmakjabChecked
import GoSem.Claim
import GoSem.ClaimJoined
import GoSem.ClaimMapViews
import Derived.JoinedTies
import Derived.KernelRfl
namespace Go.Proofs.Ytjbfophbdmakjab
/- THE CELL 'sum', in the pinned program and in every row, IS THE sha256 OF THE DUMP (.gsa) THAT YtjbfophbdmakjabProg.lean LOADS. Nothing in Lean hashes anything: it is a label: what it is worth is what the hold of that sum in a sandbox is worth. -/
noncomputable def Try.pinned : Pinned := { name := "ytjbfophbdmakjab", sum := "6f4ff0618bbbc16a8b8b0aa0af3ba86bf9dbd5601e8d9d5edb071db42ebcfe7d", checked := Try.checked }
namespace Rows
def none {H : Type} : Left H := { results := [], args := [] }

/-- 'laws.FnExactIsAllowed': WHATEVER THE INPUT: true; the input reads as it did. -/
def fnExactIsAllowedSpec : ChangeSpec := { name := "fnExactIsAllowed", fn := fun _ => fun
  | [d1, d2] => { results := [.lit (.bool true)], args := [d1, d2] }
  | _ => none }
def fnExactIsAllowedRow : OpenClaim := { program := "ytjbfophbdmakjab", sum := "6f4ff0618bbbc16a8b8b0aa0af3ba86bf9dbd5601e8d9d5edb071db42ebcfe7d", func := "loop.example/g01314/laws.FnExactIsAllowed", spec := "fnExactIsAllowed", unfollowed := true, recurses := true, apart := false }
def FnExactIsAllowedSaid : Prop := fnExactIsAllowedRow.holds Try.pinned (OpenSpec.ofChange fnExactIsAllowedSpec)

/-- ITS FALSE NEIGHBOUR: 'it returns false'. Refute it at one input. -/
def fnExactIsAllowedWrong : ChangeSpec := { name := "fnExactIsAllowed", fn := fun _ => fun
  | [d1, d2] => { results := [.lit (.bool false)], args := [d1, d2] }
  | _ => none }
def FnExactIsAllowedWrongFalsely : Prop := fnExactIsAllowedRow.holds Try.pinned (OpenSpec.ofChange fnExactIsAllowedWrong)

/-- 'laws.FnExactAllowedStates': WHATEVER THE INPUT: true; the input reads as it did. -/
def fnExactAllowedStatesSpec : ChangeSpec := { name := "fnExactAllowedStates", fn := fun _ => fun
  | [d] => { results := [.lit (.bool true)], args := [d] }
  | _ => none }
def fnExactAllowedStatesRow : OpenClaim := { program := "ytjbfophbdmakjab", sum := "6f4ff0618bbbc16a8b8b0aa0af3ba86bf9dbd5601e8d9d5edb071db42ebcfe7d", func := "loop.example/g01314/laws.FnExactAllowedStates", spec := "fnExactAllowedStates", unfollowed := true, recurses := true, apart := false }
def FnExactAllowedStatesSaid : Prop := fnExactAllowedStatesRow.holds Try.pinned (OpenSpec.ofChange fnExactAllowedStatesSpec)

/-- ITS FALSE NEIGHBOUR: 'it returns false'. Refute it at one input. -/
def fnExactAllowedStatesWrong : ChangeSpec := { name := "fnExactAllowedStates", fn := fun _ => fun
  | [d] => { results := [.lit (.bool false)], args := [d] }
  | _ => none }
def FnExactAllowedStatesWrongFalsely : Prop := fnExactAllowedStatesRow.holds Try.pinned (OpenSpec.ofChange fnExactAllowedStatesWrong)

/-- 'laws.FnExactCountAllowed': WHATEVER THE INPUT: true; the input reads as it did. -/
def fnExactCountAllowedSpec : ChangeSpec := { name := "fnExactCountAllowed", fn := fun _ => fun
  | [d] => { results := [.lit (.bool true)], args := [d] }
  | _ => none }
def fnExactCountAllowedRow : OpenClaim := { program := "ytjbfophbdmakjab", sum := "6f4ff0618bbbc16a8b8b0aa0af3ba86bf9dbd5601e8d9d5edb071db42ebcfe7d", func := "loop.example/g01314/laws.FnExactCountAllowed", spec := "fnExactCountAllowed", unfollowed := true, recurses := true, apart := false }
def FnExactCountAllowedSaid : Prop := fnExactCountAllowedRow.holds Try.pinned (OpenSpec.ofChange fnExactCountAllowedSpec)

/-- ITS FALSE NEIGHBOUR: 'it returns false'. Refute it at one input. -/
def fnExactCountAllowedWrong : ChangeSpec := { name := "fnExactCountAllowed", fn := fun _ => fun
  | [d] => { results := [.lit (.bool false)], args := [d] }
  | _ => none }
def FnExactCountAllowedWrongFalsely : Prop := fnExactCountAllowedRow.holds Try.pinned (OpenSpec.ofChange fnExactCountAllowedWrong)

/-- 'laws.FnExactNeedlessBlocks': WHATEVER THE INPUT: true; the input reads as it did. -/
def fnExactNeedlessBlocksSpec : ChangeSpec := { name := "fnExactNeedlessBlocks", fn := fun _ => fun
  | [d] => { results := [.lit (.bool true)], args := [d] }
  | _ => none }
def fnExactNeedlessBlocksRow : OpenClaim := { program := "ytjbfophbdmakjab", sum := "6f4ff0618bbbc16a8b8b0aa0af3ba86bf9dbd5601e8d9d5edb071db42ebcfe7d", func := "loop.example/g01314/laws.FnExactNeedlessBlocks", spec := "fnExactNeedlessBlocks", unfollowed := true, recurses := true, apart := false }
def FnExactNeedlessBlocksSaid : Prop := fnExactNeedlessBlocksRow.holds Try.pinned (OpenSpec.ofChange fnExactNeedlessBlocksSpec)

/-- ITS FALSE NEIGHBOUR: 'it returns false'. Refute it at one input. -/
def fnExactNeedlessBlocksWrong : ChangeSpec := { name := "fnExactNeedlessBlocks", fn := fun _ => fun
  | [d] => { results := [.lit (.bool false)], args := [d] }
  | _ => none }
def FnExactNeedlessBlocksWrongFalsely : Prop := fnExactNeedlessBlocksRow.holds Try.pinned (OpenSpec.ofChange fnExactNeedlessBlocksWrong)

/-- 'laws.FnExactSlidesOf': WHATEVER THE INPUT: true; the input reads as it did. -/
def fnExactSlidesOfSpec : ChangeSpec := { name := "fnExactSlidesOf", fn := fun _ => fun
  | [d1, d2] => { results := [.lit (.bool true)], args := [d1, d2] }
  | _ => none }
def fnExactSlidesOfRow : OpenClaim := { program := "ytjbfophbdmakjab", sum := "6f4ff0618bbbc16a8b8b0aa0af3ba86bf9dbd5601e8d9d5edb071db42ebcfe7d", func := "loop.example/g01314/laws.FnExactSlidesOf", spec := "fnExactSlidesOf", unfollowed := true, recurses := true, apart := false }
def FnExactSlidesOfSaid : Prop := fnExactSlidesOfRow.holds Try.pinned (OpenSpec.ofChange fnExactSlidesOfSpec)

/-- ITS FALSE NEIGHBOUR: 'it returns false'. Refute it at one input. -/
def fnExactSlidesOfWrong : ChangeSpec := { name := "fnExactSlidesOf", fn := fun _ => fun
  | [d1, d2] => { results := [.lit (.bool false)], args := [d1, d2] }
  | _ => none }
def FnExactSlidesOfWrongFalsely : Prop := fnExactSlidesOfRow.holds Try.pinned (OpenSpec.ofChange fnExactSlidesOfWrong)

/-- 'laws.FnExactSlideBolt': WHATEVER THE INPUT: true; the input reads as it did. -/
def fnExactSlideBoltSpec : ChangeSpec := { name := "fnExactSlideBolt", fn := fun _ => fun
  | [d1, d2, d3] => { results := [.lit (.bool true)], args := [d1, d2, d3] }
  | _ => none }
def fnExactSlideBoltRow : OpenClaim := { program := "ytjbfophbdmakjab", sum := "6f4ff0618bbbc16a8b8b0aa0af3ba86bf9dbd5601e8d9d5edb071db42ebcfe7d", func := "loop.example/g01314/laws.FnExactSlideBolt", spec := "fnExactSlideBolt", unfollowed := true, recurses := true, apart := false }
def FnExactSlideBoltSaid : Prop := fnExactSlideBoltRow.holds Try.pinned (OpenSpec.ofChange fnExactSlideBoltSpec)

/-- ITS FALSE NEIGHBOUR: 'it returns false'. Refute it at one input. -/
def fnExactSlideBoltWrong : ChangeSpec := { name := "fnExactSlideBolt", fn := fun _ => fun
  | [d1, d2, d3] => { results := [.lit (.bool false)], args := [d1, d2, d3] }
  | _ => none }
def FnExactSlideBoltWrongFalsely : Prop := fnExactSlideBoltRow.holds Try.pinned (OpenSpec.ofChange fnExactSlideBoltWrong)

/- THE SECOND FORM. 'bulk': how many values and letters a reading holds, each counted each time it is reached (what is shared counts as often as it is met; a slice's spare places count too). A statement '..UptoSaid' is the law's where the arguments, and the package variables that the reading takes, are together of bulk at most 1048576: NARROWER than '..Said'. Prove '..Said' where nothing that the law and all that it calls make is longer than what came in: it says more and counts as full. Else prove '..UptoSaid'. A law counts once. -/
mutual
def uptoBulk {H : Type} : DataW H → Nat
  | .lit (.string bytes) => bytes.length + 1
  | .lit _ => 1
  | .nil => 1
  | .ptr d => uptoBulk d + 1
  | .slice elems spare => uptoBulkAll elems + uptoBulkAll spare + 1
  | .agg parts => uptoBulkAll parts + 1
  | .iface _ d => uptoBulk d + 1
  | .map entries => uptoBulkEntries entries + 1
  | .held _ => 1
def uptoBulkAll {H : Type} : List (DataW H) → Nat
  | [] => 0
  | d :: r => uptoBulk d + uptoBulkAll r
def uptoBulkEntries {H : Type} : List (Lit × DataW H) → Nat
  | [] => 0
  | x :: r => uptoBulkEntry x + uptoBulkEntries r
def uptoBulkEntry {H : Type} : Lit × DataW H → Nat
  | (.string bytes, d) => bytes.length + uptoBulk d + 1
  | (_, d) => uptoBulk d + 1
 end
def uptoSmall : (H : Type) → List (DataW H) → Bool := fun _ ds => decide (uptoBulkAll ds ≤ 1048576)
def OpenSpec.upto (s : _root_.Go.ChangeSpec) : _root_.Go.OpenSpec := { _root_.Go.OpenSpec.ofChange s with cond := some uptoSmall }

/-- 'laws.FnExactIsAllowed', WHERE WHAT IT READS IS OF BULK AT MOST 1048576: true; the input reads as it did. -/
def fnExactIsAllowedUptoRow : OpenClaim := { program := "ytjbfophbdmakjab", sum := "6f4ff0618bbbc16a8b8b0aa0af3ba86bf9dbd5601e8d9d5edb071db42ebcfe7d", func := "loop.example/g01314/laws.FnExactIsAllowed", spec := "fnExactIsAllowed", unfollowed := true, recurses := true, apart := false, narrowed := true }
def FnExactIsAllowedUptoSaid : Prop := fnExactIsAllowedUptoRow.holds Try.pinned (OpenSpec.upto fnExactIsAllowedSpec)

/-- 'laws.FnExactAllowedStates', WHERE WHAT IT READS IS OF BULK AT MOST 1048576: true; the input reads as it did. -/
def fnExactAllowedStatesUptoRow : OpenClaim := { program := "ytjbfophbdmakjab", sum := "6f4ff0618bbbc16a8b8b0aa0af3ba86bf9dbd5601e8d9d5edb071db42ebcfe7d", func := "loop.example/g01314/laws.FnExactAllowedStates", spec := "fnExactAllowedStates", unfollowed := true, recurses := true, apart := false, narrowed := true }
def FnExactAllowedStatesUptoSaid : Prop := fnExactAllowedStatesUptoRow.holds Try.pinned (OpenSpec.upto fnExactAllowedStatesSpec)

/-- 'laws.FnExactCountAllowed', WHERE WHAT IT READS IS OF BULK AT MOST 1048576: true; the input reads as it did. -/
def fnExactCountAllowedUptoRow : OpenClaim := { program := "ytjbfophbdmakjab", sum := "6f4ff0618bbbc16a8b8b0aa0af3ba86bf9dbd5601e8d9d5edb071db42ebcfe7d", func := "loop.example/g01314/laws.FnExactCountAllowed", spec := "fnExactCountAllowed", unfollowed := true, recurses := true, apart := false, narrowed := true }
def FnExactCountAllowedUptoSaid : Prop := fnExactCountAllowedUptoRow.holds Try.pinned (OpenSpec.upto fnExactCountAllowedSpec)

/-- 'laws.FnExactNeedlessBlocks', WHERE WHAT IT READS IS OF BULK AT MOST 1048576: true; the input reads as it did. -/
def fnExactNeedlessBlocksUptoRow : OpenClaim := { program := "ytjbfophbdmakjab", sum := "6f4ff0618bbbc16a8b8b0aa0af3ba86bf9dbd5601e8d9d5edb071db42ebcfe7d", func := "loop.example/g01314/laws.FnExactNeedlessBlocks", spec := "fnExactNeedlessBlocks", unfollowed := true, recurses := true, apart := false, narrowed := true }
def FnExactNeedlessBlocksUptoSaid : Prop := fnExactNeedlessBlocksUptoRow.holds Try.pinned (OpenSpec.upto fnExactNeedlessBlocksSpec)

/-- 'laws.FnExactSlidesOf', WHERE WHAT IT READS IS OF BULK AT MOST 1048576: true; the input reads as it did. -/
def fnExactSlidesOfUptoRow : OpenClaim := { program := "ytjbfophbdmakjab", sum := "6f4ff0618bbbc16a8b8b0aa0af3ba86bf9dbd5601e8d9d5edb071db42ebcfe7d", func := "loop.example/g01314/laws.FnExactSlidesOf", spec := "fnExactSlidesOf", unfollowed := true, recurses := true, apart := false, narrowed := true }
def FnExactSlidesOfUptoSaid : Prop := fnExactSlidesOfUptoRow.holds Try.pinned (OpenSpec.upto fnExactSlidesOfSpec)

/-- 'laws.FnExactSlideBolt', WHERE WHAT IT READS IS OF BULK AT MOST 1048576: true; the input reads as it did. -/
def fnExactSlideBoltUptoRow : OpenClaim := { program := "ytjbfophbdmakjab", sum := "6f4ff0618bbbc16a8b8b0aa0af3ba86bf9dbd5601e8d9d5edb071db42ebcfe7d", func := "loop.example/g01314/laws.FnExactSlideBolt", spec := "fnExactSlideBolt", unfollowed := true, recurses := true, apart := false, narrowed := true }
def FnExactSlideBoltUptoSaid : Prop := fnExactSlideBoltUptoRow.holds Try.pinned (OpenSpec.upto fnExactSlideBoltSpec)

end Rows
end Go.Proofs.Ytjbfophbdmakjab
