/-
  No cell of these rows narrows 'for every input' (looked for: loops, veiled, ifaces, maps, wideKeys, modest, calm, conditions, laid).
  DERIVED. THE GIVEN ROWS OF THIS SEAT. 9 by the template 'for every input the law returns true; each argument reads behind the call as it read before'; 0 by the template 'total and deterministic' (their statements: YtkcoabdngjbhdabTotals.lean).
  GIVEN WITH THE SEED: the statements are not yours to turn. If you find one false, say at which input.
  Laid BY PROGRAM, IN A SANDBOX (cutbox-rows.mjs): the forced cells as the released guide's own fill.sh prints them over the translation 81f203f5039e83a3… (all of the seat's roots in one cut). By AI agents, Wed Nov 11 2026. No macro, syntax, notation, axiom, sorry.
-/
import Derived.Test.YtkcoabdngjbhdabChecked
import GoSem.Claim
import GoSem.ClaimJoined
import GoSem.ClaimMapViews
import Derived.JoinedTies
import Derived.KernelRfl
namespace Go.Proofs.Ytkcoabdngjbhdab
/- THE CELL 'sum', in the pinned program and in every row, IS THE sha256 OF THE DUMP (.gsa) THAT YtkcoabdngjbhdabProg.lean LOADS. Nothing in Lean hashes anything: it is a label: what it is worth is what the hold of that sum in a sandbox is worth. -/
noncomputable def Try.pinned : Pinned := { name := "ytkcoabdngjbhdab", sum := "81f203f5039e83a38ec825780c967f1080b3ad5df8e1ddaa448d132c8acc45ab", checked := Try.checked }
namespace Rows
def none {H : Type} : Left H := { results := [], args := [] }

/-- 'laws.FnExactIsBox': WHATEVER THE INPUT: true; the input reads as it did. -/
def fnExactIsBoxSpec : ChangeSpec := { name := "fnExactIsBox", fn := fun _ => fun
  | [d] => { results := [.lit (.bool true)], args := [d] }
  | _ => none }
def fnExactIsBoxRow : OpenClaim := { program := "ytkcoabdngjbhdab", sum := "81f203f5039e83a38ec825780c967f1080b3ad5df8e1ddaa448d132c8acc45ab", func := "loop.example/g01314/laws.FnExactIsBox", spec := "fnExactIsBox", plainKeys := false, apart := false }
def FnExactIsBoxSaid : Prop := fnExactIsBoxRow.holds Try.pinned (OpenSpec.ofChange fnExactIsBoxSpec)

/-- ITS FALSE NEIGHBOUR: 'it returns false'. Refute it at one input. -/
def fnExactIsBoxWrong : ChangeSpec := { name := "fnExactIsBox", fn := fun _ => fun
  | [d] => { results := [.lit (.bool false)], args := [d] }
  | _ => none }
def FnExactIsBoxWrongFalsely : Prop := fnExactIsBoxRow.holds Try.pinned (OpenSpec.ofChange fnExactIsBoxWrong)

/-- 'laws.FnExactFreeBox': WHATEVER THE INPUT: true; the input reads as it did. -/
def fnExactFreeBoxSpec : ChangeSpec := { name := "fnExactFreeBox", fn := fun _ => fun
  | [d1, d2] => { results := [.lit (.bool true)], args := [d1, d2] }
  | _ => none }
def fnExactFreeBoxRow : OpenClaim := { program := "ytkcoabdngjbhdab", sum := "81f203f5039e83a38ec825780c967f1080b3ad5df8e1ddaa448d132c8acc45ab", func := "loop.example/g01314/laws.FnExactFreeBox", spec := "fnExactFreeBox", inPlace := ["internal/abi.NoEscape", "internal/bytealg.MakeNoZero"], plainKeys := false, apart := false }
def FnExactFreeBoxSaid : Prop := fnExactFreeBoxRow.holds Try.pinned (OpenSpec.ofChange fnExactFreeBoxSpec)

/-- ITS FALSE NEIGHBOUR: 'it returns false'. Refute it at one input. -/
def fnExactFreeBoxWrong : ChangeSpec := { name := "fnExactFreeBox", fn := fun _ => fun
  | [d1, d2] => { results := [.lit (.bool false)], args := [d1, d2] }
  | _ => none }
def FnExactFreeBoxWrongFalsely : Prop := fnExactFreeBoxRow.holds Try.pinned (OpenSpec.ofChange fnExactFreeBoxWrong)

/-- 'laws.FnExactRingBox': WHATEVER THE INPUT: true; the input reads as it did. -/
def fnExactRingBoxSpec : ChangeSpec := { name := "fnExactRingBox", fn := fun _ => fun
  | [d] => { results := [.lit (.bool true)], args := [d] }
  | _ => none }
def fnExactRingBoxRow : OpenClaim := { program := "ytkcoabdngjbhdab", sum := "81f203f5039e83a38ec825780c967f1080b3ad5df8e1ddaa448d132c8acc45ab", func := "loop.example/g01314/laws.FnExactRingBox", spec := "fnExactRingBox", inPlace := ["internal/abi.NoEscape", "internal/bytealg.MakeNoZero"], plainKeys := false, apart := false }
def FnExactRingBoxSaid : Prop := fnExactRingBoxRow.holds Try.pinned (OpenSpec.ofChange fnExactRingBoxSpec)

/-- ITS FALSE NEIGHBOUR: 'it returns false'. Refute it at one input. -/
def fnExactRingBoxWrong : ChangeSpec := { name := "fnExactRingBox", fn := fun _ => fun
  | [d] => { results := [.lit (.bool false)], args := [d] }
  | _ => none }
def FnExactRingBoxWrongFalsely : Prop := fnExactRingBoxRow.holds Try.pinned (OpenSpec.ofChange fnExactRingBoxWrong)

/-- 'laws.FnExactStairBox': WHATEVER THE INPUT: true; the input reads as it did. -/
def fnExactStairBoxSpec : ChangeSpec := { name := "fnExactStairBox", fn := fun _ => fun
  | [d1, d2] => { results := [.lit (.bool true)], args := [d1, d2] }
  | _ => none }
def fnExactStairBoxRow : OpenClaim := { program := "ytkcoabdngjbhdab", sum := "81f203f5039e83a38ec825780c967f1080b3ad5df8e1ddaa448d132c8acc45ab", func := "loop.example/g01314/laws.FnExactStairBox", spec := "fnExactStairBox", inPlace := ["internal/abi.NoEscape", "internal/bytealg.MakeNoZero"], recurses := true, plainKeys := false, apart := false }
def FnExactStairBoxSaid : Prop := fnExactStairBoxRow.holds Try.pinned (OpenSpec.ofChange fnExactStairBoxSpec)

/-- ITS FALSE NEIGHBOUR: 'it returns false'. Refute it at one input. -/
def fnExactStairBoxWrong : ChangeSpec := { name := "fnExactStairBox", fn := fun _ => fun
  | [d1, d2] => { results := [.lit (.bool false)], args := [d1, d2] }
  | _ => none }
def FnExactStairBoxWrongFalsely : Prop := fnExactStairBoxRow.holds Try.pinned (OpenSpec.ofChange fnExactStairBoxWrong)

/-- 'laws.FnExactRuleOf': WHATEVER THE INPUT: true; the input reads as it did. -/
def fnExactRuleOfSpec : ChangeSpec := { name := "fnExactRuleOf", fn := fun _ => fun
  | [d1, d2, d3] => { results := [.lit (.bool true)], args := [d1, d2, d3] }
  | _ => none }
def fnExactRuleOfRow : OpenClaim := { program := "ytkcoabdngjbhdab", sum := "81f203f5039e83a38ec825780c967f1080b3ad5df8e1ddaa448d132c8acc45ab", func := "loop.example/g01314/laws.FnExactRuleOf", spec := "fnExactRuleOf", plainKeys := false, apart := false }
def FnExactRuleOfSaid : Prop := fnExactRuleOfRow.holds Try.pinned (OpenSpec.ofChange fnExactRuleOfSpec)

/-- ITS FALSE NEIGHBOUR: 'it returns false'. Refute it at one input. -/
def fnExactRuleOfWrong : ChangeSpec := { name := "fnExactRuleOf", fn := fun _ => fun
  | [d1, d2, d3] => { results := [.lit (.bool false)], args := [d1, d2, d3] }
  | _ => none }
def FnExactRuleOfWrongFalsely : Prop := fnExactRuleOfRow.holds Try.pinned (OpenSpec.ofChange fnExactRuleOfWrong)

/-- 'laws.FnExactCanTurn': WHATEVER THE INPUT: true; the input reads as it did. -/
def fnExactCanTurnSpec : ChangeSpec := { name := "fnExactCanTurn", fn := fun _ => fun
  | [d1, d2, d3, d4] => { results := [.lit (.bool true)], args := [d1, d2, d3, d4] }
  | _ => none }
def fnExactCanTurnRow : OpenClaim := { program := "ytkcoabdngjbhdab", sum := "81f203f5039e83a38ec825780c967f1080b3ad5df8e1ddaa448d132c8acc45ab", func := "loop.example/g01314/laws.FnExactCanTurn", spec := "fnExactCanTurn", unfollowed := true, recurses := true, plainKeys := false, apart := false }
def FnExactCanTurnSaid : Prop := fnExactCanTurnRow.holds Try.pinned (OpenSpec.ofChange fnExactCanTurnSpec)

/-- ITS FALSE NEIGHBOUR: 'it returns false'. Refute it at one input. -/
def fnExactCanTurnWrong : ChangeSpec := { name := "fnExactCanTurn", fn := fun _ => fun
  | [d1, d2, d3, d4] => { results := [.lit (.bool false)], args := [d1, d2, d3, d4] }
  | _ => none }
def FnExactCanTurnWrongFalsely : Prop := fnExactCanTurnRow.holds Try.pinned (OpenSpec.ofChange fnExactCanTurnWrong)

/-- 'laws.FnExactTurnsOf': WHATEVER THE INPUT: true; the input reads as it did. -/
def fnExactTurnsOfSpec : ChangeSpec := { name := "fnExactTurnsOf", fn := fun _ => fun
  | [d1, d2] => { results := [.lit (.bool true)], args := [d1, d2] }
  | _ => none }
def fnExactTurnsOfRow : OpenClaim := { program := "ytkcoabdngjbhdab", sum := "81f203f5039e83a38ec825780c967f1080b3ad5df8e1ddaa448d132c8acc45ab", func := "loop.example/g01314/laws.FnExactTurnsOf", spec := "fnExactTurnsOf", unfollowed := true, recurses := true, plainKeys := false, apart := false }
def FnExactTurnsOfSaid : Prop := fnExactTurnsOfRow.holds Try.pinned (OpenSpec.ofChange fnExactTurnsOfSpec)

/-- ITS FALSE NEIGHBOUR: 'it returns false'. Refute it at one input. -/
def fnExactTurnsOfWrong : ChangeSpec := { name := "fnExactTurnsOf", fn := fun _ => fun
  | [d1, d2] => { results := [.lit (.bool false)], args := [d1, d2] }
  | _ => none }
def FnExactTurnsOfWrongFalsely : Prop := fnExactTurnsOfRow.holds Try.pinned (OpenSpec.ofChange fnExactTurnsOfWrong)

/-- 'laws.FnExactTurnPart': WHATEVER THE INPUT: true; the input reads as it did. -/
def fnExactTurnPartSpec : ChangeSpec := { name := "fnExactTurnPart", fn := fun _ => fun
  | [d1, d2, d3, d4] => { results := [.lit (.bool true)], args := [d1, d2, d3, d4] }
  | _ => none }
def fnExactTurnPartRow : OpenClaim := { program := "ytkcoabdngjbhdab", sum := "81f203f5039e83a38ec825780c967f1080b3ad5df8e1ddaa448d132c8acc45ab", func := "loop.example/g01314/laws.FnExactTurnPart", spec := "fnExactTurnPart", unfollowed := true, recurses := true, plainKeys := false, apart := false }
def FnExactTurnPartSaid : Prop := fnExactTurnPartRow.holds Try.pinned (OpenSpec.ofChange fnExactTurnPartSpec)

/-- ITS FALSE NEIGHBOUR: 'it returns false'. Refute it at one input. -/
def fnExactTurnPartWrong : ChangeSpec := { name := "fnExactTurnPart", fn := fun _ => fun
  | [d1, d2, d3, d4] => { results := [.lit (.bool false)], args := [d1, d2, d3, d4] }
  | _ => none }
def FnExactTurnPartWrongFalsely : Prop := fnExactTurnPartRow.holds Try.pinned (OpenSpec.ofChange fnExactTurnPartWrong)

/-- 'laws.FnExactFewestTurns': WHATEVER THE INPUT: true; the input reads as it did. -/
def fnExactFewestTurnsSpec : ChangeSpec := { name := "fnExactFewestTurns", fn := fun _ => fun
  | [d1, d2, d3] => { results := [.lit (.bool true)], args := [d1, d2, d3] }
  | _ => none }
def fnExactFewestTurnsRow : OpenClaim := { program := "ytkcoabdngjbhdab", sum := "81f203f5039e83a38ec825780c967f1080b3ad5df8e1ddaa448d132c8acc45ab", func := "loop.example/g01314/laws.FnExactFewestTurns", spec := "fnExactFewestTurns", unfollowed := true, recurses := true, plainKeys := false, apart := false }
def FnExactFewestTurnsSaid : Prop := fnExactFewestTurnsRow.holds Try.pinned (OpenSpec.ofChange fnExactFewestTurnsSpec)

/-- ITS FALSE NEIGHBOUR: 'it returns false'. Refute it at one input. -/
def fnExactFewestTurnsWrong : ChangeSpec := { name := "fnExactFewestTurns", fn := fun _ => fun
  | [d1, d2, d3] => { results := [.lit (.bool false)], args := [d1, d2, d3] }
  | _ => none }
def FnExactFewestTurnsWrongFalsely : Prop := fnExactFewestTurnsRow.holds Try.pinned (OpenSpec.ofChange fnExactFewestTurnsWrong)

/- THE SECOND FORM. 'bulk': how many values and letters a reading holds, each counted each time it is reached (what is shared counts as often as it is met; a slice's spare places count too). A statement '..UptoSaid' is the law's where the arguments, and the package variables that the reading takes, are together of bulk at most 1048576: NARROWER than '..Said'. Prove '..Said' where nothing that the law and all that it calls make is longer than what came in: it says more and counts as full. Else prove '..UptoSaid'. A law counts once. -/
mutual
def uptoBulk {H : Type} : DataW H → Nat
  | .lit (.string bytes) => bytes.length + 1
  | .lit _ => 1
  | .nil => 1
  | .ptr d => uptoBulk d + 1
  | .slice elems spare => uptoBulkAll elems + uptoBulkAll spare + 1
  | .agg parts => uptoBulkAll parts + 1
  | .iface _ d => uptoBulk d + 1
  | .map entries => uptoBulkEntries entries + 1
  | .held _ => 1
def uptoBulkAll {H : Type} : List (DataW H) → Nat
  | [] => 0
  | d :: r => uptoBulk d + uptoBulkAll r
def uptoBulkEntries {H : Type} : List (Lit × DataW H) → Nat
  | [] => 0
  | x :: r => uptoBulkEntry x + uptoBulkEntries r
def uptoBulkEntry {H : Type} : Lit × DataW H → Nat
  | (.string bytes, d) => bytes.length + uptoBulk d + 1
  | (_, d) => uptoBulk d + 1
 end
def uptoSmall : (H : Type) → List (DataW H) → Bool := fun _ ds => decide (uptoBulkAll ds ≤ 1048576)
def OpenSpec.upto (s : _root_.Go.ChangeSpec) : _root_.Go.OpenSpec := { _root_.Go.OpenSpec.ofChange s with cond := some uptoSmall }

/-- 'laws.FnExactIsBox', WHERE WHAT IT READS IS OF BULK AT MOST 1048576: true; the input reads as it did. -/
def fnExactIsBoxUptoRow : OpenClaim := { program := "ytkcoabdngjbhdab", sum := "81f203f5039e83a38ec825780c967f1080b3ad5df8e1ddaa448d132c8acc45ab", func := "loop.example/g01314/laws.FnExactIsBox", spec := "fnExactIsBox", plainKeys := false, apart := false, narrowed := true }
def FnExactIsBoxUptoSaid : Prop := fnExactIsBoxUptoRow.holds Try.pinned (OpenSpec.upto fnExactIsBoxSpec)

/-- 'laws.FnExactFreeBox', WHERE WHAT IT READS IS OF BULK AT MOST 1048576: true; the input reads as it did. -/
def fnExactFreeBoxUptoRow : OpenClaim := { program := "ytkcoabdngjbhdab", sum := "81f203f5039e83a38ec825780c967f1080b3ad5df8e1ddaa448d132c8acc45ab", func := "loop.example/g01314/laws.FnExactFreeBox", spec := "fnExactFreeBox", inPlace := ["internal/abi.NoEscape", "internal/bytealg.MakeNoZero"], plainKeys := false, apart := false, narrowed := true }
def FnExactFreeBoxUptoSaid : Prop := fnExactFreeBoxUptoRow.holds Try.pinned (OpenSpec.upto fnExactFreeBoxSpec)

/-- 'laws.FnExactRingBox', WHERE WHAT IT READS IS OF BULK AT MOST 1048576: true; the input reads as it did. -/
def fnExactRingBoxUptoRow : OpenClaim := { program := "ytkcoabdngjbhdab", sum := "81f203f5039e83a38ec825780c967f1080b3ad5df8e1ddaa448d132c8acc45ab", func := "loop.example/g01314/laws.FnExactRingBox", spec := "fnExactRingBox", inPlace := ["internal/abi.NoEscape", "internal/bytealg.MakeNoZero"], plainKeys := false, apart := false, narrowed := true }
def FnExactRingBoxUptoSaid : Prop := fnExactRingBoxUptoRow.holds Try.pinned (OpenSpec.upto fnExactRingBoxSpec)

/-- 'laws.FnExactStairBox', WHERE WHAT IT READS IS OF BULK AT MOST 1048576: true; the input reads as it did. -/
def fnExactStairBoxUptoRow : OpenClaim := { program := "ytkcoabdngjbhdab", sum := "81f203f5039e83a38ec825780c967f1080b3ad5df8e1ddaa448d132c8acc45ab", func := "loop.example/g01314/laws.FnExactStairBox", spec := "fnExactStairBox", inPlace := ["internal/abi.NoEscape", "internal/bytealg.MakeNoZero"], recurses := true, plainKeys := false, apart := false, narrowed := true }
def FnExactStairBoxUptoSaid : Prop := fnExactStairBoxUptoRow.holds Try.pinned (OpenSpec.upto fnExactStairBoxSpec)

/-- 'laws.FnExactRuleOf', WHERE WHAT IT READS IS OF BULK AT MOST 1048576: true; the input reads as it did. -/
def fnExactRuleOfUptoRow : OpenClaim := { program := "ytkcoabdngjbhdab", sum := "81f203f5039e83a38ec825780c967f1080b3ad5df8e1ddaa448d132c8acc45ab", func := "loop.example/g01314/laws.FnExactRuleOf", spec := "fnExactRuleOf", plainKeys := false, apart := false, narrowed := true }
def FnExactRuleOfUptoSaid : Prop := fnExactRuleOfUptoRow.holds Try.pinned (OpenSpec.upto fnExactRuleOfSpec)

/-- 'laws.FnExactCanTurn', WHERE WHAT IT READS IS OF BULK AT MOST 1048576: true; the input reads as it did. -/
def fnExactCanTurnUptoRow : OpenClaim := { program := "ytkcoabdngjbhdab", sum := "81f203f5039e83a38ec825780c967f1080b3ad5df8e1ddaa448d132c8acc45ab", func := "loop.example/g01314/laws.FnExactCanTurn", spec := "fnExactCanTurn", unfollowed := true, recurses := true, plainKeys := false, apart := false, narrowed := true }
def FnExactCanTurnUptoSaid : Prop := fnExactCanTurnUptoRow.holds Try.pinned (OpenSpec.upto fnExactCanTurnSpec)

/-- 'laws.FnExactTurnsOf', WHERE WHAT IT READS IS OF BULK AT MOST 1048576: true; the input reads as it did. -/
def fnExactTurnsOfUptoRow : OpenClaim := { program := "ytkcoabdngjbhdab", sum := "81f203f5039e83a38ec825780c967f1080b3ad5df8e1ddaa448d132c8acc45ab", func := "loop.example/g01314/laws.FnExactTurnsOf", spec := "fnExactTurnsOf", unfollowed := true, recurses := true, plainKeys := false, apart := false, narrowed := true }
def FnExactTurnsOfUptoSaid : Prop := fnExactTurnsOfUptoRow.holds Try.pinned (OpenSpec.upto fnExactTurnsOfSpec)

/-- 'laws.FnExactTurnPart', WHERE WHAT IT READS IS OF BULK AT MOST 1048576: true; the input reads as it did. -/
def fnExactTurnPartUptoRow : OpenClaim := { program := "ytkcoabdngjbhdab", sum := "81f203f5039e83a38ec825780c967f1080b3ad5df8e1ddaa448d132c8acc45ab", func := "loop.example/g01314/laws.FnExactTurnPart", spec := "fnExactTurnPart", unfollowed := true, recurses := true, plainKeys := false, apart := false, narrowed := true }
def FnExactTurnPartUptoSaid : Prop := fnExactTurnPartUptoRow.holds Try.pinned (OpenSpec.upto fnExactTurnPartSpec)

/-- 'laws.FnExactFewestTurns', WHERE WHAT IT READS IS OF BULK AT MOST 1048576: true; the input reads as it did. -/
def fnExactFewestTurnsUptoRow : OpenClaim := { program := "ytkcoabdngjbhdab", sum := "81f203f5039e83a38ec825780c967f1080b3ad5df8e1ddaa448d132c8acc45ab", func := "loop.example/g01314/laws.FnExactFewestTurns", spec := "fnExactFewestTurns", unfollowed := true, recurses := true, plainKeys := false, apart := false, narrowed := true }
def FnExactFewestTurnsUptoSaid : Prop := fnExactFewestTurnsUptoRow.holds Try.pinned (OpenSpec.upto fnExactFewestTurnsSpec)

end Rows
end Go.Proofs.Ytkcoabdngjbhdab
