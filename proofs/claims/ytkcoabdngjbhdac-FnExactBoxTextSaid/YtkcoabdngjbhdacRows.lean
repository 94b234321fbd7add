/-
  No cell of these rows narrows 'for every input' (looked for: loops, veiled, ifaces, maps, wideKeys, modest, calm, conditions, laid).
  DERIVED. THE GIVEN ROWS OF THIS SEAT. 8 by the template 'for every input the law returns true; each argument reads behind the call as it read before'; 0 by the template 'total and deterministic' (their statements: YtkcoabdngjbhdacTotals.lean).
  GIVEN WITH THE SEED: the statements are not yours to turn. If you find one false, say at which input.
  Laid BY PROGRAM, IN A SANDBOX (cutbox-rows.mjs): the forced cells as the released guide's own fill.sh prints them over the translation 2fd002078accc5d0… (all of the seat's roots in one cut). By AI agents, Wed Nov 11 2026. No macro, syntax, notation, axiom, sorry.
-/
import Derived.Test.YtkcoabdngjbhdacChecked
import GoSem.Claim
import GoSem.ClaimJoined
import GoSem.ClaimMapViews
import Derived.JoinedTies
import Derived.KernelRfl
namespace Go.Proofs.Ytkcoabdngjbhdac
/- THE CELL 'sum', in the pinned program and in every row, IS THE sha256 OF THE DUMP (.gsa) THAT YtkcoabdngjbhdacProg.lean LOADS. Nothing in Lean hashes anything: it is a label: what it is worth is what the hold of that sum in a sandbox is worth. -/
noncomputable def Try.pinned : Pinned := { name := "ytkcoabdngjbhdac", sum := "2fd002078accc5d05a2ddeb54cd13d0d4a9a97c0ea90ea9c627db75158e64d0c", checked := Try.checked }
namespace Rows
def none {H : Type} : Left H := { results := [], args := [] }

/-- 'laws.FnExactFirstTurns': WHATEVER THE INPUT: true; the input reads as it did. -/
def fnExactFirstTurnsSpec : ChangeSpec := { name := "fnExactFirstTurns", fn := fun _ => fun
  | [d1, d2, d3] => { results := [.lit (.bool true)], args := [d1, d2, d3] }
  | _ => none }
def fnExactFirstTurnsRow : OpenClaim := { program := "ytkcoabdngjbhdac", sum := "2fd002078accc5d05a2ddeb54cd13d0d4a9a97c0ea90ea9c627db75158e64d0c", func := "loop.example/g01314/laws.FnExactFirstTurns", spec := "fnExactFirstTurns", unfollowed := true, recurses := true, plainKeys := false, apart := false }
def FnExactFirstTurnsSaid : Prop := fnExactFirstTurnsRow.holds Try.pinned (OpenSpec.ofChange fnExactFirstTurnsSpec)

/-- ITS FALSE NEIGHBOUR: 'it returns false'. Refute it at one input. -/
def fnExactFirstTurnsWrong : ChangeSpec := { name := "fnExactFirstTurns", fn := fun _ => fun
  | [d1, d2, d3] => { results := [.lit (.bool false)], args := [d1, d2, d3] }
  | _ => none }
def FnExactFirstTurnsWrongFalsely : Prop := fnExactFirstTurnsRow.holds Try.pinned (OpenSpec.ofChange fnExactFirstTurnsWrong)

/-- 'laws.FnExactCountBoxed': WHATEVER THE INPUT: true; the input reads as it did. -/
def fnExactCountBoxedSpec : ChangeSpec := { name := "fnExactCountBoxed", fn := fun _ => fun
  | [d1, d2] => { results := [.lit (.bool true)], args := [d1, d2] }
  | _ => none }
def fnExactCountBoxedRow : OpenClaim := { program := "ytkcoabdngjbhdac", sum := "2fd002078accc5d05a2ddeb54cd13d0d4a9a97c0ea90ea9c627db75158e64d0c", func := "loop.example/g01314/laws.FnExactCountBoxed", spec := "fnExactCountBoxed", unfollowed := true, recurses := true, plainKeys := false, apart := false }
def FnExactCountBoxedSaid : Prop := fnExactCountBoxedRow.holds Try.pinned (OpenSpec.ofChange fnExactCountBoxedSpec)

/-- ITS FALSE NEIGHBOUR: 'it returns false'. Refute it at one input. -/
def fnExactCountBoxedWrong : ChangeSpec := { name := "fnExactCountBoxed", fn := fun _ => fun
  | [d1, d2] => { results := [.lit (.bool false)], args := [d1, d2] }
  | _ => none }
def FnExactCountBoxedWrongFalsely : Prop := fnExactCountBoxedRow.holds Try.pinned (OpenSpec.ofChange fnExactCountBoxedWrong)

/-- 'laws.FnExactCountOpened': WHATEVER THE INPUT: true; the input reads as it did. -/
def fnExactCountOpenedSpec : ChangeSpec := { name := "fnExactCountOpened", fn := fun _ => fun
  | [d] => { results := [.lit (.bool true)], args := [d] }
  | _ => none }
def fnExactCountOpenedRow : OpenClaim := { program := "ytkcoabdngjbhdac", sum := "2fd002078accc5d05a2ddeb54cd13d0d4a9a97c0ea90ea9c627db75158e64d0c", func := "loop.example/g01314/laws.FnExactCountOpened", spec := "fnExactCountOpened", unfollowed := true, recurses := true, plainKeys := false, apart := false }
def FnExactCountOpenedSaid : Prop := fnExactCountOpenedRow.holds Try.pinned (OpenSpec.ofChange fnExactCountOpenedSpec)

/-- ITS FALSE NEIGHBOUR: 'it returns false'. Refute it at one input. -/
def fnExactCountOpenedWrong : ChangeSpec := { name := "fnExactCountOpened", fn := fun _ => fun
  | [d] => { results := [.lit (.bool false)], args := [d] }
  | _ => none }
def FnExactCountOpenedWrongFalsely : Prop := fnExactCountOpenedRow.holds Try.pinned (OpenSpec.ofChange fnExactCountOpenedWrong)

/-- 'laws.FnExactFarthestBoxed': WHATEVER THE INPUT: true; the input reads as it did. -/
def fnExactFarthestBoxedSpec : ChangeSpec := { name := "fnExactFarthestBoxed", fn := fun _ => fun
  | [d1, d2] => { results := [.lit (.bool true)], args := [d1, d2] }
  | _ => none }
def fnExactFarthestBoxedRow : OpenClaim := { program := "ytkcoabdngjbhdac", sum := "2fd002078accc5d05a2ddeb54cd13d0d4a9a97c0ea90ea9c627db75158e64d0c", func := "loop.example/g01314/laws.FnExactFarthestBoxed", spec := "fnExactFarthestBoxed", unfollowed := true, recurses := true, plainKeys := false, apart := false }
def FnExactFarthestBoxedSaid : Prop := fnExactFarthestBoxedRow.holds Try.pinned (OpenSpec.ofChange fnExactFarthestBoxedSpec)

/-- ITS FALSE NEIGHBOUR: 'it returns false'. Refute it at one input. -/
def fnExactFarthestBoxedWrong : ChangeSpec := { name := "fnExactFarthestBoxed", fn := fun _ => fun
  | [d1, d2] => { results := [.lit (.bool false)], args := [d1, d2] }
  | _ => none }
def FnExactFarthestBoxedWrongFalsely : Prop := fnExactFarthestBoxedRow.holds Try.pinned (OpenSpec.ofChange fnExactFarthestBoxedWrong)

/-- 'laws.FnExactTurnsToOpen': WHATEVER THE INPUT: true; the input reads as it did. -/
def fnExactTurnsToOpenSpec : ChangeSpec := { name := "fnExactTurnsToOpen", fn := fun _ => fun
  | [d] => { results := [.lit (.bool true)], args := [d] }
  | _ => none }
def fnExactTurnsToOpenRow : OpenClaim := { program := "ytkcoabdngjbhdac", sum := "2fd002078accc5d05a2ddeb54cd13d0d4a9a97c0ea90ea9c627db75158e64d0c", func := "loop.example/g01314/laws.FnExactTurnsToOpen", spec := "fnExactTurnsToOpen", unfollowed := true, recurses := true, plainKeys := false, apart := false }
def FnExactTurnsToOpenSaid : Prop := fnExactTurnsToOpenRow.holds Try.pinned (OpenSpec.ofChange fnExactTurnsToOpenSpec)

/-- ITS FALSE NEIGHBOUR: 'it returns false'. Refute it at one input. -/
def fnExactTurnsToOpenWrong : ChangeSpec := { name := "fnExactTurnsToOpen", fn := fun _ => fun
  | [d] => { results := [.lit (.bool false)], args := [d] }
  | _ => none }
def FnExactTurnsToOpenWrongFalsely : Prop := fnExactTurnsToOpenRow.holds Try.pinned (OpenSpec.ofChange fnExactTurnsToOpenWrong)

/-- 'laws.FnExactBackBox': WHATEVER THE INPUT: true; the input reads as it did. -/
def fnExactBackBoxSpec : ChangeSpec := { name := "fnExactBackBox", fn := fun _ => fun
  | [d] => { results := [.lit (.bool true)], args := [d] }
  | _ => none }
def fnExactBackBoxRow : OpenClaim := { program := "ytkcoabdngjbhdac", sum := "2fd002078accc5d05a2ddeb54cd13d0d4a9a97c0ea90ea9c627db75158e64d0c", func := "loop.example/g01314/laws.FnExactBackBox", spec := "fnExactBackBox", recurses := true, plainKeys := false, apart := false }
def FnExactBackBoxSaid : Prop := fnExactBackBoxRow.holds Try.pinned (OpenSpec.ofChange fnExactBackBoxSpec)

/-- ITS FALSE NEIGHBOUR: 'it returns false'. Refute it at one input. -/
def fnExactBackBoxWrong : ChangeSpec := { name := "fnExactBackBox", fn := fun _ => fun
  | [d] => { results := [.lit (.bool false)], args := [d] }
  | _ => none }
def FnExactBackBoxWrongFalsely : Prop := fnExactBackBoxRow.holds Try.pinned (OpenSpec.ofChange fnExactBackBoxWrong)

/-- 'laws.FnExactChangeRule': WHATEVER THE INPUT: true; the input reads as it did. -/
def fnExactChangeRuleSpec : ChangeSpec := { name := "fnExactChangeRule", fn := fun _ => fun
  | [d1, d2, d3, d4] => { results := [.lit (.bool true)], args := [d1, d2, d3, d4] }
  | _ => none }
def fnExactChangeRuleRow : OpenClaim := { program := "ytkcoabdngjbhdac", sum := "2fd002078accc5d05a2ddeb54cd13d0d4a9a97c0ea90ea9c627db75158e64d0c", func := "loop.example/g01314/laws.FnExactChangeRule", spec := "fnExactChangeRule", plainKeys := false, apart := false }
def FnExactChangeRuleSaid : Prop := fnExactChangeRuleRow.holds Try.pinned (OpenSpec.ofChange fnExactChangeRuleSpec)

/-- ITS FALSE NEIGHBOUR: 'it returns false'. Refute it at one input. -/
def fnExactChangeRuleWrong : ChangeSpec := { name := "fnExactChangeRule", fn := fun _ => fun
  | [d1, d2, d3, d4] => { results := [.lit (.bool false)], args := [d1, d2, d3, d4] }
  | _ => none }
def FnExactChangeRuleWrongFalsely : Prop := fnExactChangeRuleRow.holds Try.pinned (OpenSpec.ofChange fnExactChangeRuleWrong)

/-- 'laws.FnExactBoxText': WHATEVER THE INPUT: true; the input reads as it did. -/
def fnExactBoxTextSpec : ChangeSpec := { name := "fnExactBoxText", fn := fun _ => fun
  | [d] => { results := [.lit (.bool true)], args := [d] }
  | _ => none }
def fnExactBoxTextRow : OpenClaim := { program := "ytkcoabdngjbhdac", sum := "2fd002078accc5d05a2ddeb54cd13d0d4a9a97c0ea90ea9c627db75158e64d0c", func := "loop.example/g01314/laws.FnExactBoxText", spec := "fnExactBoxText", recurses := true, plainKeys := false, apart := false }
def FnExactBoxTextSaid : Prop := fnExactBoxTextRow.holds Try.pinned (OpenSpec.ofChange fnExactBoxTextSpec)

/-- ITS FALSE NEIGHBOUR: 'it returns false'. Refute it at one input. -/
def fnExactBoxTextWrong : ChangeSpec := { name := "fnExactBoxText", fn := fun _ => fun
  | [d] => { results := [.lit (.bool false)], args := [d] }
  | _ => none }
def FnExactBoxTextWrongFalsely : Prop := fnExactBoxTextRow.holds Try.pinned (OpenSpec.ofChange fnExactBoxTextWrong)

/- THE SECOND FORM. 'bulk': how many values and letters a reading holds, each counted each time it is reached (what is shared counts as often as it is met; a slice's spare places count too). A statement '..UptoSaid' is the law's where the arguments, and the package variables that the reading takes, are together of bulk at most 1048576: NARROWER than '..Said'. Prove '..Said' where nothing that the law and all that it calls make is longer than what came in: it says more and counts as full. Else prove '..UptoSaid'. A law counts once. -/
mutual
def uptoBulk {H : Type} : DataW H → Nat
  | .lit (.string bytes) => bytes.length + 1
  | .lit _ => 1
  | .nil => 1
  | .ptr d => uptoBulk d + 1
  | .slice elems spare => uptoBulkAll elems + uptoBulkAll spare + 1
  | .agg parts => uptoBulkAll parts + 1
  | .iface _ d => uptoBulk d + 1
  | .map entries => uptoBulkEntries entries + 1
  | .held _ => 1
def uptoBulkAll {H : Type} : List (DataW H) → Nat
  | [] => 0
  | d :: r => uptoBulk d + uptoBulkAll r
def uptoBulkEntries {H : Type} : List (Lit × DataW H) → Nat
  | [] => 0
  | x :: r => uptoBulkEntry x + uptoBulkEntries r
def uptoBulkEntry {H : Type} : Lit × DataW H → Nat
  | (.string bytes, d) => bytes.length + uptoBulk d + 1
  | (_, d) => uptoBulk d + 1
 end
def uptoSmall : (H : Type) → List (DataW H) → Bool := fun _ ds => decide (uptoBulkAll ds ≤ 1048576)
def OpenSpec.upto (s : _root_.Go.ChangeSpec) : _root_.Go.OpenSpec := { _root_.Go.OpenSpec.ofChange s with cond := some uptoSmall }

/-- 'laws.FnExactFirstTurns', WHERE WHAT IT READS IS OF BULK AT MOST 1048576: true; the input reads as it did. -/
def fnExactFirstTurnsUptoRow : OpenClaim := { program := "ytkcoabdngjbhdac", sum := "2fd002078accc5d05a2ddeb54cd13d0d4a9a97c0ea90ea9c627db75158e64d0c", func := "loop.example/g01314/laws.FnExactFirstTurns", spec := "fnExactFirstTurns", unfollowed := true, recurses := true, plainKeys := false, apart := false, narrowed := true }
def FnExactFirstTurnsUptoSaid : Prop := fnExactFirstTurnsUptoRow.holds Try.pinned (OpenSpec.upto fnExactFirstTurnsSpec)

/-- 'laws.FnExactCountBoxed', WHERE WHAT IT READS IS OF BULK AT MOST 1048576: true; the input reads as it did. -/
def fnExactCountBoxedUptoRow : OpenClaim := { program := "ytkcoabdngjbhdac", sum := "2fd002078accc5d05a2ddeb54cd13d0d4a9a97c0ea90ea9c627db75158e64d0c", func := "loop.example/g01314/laws.FnExactCountBoxed", spec := "fnExactCountBoxed", unfollowed := true, recurses := true, plainKeys := false, apart := false, narrowed := true }
def FnExactCountBoxedUptoSaid : Prop := fnExactCountBoxedUptoRow.holds Try.pinned (OpenSpec.upto fnExactCountBoxedSpec)

/-- 'laws.FnExactCountOpened', WHERE WHAT IT READS IS OF BULK AT MOST 1048576: true; the input reads as it did. -/
def fnExactCountOpenedUptoRow : OpenClaim := { program := "ytkcoabdngjbhdac", sum := "2fd002078accc5d05a2ddeb54cd13d0d4a9a97c0ea90ea9c627db75158e64d0c", func := "loop.example/g01314/laws.FnExactCountOpened", spec := "fnExactCountOpened", unfollowed := true, recurses := true, plainKeys := false, apart := false, narrowed := true }
def FnExactCountOpenedUptoSaid : Prop := fnExactCountOpenedUptoRow.holds Try.pinned (OpenSpec.upto fnExactCountOpenedSpec)

/-- 'laws.FnExactFarthestBoxed', WHERE WHAT IT READS IS OF BULK AT MOST 1048576: true; the input reads as it did. -/
def fnExactFarthestBoxedUptoRow : OpenClaim := { program := "ytkcoabdngjbhdac", sum := "2fd002078accc5d05a2ddeb54cd13d0d4a9a97c0ea90ea9c627db75158e64d0c", func := "loop.example/g01314/laws.FnExactFarthestBoxed", spec := "fnExactFarthestBoxed", unfollowed := true, recurses := true, plainKeys := false, apart := false, narrowed := true }
def FnExactFarthestBoxedUptoSaid : Prop := fnExactFarthestBoxedUptoRow.holds Try.pinned (OpenSpec.upto fnExactFarthestBoxedSpec)

/-- 'laws.FnExactTurnsToOpen', WHERE WHAT IT READS IS OF BULK AT MOST 1048576: true; the input reads as it did. -/
def fnExactTurnsToOpenUptoRow : OpenClaim := { program := "ytkcoabdngjbhdac", sum := "2fd002078accc5d05a2ddeb54cd13d0d4a9a97c0ea90ea9c627db75158e64d0c", func := "loop.example/g01314/laws.FnExactTurnsToOpen", spec := "fnExactTurnsToOpen", unfollowed := true, recurses := true, plainKeys := false, apart := false, narrowed := true }
def FnExactTurnsToOpenUptoSaid : Prop := fnExactTurnsToOpenUptoRow.holds Try.pinned (OpenSpec.upto fnExactTurnsToOpenSpec)

/-- 'laws.FnExactBackBox', WHERE WHAT IT READS IS OF BULK AT MOST 1048576: true; the input reads as it did. -/
def fnExactBackBoxUptoRow : OpenClaim := { program := "ytkcoabdngjbhdac", sum := "2fd002078accc5d05a2ddeb54cd13d0d4a9a97c0ea90ea9c627db75158e64d0c", func := "loop.example/g01314/laws.FnExactBackBox", spec := "fnExactBackBox", recurses := true, plainKeys := false, apart := false, narrowed := true }
def FnExactBackBoxUptoSaid : Prop := fnExactBackBoxUptoRow.holds Try.pinned (OpenSpec.upto fnExactBackBoxSpec)

/-- 'laws.FnExactChangeRule', WHERE WHAT IT READS IS OF BULK AT MOST 1048576: true; the input reads as it did. -/
def fnExactChangeRuleUptoRow : OpenClaim := { program := "ytkcoabdngjbhdac", sum := "2fd002078accc5d05a2ddeb54cd13d0d4a9a97c0ea90ea9c627db75158e64d0c", func := "loop.example/g01314/laws.FnExactChangeRule", spec := "fnExactChangeRule", plainKeys := false, apart := false, narrowed := true }
def FnExactChangeRuleUptoSaid : Prop := fnExactChangeRuleUptoRow.holds Try.pinned (OpenSpec.upto fnExactChangeRuleSpec)

/-- 'laws.FnExactBoxText', WHERE WHAT IT READS IS OF BULK AT MOST 1048576: true; the input reads as it did. -/
def fnExactBoxTextUptoRow : OpenClaim := { program := "ytkcoabdngjbhdac", sum := "2fd002078accc5d05a2ddeb54cd13d0d4a9a97c0ea90ea9c627db75158e64d0c", func := "loop.example/g01314/laws.FnExactBoxText", spec := "fnExactBoxText", recurses := true, plainKeys := false, apart := false, narrowed := true }
def FnExactBoxTextUptoSaid : Prop := fnExactBoxTextUptoRow.holds Try.pinned (OpenSpec.upto fnExactBoxTextSpec)

end Rows
end Go.Proofs.Ytkcoabdngjbhdac
