/-
  No cell of these rows narrows 'for every input' (looked for: loops, veiled, ifaces, maps, wideKeys, modest, calm, conditions, laid).
  DERIVED. THE GIVEN ROWS OF THIS SEAT. 10 by the template 'for every input the law returns true; each argument reads behind the call as it read before'; 0 by the template 'total and deterministic' (their statements: YtjlecipeoaohiaaTotals.lean).
  GIVEN WITH THE SEED: the statements are not yours to turn. If you find one false, say at which input.
  Laid BY PROGRAM, IN A SANDBOX (cutbox-rows.mjs): the forced cells as the released guide's own fill.sh prints them over the translation e0b3b63b8c808a27… (all of the seat's roots in one cut). By AI agents, Wed Nov 11 2026. No macro, syntax, notation, axiom, sorry.
-/
import Derived.Test.YtjlecipeoaohiaaChecked
import GoSem.Claim
import GoSem.ClaimJoined
import GoSem.ClaimMapViews
import Derived.JoinedTies
import Derived.KernelRfl
namespace Go.Proofs.Ytjlecipeoaohiaa
/- THE CELL 'sum', in the pinned program and in every row, IS THE sha256 OF THE DUMP (.gsa) THAT YtjlecipeoaohiaaProg.lean LOADS. Nothing in Lean hashes anything: it is a label: what it is worth is what the hold of that sum in a sandbox is worth. -/
noncomputable def Try.pinned : Pinned := { name := "ytjlecipeoaohiaa", sum := "e0b3b63b8c808a279899ba589f2bea1916d99abc5c9dde0d3c3f051972b91eaf", checked := Try.checked }
namespace Rows
def none {H : Type} : Left H := { results := [], args := [] }

/-- 'laws.FnExactStairBox': WHATEVER THE INPUT: true; the input reads as it did. -/
def fnExactStairBoxSpec : ChangeSpec := { name := "fnExactStairBox", fn := fun _ => fun
  | [d1, d2] => { results := [.lit (.bool true)], args := [d1, d2] }
  | _ => none }
def fnExactStairBoxRow : OpenClaim := { program := "ytjlecipeoaohiaa", sum := "e0b3b63b8c808a279899ba589f2bea1916d99abc5c9dde0d3c3f051972b91eaf", func := "loop.example/g01314/laws.FnExactStairBox", spec := "fnExactStairBox", inPlace := ["internal/abi.NoEscape", "internal/bytealg.MakeNoZero"], recurses := true, plainKeys := false, apart := false }
def FnExactStairBoxSaid : Prop := fnExactStairBoxRow.holds Try.pinned (OpenSpec.ofChange fnExactStairBoxSpec)

/-- ITS FALSE NEIGHBOUR: 'it returns false'. Refute it at one input. -/
def fnExactStairBoxWrong : ChangeSpec := { name := "fnExactStairBox", fn := fun _ => fun
  | [d1, d2] => { results := [.lit (.bool false)], args := [d1, d2] }
  | _ => none }
def FnExactStairBoxWrongFalsely : Prop := fnExactStairBoxRow.holds Try.pinned (OpenSpec.ofChange fnExactStairBoxWrong)

/-- 'laws.FnExactTurnsOf': WHATEVER THE INPUT: true; the input reads as it did. -/
def fnExactTurnsOfSpec : ChangeSpec := { name := "fnExactTurnsOf", fn := fun _ => fun
  | [d1, d2] => { results := [.lit (.bool true)], args := [d1, d2] }
  | _ => none }
def fnExactTurnsOfRow : OpenClaim := { program := "ytjlecipeoaohiaa", sum := "e0b3b63b8c808a279899ba589f2bea1916d99abc5c9dde0d3c3f051972b91eaf", func := "loop.example/g01314/laws.FnExactTurnsOf", spec := "fnExactTurnsOf", unfollowed := true, recurses := true, plainKeys := false, apart := false }
def FnExactTurnsOfSaid : Prop := fnExactTurnsOfRow.holds Try.pinned (OpenSpec.ofChange fnExactTurnsOfSpec)

/-- ITS FALSE NEIGHBOUR: 'it returns false'. Refute it at one input. -/
def fnExactTurnsOfWrong : ChangeSpec := { name := "fnExactTurnsOf", fn := fun _ => fun
  | [d1, d2] => { results := [.lit (.bool false)], args := [d1, d2] }
  | _ => none }
def FnExactTurnsOfWrongFalsely : Prop := fnExactTurnsOfRow.holds Try.pinned (OpenSpec.ofChange fnExactTurnsOfWrong)

/-- 'laws.FnExactFewestTurns': WHATEVER THE INPUT: true; the input reads as it did. -/
def fnExactFewestTurnsSpec : ChangeSpec := { name := "fnExactFewestTurns", fn := fun _ => fun
  | [d1, d2, d3] => { results := [.lit (.bool true)], args := [d1, d2, d3] }
  | _ => none }
def fnExactFewestTurnsRow : OpenClaim := { program := "ytjlecipeoaohiaa", sum := "e0b3b63b8c808a279899ba589f2bea1916d99abc5c9dde0d3c3f051972b91eaf", func := "loop.example/g01314/laws.FnExactFewestTurns", spec := "fnExactFewestTurns", unfollowed := true, recurses := true, plainKeys := false, apart := false }
def FnExactFewestTurnsSaid : Prop := fnExactFewestTurnsRow.holds Try.pinned (OpenSpec.ofChange fnExactFewestTurnsSpec)

/-- ITS FALSE NEIGHBOUR: 'it returns false'. Refute it at one input. -/
def fnExactFewestTurnsWrong : ChangeSpec := { name := "fnExactFewestTurns", fn := fun _ => fun
  | [d1, d2, d3] => { results := [.lit (.bool false)], args := [d1, d2, d3] }
  | _ => none }
def FnExactFewestTurnsWrongFalsely : Prop := fnExactFewestTurnsRow.holds Try.pinned (OpenSpec.ofChange fnExactFewestTurnsWrong)

/-- 'laws.FnExactFirstTurns': WHATEVER THE INPUT: true; the input reads as it did. -/
def fnExactFirstTurnsSpec : ChangeSpec := { name := "fnExactFirstTurns", fn := fun _ => fun
  | [d1, d2, d3] => { results := [.lit (.bool true)], args := [d1, d2, d3] }
  | _ => none }
def fnExactFirstTurnsRow : OpenClaim := { program := "ytjlecipeoaohiaa", sum := "e0b3b63b8c808a279899ba589f2bea1916d99abc5c9dde0d3c3f051972b91eaf", func := "loop.example/g01314/laws.FnExactFirstTurns", spec := "fnExactFirstTurns", unfollowed := true, recurses := true, plainKeys := false, apart := false }
def FnExactFirstTurnsSaid : Prop := fnExactFirstTurnsRow.holds Try.pinned (OpenSpec.ofChange fnExactFirstTurnsSpec)

/-- ITS FALSE NEIGHBOUR: 'it returns false'. Refute it at one input. -/
def fnExactFirstTurnsWrong : ChangeSpec := { name := "fnExactFirstTurns", fn := fun _ => fun
  | [d1, d2, d3] => { results := [.lit (.bool false)], args := [d1, d2, d3] }
  | _ => none }
def FnExactFirstTurnsWrongFalsely : Prop := fnExactFirstTurnsRow.holds Try.pinned (OpenSpec.ofChange fnExactFirstTurnsWrong)

/-- 'laws.FnExactCountBoxed': WHATEVER THE INPUT: true; the input reads as it did. -/
def fnExactCountBoxedSpec : ChangeSpec := { name := "fnExactCountBoxed", fn := fun _ => fun
  | [d1, d2] => { results := [.lit (.bool true)], args := [d1, d2] }
  | _ => none }
def fnExactCountBoxedRow : OpenClaim := { program := "ytjlecipeoaohiaa", sum := "e0b3b63b8c808a279899ba589f2bea1916d99abc5c9dde0d3c3f051972b91eaf", func := "loop.example/g01314/laws.FnExactCountBoxed", spec := "fnExactCountBoxed", unfollowed := true, recurses := true, plainKeys := false, apart := false }
def FnExactCountBoxedSaid : Prop := fnExactCountBoxedRow.holds Try.pinned (OpenSpec.ofChange fnExactCountBoxedSpec)

/-- ITS FALSE NEIGHBOUR: 'it returns false'. Refute it at one input. -/
def fnExactCountBoxedWrong : ChangeSpec := { name := "fnExactCountBoxed", fn := fun _ => fun
  | [d1, d2] => { results := [.lit (.bool false)], args := [d1, d2] }
  | _ => none }
def FnExactCountBoxedWrongFalsely : Prop := fnExactCountBoxedRow.holds Try.pinned (OpenSpec.ofChange fnExactCountBoxedWrong)

/-- 'laws.FnExactCountOpened': WHATEVER THE INPUT: true; the input reads as it did. -/
def fnExactCountOpenedSpec : ChangeSpec := { name := "fnExactCountOpened", fn := fun _ => fun
  | [d] => { results := [.lit (.bool true)], args := [d] }
  | _ => none }
def fnExactCountOpenedRow : OpenClaim := { program := "ytjlecipeoaohiaa", sum := "e0b3b63b8c808a279899ba589f2bea1916d99abc5c9dde0d3c3f051972b91eaf", func := "loop.example/g01314/laws.FnExactCountOpened", spec := "fnExactCountOpened", unfollowed := true, recurses := true, plainKeys := false, apart := false }
def FnExactCountOpenedSaid : Prop := fnExactCountOpenedRow.holds Try.pinned (OpenSpec.ofChange fnExactCountOpenedSpec)

/-- ITS FALSE NEIGHBOUR: 'it returns false'. Refute it at one input. -/
def fnExactCountOpenedWrong : ChangeSpec := { name := "fnExactCountOpened", fn := fun _ => fun
  | [d] => { results := [.lit (.bool false)], args := [d] }
  | _ => none }
def FnExactCountOpenedWrongFalsely : Prop := fnExactCountOpenedRow.holds Try.pinned (OpenSpec.ofChange fnExactCountOpenedWrong)

/-- 'laws.FnExactFarthestBoxed': WHATEVER THE INPUT: true; the input reads as it did. -/
def fnExactFarthestBoxedSpec : ChangeSpec := { name := "fnExactFarthestBoxed", fn := fun _ => fun
  | [d1, d2] => { results := [.lit (.bool true)], args := [d1, d2] }
  | _ => none }
def fnExactFarthestBoxedRow : OpenClaim := { program := "ytjlecipeoaohiaa", sum := "e0b3b63b8c808a279899ba589f2bea1916d99abc5c9dde0d3c3f051972b91eaf", func := "loop.example/g01314/laws.FnExactFarthestBoxed", spec := "fnExactFarthestBoxed", unfollowed := true, recurses := true, plainKeys := false, apart := false }
def FnExactFarthestBoxedSaid : Prop := fnExactFarthestBoxedRow.holds Try.pinned (OpenSpec.ofChange fnExactFarthestBoxedSpec)

/-- ITS FALSE NEIGHBOUR: 'it returns false'. Refute it at one input. -/
def fnExactFarthestBoxedWrong : ChangeSpec := { name := "fnExactFarthestBoxed", fn := fun _ => fun
  | [d1, d2] => { results := [.lit (.bool false)], args := [d1, d2] }
  | _ => none }
def FnExactFarthestBoxedWrongFalsely : Prop := fnExactFarthestBoxedRow.holds Try.pinned (OpenSpec.ofChange fnExactFarthestBoxedWrong)

/-- 'laws.FnExactTurnsToOpen': WHATEVER THE INPUT: true; the input reads as it did. -/
def fnExactTurnsToOpenSpec : ChangeSpec := { name := "fnExactTurnsToOpen", fn := fun _ => fun
  | [d] => { results := [.lit (.bool true)], args := [d] }
  | _ => none }
def fnExactTurnsToOpenRow : OpenClaim := { program := "ytjlecipeoaohiaa", sum := "e0b3b63b8c808a279899ba589f2bea1916d99abc5c9dde0d3c3f051972b91eaf", func := "loop.example/g01314/laws.FnExactTurnsToOpen", spec := "fnExactTurnsToOpen", unfollowed := true, recurses := true, plainKeys := false, apart := false }
def FnExactTurnsToOpenSaid : Prop := fnExactTurnsToOpenRow.holds Try.pinned (OpenSpec.ofChange fnExactTurnsToOpenSpec)

/-- ITS FALSE NEIGHBOUR: 'it returns false'. Refute it at one input. -/
def fnExactTurnsToOpenWrong : ChangeSpec := { name := "fnExactTurnsToOpen", fn := fun _ => fun
  | [d] => { results := [.lit (.bool false)], args := [d] }
  | _ => none }
def FnExactTurnsToOpenWrongFalsely : Prop := fnExactTurnsToOpenRow.holds Try.pinned (OpenSpec.ofChange fnExactTurnsToOpenWrong)

/-- 'laws.FnExactBackBox': WHATEVER THE INPUT: true; the input reads as it did. -/
def fnExactBackBoxSpec : ChangeSpec := { name := "fnExactBackBox", fn := fun _ => fun
  | [d] => { results := [.lit (.bool true)], args := [d] }
  | _ => none }
def fnExactBackBoxRow : OpenClaim := { program := "ytjlecipeoaohiaa", sum := "e0b3b63b8c808a279899ba589f2bea1916d99abc5c9dde0d3c3f051972b91eaf", func := "loop.example/g01314/laws.FnExactBackBox", spec := "fnExactBackBox", recurses := true, plainKeys := false, apart := false }
def FnExactBackBoxSaid : Prop := fnExactBackBoxRow.holds Try.pinned (OpenSpec.ofChange fnExactBackBoxSpec)

/-- ITS FALSE NEIGHBOUR: 'it returns false'. Refute it at one input. -/
def fnExactBackBoxWrong : ChangeSpec := { name := "fnExactBackBox", fn := fun _ => fun
  | [d] => { results := [.lit (.bool false)], args := [d] }
  | _ => none }
def FnExactBackBoxWrongFalsely : Prop := fnExactBackBoxRow.holds Try.pinned (OpenSpec.ofChange fnExactBackBoxWrong)

/-- 'laws.FnExactChangeRule': WHATEVER THE INPUT: true; the input reads as it did. -/
def fnExactChangeRuleSpec : ChangeSpec := { name := "fnExactChangeRule", fn := fun _ => fun
  | [d1, d2, d3, d4] => { results := [.lit (.bool true)], args := [d1, d2, d3, d4] }
  | _ => none }
def fnExactChangeRuleRow : OpenClaim := { program := "ytjlecipeoaohiaa", sum := "e0b3b63b8c808a279899ba589f2bea1916d99abc5c9dde0d3c3f051972b91eaf", func := "loop.example/g01314/laws.FnExactChangeRule", spec := "fnExactChangeRule", plainKeys := false, apart := false }
def FnExactChangeRuleSaid : Prop := fnExactChangeRuleRow.holds Try.pinned (OpenSpec.ofChange fnExactChangeRuleSpec)

/-- ITS FALSE NEIGHBOUR: 'it returns false'. Refute it at one input. -/
def fnExactChangeRuleWrong : ChangeSpec := { name := "fnExactChangeRule", fn := fun _ => fun
  | [d1, d2, d3, d4] => { results := [.lit (.bool false)], args := [d1, d2, d3, d4] }
  | _ => none }
def FnExactChangeRuleWrongFalsely : Prop := fnExactChangeRuleRow.holds Try.pinned (OpenSpec.ofChange fnExactChangeRuleWrong)

/- THE SECOND FORM. 'bulk': how many values and letters a reading holds, each counted each time it is reached (what is shared counts as often as it is met; a slice's spare places count too). A statement '..UptoSaid' is the law's where the arguments, and the package variables that the reading takes, are together of bulk at most 1048576: NARROWER than '..Said'. Prove '..Said' where nothing that the law and all that it calls make is longer than what came in: it says more and counts as full. Else prove '..UptoSaid'. A law counts once. -/
mutual
def uptoBulk {H : Type} : DataW H → Nat
  | .lit (.string bytes) => bytes.length + 1
  | .lit _ => 1
  | .nil => 1
  | .ptr d => uptoBulk d + 1
  | .slice elems spare => uptoBulkAll elems + uptoBulkAll spare + 1
  | .agg parts => uptoBulkAll parts + 1
  | .iface _ d => uptoBulk d + 1
  | .map entries => uptoBulkEntries entries + 1
  | .held _ => 1
def uptoBulkAll {H : Type} : List (DataW H) → Nat
  | [] => 0
  | d :: r => uptoBulk d + uptoBulkAll r
def uptoBulkEntries {H : Type} : List (Lit × DataW H) → Nat
  | [] => 0
  | x :: r => uptoBulkEntry x + uptoBulkEntries r
def uptoBulkEntry {H : Type} : Lit × DataW H → Nat
  | (.string bytes, d) => bytes.length + uptoBulk d + 1
  | (_, d) => uptoBulk d + 1
 end
def uptoSmall : (H : Type) → List (DataW H) → Bool := fun _ ds => decide (uptoBulkAll ds ≤ 1048576)
def OpenSpec.upto (s : _root_.Go.ChangeSpec) : _root_.Go.OpenSpec := { _root_.Go.OpenSpec.ofChange s with cond := some uptoSmall }

/-- 'laws.FnExactStairBox', WHERE WHAT IT READS IS OF BULK AT MOST 1048576: true; the input reads as it did. -/
def fnExactStairBoxUptoRow : OpenClaim := { program := "ytjlecipeoaohiaa", sum := "e0b3b63b8c808a279899ba589f2bea1916d99abc5c9dde0d3c3f051972b91eaf", func := "loop.example/g01314/laws.FnExactStairBox", spec := "fnExactStairBox", inPlace := ["internal/abi.NoEscape", "internal/bytealg.MakeNoZero"], recurses := true, plainKeys := false, apart := false, narrowed := true }
def FnExactStairBoxUptoSaid : Prop := fnExactStairBoxUptoRow.holds Try.pinned (OpenSpec.upto fnExactStairBoxSpec)

/-- 'laws.FnExactTurnsOf', WHERE WHAT IT READS IS OF BULK AT MOST 1048576: true; the input reads as it did. -/
def fnExactTurnsOfUptoRow : OpenClaim := { program := "ytjlecipeoaohiaa", sum := "e0b3b63b8c808a279899ba589f2bea1916d99abc5c9dde0d3c3f051972b91eaf", func := "loop.example/g01314/laws.FnExactTurnsOf", spec := "fnExactTurnsOf", unfollowed := true, recurses := true, plainKeys := false, apart := false, narrowed := true }
def FnExactTurnsOfUptoSaid : Prop := fnExactTurnsOfUptoRow.holds Try.pinned (OpenSpec.upto fnExactTurnsOfSpec)

/-- 'laws.FnExactFewestTurns', WHERE WHAT IT READS IS OF BULK AT MOST 1048576: true; the input reads as it did. -/
def fnExactFewestTurnsUptoRow : OpenClaim := { program := "ytjlecipeoaohiaa", sum := "e0b3b63b8c808a279899ba589f2bea1916d99abc5c9dde0d3c3f051972b91eaf", func := "loop.example/g01314/laws.FnExactFewestTurns", spec := "fnExactFewestTurns", unfollowed := true, recurses := true, plainKeys := false, apart := false, narrowed := true }
def FnExactFewestTurnsUptoSaid : Prop := fnExactFewestTurnsUptoRow.holds Try.pinned (OpenSpec.upto fnExactFewestTurnsSpec)

/-- 'laws.FnExactFirstTurns', WHERE WHAT IT READS IS OF BULK AT MOST 1048576: true; the input reads as it did. -/
def fnExactFirstTurnsUptoRow : OpenClaim := { program := "ytjlecipeoaohiaa", sum := "e0b3b63b8c808a279899ba589f2bea1916d99abc5c9dde0d3c3f051972b91eaf", func := "loop.example/g01314/laws.FnExactFirstTurns", spec := "fnExactFirstTurns", unfollowed := true, recurses := true, plainKeys := false, apart := false, narrowed := true }
def FnExactFirstTurnsUptoSaid : Prop := fnExactFirstTurnsUptoRow.holds Try.pinned (OpenSpec.upto fnExactFirstTurnsSpec)

/-- 'laws.FnExactCountBoxed', WHERE WHAT IT READS IS OF BULK AT MOST 1048576: true; the input reads as it did. -/
def fnExactCountBoxedUptoRow : OpenClaim := { program := "ytjlecipeoaohiaa", sum := "e0b3b63b8c808a279899ba589f2bea1916d99abc5c9dde0d3c3f051972b91eaf", func := "loop.example/g01314/laws.FnExactCountBoxed", spec := "fnExactCountBoxed", unfollowed := true, recurses := true, plainKeys := false, apart := false, narrowed := true }
def FnExactCountBoxedUptoSaid : Prop := fnExactCountBoxedUptoRow.holds Try.pinned (OpenSpec.upto fnExactCountBoxedSpec)

/-- 'laws.FnExactCountOpened', WHERE WHAT IT READS IS OF BULK AT MOST 1048576: true; the input reads as it did. -/
def fnExactCountOpenedUptoRow : OpenClaim := { program := "ytjlecipeoaohiaa", sum := "e0b3b63b8c808a279899ba589f2bea1916d99abc5c9dde0d3c3f051972b91eaf", func := "loop.example/g01314/laws.FnExactCountOpened", spec := "fnExactCountOpened", unfollowed := true, recurses := true, plainKeys := false, apart := false, narrowed := true }
def FnExactCountOpenedUptoSaid : Prop := fnExactCountOpenedUptoRow.holds Try.pinned (OpenSpec.upto fnExactCountOpenedSpec)

/-- 'laws.FnExactFarthestBoxed', WHERE WHAT IT READS IS OF BULK AT MOST 1048576: true; the input reads as it did. -/
def fnExactFarthestBoxedUptoRow : OpenClaim := { program := "ytjlecipeoaohiaa", sum := "e0b3b63b8c808a279899ba589f2bea1916d99abc5c9dde0d3c3f051972b91eaf", func := "loop.example/g01314/laws.FnExactFarthestBoxed", spec := "fnExactFarthestBoxed", unfollowed := true, recurses := true, plainKeys := false, apart := false, narrowed := true }
def FnExactFarthestBoxedUptoSaid : Prop := fnExactFarthestBoxedUptoRow.holds Try.pinned (OpenSpec.upto fnExactFarthestBoxedSpec)

/-- 'laws.FnExactTurnsToOpen', WHERE WHAT IT READS IS OF BULK AT MOST 1048576: true; the input reads as it did. -/
def fnExactTurnsToOpenUptoRow : OpenClaim := { program := "ytjlecipeoaohiaa", sum := "e0b3b63b8c808a279899ba589f2bea1916d99abc5c9dde0d3c3f051972b91eaf", func := "loop.example/g01314/laws.FnExactTurnsToOpen", spec := "fnExactTurnsToOpen", unfollowed := true, recurses := true, plainKeys := false, apart := false, narrowed := true }
def FnExactTurnsToOpenUptoSaid : Prop := fnExactTurnsToOpenUptoRow.holds Try.pinned (OpenSpec.upto fnExactTurnsToOpenSpec)

/-- 'laws.FnExactBackBox', WHERE WHAT IT READS IS OF BULK AT MOST 1048576: true; the input reads as it did. -/
def fnExactBackBoxUptoRow : OpenClaim := { program := "ytjlecipeoaohiaa", sum := "e0b3b63b8c808a279899ba589f2bea1916d99abc5c9dde0d3c3f051972b91eaf", func := "loop.example/g01314/laws.FnExactBackBox", spec := "fnExactBackBox", recurses := true, plainKeys := false, apart := false, narrowed := true }
def FnExactBackBoxUptoSaid : Prop := fnExactBackBoxUptoRow.holds Try.pinned (OpenSpec.upto fnExactBackBoxSpec)

/-- 'laws.FnExactChangeRule', WHERE WHAT IT READS IS OF BULK AT MOST 1048576: true; the input reads as it did. -/
def fnExactChangeRuleUptoRow : OpenClaim := { program := "ytjlecipeoaohiaa", sum := "e0b3b63b8c808a279899ba589f2bea1916d99abc5c9dde0d3c3f051972b91eaf", func := "loop.example/g01314/laws.FnExactChangeRule", spec := "fnExactChangeRule", plainKeys := false, apart := false, narrowed := true }
def FnExactChangeRuleUptoSaid : Prop := fnExactChangeRuleUptoRow.holds Try.pinned (OpenSpec.upto fnExactChangeRuleSpec)

end Rows
end Go.Proofs.Ytjlecipeoaohiaa
