/-
  No cell of these rows narrows 'for every input' (looked for: loops, veiled, ifaces, maps, wideKeys, modest, calm, conditions, laid).
  DERIVED. THE GIVEN ROWS OF THIS SEAT. 4 by the template 'for every input the law returns true; each argument reads behind the call as it read before'; 0 by the template 'total and deterministic' (their statements: YtcfeaaakfjilgabTotals.lean).
  GIVEN WITH THE SEED: the statements are not yours to turn. If you find one false, say at which input.
  Laid BY PROGRAM, IN A SANDBOX (cutbox-rows.mjs): the forced cells as the released guide's own fill.sh prints them over the translation 541df57464e03f10… (all of the seat's roots in one cut). By AI agents, Wed Nov 11 2026. No macro, syntax, notation, axiom, sorry.
-/
import Derived.Test.YtcfeaaakfjilgabChecked
import GoSem.Claim
import GoSem.ClaimJoined
import GoSem.ClaimMapViews
import Derived.JoinedTies
import Derived.KernelRfl
namespace Go.Proofs.Ytcfeaaakfjilgab
/- THE CELL 'sum', in the pinned program and in every row, IS THE sha256 OF THE DUMP (.gsa) THAT YtcfeaaakfjilgabProg.lean LOADS. Nothing in Lean hashes anything: it is a label: what it is worth is what the hold of that sum in a sandbox is worth. -/
noncomputable def Try.pinned : Pinned := { name := "ytcfeaaakfjilgab", sum := "541df57464e03f107be444ecf431da60063f03aa764aee24976b39b1d4495e44", checked := Try.checked }
namespace Rows
def none {H : Type} : Left H := { results := [], args := [] }

/-- 'laws.FnExactPartsByKeys': WHATEVER THE INPUT: true; the input reads as it did. -/
def fnExactPartsByKeysSpec : ChangeSpec := { name := "fnExactPartsByKeys", fn := fun _ => fun
  | [d] => { results := [.lit (.bool true)], args := [d] }
  | _ => none }
def fnExactPartsByKeysRow : OpenClaim := { program := "ytcfeaaakfjilgab", sum := "541df57464e03f107be444ecf431da60063f03aa764aee24976b39b1d4495e44", func := "loop.example/g01314/laws.FnExactPartsByKeys", spec := "fnExactPartsByKeys", apart := false }
def FnExactPartsByKeysSaid : Prop := fnExactPartsByKeysRow.holds Try.pinned (OpenSpec.ofChange fnExactPartsByKeysSpec)

/-- ITS FALSE NEIGHBOUR: 'it returns false'. Refute it at one input. -/
def fnExactPartsByKeysWrong : ChangeSpec := { name := "fnExactPartsByKeys", fn := fun _ => fun
  | [d] => { results := [.lit (.bool false)], args := [d] }
  | _ => none }
def FnExactPartsByKeysWrongFalsely : Prop := fnExactPartsByKeysRow.holds Try.pinned (OpenSpec.ofChange fnExactPartsByKeysWrong)

/-- 'laws.FnExactLinksByKeys': WHATEVER THE INPUT: true; the input reads as it did. -/
def fnExactLinksByKeysSpec : ChangeSpec := { name := "fnExactLinksByKeys", fn := fun _ => fun
  | [d] => { results := [.lit (.bool true)], args := [d] }
  | _ => none }
def fnExactLinksByKeysRow : OpenClaim := { program := "ytcfeaaakfjilgab", sum := "541df57464e03f107be444ecf431da60063f03aa764aee24976b39b1d4495e44", func := "loop.example/g01314/laws.FnExactLinksByKeys", spec := "fnExactLinksByKeys", apart := false }
def FnExactLinksByKeysSaid : Prop := fnExactLinksByKeysRow.holds Try.pinned (OpenSpec.ofChange fnExactLinksByKeysSpec)

/-- ITS FALSE NEIGHBOUR: 'it returns false'. Refute it at one input. -/
def fnExactLinksByKeysWrong : ChangeSpec := { name := "fnExactLinksByKeys", fn := fun _ => fun
  | [d] => { results := [.lit (.bool false)], args := [d] }
  | _ => none }
def FnExactLinksByKeysWrongFalsely : Prop := fnExactLinksByKeysRow.holds Try.pinned (OpenSpec.ofChange fnExactLinksByKeysWrong)

/-- 'laws.FnExactIsLineOfStates': WHATEVER THE INPUT: true; the input reads as it did. -/
def fnExactIsLineOfStatesSpec : ChangeSpec := { name := "fnExactIsLineOfStates", fn := fun _ => fun
  | [d] => { results := [.lit (.bool true)], args := [d] }
  | _ => none }
def fnExactIsLineOfStatesRow : OpenClaim := { program := "ytcfeaaakfjilgab", sum := "541df57464e03f107be444ecf431da60063f03aa764aee24976b39b1d4495e44", func := "loop.example/g01314/laws.FnExactIsLineOfStates", spec := "fnExactIsLineOfStates", apart := false }
def FnExactIsLineOfStatesSaid : Prop := fnExactIsLineOfStatesRow.holds Try.pinned (OpenSpec.ofChange fnExactIsLineOfStatesSpec)

/-- ITS FALSE NEIGHBOUR: 'it returns false'. Refute it at one input. -/
def fnExactIsLineOfStatesWrong : ChangeSpec := { name := "fnExactIsLineOfStates", fn := fun _ => fun
  | [d] => { results := [.lit (.bool false)], args := [d] }
  | _ => none }
def FnExactIsLineOfStatesWrongFalsely : Prop := fnExactIsLineOfStatesRow.holds Try.pinned (OpenSpec.ofChange fnExactIsLineOfStatesWrong)

/-- 'laws.FnExactTurnKeys': WHATEVER THE INPUT: true; the input reads as it did. -/
def fnExactTurnKeysSpec : ChangeSpec := { name := "fnExactTurnKeys", fn := fun _ => fun
  | [d] => { results := [.lit (.bool true)], args := [d] }
  | _ => none }
def fnExactTurnKeysRow : OpenClaim := { program := "ytcfeaaakfjilgab", sum := "541df57464e03f107be444ecf431da60063f03aa764aee24976b39b1d4495e44", func := "loop.example/g01314/laws.FnExactTurnKeys", spec := "fnExactTurnKeys", unfollowed := true, recurses := true, apart := false }
def FnExactTurnKeysSaid : Prop := fnExactTurnKeysRow.holds Try.pinned (OpenSpec.ofChange fnExactTurnKeysSpec)

/-- ITS FALSE NEIGHBOUR: 'it returns false'. Refute it at one input. -/
def fnExactTurnKeysWrong : ChangeSpec := { name := "fnExactTurnKeys", fn := fun _ => fun
  | [d] => { results := [.lit (.bool false)], args := [d] }
  | _ => none }
def FnExactTurnKeysWrongFalsely : Prop := fnExactTurnKeysRow.holds Try.pinned (OpenSpec.ofChange fnExactTurnKeysWrong)

/- THE SECOND FORM. 'bulk': how many values and letters a reading holds, each counted each time it is reached (what is shared counts as often as it is met; a slice's spare places count too). A statement '..UptoSaid' is the law's where the arguments, and the package variables that the reading takes, are together of bulk at most 1048576: NARROWER than '..Said'. Prove '..Said' where nothing that the law and all that it calls make is longer than what came in: it says more and counts as full. Else prove '..UptoSaid'. A law counts once. -/
mutual
def uptoBulk {H : Type} : DataW H → Nat
  | .lit (.string bytes) => bytes.length + 1
  | .lit _ => 1
  | .nil => 1
  | .ptr d => uptoBulk d + 1
  | .slice elems spare => uptoBulkAll elems + uptoBulkAll spare + 1
  | .agg parts => uptoBulkAll parts + 1
  | .iface _ d => uptoBulk d + 1
  | .map entries => uptoBulkEntries entries + 1
  | .held _ => 1
def uptoBulkAll {H : Type} : List (DataW H) → Nat
  | [] => 0
  | d :: r => uptoBulk d + uptoBulkAll r
def uptoBulkEntries {H : Type} : List (Lit × DataW H) → Nat
  | [] => 0
  | x :: r => uptoBulkEntry x + uptoBulkEntries r
def uptoBulkEntry {H : Type} : Lit × DataW H → Nat
  | (.string bytes, d) => bytes.length + uptoBulk d + 1
  | (_, d) => uptoBulk d + 1
 end
def uptoSmall : (H : Type) → List (DataW H) → Bool := fun _ ds => decide (uptoBulkAll ds ≤ 1048576)
def OpenSpec.upto (s : _root_.Go.ChangeSpec) : _root_.Go.OpenSpec := { _root_.Go.OpenSpec.ofChange s with cond := some uptoSmall }

/-- 'laws.FnExactPartsByKeys', WHERE WHAT IT READS IS OF BULK AT MOST 1048576: true; the input reads as it did. -/
def fnExactPartsByKeysUptoRow : OpenClaim := { program := "ytcfeaaakfjilgab", sum := "541df57464e03f107be444ecf431da60063f03aa764aee24976b39b1d4495e44", func := "loop.example/g01314/laws.FnExactPartsByKeys", spec := "fnExactPartsByKeys", apart := false, narrowed := true }
def FnExactPartsByKeysUptoSaid : Prop := fnExactPartsByKeysUptoRow.holds Try.pinned (OpenSpec.upto fnExactPartsByKeysSpec)

/-- 'laws.FnExactLinksByKeys', WHERE WHAT IT READS IS OF BULK AT MOST 1048576: true; the input reads as it did. -/
def fnExactLinksByKeysUptoRow : OpenClaim := { program := "ytcfeaaakfjilgab", sum := "541df57464e03f107be444ecf431da60063f03aa764aee24976b39b1d4495e44", func := "loop.example/g01314/laws.FnExactLinksByKeys", spec := "fnExactLinksByKeys", apart := false, narrowed := true }
def FnExactLinksByKeysUptoSaid : Prop := fnExactLinksByKeysUptoRow.holds Try.pinned (OpenSpec.upto fnExactLinksByKeysSpec)

/-- 'laws.FnExactIsLineOfStates', WHERE WHAT IT READS IS OF BULK AT MOST 1048576: true; the input reads as it did. -/
def fnExactIsLineOfStatesUptoRow : OpenClaim := { program := "ytcfeaaakfjilgab", sum := "541df57464e03f107be444ecf431da60063f03aa764aee24976b39b1d4495e44", func := "loop.example/g01314/laws.FnExactIsLineOfStates", spec := "fnExactIsLineOfStates", apart := false, narrowed := true }
def FnExactIsLineOfStatesUptoSaid : Prop := fnExactIsLineOfStatesUptoRow.holds Try.pinned (OpenSpec.upto fnExactIsLineOfStatesSpec)

/-- 'laws.FnExactTurnKeys', WHERE WHAT IT READS IS OF BULK AT MOST 1048576: true; the input reads as it did. -/
def fnExactTurnKeysUptoRow : OpenClaim := { program := "ytcfeaaakfjilgab", sum := "541df57464e03f107be444ecf431da60063f03aa764aee24976b39b1d4495e44", func := "loop.example/g01314/laws.FnExactTurnKeys", spec := "fnExactTurnKeys", unfollowed := true, recurses := true, apart := false, narrowed := true }
def FnExactTurnKeysUptoSaid : Prop := fnExactTurnKeysUptoRow.holds Try.pinned (OpenSpec.upto fnExactTurnKeysSpec)

end Rows
end Go.Proofs.Ytcfeaaakfjilgab
