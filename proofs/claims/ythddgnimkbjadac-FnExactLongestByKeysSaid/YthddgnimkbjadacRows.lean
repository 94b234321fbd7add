/-
  No cell of these rows narrows 'for every input' (looked for: loops, veiled, ifaces, maps, wideKeys, modest, calm, conditions, laid).
  DERIVED. THE GIVEN ROWS OF THIS SEAT. 5 by the template 'for every input the law returns true; each argument reads behind the call as it read before'; 0 by the template 'total and deterministic' (their statements: YthddgnimkbjadacTotals.lean).
  GIVEN WITH THE SEED: the statements are not yours to turn. If you find one false, say at which input.
  Laid BY PROGRAM, IN A SANDBOX (cutbox-rows.mjs): the forced cells as the released guide's own fill.sh prints them over the translation da6aca43e161cc7f… (all of the seat's roots in one cut). By AI agents, Wed Nov 11 2026. No macro, syntax, notation, axiom, sorry.
-/
import Derived.Test.YthddgnimkbjadacChecked
import GoSem.Claim
import GoSem.ClaimJoined
import GoSem.ClaimMapViews
import Derived.JoinedTies
import Derived.KernelRfl
namespace Go.Proofs.Ythddgnimkbjadac
/- THE CELL 'sum', in the pinned program and in every row, IS THE sha256 OF THE DUMP (.gsa) THAT YthddgnimkbjadacProg.lean LOADS. Nothing in Lean hashes anything: it is a label: what it is worth is what the hold of that sum in a sandbox is worth. -/
noncomputable def Try.pinned : Pinned := { name := "ythddgnimkbjadac", sum := "da6aca43e161cc7f9b286c386ba124b2add47f357a68f94bde1ae8ec04e6652b", checked := Try.checked }
namespace Rows
def none {H : Type} : Left H := { results := [], args := [] }

/-- 'laws.FnExactLongestByKeys': WHATEVER THE INPUT: true; the input reads as it did. -/
def fnExactLongestByKeysSpec : ChangeSpec := { name := "fnExactLongestByKeys", fn := fun _ => fun
  | [d] => { results := [.lit (.bool true)], args := [d] }
  | _ => none }
def fnExactLongestByKeysRow : OpenClaim := { program := "ythddgnimkbjadac", sum := "da6aca43e161cc7f9b286c386ba124b2add47f357a68f94bde1ae8ec04e6652b", func := "loop.example/g01314/laws.FnExactLongestByKeys", spec := "fnExactLongestByKeys", apart := false }
def FnExactLongestByKeysSaid : Prop := fnExactLongestByKeysRow.holds Try.pinned (OpenSpec.ofChange fnExactLongestByKeysSpec)

/-- ITS FALSE NEIGHBOUR: 'it returns false'. Refute it at one input. -/
def fnExactLongestByKeysWrong : ChangeSpec := { name := "fnExactLongestByKeys", fn := fun _ => fun
  | [d] => { results := [.lit (.bool false)], args := [d] }
  | _ => none }
def FnExactLongestByKeysWrongFalsely : Prop := fnExactLongestByKeysRow.holds Try.pinned (OpenSpec.ofChange fnExactLongestByKeysWrong)

/-- 'laws.FnExactLinksByKeys': WHATEVER THE INPUT: true; the input reads as it did. -/
def fnExactLinksByKeysSpec : ChangeSpec := { name := "fnExactLinksByKeys", fn := fun _ => fun
  | [d] => { results := [.lit (.bool true)], args := [d] }
  | _ => none }
def fnExactLinksByKeysRow : OpenClaim := { program := "ythddgnimkbjadac", sum := "da6aca43e161cc7f9b286c386ba124b2add47f357a68f94bde1ae8ec04e6652b", func := "loop.example/g01314/laws.FnExactLinksByKeys", spec := "fnExactLinksByKeys", apart := false }
def FnExactLinksByKeysSaid : Prop := fnExactLinksByKeysRow.holds Try.pinned (OpenSpec.ofChange fnExactLinksByKeysSpec)

/-- ITS FALSE NEIGHBOUR: 'it returns false'. Refute it at one input. -/
def fnExactLinksByKeysWrong : ChangeSpec := { name := "fnExactLinksByKeys", fn := fun _ => fun
  | [d] => { results := [.lit (.bool false)], args := [d] }
  | _ => none }
def FnExactLinksByKeysWrongFalsely : Prop := fnExactLinksByKeysRow.holds Try.pinned (OpenSpec.ofChange fnExactLinksByKeysWrong)

/-- 'laws.FnExactIsLineOfStates': WHATEVER THE INPUT: true; the input reads as it did. -/
def fnExactIsLineOfStatesSpec : ChangeSpec := { name := "fnExactIsLineOfStates", fn := fun _ => fun
  | [d] => { results := [.lit (.bool true)], args := [d] }
  | _ => none }
def fnExactIsLineOfStatesRow : OpenClaim := { program := "ythddgnimkbjadac", sum := "da6aca43e161cc7f9b286c386ba124b2add47f357a68f94bde1ae8ec04e6652b", func := "loop.example/g01314/laws.FnExactIsLineOfStates", spec := "fnExactIsLineOfStates", apart := false }
def FnExactIsLineOfStatesSaid : Prop := fnExactIsLineOfStatesRow.holds Try.pinned (OpenSpec.ofChange fnExactIsLineOfStatesSpec)

/-- ITS FALSE NEIGHBOUR: 'it returns false'. Refute it at one input. -/
def fnExactIsLineOfStatesWrong : ChangeSpec := { name := "fnExactIsLineOfStates", fn := fun _ => fun
  | [d] => { results := [.lit (.bool false)], args := [d] }
  | _ => none }
def FnExactIsLineOfStatesWrongFalsely : Prop := fnExactIsLineOfStatesRow.holds Try.pinned (OpenSpec.ofChange fnExactIsLineOfStatesWrong)

/-- 'laws.FnExactTurnKeys': WHATEVER THE INPUT: true; the input reads as it did. -/
def fnExactTurnKeysSpec : ChangeSpec := { name := "fnExactTurnKeys", fn := fun _ => fun
  | [d] => { results := [.lit (.bool true)], args := [d] }
  | _ => none }
def fnExactTurnKeysRow : OpenClaim := { program := "ythddgnimkbjadac", sum := "da6aca43e161cc7f9b286c386ba124b2add47f357a68f94bde1ae8ec04e6652b", func := "loop.example/g01314/laws.FnExactTurnKeys", spec := "fnExactTurnKeys", unfollowed := true, recurses := true, apart := false }
def FnExactTurnKeysSaid : Prop := fnExactTurnKeysRow.holds Try.pinned (OpenSpec.ofChange fnExactTurnKeysSpec)

/-- ITS FALSE NEIGHBOUR: 'it returns false'. Refute it at one input. -/
def fnExactTurnKeysWrong : ChangeSpec := { name := "fnExactTurnKeys", fn := fun _ => fun
  | [d] => { results := [.lit (.bool false)], args := [d] }
  | _ => none }
def FnExactTurnKeysWrongFalsely : Prop := fnExactTurnKeysRow.holds Try.pinned (OpenSpec.ofChange fnExactTurnKeysWrong)

/-- 'laws.FnExactKeysText': WHATEVER THE INPUT: true; the input reads as it did. -/
def fnExactKeysTextSpec : ChangeSpec := { name := "fnExactKeysText", fn := fun _ => fun
  | [d] => { results := [.lit (.bool true)], args := [d] }
  | _ => none }
def fnExactKeysTextRow : OpenClaim := { program := "ythddgnimkbjadac", sum := "da6aca43e161cc7f9b286c386ba124b2add47f357a68f94bde1ae8ec04e6652b", func := "loop.example/g01314/laws.FnExactKeysText", spec := "fnExactKeysText", inPlace := ["internal/abi.NoEscape", "internal/bytealg.MakeNoZero"], apart := false }
def FnExactKeysTextSaid : Prop := fnExactKeysTextRow.holds Try.pinned (OpenSpec.ofChange fnExactKeysTextSpec)

/-- ITS FALSE NEIGHBOUR: 'it returns false'. Refute it at one input. -/
def fnExactKeysTextWrong : ChangeSpec := { name := "fnExactKeysText", fn := fun _ => fun
  | [d] => { results := [.lit (.bool false)], args := [d] }
  | _ => none }
def FnExactKeysTextWrongFalsely : Prop := fnExactKeysTextRow.holds Try.pinned (OpenSpec.ofChange fnExactKeysTextWrong)

/- THE SECOND FORM. 'bulk': how many values and letters a reading holds, each counted each time it is reached (what is shared counts as often as it is met; a slice's spare places count too). A statement '..UptoSaid' is the law's where the arguments, and the package variables that the reading takes, are together of bulk at most 1048576: NARROWER than '..Said'. Prove '..Said' where nothing that the law and all that it calls make is longer than what came in: it says more and counts as full. Else prove '..UptoSaid'. A law counts once. -/
mutual
def uptoBulk {H : Type} : DataW H → Nat
  | .lit (.string bytes) => bytes.length + 1
  | .lit _ => 1
  | .nil => 1
  | .ptr d => uptoBulk d + 1
  | .slice elems spare => uptoBulkAll elems + uptoBulkAll spare + 1
  | .agg parts => uptoBulkAll parts + 1
  | .iface _ d => uptoBulk d + 1
  | .map entries => uptoBulkEntries entries + 1
  | .held _ => 1
def uptoBulkAll {H : Type} : List (DataW H) → Nat
  | [] => 0
  | d :: r => uptoBulk d + uptoBulkAll r
def uptoBulkEntries {H : Type} : List (Lit × DataW H) → Nat
  | [] => 0
  | x :: r => uptoBulkEntry x + uptoBulkEntries r
def uptoBulkEntry {H : Type} : Lit × DataW H → Nat
  | (.string bytes, d) => bytes.length + uptoBulk d + 1
  | (_, d) => uptoBulk d + 1
 end
def uptoSmall : (H : Type) → List (DataW H) → Bool := fun _ ds => decide (uptoBulkAll ds ≤ 1048576)
def OpenSpec.upto (s : _root_.Go.ChangeSpec) : _root_.Go.OpenSpec := { _root_.Go.OpenSpec.ofChange s with cond := some uptoSmall }

/-- 'laws.FnExactLongestByKeys', WHERE WHAT IT READS IS OF BULK AT MOST 1048576: true; the input reads as it did. -/
def fnExactLongestByKeysUptoRow : OpenClaim := { program := "ythddgnimkbjadac", sum := "da6aca43e161cc7f9b286c386ba124b2add47f357a68f94bde1ae8ec04e6652b", func := "loop.example/g01314/laws.FnExactLongestByKeys", spec := "fnExactLongestByKeys", apart := false, narrowed := true }
def FnExactLongestByKeysUptoSaid : Prop := fnExactLongestByKeysUptoRow.holds Try.pinned (OpenSpec.upto fnExactLongestByKeysSpec)

/-- 'laws.FnExactLinksByKeys', WHERE WHAT IT READS IS OF BULK AT MOST 1048576: true; the input reads as it did. -/
def fnExactLinksByKeysUptoRow : OpenClaim := { program := "ythddgnimkbjadac", sum := "da6aca43e161cc7f9b286c386ba124b2add47f357a68f94bde1ae8ec04e6652b", func := "loop.example/g01314/laws.FnExactLinksByKeys", spec := "fnExactLinksByKeys", apart := false, narrowed := true }
def FnExactLinksByKeysUptoSaid : Prop := fnExactLinksByKeysUptoRow.holds Try.pinned (OpenSpec.upto fnExactLinksByKeysSpec)

/-- 'laws.FnExactIsLineOfStates', WHERE WHAT IT READS IS OF BULK AT MOST 1048576: true; the input reads as it did. -/
def fnExactIsLineOfStatesUptoRow : OpenClaim := { program := "ythddgnimkbjadac", sum := "da6aca43e161cc7f9b286c386ba124b2add47f357a68f94bde1ae8ec04e6652b", func := "loop.example/g01314/laws.FnExactIsLineOfStates", spec := "fnExactIsLineOfStates", apart := false, narrowed := true }
def FnExactIsLineOfStatesUptoSaid : Prop := fnExactIsLineOfStatesUptoRow.holds Try.pinned (OpenSpec.upto fnExactIsLineOfStatesSpec)

/-- 'laws.FnExactTurnKeys', WHERE WHAT IT READS IS OF BULK AT MOST 1048576: true; the input reads as it did. -/
def fnExactTurnKeysUptoRow : OpenClaim := { program := "ythddgnimkbjadac", sum := "da6aca43e161cc7f9b286c386ba124b2add47f357a68f94bde1ae8ec04e6652b", func := "loop.example/g01314/laws.FnExactTurnKeys", spec := "fnExactTurnKeys", unfollowed := true, recurses := true, apart := false, narrowed := true }
def FnExactTurnKeysUptoSaid : Prop := fnExactTurnKeysUptoRow.holds Try.pinned (OpenSpec.upto fnExactTurnKeysSpec)

/-- 'laws.FnExactKeysText', WHERE WHAT IT READS IS OF BULK AT MOST 1048576: true; the input reads as it did. -/
def fnExactKeysTextUptoRow : OpenClaim := { program := "ythddgnimkbjadac", sum := "da6aca43e161cc7f9b286c386ba124b2add47f357a68f94bde1ae8ec04e6652b", func := "loop.example/g01314/laws.FnExactKeysText", spec := "fnExactKeysText", inPlace := ["internal/abi.NoEscape", "internal/bytealg.MakeNoZero"], apart := false, narrowed := true }
def FnExactKeysTextUptoSaid : Prop := fnExactKeysTextUptoRow.holds Try.pinned (OpenSpec.upto fnExactKeysTextSpec)

end Rows
end Go.Proofs.Ythddgnimkbjadac
