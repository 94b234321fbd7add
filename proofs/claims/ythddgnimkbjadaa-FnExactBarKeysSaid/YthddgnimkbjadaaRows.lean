/-
  No cell of these rows narrows 'for every input' (looked for: loops, veiled, ifaces, maps, wideKeys, modest, calm, conditions, laid).
  DERIVED. THE GIVEN ROWS OF THIS SEAT. 3 by the template 'for every input the law returns true; each argument reads behind the call as it read before'; 0 by the template 'total and deterministic' (their statements: YthddgnimkbjadaaTotals.lean).
  GIVEN WITH THE SEED: the statements are not yours to turn. If you find one false, say at which input.
  Laid BY PROGRAM, IN A SANDBOX (cutbox-rows.mjs): the forced cells as the released guide's own fill.sh prints them over the translation d96fdbbb78dfe395… (all of the seat's roots in one cut). By AI agents, Wed Nov 11 2026. No macro, syntax, notation, axiom, sorry.
-/
import Derived.Test.YthddgnimkbjadaaChecked
import GoSem.Claim
import GoSem.ClaimJoined
import GoSem.ClaimMapViews
import Derived.JoinedTies
import Derived.KernelRfl
namespace Go.Proofs.Ythddgnimkbjadaa
/- THE CELL 'sum', in the pinned program and in every row, IS THE sha256 OF THE DUMP (.gsa) THAT YthddgnimkbjadaaProg.lean LOADS. Nothing in Lean hashes anything: it is a label: what it is worth is what the hold of that sum in a sandbox is worth. -/
noncomputable def Try.pinned : Pinned := { name := "ythddgnimkbjadaa", sum := "d96fdbbb78dfe395deab34f148db4463671e1c6988296cc902d7092103785c96", checked := Try.checked }
namespace Rows
def none {H : Type} : Left H := { results := [], args := [] }

/-- 'laws.FnExactAreKeys': WHATEVER THE INPUT: true; the input reads as it did. -/
def fnExactAreKeysSpec : ChangeSpec := { name := "fnExactAreKeys", fn := fun _ => fun
  | [d] => { results := [.lit (.bool true)], args := [d] }
  | _ => none }
def fnExactAreKeysRow : OpenClaim := { program := "ythddgnimkbjadaa", sum := "d96fdbbb78dfe395deab34f148db4463671e1c6988296cc902d7092103785c96", func := "loop.example/g01314/laws.FnExactAreKeys", spec := "fnExactAreKeys", apart := false }
def FnExactAreKeysSaid : Prop := fnExactAreKeysRow.holds Try.pinned (OpenSpec.ofChange fnExactAreKeysSpec)

/-- ITS FALSE NEIGHBOUR: 'it returns false'. Refute it at one input. -/
def fnExactAreKeysWrong : ChangeSpec := { name := "fnExactAreKeys", fn := fun _ => fun
  | [d] => { results := [.lit (.bool false)], args := [d] }
  | _ => none }
def FnExactAreKeysWrongFalsely : Prop := fnExactAreKeysRow.holds Try.pinned (OpenSpec.ofChange fnExactAreKeysWrong)

/-- 'laws.FnExactBarKeys': WHATEVER THE INPUT: true; the input reads as it did. -/
def fnExactBarKeysSpec : ChangeSpec := { name := "fnExactBarKeys", fn := fun _ => fun
  | [d] => { results := [.lit (.bool true)], args := [d] }
  | _ => none }
def fnExactBarKeysRow : OpenClaim := { program := "ythddgnimkbjadaa", sum := "d96fdbbb78dfe395deab34f148db4463671e1c6988296cc902d7092103785c96", func := "loop.example/g01314/laws.FnExactBarKeys", spec := "fnExactBarKeys", inPlace := ["internal/abi.NoEscape", "internal/bytealg.MakeNoZero"], apart := false }
def FnExactBarKeysSaid : Prop := fnExactBarKeysRow.holds Try.pinned (OpenSpec.ofChange fnExactBarKeysSpec)

/-- ITS FALSE NEIGHBOUR: 'it returns false'. Refute it at one input. -/
def fnExactBarKeysWrong : ChangeSpec := { name := "fnExactBarKeys", fn := fun _ => fun
  | [d] => { results := [.lit (.bool false)], args := [d] }
  | _ => none }
def FnExactBarKeysWrongFalsely : Prop := fnExactBarKeysRow.holds Try.pinned (OpenSpec.ofChange fnExactBarKeysWrong)

/-- 'laws.FnExactFreeKeys': WHATEVER THE INPUT: true; the input reads as it did. -/
def fnExactFreeKeysSpec : ChangeSpec := { name := "fnExactFreeKeys", fn := fun _ => fun
  | [d] => { results := [.lit (.bool true)], args := [d] }
  | _ => none }
def fnExactFreeKeysRow : OpenClaim := { program := "ythddgnimkbjadaa", sum := "d96fdbbb78dfe395deab34f148db4463671e1c6988296cc902d7092103785c96", func := "loop.example/g01314/laws.FnExactFreeKeys", spec := "fnExactFreeKeys", inPlace := ["internal/abi.NoEscape", "internal/bytealg.MakeNoZero"], apart := false }
def FnExactFreeKeysSaid : Prop := fnExactFreeKeysRow.holds Try.pinned (OpenSpec.ofChange fnExactFreeKeysSpec)

/-- ITS FALSE NEIGHBOUR: 'it returns false'. Refute it at one input. -/
def fnExactFreeKeysWrong : ChangeSpec := { name := "fnExactFreeKeys", fn := fun _ => fun
  | [d] => { results := [.lit (.bool false)], args := [d] }
  | _ => none }
def FnExactFreeKeysWrongFalsely : Prop := fnExactFreeKeysRow.holds Try.pinned (OpenSpec.ofChange fnExactFreeKeysWrong)

/- THE SECOND FORM. 'bulk': how many values and letters a reading holds, each counted each time it is reached (what is shared counts as often as it is met; a slice's spare places count too). A statement '..UptoSaid' is the law's where the arguments, and the package variables that the reading takes, are together of bulk at most 1048576: NARROWER than '..Said'. Prove '..Said' where nothing that the law and all that it calls make is longer than what came in: it says more and counts as full. Else prove '..UptoSaid'. A law counts once. -/
mutual
def uptoBulk {H : Type} : DataW H → Nat
  | .lit (.string bytes) => bytes.length + 1
  | .lit _ => 1
  | .nil => 1
  | .ptr d => uptoBulk d + 1
  | .slice elems spare => uptoBulkAll elems + uptoBulkAll spare + 1
  | .agg parts => uptoBulkAll parts + 1
  | .iface _ d => uptoBulk d + 1
  | .map entries => uptoBulkEntries entries + 1
  | .held _ => 1
def uptoBulkAll {H : Type} : List (DataW H) → Nat
  | [] => 0
  | d :: r => uptoBulk d + uptoBulkAll r
def uptoBulkEntries {H : Type} : List (Lit × DataW H) → Nat
  | [] => 0
  | x :: r => uptoBulkEntry x + uptoBulkEntries r
def uptoBulkEntry {H : Type} : Lit × DataW H → Nat
  | (.string bytes, d) => bytes.length + uptoBulk d + 1
  | (_, d) => uptoBulk d + 1
 end
def uptoSmall : (H : Type) → List (DataW H) → Bool := fun _ ds => decide (uptoBulkAll ds ≤ 1048576)
def OpenSpec.upto (s : _root_.Go.ChangeSpec) : _root_.Go.OpenSpec := { _root_.Go.OpenSpec.ofChange s with cond := some uptoSmall }

/-- 'laws.FnExactAreKeys', WHERE WHAT IT READS IS OF BULK AT MOST 1048576: true; the input reads as it did. -/
def fnExactAreKeysUptoRow : OpenClaim := { program := "ythddgnimkbjadaa", sum := "d96fdbbb78dfe395deab34f148db4463671e1c6988296cc902d7092103785c96", func := "loop.example/g01314/laws.FnExactAreKeys", spec := "fnExactAreKeys", apart := false, narrowed := true }
def FnExactAreKeysUptoSaid : Prop := fnExactAreKeysUptoRow.holds Try.pinned (OpenSpec.upto fnExactAreKeysSpec)

/-- 'laws.FnExactBarKeys', WHERE WHAT IT READS IS OF BULK AT MOST 1048576: true; the input reads as it did. -/
def fnExactBarKeysUptoRow : OpenClaim := { program := "ythddgnimkbjadaa", sum := "d96fdbbb78dfe395deab34f148db4463671e1c6988296cc902d7092103785c96", func := "loop.example/g01314/laws.FnExactBarKeys", spec := "fnExactBarKeys", inPlace := ["internal/abi.NoEscape", "internal/bytealg.MakeNoZero"], apart := false, narrowed := true }
def FnExactBarKeysUptoSaid : Prop := fnExactBarKeysUptoRow.holds Try.pinned (OpenSpec.upto fnExactBarKeysSpec)

/-- 'laws.FnExactFreeKeys', WHERE WHAT IT READS IS OF BULK AT MOST 1048576: true; the input reads as it did. -/
def fnExactFreeKeysUptoRow : OpenClaim := { program := "ythddgnimkbjadaa", sum := "d96fdbbb78dfe395deab34f148db4463671e1c6988296cc902d7092103785c96", func := "loop.example/g01314/laws.FnExactFreeKeys", spec := "fnExactFreeKeys", inPlace := ["internal/abi.NoEscape", "internal/bytealg.MakeNoZero"], apart := false, narrowed := true }
def FnExactFreeKeysUptoSaid : Prop := fnExactFreeKeysUptoRow.holds Try.pinned (OpenSpec.upto fnExactFreeKeysSpec)

end Rows
end Go.Proofs.Ythddgnimkbjadaa
