/-
  No cell of these rows narrows 'for every input' (looked for: loops, veiled, ifaces, maps, wideKeys, modest, calm, conditions, laid).
  DERIVED. THE GIVEN ROWS OF THIS SEAT. 2 by the template 'for every input the law returns true; each argument reads behind the call as it read before'; 0 by the template 'total and deterministic' (their statements: YtjlecipeoaohiacTotals.lean).
  GIVEN WITH THE SEED: the statements are not yours to turn. If you find one false, say at which input.
  Laid BY PROGRAM, IN A SANDBOX (cutbox-rows.mjs): the forced cells as the released guide's own fill.sh prints them over the translation bfab4df8c9a059a3… (all of the seat's roots in one cut). By AI agents, Wed Nov 11 2026. No macro, syntax, notation, axiom, sorry.
-/
import Derived.Test.YtjlecipeoaohiacChecked
import GoSem.Claim
import GoSem.ClaimJoined
import GoSem.ClaimMapViews
import Derived.JoinedTies
import Derived.KernelRfl
namespace Go.Proofs.Ytjlecipeoaohiac
/- THE CELL 'sum', in the pinned program and in every row, IS THE sha256 OF THE DUMP (.gsa) THAT YtjlecipeoaohiacProg.lean LOADS. Nothing in Lean hashes anything: it is a label: what it is worth is what the hold of that sum in a sandbox is worth. -/
noncomputable def Try.pinned : Pinned := { name := "ytjlecipeoaohiac", sum := "bfab4df8c9a059a351413f3a56b9efc8bb52f90b91a13680c3342cfe847f5dba", checked := Try.checked }
namespace Rows
def none {H : Type} : Left H := { results := [], args := [] }

/-- 'laws.FnExactCountingLamps': WHATEVER THE INPUT: true; the input reads as it did. -/
def fnExactCountingLampsSpec : ChangeSpec := { name := "fnExactCountingLamps", fn := fun _ => fun
  | [d] => { results := [.lit (.bool true)], args := [d] }
  | _ => none }
def fnExactCountingLampsRow : OpenClaim := { program := "ytjlecipeoaohiac", sum := "bfab4df8c9a059a351413f3a56b9efc8bb52f90b91a13680c3342cfe847f5dba", func := "loop.example/g01314/laws.FnExactCountingLamps", spec := "fnExactCountingLamps", inPlace := ["internal/abi.NoEscape", "internal/bytealg.MakeNoZero"], apart := false }
def FnExactCountingLampsSaid : Prop := fnExactCountingLampsRow.holds Try.pinned (OpenSpec.ofChange fnExactCountingLampsSpec)

/-- ITS FALSE NEIGHBOUR: 'it returns false'. Refute it at one input. -/
def fnExactCountingLampsWrong : ChangeSpec := { name := "fnExactCountingLamps", fn := fun _ => fun
  | [d] => { results := [.lit (.bool false)], args := [d] }
  | _ => none }
def FnExactCountingLampsWrongFalsely : Prop := fnExactCountingLampsRow.holds Try.pinned (OpenSpec.ofChange fnExactCountingLampsWrong)

/-- 'laws.FnExactRunningLamps': WHATEVER THE INPUT: true; the input reads as it did. -/
def fnExactRunningLampsSpec : ChangeSpec := { name := "fnExactRunningLamps", fn := fun _ => fun
  | [d] => { results := [.lit (.bool true)], args := [d] }
  | _ => none }
def fnExactRunningLampsRow : OpenClaim := { program := "ytjlecipeoaohiac", sum := "bfab4df8c9a059a351413f3a56b9efc8bb52f90b91a13680c3342cfe847f5dba", func := "loop.example/g01314/laws.FnExactRunningLamps", spec := "fnExactRunningLamps", inPlace := ["internal/abi.NoEscape", "internal/bytealg.MakeNoZero"], apart := false }
def FnExactRunningLampsSaid : Prop := fnExactRunningLampsRow.holds Try.pinned (OpenSpec.ofChange fnExactRunningLampsSpec)

/-- ITS FALSE NEIGHBOUR: 'it returns false'. Refute it at one input. -/
def fnExactRunningLampsWrong : ChangeSpec := { name := "fnExactRunningLamps", fn := fun _ => fun
  | [d] => { results := [.lit (.bool false)], args := [d] }
  | _ => none }
def FnExactRunningLampsWrongFalsely : Prop := fnExactRunningLampsRow.holds Try.pinned (OpenSpec.ofChange fnExactRunningLampsWrong)

/- THE SECOND FORM. 'bulk': how many values and letters a reading holds, each counted each time it is reached (what is shared counts as often as it is met; a slice's spare places count too). A statement '..UptoSaid' is the law's where the arguments, and the package variables that the reading takes, are together of bulk at most 1048576: NARROWER than '..Said'. Prove '..Said' where nothing that the law and all that it calls make is longer than what came in: it says more and counts as full. Else prove '..UptoSaid'. A law counts once. -/
mutual
def uptoBulk {H : Type} : DataW H → Nat
  | .lit (.string bytes) => bytes.length + 1
  | .lit _ => 1
  | .nil => 1
  | .ptr d => uptoBulk d + 1
  | .slice elems spare => uptoBulkAll elems + uptoBulkAll spare + 1
  | .agg parts => uptoBulkAll parts + 1
  | .iface _ d => uptoBulk d + 1
  | .map entries => uptoBulkEntries entries + 1
  | .held _ => 1
def uptoBulkAll {H : Type} : List (DataW H) → Nat
  | [] => 0
  | d :: r => uptoBulk d + uptoBulkAll r
def uptoBulkEntries {H : Type} : List (Lit × DataW H) → Nat
  | [] => 0
  | x :: r => uptoBulkEntry x + uptoBulkEntries r
def uptoBulkEntry {H : Type} : Lit × DataW H → Nat
  | (.string bytes, d) => bytes.length + uptoBulk d + 1
  | (_, d) => uptoBulk d + 1
 end
def uptoSmall : (H : Type) → List (DataW H) → Bool := fun _ ds => decide (uptoBulkAll ds ≤ 1048576)
def OpenSpec.upto (s : _root_.Go.ChangeSpec) : _root_.Go.OpenSpec := { _root_.Go.OpenSpec.ofChange s with cond := some uptoSmall }

/-- 'laws.FnExactCountingLamps', WHERE WHAT IT READS IS OF BULK AT MOST 1048576: true; the input reads as it did. -/
def fnExactCountingLampsUptoRow : OpenClaim := { program := "ytjlecipeoaohiac", sum := "bfab4df8c9a059a351413f3a56b9efc8bb52f90b91a13680c3342cfe847f5dba", func := "loop.example/g01314/laws.FnExactCountingLamps", spec := "fnExactCountingLamps", inPlace := ["internal/abi.NoEscape", "internal/bytealg.MakeNoZero"], apart := false, narrowed := true }
def FnExactCountingLampsUptoSaid : Prop := fnExactCountingLampsUptoRow.holds Try.pinned (OpenSpec.upto fnExactCountingLampsSpec)

/-- 'laws.FnExactRunningLamps', WHERE WHAT IT READS IS OF BULK AT MOST 1048576: true; the input reads as it did. -/
def fnExactRunningLampsUptoRow : OpenClaim := { program := "ytjlecipeoaohiac", sum := "bfab4df8c9a059a351413f3a56b9efc8bb52f90b91a13680c3342cfe847f5dba", func := "loop.example/g01314/laws.FnExactRunningLamps", spec := "fnExactRunningLamps", inPlace := ["internal/abi.NoEscape", "internal/bytealg.MakeNoZero"], apart := false, narrowed := true }
def FnExactRunningLampsUptoSaid : Prop := fnExactRunningLampsUptoRow.holds Try.pinned (OpenSpec.upto fnExactRunningLampsSpec)

end Rows
end Go.Proofs.Ytjlecipeoaohiac
