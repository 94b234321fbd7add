/-
  NARROWER THAN 'FOR EVERY INPUT', by the rows' own cells (each row's printed sentence says how): FnExactAreLamps: laid · FnExactLampsNeeded: laid · FnExactOtherLamps: laid · FnExactLampsText: laid · FnExactTickOnce: laid · FnExactStillStates: laid · FnExactStatesBefore: laid · FnExactParseLamps: laid.
  DERIVED. THE GIVEN ROWS OF THIS SEAT. 8 by the template 'for every input the law returns true; each argument reads behind the call as it read before'; 0 by the template 'total and deterministic' (their statements: YtjlecipeoaohiacDoorTotals.lean).
  GIVEN WITH THE SEED: the statements are not yours to turn. If you find one false, say at which input.
  Laid BY PROGRAM, IN A SANDBOX (cutbox-rows.mjs): the forced cells as the released guide's own fill.sh prints them over the translation bfb64e2791ad0477… (all of the seat's roots in one cut). By AI agents, Wed Nov 11 2026. No macro, syntax, notation, axiom, sorry.
-/
import Derived.Test.YtjlecipeoaohiacDoorChecked
import GoSem.PinnedTables
import GoSem.Claim
import GoSem.ClaimJoined
import GoSem.ClaimMapViews
import Derived.JoinedTies
import Derived.KernelRfl
namespace Go.Proofs.YtjlecipeoaohiacDoor
/- THE CELL 'sum', in the pinned program and in every row, IS THE sha256 OF THE DUMP (.gsa) THAT YtjlecipeoaohiacDoorProg.lean LOADS. Nothing in Lean hashes anything: it is a label: what it is worth is what the hold of that sum in a sandbox is worth. -/
noncomputable def Tryd.pinned : Pinned := { name := "ytjlecipeoaohiacdoor", sum := "bfb64e2791ad04771f2e58a8b774e162b60d2c2db11d2a5ae66bffb0292d07c6", checked := Tryd.checked }
namespace Rows
def none {H : Type} : Left H := { results := [], args := [] }

/- WHAT THE LISTED PACKAGE-LEVEL VARIABLES READ AS WHEN THE CALL BEGINS. Each datum BY PROGRAM (the guide's laid-datum.mjs) off the statement by which the dump's own 'gosem.cut.vars' lays the variable. In a bare row this is a premise. The card (YtjlecipeoaohiacDoorCards.lean) ties it to the program's text. -/
def laid_unicode_utf8_acceptRanges {H : Type} : DataW H := .agg [.agg [.lit (.int .u8 128), .lit (.int .u8 191)], .agg [.lit (.int .u8 160), .lit (.int .u8 191)], .agg [.lit (.int .u8 128), .lit (.int .u8 159)], .agg [.lit (.int .u8 144), .lit (.int .u8 191)], .agg [.lit (.int .u8 128), .lit (.int .u8 143)], .agg [.lit (.int .u8 0), .lit (.int .u8 0)], .agg [.lit (.int .u8 0), .lit (.int .u8 0)], .agg [.lit (.int .u8 0), .lit (.int .u8 0)], .agg [.lit (.int .u8 0), .lit (.int .u8 0)], .agg [.lit (.int .u8 0), .lit (.int .u8 0)], .agg [.lit (.int .u8 0), .lit (.int .u8 0)], .agg [.lit (.int .u8 0), .lit (.int .u8 0)], .agg [.lit (.int .u8 0), .lit (.int .u8 0)], .agg [.lit (.int .u8 0), .lit (.int .u8 0)], .agg [.lit (.int .u8 0), .lit (.int .u8 0)], .agg [.lit (.int .u8 0), .lit (.int .u8 0)]]
/-- One of Go's own tables, pinned by name: the form's constant. -/
def laid_unicode_utf8_first : DataW Unit := Go.Pinned.utf8First

/-- 'laws.FnExactAreLamps': WHATEVER THE INPUT: true; the input reads as it did. -/
def fnExactAreLampsSpec : ChangeSpec := { name := "fnExactAreLamps", fn := fun _ => fun
  | [d] => { results := [.lit (.bool true)], args := [d] }
  | _ => none }
def fnExactAreLampsRow : OpenClaim := { program := "ytjlecipeoaohiacdoor", sum := "bfb64e2791ad04771f2e58a8b774e162b60d2c2db11d2a5ae66bffb0292d07c6", func := "loop.example/g01314/laws.FnExactAreLamps", spec := "fnExactAreLamps", inPlace := ["internal/bytealg.IndexByteString", "internal/bytealg.IndexString"], named := ["unicode/utf8.first", "unicode/utf8.acceptRanges", "internal/bytealg.MaxLen"], apart := false, laid := [("unicode/utf8.acceptRanges", laid_unicode_utf8_acceptRanges), ("unicode/utf8.first", laid_unicode_utf8_first)] }
def FnExactAreLampsSaid : Prop := fnExactAreLampsRow.holds Tryd.pinned (OpenSpec.ofChange fnExactAreLampsSpec)

/-- ITS FALSE NEIGHBOUR: 'it returns false'. Refute it at one input. -/
def fnExactAreLampsWrong : ChangeSpec := { name := "fnExactAreLamps", fn := fun _ => fun
  | [d] => { results := [.lit (.bool false)], args := [d] }
  | _ => none }
def FnExactAreLampsWrongFalsely : Prop := fnExactAreLampsRow.holds Tryd.pinned (OpenSpec.ofChange fnExactAreLampsWrong)

/-- 'laws.FnExactLampsNeeded': WHATEVER THE INPUT: true; the input reads as it did. -/
def fnExactLampsNeededSpec : ChangeSpec := { name := "fnExactLampsNeeded", fn := fun _ => fun
  | [d1, d2] => { results := [.lit (.bool true)], args := [d1, d2] }
  | _ => none }
def fnExactLampsNeededRow : OpenClaim := { program := "ytjlecipeoaohiacdoor", sum := "bfb64e2791ad04771f2e58a8b774e162b60d2c2db11d2a5ae66bffb0292d07c6", func := "loop.example/g01314/laws.FnExactLampsNeeded", spec := "fnExactLampsNeeded", inPlace := ["internal/bytealg.IndexByteString", "internal/bytealg.IndexString"], named := ["unicode/utf8.first", "unicode/utf8.acceptRanges", "internal/bytealg.MaxLen"], apart := false, laid := [("unicode/utf8.acceptRanges", laid_unicode_utf8_acceptRanges), ("unicode/utf8.first", laid_unicode_utf8_first)] }
def FnExactLampsNeededSaid : Prop := fnExactLampsNeededRow.holds Tryd.pinned (OpenSpec.ofChange fnExactLampsNeededSpec)

/-- ITS FALSE NEIGHBOUR: 'it returns false'. Refute it at one input. -/
def fnExactLampsNeededWrong : ChangeSpec := { name := "fnExactLampsNeeded", fn := fun _ => fun
  | [d1, d2] => { results := [.lit (.bool false)], args := [d1, d2] }
  | _ => none }
def FnExactLampsNeededWrongFalsely : Prop := fnExactLampsNeededRow.holds Tryd.pinned (OpenSpec.ofChange fnExactLampsNeededWrong)

/-- 'laws.FnExactOtherLamps': WHATEVER THE INPUT: true; the input reads as it did. -/
def fnExactOtherLampsSpec : ChangeSpec := { name := "fnExactOtherLamps", fn := fun _ => fun
  | [d] => { results := [.lit (.bool true)], args := [d] }
  | _ => none }
def fnExactOtherLampsRow : OpenClaim := { program := "ytjlecipeoaohiacdoor", sum := "bfb64e2791ad04771f2e58a8b774e162b60d2c2db11d2a5ae66bffb0292d07c6", func := "loop.example/g01314/laws.FnExactOtherLamps", spec := "fnExactOtherLamps", inPlace := ["internal/bytealg.IndexByteString", "internal/bytealg.IndexString"], named := ["unicode/utf8.first", "unicode/utf8.acceptRanges", "internal/bytealg.MaxLen"], apart := false, laid := [("unicode/utf8.acceptRanges", laid_unicode_utf8_acceptRanges), ("unicode/utf8.first", laid_unicode_utf8_first)] }
def FnExactOtherLampsSaid : Prop := fnExactOtherLampsRow.holds Tryd.pinned (OpenSpec.ofChange fnExactOtherLampsSpec)

/-- ITS FALSE NEIGHBOUR: 'it returns false'. Refute it at one input. -/
def fnExactOtherLampsWrong : ChangeSpec := { name := "fnExactOtherLamps", fn := fun _ => fun
  | [d] => { results := [.lit (.bool false)], args := [d] }
  | _ => none }
def FnExactOtherLampsWrongFalsely : Prop := fnExactOtherLampsRow.holds Tryd.pinned (OpenSpec.ofChange fnExactOtherLampsWrong)

/-- 'laws.FnExactLampsText': WHATEVER THE INPUT: true; the input reads as it did. -/
def fnExactLampsTextSpec : ChangeSpec := { name := "fnExactLampsText", fn := fun _ => fun
  | [d] => { results := [.lit (.bool true)], args := [d] }
  | _ => none }
def fnExactLampsTextRow : OpenClaim := { program := "ytjlecipeoaohiacdoor", sum := "bfb64e2791ad04771f2e58a8b774e162b60d2c2db11d2a5ae66bffb0292d07c6", func := "loop.example/g01314/laws.FnExactLampsText", spec := "fnExactLampsText", inPlace := ["internal/bytealg.IndexByteString", "internal/bytealg.IndexString", "internal/abi.NoEscape", "internal/bytealg.MakeNoZero"], named := ["unicode/utf8.first", "unicode/utf8.acceptRanges", "internal/bytealg.MaxLen"], apart := false, laid := [("unicode/utf8.acceptRanges", laid_unicode_utf8_acceptRanges), ("unicode/utf8.first", laid_unicode_utf8_first)] }
def FnExactLampsTextSaid : Prop := fnExactLampsTextRow.holds Tryd.pinned (OpenSpec.ofChange fnExactLampsTextSpec)

/-- ITS FALSE NEIGHBOUR: 'it returns false'. Refute it at one input. -/
def fnExactLampsTextWrong : ChangeSpec := { name := "fnExactLampsText", fn := fun _ => fun
  | [d] => { results := [.lit (.bool false)], args := [d] }
  | _ => none }
def FnExactLampsTextWrongFalsely : Prop := fnExactLampsTextRow.holds Tryd.pinned (OpenSpec.ofChange fnExactLampsTextWrong)

/-- 'laws.FnExactTickOnce': WHATEVER THE INPUT: true; the input reads as it did. -/
def fnExactTickOnceSpec : ChangeSpec := { name := "fnExactTickOnce", fn := fun _ => fun
  | [d1, d2] => { results := [.lit (.bool true)], args := [d1, d2] }
  | _ => none }
def fnExactTickOnceRow : OpenClaim := { program := "ytjlecipeoaohiacdoor", sum := "bfb64e2791ad04771f2e58a8b774e162b60d2c2db11d2a5ae66bffb0292d07c6", func := "loop.example/g01314/laws.FnExactTickOnce", spec := "fnExactTickOnce", inPlace := ["internal/bytealg.IndexByteString", "internal/bytealg.IndexString"], named := ["unicode/utf8.first", "unicode/utf8.acceptRanges", "internal/bytealg.MaxLen"], apart := false, laid := [("unicode/utf8.acceptRanges", laid_unicode_utf8_acceptRanges), ("unicode/utf8.first", laid_unicode_utf8_first)] }
def FnExactTickOnceSaid : Prop := fnExactTickOnceRow.holds Tryd.pinned (OpenSpec.ofChange fnExactTickOnceSpec)

/-- ITS FALSE NEIGHBOUR: 'it returns false'. Refute it at one input. -/
def fnExactTickOnceWrong : ChangeSpec := { name := "fnExactTickOnce", fn := fun _ => fun
  | [d1, d2] => { results := [.lit (.bool false)], args := [d1, d2] }
  | _ => none }
def FnExactTickOnceWrongFalsely : Prop := fnExactTickOnceRow.holds Tryd.pinned (OpenSpec.ofChange fnExactTickOnceWrong)

/-- 'laws.FnExactStillStates': WHATEVER THE INPUT: true; the input reads as it did. -/
def fnExactStillStatesSpec : ChangeSpec := { name := "fnExactStillStates", fn := fun _ => fun
  | [d] => { results := [.lit (.bool true)], args := [d] }
  | _ => none }
def fnExactStillStatesRow : OpenClaim := { program := "ytjlecipeoaohiacdoor", sum := "bfb64e2791ad04771f2e58a8b774e162b60d2c2db11d2a5ae66bffb0292d07c6", func := "loop.example/g01314/laws.FnExactStillStates", spec := "fnExactStillStates", inPlace := ["internal/bytealg.IndexByteString", "internal/bytealg.IndexString"], unfollowed := true, recurses := true, named := ["unicode/utf8.first", "unicode/utf8.acceptRanges", "internal/bytealg.MaxLen"], apart := false, laid := [("unicode/utf8.acceptRanges", laid_unicode_utf8_acceptRanges), ("unicode/utf8.first", laid_unicode_utf8_first)] }
def FnExactStillStatesSaid : Prop := fnExactStillStatesRow.holds Tryd.pinned (OpenSpec.ofChange fnExactStillStatesSpec)

/-- ITS FALSE NEIGHBOUR: 'it returns false'. Refute it at one input. -/
def fnExactStillStatesWrong : ChangeSpec := { name := "fnExactStillStates", fn := fun _ => fun
  | [d] => { results := [.lit (.bool false)], args := [d] }
  | _ => none }
def FnExactStillStatesWrongFalsely : Prop := fnExactStillStatesRow.holds Tryd.pinned (OpenSpec.ofChange fnExactStillStatesWrong)

/-- 'laws.FnExactStatesBefore': WHATEVER THE INPUT: true; the input reads as it did. -/
def fnExactStatesBeforeSpec : ChangeSpec := { name := "fnExactStatesBefore", fn := fun _ => fun
  | [d1, d2] => { results := [.lit (.bool true)], args := [d1, d2] }
  | _ => none }
def fnExactStatesBeforeRow : OpenClaim := { program := "ytjlecipeoaohiacdoor", sum := "bfb64e2791ad04771f2e58a8b774e162b60d2c2db11d2a5ae66bffb0292d07c6", func := "loop.example/g01314/laws.FnExactStatesBefore", spec := "fnExactStatesBefore", inPlace := ["internal/bytealg.IndexByteString", "internal/bytealg.IndexString"], unfollowed := true, recurses := true, named := ["unicode/utf8.first", "unicode/utf8.acceptRanges", "internal/bytealg.MaxLen"], apart := false, laid := [("unicode/utf8.acceptRanges", laid_unicode_utf8_acceptRanges), ("unicode/utf8.first", laid_unicode_utf8_first)] }
def FnExactStatesBeforeSaid : Prop := fnExactStatesBeforeRow.holds Tryd.pinned (OpenSpec.ofChange fnExactStatesBeforeSpec)

/-- ITS FALSE NEIGHBOUR: 'it returns false'. Refute it at one input. -/
def fnExactStatesBeforeWrong : ChangeSpec := { name := "fnExactStatesBefore", fn := fun _ => fun
  | [d1, d2] => { results := [.lit (.bool false)], args := [d1, d2] }
  | _ => none }
def FnExactStatesBeforeWrongFalsely : Prop := fnExactStatesBeforeRow.holds Tryd.pinned (OpenSpec.ofChange fnExactStatesBeforeWrong)

/-- 'laws.FnExactParseLamps': WHATEVER THE INPUT: true; the input reads as it did. -/
def fnExactParseLampsSpec : ChangeSpec := { name := "fnExactParseLamps", fn := fun _ => fun
  | [d] => { results := [.lit (.bool true)], args := [d] }
  | _ => none }
def fnExactParseLampsRow : OpenClaim := { program := "ytjlecipeoaohiacdoor", sum := "bfb64e2791ad04771f2e58a8b774e162b60d2c2db11d2a5ae66bffb0292d07c6", func := "loop.example/g01314/laws.FnExactParseLamps", spec := "fnExactParseLamps", inPlace := ["internal/bytealg.CountString", "internal/bytealg.IndexByteString", "internal/bytealg.IndexString"], named := ["unicode/utf8.first", "unicode/utf8.acceptRanges", "internal/bytealg.MaxLen"], apart := false, laid := [("unicode/utf8.acceptRanges", laid_unicode_utf8_acceptRanges), ("unicode/utf8.first", laid_unicode_utf8_first)] }
def FnExactParseLampsSaid : Prop := fnExactParseLampsRow.holds Tryd.pinned (OpenSpec.ofChange fnExactParseLampsSpec)

/-- ITS FALSE NEIGHBOUR: 'it returns false'. Refute it at one input. -/
def fnExactParseLampsWrong : ChangeSpec := { name := "fnExactParseLamps", fn := fun _ => fun
  | [d] => { results := [.lit (.bool false)], args := [d] }
  | _ => none }
def FnExactParseLampsWrongFalsely : Prop := fnExactParseLampsRow.holds Tryd.pinned (OpenSpec.ofChange fnExactParseLampsWrong)

/- THE SECOND FORM. 'bulk': how many values and letters a reading holds, each counted each time it is reached (what is shared counts as often as it is met; a slice's spare places count too). A statement '..UptoSaid' is the law's where the arguments, and the package variables that the reading takes, are together of bulk at most 1048576: NARROWER than '..Said'. Prove '..Said' where nothing that the law and all that it calls make is longer than what came in: it says more and counts as full. Else prove '..UptoSaid'. A law counts once. -/
mutual
def uptoBulk {H : Type} : DataW H → Nat
  | .lit (.string bytes) => bytes.length + 1
  | .lit _ => 1
  | .nil => 1
  | .ptr d => uptoBulk d + 1
  | .slice elems spare => uptoBulkAll elems + uptoBulkAll spare + 1
  | .agg parts => uptoBulkAll parts + 1
  | .iface _ d => uptoBulk d + 1
  | .map entries => uptoBulkEntries entries + 1
  | .held _ => 1
def uptoBulkAll {H : Type} : List (DataW H) → Nat
  | [] => 0
  | d :: r => uptoBulk d + uptoBulkAll r
def uptoBulkEntries {H : Type} : List (Lit × DataW H) → Nat
  | [] => 0
  | x :: r => uptoBulkEntry x + uptoBulkEntries r
def uptoBulkEntry {H : Type} : Lit × DataW H → Nat
  | (.string bytes, d) => bytes.length + uptoBulk d + 1
  | (_, d) => uptoBulk d + 1
 end
def uptoSmall : (H : Type) → List (DataW H) → Bool := fun _ ds => decide (uptoBulkAll ds ≤ 1048576)
def OpenSpec.upto (s : _root_.Go.ChangeSpec) : _root_.Go.OpenSpec := { _root_.Go.OpenSpec.ofChange s with cond := some uptoSmall }

/-- 'laws.FnExactAreLamps', WHERE WHAT IT READS IS OF BULK AT MOST 1048576: true; the input reads as it did. -/
def fnExactAreLampsUptoRow : OpenClaim := { program := "ytjlecipeoaohiacdoor", sum := "bfb64e2791ad04771f2e58a8b774e162b60d2c2db11d2a5ae66bffb0292d07c6", func := "loop.example/g01314/laws.FnExactAreLamps", spec := "fnExactAreLamps", inPlace := ["internal/bytealg.IndexByteString", "internal/bytealg.IndexString"], named := ["unicode/utf8.first", "unicode/utf8.acceptRanges", "internal/bytealg.MaxLen"], apart := false, laid := [("unicode/utf8.acceptRanges", laid_unicode_utf8_acceptRanges), ("unicode/utf8.first", laid_unicode_utf8_first)], narrowed := true }
def FnExactAreLampsUptoSaid : Prop := fnExactAreLampsUptoRow.holds Tryd.pinned (OpenSpec.upto fnExactAreLampsSpec)

/-- 'laws.FnExactLampsNeeded', WHERE WHAT IT READS IS OF BULK AT MOST 1048576: true; the input reads as it did. -/
def fnExactLampsNeededUptoRow : OpenClaim := { program := "ytjlecipeoaohiacdoor", sum := "bfb64e2791ad04771f2e58a8b774e162b60d2c2db11d2a5ae66bffb0292d07c6", func := "loop.example/g01314/laws.FnExactLampsNeeded", spec := "fnExactLampsNeeded", inPlace := ["internal/bytealg.IndexByteString", "internal/bytealg.IndexString"], named := ["unicode/utf8.first", "unicode/utf8.acceptRanges", "internal/bytealg.MaxLen"], apart := false, laid := [("unicode/utf8.acceptRanges", laid_unicode_utf8_acceptRanges), ("unicode/utf8.first", laid_unicode_utf8_first)], narrowed := true }
def FnExactLampsNeededUptoSaid : Prop := fnExactLampsNeededUptoRow.holds Tryd.pinned (OpenSpec.upto fnExactLampsNeededSpec)

/-- 'laws.FnExactOtherLamps', WHERE WHAT IT READS IS OF BULK AT MOST 1048576: true; the input reads as it did. -/
def fnExactOtherLampsUptoRow : OpenClaim := { program := "ytjlecipeoaohiacdoor", sum := "bfb64e2791ad04771f2e58a8b774e162b60d2c2db11d2a5ae66bffb0292d07c6", func := "loop.example/g01314/laws.FnExactOtherLamps", spec := "fnExactOtherLamps", inPlace := ["internal/bytealg.IndexByteString", "internal/bytealg.IndexString"], named := ["unicode/utf8.first", "unicode/utf8.acceptRanges", "internal/bytealg.MaxLen"], apart := false, laid := [("unicode/utf8.acceptRanges", laid_unicode_utf8_acceptRanges), ("unicode/utf8.first", laid_unicode_utf8_first)], narrowed := true }
def FnExactOtherLampsUptoSaid : Prop := fnExactOtherLampsUptoRow.holds Tryd.pinned (OpenSpec.upto fnExactOtherLampsSpec)

/-- 'laws.FnExactLampsText', WHERE WHAT IT READS IS OF BULK AT MOST 1048576: true; the input reads as it did. -/
def fnExactLampsTextUptoRow : OpenClaim := { program := "ytjlecipeoaohiacdoor", sum := "bfb64e2791ad04771f2e58a8b774e162b60d2c2db11d2a5ae66bffb0292d07c6", func := "loop.example/g01314/laws.FnExactLampsText", spec := "fnExactLampsText", inPlace := ["internal/bytealg.IndexByteString", "internal/bytealg.IndexString", "internal/abi.NoEscape", "internal/bytealg.MakeNoZero"], named := ["unicode/utf8.first", "unicode/utf8.acceptRanges", "internal/bytealg.MaxLen"], apart := false, laid := [("unicode/utf8.acceptRanges", laid_unicode_utf8_acceptRanges), ("unicode/utf8.first", laid_unicode_utf8_first)], narrowed := true }
def FnExactLampsTextUptoSaid : Prop := fnExactLampsTextUptoRow.holds Tryd.pinned (OpenSpec.upto fnExactLampsTextSpec)

/-- 'laws.FnExactTickOnce', WHERE WHAT IT READS IS OF BULK AT MOST 1048576: true; the input reads as it did. -/
def fnExactTickOnceUptoRow : OpenClaim := { program := "ytjlecipeoaohiacdoor", sum := "bfb64e2791ad04771f2e58a8b774e162b60d2c2db11d2a5ae66bffb0292d07c6", func := "loop.example/g01314/laws.FnExactTickOnce", spec := "fnExactTickOnce", inPlace := ["internal/bytealg.IndexByteString", "internal/bytealg.IndexString"], named := ["unicode/utf8.first", "unicode/utf8.acceptRanges", "internal/bytealg.MaxLen"], apart := false, laid := [("unicode/utf8.acceptRanges", laid_unicode_utf8_acceptRanges), ("unicode/utf8.first", laid_unicode_utf8_first)], narrowed := true }
def FnExactTickOnceUptoSaid : Prop := fnExactTickOnceUptoRow.holds Tryd.pinned (OpenSpec.upto fnExactTickOnceSpec)

/-- 'laws.FnExactStillStates', WHERE WHAT IT READS IS OF BULK AT MOST 1048576: true; the input reads as it did. -/
def fnExactStillStatesUptoRow : OpenClaim := { program := "ytjlecipeoaohiacdoor", sum := "bfb64e2791ad04771f2e58a8b774e162b60d2c2db11d2a5ae66bffb0292d07c6", func := "loop.example/g01314/laws.FnExactStillStates", spec := "fnExactStillStates", inPlace := ["internal/bytealg.IndexByteString", "internal/bytealg.IndexString"], unfollowed := true, recurses := true, named := ["unicode/utf8.first", "unicode/utf8.acceptRanges", "internal/bytealg.MaxLen"], apart := false, laid := [("unicode/utf8.acceptRanges", laid_unicode_utf8_acceptRanges), ("unicode/utf8.first", laid_unicode_utf8_first)], narrowed := true }
def FnExactStillStatesUptoSaid : Prop := fnExactStillStatesUptoRow.holds Tryd.pinned (OpenSpec.upto fnExactStillStatesSpec)

/-- 'laws.FnExactStatesBefore', WHERE WHAT IT READS IS OF BULK AT MOST 1048576: true; the input reads as it did. -/
def fnExactStatesBeforeUptoRow : OpenClaim := { program := "ytjlecipeoaohiacdoor", sum := "bfb64e2791ad04771f2e58a8b774e162b60d2c2db11d2a5ae66bffb0292d07c6", func := "loop.example/g01314/laws.FnExactStatesBefore", spec := "fnExactStatesBefore", inPlace := ["internal/bytealg.IndexByteString", "internal/bytealg.IndexString"], unfollowed := true, recurses := true, named := ["unicode/utf8.first", "unicode/utf8.acceptRanges", "internal/bytealg.MaxLen"], apart := false, laid := [("unicode/utf8.acceptRanges", laid_unicode_utf8_acceptRanges), ("unicode/utf8.first", laid_unicode_utf8_first)], narrowed := true }
def FnExactStatesBeforeUptoSaid : Prop := fnExactStatesBeforeUptoRow.holds Tryd.pinned (OpenSpec.upto fnExactStatesBeforeSpec)

/-- 'laws.FnExactParseLamps', WHERE WHAT IT READS IS OF BULK AT MOST 1048576: true; the input reads as it did. -/
def fnExactParseLampsUptoRow : OpenClaim := { program := "ytjlecipeoaohiacdoor", sum := "bfb64e2791ad04771f2e58a8b774e162b60d2c2db11d2a5ae66bffb0292d07c6", func := "loop.example/g01314/laws.FnExactParseLamps", spec := "fnExactParseLamps", inPlace := ["internal/bytealg.CountString", "internal/bytealg.IndexByteString", "internal/bytealg.IndexString"], named := ["unicode/utf8.first", "unicode/utf8.acceptRanges", "internal/bytealg.MaxLen"], apart := false, laid := [("unicode/utf8.acceptRanges", laid_unicode_utf8_acceptRanges), ("unicode/utf8.first", laid_unicode_utf8_first)], narrowed := true }
def FnExactParseLampsUptoSaid : Prop := fnExactParseLampsUptoRow.holds Tryd.pinned (OpenSpec.upto fnExactParseLampsSpec)

end Rows
end Go.Proofs.YtjlecipeoaohiacDoor
