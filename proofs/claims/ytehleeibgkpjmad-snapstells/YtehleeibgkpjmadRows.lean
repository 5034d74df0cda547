/-
  No cell of these rows narrows 'for every input' (looked for: loops, veiled, ifaces, maps, wideKeys, modest, calm, conditions, laid).
  DERIVED. THE GIVEN ROWS OF THIS SEAT. 6 by the template 'for every input the law returns true; each argument reads behind the call as it read before'; 0 by the template 'total and deterministic' (their statements: YtehleeibgkpjmadTotals.lean).
  GIVEN WITH THE SEED: the statements are not yours to turn. If you find one false, say at which input.
  Laid BY PROGRAM, IN A SANDBOX (cutbox-rows.mjs): the forced cells as the released guide's own fill.sh prints them over the translation 9aba494780ab2024… (all of the seat's roots in one cut). By AI agents, Wed Nov 11 2026. No macro, syntax, notation, axiom, sorry.
-/
import Derived.Test.YtehleeibgkpjmadChecked
import GoSem.Claim
import GoSem.ClaimJoined
import GoSem.ClaimMapViews
import Derived.JoinedTies
import Derived.KernelRfl
namespace Go.Proofs.Ytehleeibgkpjmad
/- THE CELL 'sum', in the pinned program and in every row, IS THE sha256 OF THE DUMP (.gsa) THAT YtehleeibgkpjmadProg.lean LOADS. Nothing in Lean hashes anything: it is a label: what it is worth is what the hold of that sum in a sandbox is worth. -/
noncomputable def Try.pinned : Pinned := { name := "ytehleeibgkpjmad", sum := "9aba494780ab20240146818175160a575e7d0b5eb3c26731cfe3e9abe8254b3f", checked := Try.checked }
namespace Rows
def none {H : Type} : Left H := { results := [], args := [] }

/-- 'slipsheetlaw.WritesRight': WHATEVER THE INPUT: true; the input reads as it did. -/
def writesRightSpec : ChangeSpec := { name := "writesRight", fn := fun _ => fun
  | [d1, d2, d3, d4] => { results := [.lit (.bool true)], args := [d1, d2, d3, d4] }
  | _ => none }
def writesRightRow : OpenClaim := { program := "ytehleeibgkpjmad", sum := "9aba494780ab20240146818175160a575e7d0b5eb3c26731cfe3e9abe8254b3f", func := "slipsheet/slipsheetlaw.WritesRight", spec := "writesRight", unfollowed := true, recurses := true, apart := false }
def WritesRightSaid : Prop := writesRightRow.holds Try.pinned (OpenSpec.ofChange writesRightSpec)

/-- ITS FALSE NEIGHBOUR: 'it returns false'. Refute it at one input. -/
def writesRightWrong : ChangeSpec := { name := "writesRight", fn := fun _ => fun
  | [d1, d2, d3, d4] => { results := [.lit (.bool false)], args := [d1, d2, d3, d4] }
  | _ => none }
def WritesRightWrongFalsely : Prop := writesRightRow.holds Try.pinned (OpenSpec.ofChange writesRightWrong)

/-- 'slipsheetlaw.WritesTrue': WHATEVER THE INPUT: true; the input reads as it did. -/
def writesTrueSpec : ChangeSpec := { name := "writesTrue", fn := fun _ => fun
  | [d1, d2, d3, d4] => { results := [.lit (.bool true)], args := [d1, d2, d3, d4] }
  | _ => none }
def writesTrueRow : OpenClaim := { program := "ytehleeibgkpjmad", sum := "9aba494780ab20240146818175160a575e7d0b5eb3c26731cfe3e9abe8254b3f", func := "slipsheet/slipsheetlaw.WritesTrue", spec := "writesTrue", inPlace := ["internal/abi.NoEscape", "internal/bytealg.MakeNoZero"], unfollowed := true, recurses := true, apart := false }
def WritesTrueSaid : Prop := writesTrueRow.holds Try.pinned (OpenSpec.ofChange writesTrueSpec)

/-- ITS FALSE NEIGHBOUR: 'it returns false'. Refute it at one input. -/
def writesTrueWrong : ChangeSpec := { name := "writesTrue", fn := fun _ => fun
  | [d1, d2, d3, d4] => { results := [.lit (.bool false)], args := [d1, d2, d3, d4] }
  | _ => none }
def WritesTrueWrongFalsely : Prop := writesTrueRow.holds Try.pinned (OpenSpec.ofChange writesTrueWrong)

/-- 'slipsheetlaw.WritesPast': WHATEVER THE INPUT: true; the input reads as it did. -/
def writesPastSpec : ChangeSpec := { name := "writesPast", fn := fun _ => fun
  | [d1, d2, d3, d4, d5] => { results := [.lit (.bool true)], args := [d1, d2, d3, d4, d5] }
  | _ => none }
def writesPastRow : OpenClaim := { program := "ytehleeibgkpjmad", sum := "9aba494780ab20240146818175160a575e7d0b5eb3c26731cfe3e9abe8254b3f", func := "slipsheet/slipsheetlaw.WritesPast", spec := "writesPast", inPlace := ["internal/abi.NoEscape", "internal/bytealg.MakeNoZero"], unfollowed := true, recurses := true, apart := false }
def WritesPastSaid : Prop := writesPastRow.holds Try.pinned (OpenSpec.ofChange writesPastSpec)

/-- ITS FALSE NEIGHBOUR: 'it returns false'. Refute it at one input. -/
def writesPastWrong : ChangeSpec := { name := "writesPast", fn := fun _ => fun
  | [d1, d2, d3, d4, d5] => { results := [.lit (.bool false)], args := [d1, d2, d3, d4, d5] }
  | _ => none }
def WritesPastWrongFalsely : Prop := writesPastRow.holds Try.pinned (OpenSpec.ofChange writesPastWrong)

/-- 'slipsheetlaw.WritesInPlace': WHATEVER THE INPUT: true; the input reads as it did. -/
def writesInPlaceSpec : ChangeSpec := { name := "writesInPlace", fn := fun _ => fun
  | [d1, d2, d3, d4] => { results := [.lit (.bool true)], args := [d1, d2, d3, d4] }
  | _ => none }
def writesInPlaceRow : OpenClaim := { program := "ytehleeibgkpjmad", sum := "9aba494780ab20240146818175160a575e7d0b5eb3c26731cfe3e9abe8254b3f", func := "slipsheet/slipsheetlaw.WritesInPlace", spec := "writesInPlace", unfollowed := true, recurses := true, apart := false }
def WritesInPlaceSaid : Prop := writesInPlaceRow.holds Try.pinned (OpenSpec.ofChange writesInPlaceSpec)

/-- ITS FALSE NEIGHBOUR: 'it returns false'. Refute it at one input. -/
def writesInPlaceWrong : ChangeSpec := { name := "writesInPlace", fn := fun _ => fun
  | [d1, d2, d3, d4] => { results := [.lit (.bool false)], args := [d1, d2, d3, d4] }
  | _ => none }
def WritesInPlaceWrongFalsely : Prop := writesInPlaceRow.holds Try.pinned (OpenSpec.ofChange writesInPlaceWrong)

/-- 'slipsheetlaw.WritesOrder': WHATEVER THE INPUT: true; the input reads as it did. -/
def writesOrderSpec : ChangeSpec := { name := "writesOrder", fn := fun _ => fun
  | [d1, d2, d3, d4, d5] => { results := [.lit (.bool true)], args := [d1, d2, d3, d4, d5] }
  | _ => none }
def writesOrderRow : OpenClaim := { program := "ytehleeibgkpjmad", sum := "9aba494780ab20240146818175160a575e7d0b5eb3c26731cfe3e9abe8254b3f", func := "slipsheet/slipsheetlaw.WritesOrder", spec := "writesOrder", inPlace := ["internal/abi.NoEscape", "internal/bytealg.MakeNoZero"], unfollowed := true, recurses := true, apart := false }
def WritesOrderSaid : Prop := writesOrderRow.holds Try.pinned (OpenSpec.ofChange writesOrderSpec)

/-- ITS FALSE NEIGHBOUR: 'it returns false'. Refute it at one input. -/
def writesOrderWrong : ChangeSpec := { name := "writesOrder", fn := fun _ => fun
  | [d1, d2, d3, d4, d5] => { results := [.lit (.bool false)], args := [d1, d2, d3, d4, d5] }
  | _ => none }
def WritesOrderWrongFalsely : Prop := writesOrderRow.holds Try.pinned (OpenSpec.ofChange writesOrderWrong)

/-- 'slipsheetlaw.SnapsTells': WHATEVER THE INPUT: true; the input reads as it did. -/
def snapsTellsSpec : ChangeSpec := { name := "snapsTells", fn := fun _ => fun
  | [d1, d2] => { results := [.lit (.bool true)], args := [d1, d2] }
  | _ => none }
def snapsTellsRow : OpenClaim := { program := "ytehleeibgkpjmad", sum := "9aba494780ab20240146818175160a575e7d0b5eb3c26731cfe3e9abe8254b3f", func := "slipsheet/slipsheetlaw.SnapsTells", spec := "snapsTells", inPlace := ["internal/bytealg.abigen_runtime_cmpstring", "slices.overlaps[slipsheet/api.Snap]"], unfollowed := true, recurses := true, apart := false }
def SnapsTellsSaid : Prop := snapsTellsRow.holds Try.pinned (OpenSpec.ofChange snapsTellsSpec)

/-- ITS FALSE NEIGHBOUR: 'it returns false'. Refute it at one input. -/
def snapsTellsWrong : ChangeSpec := { name := "snapsTells", fn := fun _ => fun
  | [d1, d2] => { results := [.lit (.bool false)], args := [d1, d2] }
  | _ => none }
def SnapsTellsWrongFalsely : Prop := snapsTellsRow.holds Try.pinned (OpenSpec.ofChange snapsTellsWrong)

/- THE SECOND FORM. 'bulk': how many values and letters a reading holds, each counted each time it is reached (what is shared counts as often as it is met; a slice's spare places count too). A statement '..UptoSaid' is the law's where the arguments, and the package variables that the reading takes, are together of bulk at most 1048576: NARROWER than '..Said'. Prove '..Said' where nothing that the law and all that it calls make is longer than what came in: it says more and counts as full. Else prove '..UptoSaid'. A law counts once. -/
mutual
def uptoBulk {H : Type} : DataW H → Nat
  | .lit (.string bytes) => bytes.length + 1
  | .lit _ => 1
  | .nil => 1
  | .ptr d => uptoBulk d + 1
  | .slice elems spare => uptoBulkAll elems + uptoBulkAll spare + 1
  | .agg parts => uptoBulkAll parts + 1
  | .iface _ d => uptoBulk d + 1
  | .map entries => uptoBulkEntries entries + 1
  | .held _ => 1
def uptoBulkAll {H : Type} : List (DataW H) → Nat
  | [] => 0
  | d :: r => uptoBulk d + uptoBulkAll r
def uptoBulkEntries {H : Type} : List (Lit × DataW H) → Nat
  | [] => 0
  | x :: r => uptoBulkEntry x + uptoBulkEntries r
def uptoBulkEntry {H : Type} : Lit × DataW H → Nat
  | (.string bytes, d) => bytes.length + uptoBulk d + 1
  | (_, d) => uptoBulk d + 1
 end
def uptoSmall : (H : Type) → List (DataW H) → Bool := fun _ ds => decide (uptoBulkAll ds ≤ 1048576)
def OpenSpec.upto (s : _root_.Go.ChangeSpec) : _root_.Go.OpenSpec := { _root_.Go.OpenSpec.ofChange s with cond := some uptoSmall }

/-- 'slipsheetlaw.WritesRight', WHERE WHAT IT READS IS OF BULK AT MOST 1048576: true; the input reads as it did. -/
def writesRightUptoRow : OpenClaim := { program := "ytehleeibgkpjmad", sum := "9aba494780ab20240146818175160a575e7d0b5eb3c26731cfe3e9abe8254b3f", func := "slipsheet/slipsheetlaw.WritesRight", spec := "writesRight", unfollowed := true, recurses := true, apart := false, narrowed := true }
def WritesRightUptoSaid : Prop := writesRightUptoRow.holds Try.pinned (OpenSpec.upto writesRightSpec)

/-- 'slipsheetlaw.WritesTrue', WHERE WHAT IT READS IS OF BULK AT MOST 1048576: true; the input reads as it did. -/
def writesTrueUptoRow : OpenClaim := { program := "ytehleeibgkpjmad", sum := "9aba494780ab20240146818175160a575e7d0b5eb3c26731cfe3e9abe8254b3f", func := "slipsheet/slipsheetlaw.WritesTrue", spec := "writesTrue", inPlace := ["internal/abi.NoEscape", "internal/bytealg.MakeNoZero"], unfollowed := true, recurses := true, apart := false, narrowed := true }
def WritesTrueUptoSaid : Prop := writesTrueUptoRow.holds Try.pinned (OpenSpec.upto writesTrueSpec)

/-- 'slipsheetlaw.WritesPast', WHERE WHAT IT READS IS OF BULK AT MOST 1048576: true; the input reads as it did. -/
def writesPastUptoRow : OpenClaim := { program := "ytehleeibgkpjmad", sum := "9aba494780ab20240146818175160a575e7d0b5eb3c26731cfe3e9abe8254b3f", func := "slipsheet/slipsheetlaw.WritesPast", spec := "writesPast", inPlace := ["internal/abi.NoEscape", "internal/bytealg.MakeNoZero"], unfollowed := true, recurses := true, apart := false, narrowed := true }
def WritesPastUptoSaid : Prop := writesPastUptoRow.holds Try.pinned (OpenSpec.upto writesPastSpec)

/-- 'slipsheetlaw.WritesInPlace', WHERE WHAT IT READS IS OF BULK AT MOST 1048576: true; the input reads as it did. -/
def writesInPlaceUptoRow : OpenClaim := { program := "ytehleeibgkpjmad", sum := "9aba494780ab20240146818175160a575e7d0b5eb3c26731cfe3e9abe8254b3f", func := "slipsheet/slipsheetlaw.WritesInPlace", spec := "writesInPlace", unfollowed := true, recurses := true, apart := false, narrowed := true }
def WritesInPlaceUptoSaid : Prop := writesInPlaceUptoRow.holds Try.pinned (OpenSpec.upto writesInPlaceSpec)

/-- 'slipsheetlaw.WritesOrder', WHERE WHAT IT READS IS OF BULK AT MOST 1048576: true; the input reads as it did. -/
def writesOrderUptoRow : OpenClaim := { program := "ytehleeibgkpjmad", sum := "9aba494780ab20240146818175160a575e7d0b5eb3c26731cfe3e9abe8254b3f", func := "slipsheet/slipsheetlaw.WritesOrder", spec := "writesOrder", inPlace := ["internal/abi.NoEscape", "internal/bytealg.MakeNoZero"], unfollowed := true, recurses := true, apart := false, narrowed := true }
def WritesOrderUptoSaid : Prop := writesOrderUptoRow.holds Try.pinned (OpenSpec.upto writesOrderSpec)

/-- 'slipsheetlaw.SnapsTells', WHERE WHAT IT READS IS OF BULK AT MOST 1048576: true; the input reads as it did. -/
def snapsTellsUptoRow : OpenClaim := { program := "ytehleeibgkpjmad", sum := "9aba494780ab20240146818175160a575e7d0b5eb3c26731cfe3e9abe8254b3f", func := "slipsheet/slipsheetlaw.SnapsTells", spec := "snapsTells", inPlace := ["internal/bytealg.abigen_runtime_cmpstring", "slices.overlaps[slipsheet/api.Snap]"], unfollowed := true, recurses := true, apart := false, narrowed := true }
def SnapsTellsUptoSaid : Prop := snapsTellsUptoRow.holds Try.pinned (OpenSpec.upto snapsTellsSpec)

end Rows
end Go.Proofs.Ytehleeibgkpjmad
