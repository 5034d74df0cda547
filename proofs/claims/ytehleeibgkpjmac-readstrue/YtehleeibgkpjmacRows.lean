/-
  No cell of these rows narrows 'for every input' (looked for: loops, veiled, ifaces, maps, wideKeys, modest, calm, conditions, laid).
  DERIVED. THE GIVEN ROWS OF THIS SEAT. 6 by the template 'for every input the law returns true; each argument reads behind the call as it read before'; 0 by the template 'total and deterministic' (their statements: YtehleeibgkpjmacTotals.lean).
  GIVEN WITH THE SEED: the statements are not yours to turn. If you find one false, say at which input.
  Laid BY PROGRAM, IN A SANDBOX (cutbox-rows.mjs): the forced cells as the released guide's own fill.sh prints them over the translation 36bab71e26cfc574… (all of the seat's roots in one cut). By AI agents, Wed Nov 11 2026. No macro, syntax, notation, axiom, sorry.
-/
import Derived.Test.YtehleeibgkpjmacChecked
import GoSem.Claim
import GoSem.ClaimJoined
import GoSem.ClaimMapViews
import Derived.JoinedTies
import Derived.KernelRfl
namespace Go.Proofs.Ytehleeibgkpjmac
/- THE CELL 'sum', in the pinned program and in every row, IS THE sha256 OF THE DUMP (.gsa) THAT YtehleeibgkpjmacProg.lean LOADS. Nothing in Lean hashes anything: it is a label: what it is worth is what the hold of that sum in a sandbox is worth. -/
noncomputable def Try.pinned : Pinned := { name := "ytehleeibgkpjmac", sum := "36bab71e26cfc574eecae5a01cffd3558ecacc9393a78ab66331628db61687e4", checked := Try.checked }
namespace Rows
def none {H : Type} : Left H := { results := [], args := [] }

/-- 'slipsheetlaw.TreeTrue': WHATEVER THE INPUT: true; the input reads as it did. -/
def treeTrueSpec : ChangeSpec := { name := "treeTrue", fn := fun _ => fun
  | [d1, d2] => { results := [.lit (.bool true)], args := [d1, d2] }
  | _ => none }
def treeTrueRow : OpenClaim := { program := "ytehleeibgkpjmac", sum := "36bab71e26cfc574eecae5a01cffd3558ecacc9393a78ab66331628db61687e4", func := "slipsheet/slipsheetlaw.TreeTrue", spec := "treeTrue", unfollowed := true, recurses := true, apart := false }
def TreeTrueSaid : Prop := treeTrueRow.holds Try.pinned (OpenSpec.ofChange treeTrueSpec)

/-- ITS FALSE NEIGHBOUR: 'it returns false'. Refute it at one input. -/
def treeTrueWrong : ChangeSpec := { name := "treeTrue", fn := fun _ => fun
  | [d1, d2] => { results := [.lit (.bool false)], args := [d1, d2] }
  | _ => none }
def TreeTrueWrongFalsely : Prop := treeTrueRow.holds Try.pinned (OpenSpec.ofChange treeTrueWrong)

/-- 'slipsheetlaw.ReadsTells': WHATEVER THE INPUT: true; the input reads as it did. -/
def readsTellsSpec : ChangeSpec := { name := "readsTells", fn := fun _ => fun
  | [d1, d2, d3] => { results := [.lit (.bool true)], args := [d1, d2, d3] }
  | _ => none }
def readsTellsRow : OpenClaim := { program := "ytehleeibgkpjmac", sum := "36bab71e26cfc574eecae5a01cffd3558ecacc9393a78ab66331628db61687e4", func := "slipsheet/slipsheetlaw.ReadsTells", spec := "readsTells", inPlace := ["internal/abi.NoEscape", "internal/bytealg.MakeNoZero"], unfollowed := true, recurses := true, apart := false }
def ReadsTellsSaid : Prop := readsTellsRow.holds Try.pinned (OpenSpec.ofChange readsTellsSpec)

/-- ITS FALSE NEIGHBOUR: 'it returns false'. Refute it at one input. -/
def readsTellsWrong : ChangeSpec := { name := "readsTells", fn := fun _ => fun
  | [d1, d2, d3] => { results := [.lit (.bool false)], args := [d1, d2, d3] }
  | _ => none }
def ReadsTellsWrongFalsely : Prop := readsTellsRow.holds Try.pinned (OpenSpec.ofChange readsTellsWrong)

/-- 'slipsheetlaw.ReadsTrue': WHATEVER THE INPUT: true; the input reads as it did. -/
def readsTrueSpec : ChangeSpec := { name := "readsTrue", fn := fun _ => fun
  | [d1, d2] => { results := [.lit (.bool true)], args := [d1, d2] }
  | _ => none }
def readsTrueRow : OpenClaim := { program := "ytehleeibgkpjmac", sum := "36bab71e26cfc574eecae5a01cffd3558ecacc9393a78ab66331628db61687e4", func := "slipsheet/slipsheetlaw.ReadsTrue", spec := "readsTrue", inPlace := ["internal/abi.NoEscape", "internal/bytealg.MakeNoZero"], unfollowed := true, recurses := true, apart := false }
def ReadsTrueSaid : Prop := readsTrueRow.holds Try.pinned (OpenSpec.ofChange readsTrueSpec)

/-- ITS FALSE NEIGHBOUR: 'it returns false'. Refute it at one input. -/
def readsTrueWrong : ChangeSpec := { name := "readsTrue", fn := fun _ => fun
  | [d1, d2] => { results := [.lit (.bool false)], args := [d1, d2] }
  | _ => none }
def ReadsTrueWrongFalsely : Prop := readsTrueRow.holds Try.pinned (OpenSpec.ofChange readsTrueWrong)

/-- 'slipsheetlaw.WritesWrites': WHATEVER THE INPUT: true; the input reads as it did. -/
def writesWritesSpec : ChangeSpec := { name := "writesWrites", fn := fun _ => fun
  | [d1, d2, d3] => { results := [.lit (.bool true)], args := [d1, d2, d3] }
  | _ => none }
def writesWritesRow : OpenClaim := { program := "ytehleeibgkpjmac", sum := "36bab71e26cfc574eecae5a01cffd3558ecacc9393a78ab66331628db61687e4", func := "slipsheet/slipsheetlaw.WritesWrites", spec := "writesWrites", unfollowed := true, recurses := true, apart := false }
def WritesWritesSaid : Prop := writesWritesRow.holds Try.pinned (OpenSpec.ofChange writesWritesSpec)

/-- ITS FALSE NEIGHBOUR: 'it returns false'. Refute it at one input. -/
def writesWritesWrong : ChangeSpec := { name := "writesWrites", fn := fun _ => fun
  | [d1, d2, d3] => { results := [.lit (.bool false)], args := [d1, d2, d3] }
  | _ => none }
def WritesWritesWrongFalsely : Prop := writesWritesRow.holds Try.pinned (OpenSpec.ofChange writesWritesWrong)

/-- 'slipsheetlaw.WritesSets': WHATEVER THE INPUT: true; the input reads as it did. -/
def writesSetsSpec : ChangeSpec := { name := "writesSets", fn := fun _ => fun
  | [d1, d2] => { results := [.lit (.bool true)], args := [d1, d2] }
  | _ => none }
def writesSetsRow : OpenClaim := { program := "ytehleeibgkpjmac", sum := "36bab71e26cfc574eecae5a01cffd3558ecacc9393a78ab66331628db61687e4", func := "slipsheet/slipsheetlaw.WritesSets", spec := "writesSets", unfollowed := true, recurses := true, apart := false }
def WritesSetsSaid : Prop := writesSetsRow.holds Try.pinned (OpenSpec.ofChange writesSetsSpec)

/-- ITS FALSE NEIGHBOUR: 'it returns false'. Refute it at one input. -/
def writesSetsWrong : ChangeSpec := { name := "writesSets", fn := fun _ => fun
  | [d1, d2] => { results := [.lit (.bool false)], args := [d1, d2] }
  | _ => none }
def WritesSetsWrongFalsely : Prop := writesSetsRow.holds Try.pinned (OpenSpec.ofChange writesSetsWrong)

/-- 'slipsheetlaw.WritesResizes': WHATEVER THE INPUT: true; the input reads as it did. -/
def writesResizesSpec : ChangeSpec := { name := "writesResizes", fn := fun _ => fun
  | [d1, d2] => { results := [.lit (.bool true)], args := [d1, d2] }
  | _ => none }
def writesResizesRow : OpenClaim := { program := "ytehleeibgkpjmac", sum := "36bab71e26cfc574eecae5a01cffd3558ecacc9393a78ab66331628db61687e4", func := "slipsheet/slipsheetlaw.WritesResizes", spec := "writesResizes", unfollowed := true, recurses := true, apart := false }
def WritesResizesSaid : Prop := writesResizesRow.holds Try.pinned (OpenSpec.ofChange writesResizesSpec)

/-- ITS FALSE NEIGHBOUR: 'it returns false'. Refute it at one input. -/
def writesResizesWrong : ChangeSpec := { name := "writesResizes", fn := fun _ => fun
  | [d1, d2] => { results := [.lit (.bool false)], args := [d1, d2] }
  | _ => none }
def WritesResizesWrongFalsely : Prop := writesResizesRow.holds Try.pinned (OpenSpec.ofChange writesResizesWrong)

/- THE SECOND FORM. 'bulk': how many values and letters a reading holds, each counted each time it is reached (what is shared counts as often as it is met; a slice's spare places count too). A statement '..UptoSaid' is the law's where the arguments, and the package variables that the reading takes, are together of bulk at most 1048576: NARROWER than '..Said'. Prove '..Said' where nothing that the law and all that it calls make is longer than what came in: it says more and counts as full. Else prove '..UptoSaid'. A law counts once. -/
mutual
def uptoBulk {H : Type} : DataW H → Nat
  | .lit (.string bytes) => bytes.length + 1
  | .lit _ => 1
  | .nil => 1
  | .ptr d => uptoBulk d + 1
  | .slice elems spare => uptoBulkAll elems + uptoBulkAll spare + 1
  | .agg parts => uptoBulkAll parts + 1
  | .iface _ d => uptoBulk d + 1
  | .map entries => uptoBulkEntries entries + 1
  | .held _ => 1
def uptoBulkAll {H : Type} : List (DataW H) → Nat
  | [] => 0
  | d :: r => uptoBulk d + uptoBulkAll r
def uptoBulkEntries {H : Type} : List (Lit × DataW H) → Nat
  | [] => 0
  | x :: r => uptoBulkEntry x + uptoBulkEntries r
def uptoBulkEntry {H : Type} : Lit × DataW H → Nat
  | (.string bytes, d) => bytes.length + uptoBulk d + 1
  | (_, d) => uptoBulk d + 1
 end
def uptoSmall : (H : Type) → List (DataW H) → Bool := fun _ ds => decide (uptoBulkAll ds ≤ 1048576)
def OpenSpec.upto (s : _root_.Go.ChangeSpec) : _root_.Go.OpenSpec := { _root_.Go.OpenSpec.ofChange s with cond := some uptoSmall }

/-- 'slipsheetlaw.TreeTrue', WHERE WHAT IT READS IS OF BULK AT MOST 1048576: true; the input reads as it did. -/
def treeTrueUptoRow : OpenClaim := { program := "ytehleeibgkpjmac", sum := "36bab71e26cfc574eecae5a01cffd3558ecacc9393a78ab66331628db61687e4", func := "slipsheet/slipsheetlaw.TreeTrue", spec := "treeTrue", unfollowed := true, recurses := true, apart := false, narrowed := true }
def TreeTrueUptoSaid : Prop := treeTrueUptoRow.holds Try.pinned (OpenSpec.upto treeTrueSpec)

/-- 'slipsheetlaw.ReadsTells', WHERE WHAT IT READS IS OF BULK AT MOST 1048576: true; the input reads as it did. -/
def readsTellsUptoRow : OpenClaim := { program := "ytehleeibgkpjmac", sum := "36bab71e26cfc574eecae5a01cffd3558ecacc9393a78ab66331628db61687e4", func := "slipsheet/slipsheetlaw.ReadsTells", spec := "readsTells", inPlace := ["internal/abi.NoEscape", "internal/bytealg.MakeNoZero"], unfollowed := true, recurses := true, apart := false, narrowed := true }
def ReadsTellsUptoSaid : Prop := readsTellsUptoRow.holds Try.pinned (OpenSpec.upto readsTellsSpec)

/-- 'slipsheetlaw.ReadsTrue', WHERE WHAT IT READS IS OF BULK AT MOST 1048576: true; the input reads as it did. -/
def readsTrueUptoRow : OpenClaim := { program := "ytehleeibgkpjmac", sum := "36bab71e26cfc574eecae5a01cffd3558ecacc9393a78ab66331628db61687e4", func := "slipsheet/slipsheetlaw.ReadsTrue", spec := "readsTrue", inPlace := ["internal/abi.NoEscape", "internal/bytealg.MakeNoZero"], unfollowed := true, recurses := true, apart := false, narrowed := true }
def ReadsTrueUptoSaid : Prop := readsTrueUptoRow.holds Try.pinned (OpenSpec.upto readsTrueSpec)

/-- 'slipsheetlaw.WritesWrites', WHERE WHAT IT READS IS OF BULK AT MOST 1048576: true; the input reads as it did. -/
def writesWritesUptoRow : OpenClaim := { program := "ytehleeibgkpjmac", sum := "36bab71e26cfc574eecae5a01cffd3558ecacc9393a78ab66331628db61687e4", func := "slipsheet/slipsheetlaw.WritesWrites", spec := "writesWrites", unfollowed := true, recurses := true, apart := false, narrowed := true }
def WritesWritesUptoSaid : Prop := writesWritesUptoRow.holds Try.pinned (OpenSpec.upto writesWritesSpec)

/-- 'slipsheetlaw.WritesSets', WHERE WHAT IT READS IS OF BULK AT MOST 1048576: true; the input reads as it did. -/
def writesSetsUptoRow : OpenClaim := { program := "ytehleeibgkpjmac", sum := "36bab71e26cfc574eecae5a01cffd3558ecacc9393a78ab66331628db61687e4", func := "slipsheet/slipsheetlaw.WritesSets", spec := "writesSets", unfollowed := true, recurses := true, apart := false, narrowed := true }
def WritesSetsUptoSaid : Prop := writesSetsUptoRow.holds Try.pinned (OpenSpec.upto writesSetsSpec)

/-- 'slipsheetlaw.WritesResizes', WHERE WHAT IT READS IS OF BULK AT MOST 1048576: true; the input reads as it did. -/
def writesResizesUptoRow : OpenClaim := { program := "ytehleeibgkpjmac", sum := "36bab71e26cfc574eecae5a01cffd3558ecacc9393a78ab66331628db61687e4", func := "slipsheet/slipsheetlaw.WritesResizes", spec := "writesResizes", unfollowed := true, recurses := true, apart := false, narrowed := true }
def WritesResizesUptoSaid : Prop := writesResizesUptoRow.holds Try.pinned (OpenSpec.upto writesResizesSpec)

end Rows
end Go.Proofs.Ytehleeibgkpjmac
