/-
  NARROWER THAN 'FOR EVERY INPUT', by the rows' own cells (each row's printed sentence says how): FileDecodes: laid · FileBack: laid · FileTurned: laid · FileCut: laid.
  DERIVED. THE GIVEN ROWS OF THIS SEAT. 4 by the template 'for every input the law returns true; each argument reads behind the call as it read before'; 0 by the template 'total and deterministic' (their statements: YtnnldpccagajbaaGreatDoorTotals.lean).
  GIVEN WITH THE SEED: the statements are not yours to turn. If you find one false, say at which input.
  Laid BY PROGRAM, IN A SANDBOX (cutbox-rows.mjs): the forced cells as the released guide's own fill.sh prints them over the translation 48f37ddf28046b9a… (all of the seat's roots in one cut). By AI agents, Wed Nov 11 2026. No macro, syntax, notation, axiom, sorry.
-/
import Derived.Test.YtnnldpccagajbaaGreatDoorChecked
import GoSem.Claim
import GoSem.ClaimJoined
import GoSem.ClaimMapViews
import Derived.JoinedTies
import Derived.KernelRfl
namespace Go.Proofs.YtnnldpccagajbaaGreatDoor
/- THE CELL 'sum', in the pinned program and in every row, IS THE sha256 OF THE DUMP (.gsa) THAT YtnnldpccagajbaaGreatDoorProg.lean LOADS. Nothing in Lean hashes anything: it is a label: what it is worth is what the hold of that sum in a sandbox is worth. -/
noncomputable def Tryz.pinned : Pinned := { name := "ytnnldpccagajbaagreatdoor", sum := "48f37ddf28046b9ab69ebc232a86e0caa53474e21cdf956c1224c6e3bb18f237", checked := Tryz.checked }
namespace Rows
def none {H : Type} : Left H := { results := [], args := [] }

/- WHAT THE LISTED PACKAGE-LEVEL VARIABLES READ AS WHEN THE CALL BEGINS. Each datum BY PROGRAM (the guide's laid-datum.mjs) off the statement by which the dump's own 'gosem.cut.vars' lays the variable. In a bare row this is a premise. The card (YtnnldpccagajbaaGreatDoorCards.lean) ties it to the program's text. -/
def laid_deduce_wire_sumTable {H : Type} : DataW H := .agg [.lit (.int .u32 0), .lit (.int .u32 498536548), .lit (.int .u32 997073096), .lit (.int .u32 651767980), .lit (.int .u32 1994146192), .lit (.int .u32 1802195444), .lit (.int .u32 1303535960), .lit (.int .u32 1342533948), .lit (.int .u32 3988292384), .lit (.int .u32 4027552580), .lit (.int .u32 3604390888), .lit (.int .u32 3412177804), .lit (.int .u32 2607071920), .lit (.int .u32 2262029012), .lit (.int .u32 2685067896), .lit (.int .u32 3183342108)]

/-- 'deducelaw.FileDecodes': WHATEVER THE INPUT: true; the input reads as it did. -/
def fileDecodesSpec : ChangeSpec := { name := "fileDecodes", fn := fun _ => fun
  | [d] => { results := [.lit (.bool true)], args := [d] }
  | _ => none }
def fileDecodesRow : OpenClaim := { program := "ytnnldpccagajbaagreatdoor", sum := "48f37ddf28046b9ab69ebc232a86e0caa53474e21cdf956c1224c6e3bb18f237", func := "deduce/deducelaw.FileDecodes", spec := "fileDecodes", unfollowed := true, recurses := true, named := ["deduce/wire.sumTable"], apart := false, laid := [("deduce/wire.sumTable", laid_deduce_wire_sumTable)] }
def FileDecodesSaid : Prop := fileDecodesRow.holds Tryz.pinned (OpenSpec.ofChange fileDecodesSpec)

/-- ITS FALSE NEIGHBOUR: 'it returns false'. Refute it at one input. -/
def fileDecodesWrong : ChangeSpec := { name := "fileDecodes", fn := fun _ => fun
  | [d] => { results := [.lit (.bool false)], args := [d] }
  | _ => none }
def FileDecodesWrongFalsely : Prop := fileDecodesRow.holds Tryz.pinned (OpenSpec.ofChange fileDecodesWrong)

/-- 'deducelaw.FileBack': WHATEVER THE INPUT: true; the input reads as it did. -/
def fileBackSpec : ChangeSpec := { name := "fileBack", fn := fun _ => fun
  | [d1, d2] => { results := [.lit (.bool true)], args := [d1, d2] }
  | _ => none }
def fileBackRow : OpenClaim := { program := "ytnnldpccagajbaagreatdoor", sum := "48f37ddf28046b9ab69ebc232a86e0caa53474e21cdf956c1224c6e3bb18f237", func := "deduce/deducelaw.FileBack", spec := "fileBack", unfollowed := true, recurses := true, named := ["deduce/wire.sumTable"], apart := false, laid := [("deduce/wire.sumTable", laid_deduce_wire_sumTable)] }
def FileBackSaid : Prop := fileBackRow.holds Tryz.pinned (OpenSpec.ofChange fileBackSpec)

/-- ITS FALSE NEIGHBOUR: 'it returns false'. Refute it at one input. -/
def fileBackWrong : ChangeSpec := { name := "fileBack", fn := fun _ => fun
  | [d1, d2] => { results := [.lit (.bool false)], args := [d1, d2] }
  | _ => none }
def FileBackWrongFalsely : Prop := fileBackRow.holds Tryz.pinned (OpenSpec.ofChange fileBackWrong)

/-- 'deducelaw.FileTurned': WHATEVER THE INPUT: true; the input reads as it did. -/
def fileTurnedSpec : ChangeSpec := { name := "fileTurned", fn := fun _ => fun
  | [d1, d2, d3] => { results := [.lit (.bool true)], args := [d1, d2, d3] }
  | _ => none }
def fileTurnedRow : OpenClaim := { program := "ytnnldpccagajbaagreatdoor", sum := "48f37ddf28046b9ab69ebc232a86e0caa53474e21cdf956c1224c6e3bb18f237", func := "deduce/deducelaw.FileTurned", spec := "fileTurned", unfollowed := true, recurses := true, named := ["deduce/wire.sumTable"], apart := false, laid := [("deduce/wire.sumTable", laid_deduce_wire_sumTable)] }
def FileTurnedSaid : Prop := fileTurnedRow.holds Tryz.pinned (OpenSpec.ofChange fileTurnedSpec)

/-- ITS FALSE NEIGHBOUR: 'it returns false'. Refute it at one input. -/
def fileTurnedWrong : ChangeSpec := { name := "fileTurned", fn := fun _ => fun
  | [d1, d2, d3] => { results := [.lit (.bool false)], args := [d1, d2, d3] }
  | _ => none }
def FileTurnedWrongFalsely : Prop := fileTurnedRow.holds Tryz.pinned (OpenSpec.ofChange fileTurnedWrong)

/-- 'deducelaw.FileCut': WHATEVER THE INPUT: true; the input reads as it did. -/
def fileCutSpec : ChangeSpec := { name := "fileCut", fn := fun _ => fun
  | [d1, d2, d3] => { results := [.lit (.bool true)], args := [d1, d2, d3] }
  | _ => none }
def fileCutRow : OpenClaim := { program := "ytnnldpccagajbaagreatdoor", sum := "48f37ddf28046b9ab69ebc232a86e0caa53474e21cdf956c1224c6e3bb18f237", func := "deduce/deducelaw.FileCut", spec := "fileCut", unfollowed := true, recurses := true, named := ["deduce/wire.sumTable"], apart := false, laid := [("deduce/wire.sumTable", laid_deduce_wire_sumTable)] }
def FileCutSaid : Prop := fileCutRow.holds Tryz.pinned (OpenSpec.ofChange fileCutSpec)

/-- ITS FALSE NEIGHBOUR: 'it returns false'. Refute it at one input. -/
def fileCutWrong : ChangeSpec := { name := "fileCut", fn := fun _ => fun
  | [d1, d2, d3] => { results := [.lit (.bool false)], args := [d1, d2, d3] }
  | _ => none }
def FileCutWrongFalsely : Prop := fileCutRow.holds Tryz.pinned (OpenSpec.ofChange fileCutWrong)

/- THE SECOND FORM. 'bulk': how many values and letters a reading holds, each counted each time it is reached (what is shared counts as often as it is met; a slice's spare places count too). A statement '..UptoSaid' is the law's where the arguments, and the package variables that the reading takes, are together of bulk at most 1048576: NARROWER than '..Said'. Prove '..Said' where nothing that the law and all that it calls make is longer than what came in: it says more and counts as full. Else prove '..UptoSaid'. A law counts once. -/
mutual
def uptoBulk {H : Type} : DataW H → Nat
  | .lit (.string bytes) => bytes.length + 1
  | .lit _ => 1
  | .nil => 1
  | .ptr d => uptoBulk d + 1
  | .slice elems spare => uptoBulkAll elems + uptoBulkAll spare + 1
  | .agg parts => uptoBulkAll parts + 1
  | .iface _ d => uptoBulk d + 1
  | .map entries => uptoBulkEntries entries + 1
  | .held _ => 1
def uptoBulkAll {H : Type} : List (DataW H) → Nat
  | [] => 0
  | d :: r => uptoBulk d + uptoBulkAll r
def uptoBulkEntries {H : Type} : List (Lit × DataW H) → Nat
  | [] => 0
  | x :: r => uptoBulkEntry x + uptoBulkEntries r
def uptoBulkEntry {H : Type} : Lit × DataW H → Nat
  | (.string bytes, d) => bytes.length + uptoBulk d + 1
  | (_, d) => uptoBulk d + 1
 end
def uptoSmall : (H : Type) → List (DataW H) → Bool := fun _ ds => decide (uptoBulkAll ds ≤ 1048576)
def OpenSpec.upto (s : _root_.Go.ChangeSpec) : _root_.Go.OpenSpec := { _root_.Go.OpenSpec.ofChange s with cond := some uptoSmall }

/-- 'deducelaw.FileDecodes', WHERE WHAT IT READS IS OF BULK AT MOST 1048576: true; the input reads as it did. -/
def fileDecodesUptoRow : OpenClaim := { program := "ytnnldpccagajbaagreatdoor", sum := "48f37ddf28046b9ab69ebc232a86e0caa53474e21cdf956c1224c6e3bb18f237", func := "deduce/deducelaw.FileDecodes", spec := "fileDecodes", unfollowed := true, recurses := true, named := ["deduce/wire.sumTable"], apart := false, laid := [("deduce/wire.sumTable", laid_deduce_wire_sumTable)], narrowed := true }
def FileDecodesUptoSaid : Prop := fileDecodesUptoRow.holds Tryz.pinned (OpenSpec.upto fileDecodesSpec)

/-- 'deducelaw.FileBack', WHERE WHAT IT READS IS OF BULK AT MOST 1048576: true; the input reads as it did. -/
def fileBackUptoRow : OpenClaim := { program := "ytnnldpccagajbaagreatdoor", sum := "48f37ddf28046b9ab69ebc232a86e0caa53474e21cdf956c1224c6e3bb18f237", func := "deduce/deducelaw.FileBack", spec := "fileBack", unfollowed := true, recurses := true, named := ["deduce/wire.sumTable"], apart := false, laid := [("deduce/wire.sumTable", laid_deduce_wire_sumTable)], narrowed := true }
def FileBackUptoSaid : Prop := fileBackUptoRow.holds Tryz.pinned (OpenSpec.upto fileBackSpec)

/-- 'deducelaw.FileTurned', WHERE WHAT IT READS IS OF BULK AT MOST 1048576: true; the input reads as it did. -/
def fileTurnedUptoRow : OpenClaim := { program := "ytnnldpccagajbaagreatdoor", sum := "48f37ddf28046b9ab69ebc232a86e0caa53474e21cdf956c1224c6e3bb18f237", func := "deduce/deducelaw.FileTurned", spec := "fileTurned", unfollowed := true, recurses := true, named := ["deduce/wire.sumTable"], apart := false, laid := [("deduce/wire.sumTable", laid_deduce_wire_sumTable)], narrowed := true }
def FileTurnedUptoSaid : Prop := fileTurnedUptoRow.holds Tryz.pinned (OpenSpec.upto fileTurnedSpec)

/-- 'deducelaw.FileCut', WHERE WHAT IT READS IS OF BULK AT MOST 1048576: true; the input reads as it did. -/
def fileCutUptoRow : OpenClaim := { program := "ytnnldpccagajbaagreatdoor", sum := "48f37ddf28046b9ab69ebc232a86e0caa53474e21cdf956c1224c6e3bb18f237", func := "deduce/deducelaw.FileCut", spec := "fileCut", unfollowed := true, recurses := true, named := ["deduce/wire.sumTable"], apart := false, laid := [("deduce/wire.sumTable", laid_deduce_wire_sumTable)], narrowed := true }
def FileCutUptoSaid : Prop := fileCutUptoRow.holds Tryz.pinned (OpenSpec.upto fileCutSpec)

end Rows
end Go.Proofs.YtnnldpccagajbaaGreatDoor
