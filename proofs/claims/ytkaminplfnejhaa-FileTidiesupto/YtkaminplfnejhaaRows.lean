/-
  No cell of these rows narrows 'for every input' (looked for: loops, veiled, ifaces, maps, wideKeys, modest, calm, conditions, laid).
  DERIVED. THE GIVEN ROWS OF THIS SEAT. 8 by the template 'for every input the law returns true; each argument reads behind the call as it read before'; 0 by the template 'total and deterministic' (their statements: YtkaminplfnejhaaTotals.lean).
  GIVEN WITH THE SEED: the statements are not yours to turn. If you find one false, say at which input.
  Laid BY PROGRAM, IN A SANDBOX (cutbox-rows.mjs): the forced cells as the released guide's own fill.sh prints them over the translation 8dca8c688c32ca49… (all of the seat's roots in one cut). By AI agents, Wed Nov 11 2026. No macro, syntax, notation, axiom, sorry.
-/
import Derived.Test.YtkaminplfnejhaaChecked
import GoSem.Claim
import GoSem.ClaimJoined
import GoSem.ClaimMapViews
import Derived.JoinedTies
import Derived.KernelRfl
namespace Go.Proofs.Ytkaminplfnejhaa
/- THE CELL 'sum', in the pinned program and in every row, IS THE sha256 OF THE DUMP (.gsa) THAT YtkaminplfnejhaaProg.lean LOADS. Nothing in Lean hashes anything: it is a label: what it is worth is what the hold of that sum in a sandbox is worth. -/
noncomputable def Try.pinned : Pinned := { name := "ytkaminplfnejhaa", sum := "8dca8c688c32ca496b282bec3a2ad80423742c16995019ce448f3631eb897d24", checked := Try.checked }
namespace Rows
def none {H : Type} : Left H := { results := [], args := [] }

/-- 'deducelaw.WireVarints': WHATEVER THE INPUT: true; the input reads as it did. -/
def wireVarintsSpec : ChangeSpec := { name := "wireVarints", fn := fun _ => fun
  | [d1, d2, d3] => { results := [.lit (.bool true)], args := [d1, d2, d3] }
  | _ => none }
def wireVarintsRow : OpenClaim := { program := "ytkaminplfnejhaa", sum := "8dca8c688c32ca496b282bec3a2ad80423742c16995019ce448f3631eb897d24", func := "deduce/deducelaw.WireVarints", spec := "wireVarints", apart := false }
def WireVarintsSaid : Prop := wireVarintsRow.holds Try.pinned (OpenSpec.ofChange wireVarintsSpec)

/-- ITS FALSE NEIGHBOUR: 'it returns false'. Refute it at one input. -/
def wireVarintsWrong : ChangeSpec := { name := "wireVarints", fn := fun _ => fun
  | [d1, d2, d3] => { results := [.lit (.bool false)], args := [d1, d2, d3] }
  | _ => none }
def WireVarintsWrongFalsely : Prop := wireVarintsRow.holds Try.pinned (OpenSpec.ofChange wireVarintsWrong)

/-- 'deducelaw.WireFolds': WHATEVER THE INPUT: true; the input reads as it did. -/
def wireFoldsSpec : ChangeSpec := { name := "wireFolds", fn := fun _ => fun
  | [d] => { results := [.lit (.bool true)], args := [d] }
  | _ => none }
def wireFoldsRow : OpenClaim := { program := "ytkaminplfnejhaa", sum := "8dca8c688c32ca496b282bec3a2ad80423742c16995019ce448f3631eb897d24", func := "deduce/deducelaw.WireFolds", spec := "wireFolds", apart := false }
def WireFoldsSaid : Prop := wireFoldsRow.holds Try.pinned (OpenSpec.ofChange wireFoldsSpec)

/-- ITS FALSE NEIGHBOUR: 'it returns false'. Refute it at one input. -/
def wireFoldsWrong : ChangeSpec := { name := "wireFolds", fn := fun _ => fun
  | [d] => { results := [.lit (.bool false)], args := [d] }
  | _ => none }
def WireFoldsWrongFalsely : Prop := wireFoldsRow.holds Try.pinned (OpenSpec.ofChange wireFoldsWrong)

/-- 'deducelaw.WordsBuilds': WHATEVER THE INPUT: true; the input reads as it did. -/
def wordsBuildsSpec : ChangeSpec := { name := "wordsBuilds", fn := fun _ => fun
  | [d] => { results := [.lit (.bool true)], args := [d] }
  | _ => none }
def wordsBuildsRow : OpenClaim := { program := "ytkaminplfnejhaa", sum := "8dca8c688c32ca496b282bec3a2ad80423742c16995019ce448f3631eb897d24", func := "deduce/deducelaw.WordsBuilds", spec := "wordsBuilds", apart := false }
def WordsBuildsSaid : Prop := wordsBuildsRow.holds Try.pinned (OpenSpec.ofChange wordsBuildsSpec)

/-- ITS FALSE NEIGHBOUR: 'it returns false'. Refute it at one input. -/
def wordsBuildsWrong : ChangeSpec := { name := "wordsBuilds", fn := fun _ => fun
  | [d] => { results := [.lit (.bool false)], args := [d] }
  | _ => none }
def WordsBuildsWrongFalsely : Prop := wordsBuildsRow.holds Try.pinned (OpenSpec.ofChange wordsBuildsWrong)

/-- 'deducelaw.WordsOpens': WHATEVER THE INPUT: true; the input reads as it did. -/
def wordsOpensSpec : ChangeSpec := { name := "wordsOpens", fn := fun _ => fun
  | [d1, d2] => { results := [.lit (.bool true)], args := [d1, d2] }
  | _ => none }
def wordsOpensRow : OpenClaim := { program := "ytkaminplfnejhaa", sum := "8dca8c688c32ca496b282bec3a2ad80423742c16995019ce448f3631eb897d24", func := "deduce/deducelaw.WordsOpens", spec := "wordsOpens", apart := false }
def WordsOpensSaid : Prop := wordsOpensRow.holds Try.pinned (OpenSpec.ofChange wordsOpensSpec)

/-- ITS FALSE NEIGHBOUR: 'it returns false'. Refute it at one input. -/
def wordsOpensWrong : ChangeSpec := { name := "wordsOpens", fn := fun _ => fun
  | [d1, d2] => { results := [.lit (.bool false)], args := [d1, d2] }
  | _ => none }
def WordsOpensWrongFalsely : Prop := wordsOpensRow.holds Try.pinned (OpenSpec.ofChange wordsOpensWrong)

/-- 'deducelaw.WordsBack': WHATEVER THE INPUT: true; the input reads as it did. -/
def wordsBackSpec : ChangeSpec := { name := "wordsBack", fn := fun _ => fun
  | [d1, d2] => { results := [.lit (.bool true)], args := [d1, d2] }
  | _ => none }
def wordsBackRow : OpenClaim := { program := "ytkaminplfnejhaa", sum := "8dca8c688c32ca496b282bec3a2ad80423742c16995019ce448f3631eb897d24", func := "deduce/deducelaw.WordsBack", spec := "wordsBack", apart := false }
def WordsBackSaid : Prop := wordsBackRow.holds Try.pinned (OpenSpec.ofChange wordsBackSpec)

/-- ITS FALSE NEIGHBOUR: 'it returns false'. Refute it at one input. -/
def wordsBackWrong : ChangeSpec := { name := "wordsBack", fn := fun _ => fun
  | [d1, d2] => { results := [.lit (.bool false)], args := [d1, d2] }
  | _ => none }
def WordsBackWrongFalsely : Prop := wordsBackRow.holds Try.pinned (OpenSpec.ofChange wordsBackWrong)

/-- 'deducelaw.WordsFinds': WHATEVER THE INPUT: true; the input reads as it did. -/
def wordsFindsSpec : ChangeSpec := { name := "wordsFinds", fn := fun _ => fun
  | [d1, d2] => { results := [.lit (.bool true)], args := [d1, d2] }
  | _ => none }
def wordsFindsRow : OpenClaim := { program := "ytkaminplfnejhaa", sum := "8dca8c688c32ca496b282bec3a2ad80423742c16995019ce448f3631eb897d24", func := "deduce/deducelaw.WordsFinds", spec := "wordsFinds", apart := false }
def WordsFindsSaid : Prop := wordsFindsRow.holds Try.pinned (OpenSpec.ofChange wordsFindsSpec)

/-- ITS FALSE NEIGHBOUR: 'it returns false'. Refute it at one input. -/
def wordsFindsWrong : ChangeSpec := { name := "wordsFinds", fn := fun _ => fun
  | [d1, d2] => { results := [.lit (.bool false)], args := [d1, d2] }
  | _ => none }
def WordsFindsWrongFalsely : Prop := wordsFindsRow.holds Try.pinned (OpenSpec.ofChange wordsFindsWrong)

/-- 'deducelaw.FileNames': WHATEVER THE INPUT: true; the input reads as it did. -/
def fileNamesSpec : ChangeSpec := { name := "fileNames", fn := fun _ => fun
  | [d] => { results := [.lit (.bool true)], args := [d] }
  | _ => none }
def fileNamesRow : OpenClaim := { program := "ytkaminplfnejhaa", sum := "8dca8c688c32ca496b282bec3a2ad80423742c16995019ce448f3631eb897d24", func := "deduce/deducelaw.FileNames", spec := "fileNames", unfollowed := true, recurses := true, apart := false }
def FileNamesSaid : Prop := fileNamesRow.holds Try.pinned (OpenSpec.ofChange fileNamesSpec)

/-- ITS FALSE NEIGHBOUR: 'it returns false'. Refute it at one input. -/
def fileNamesWrong : ChangeSpec := { name := "fileNames", fn := fun _ => fun
  | [d] => { results := [.lit (.bool false)], args := [d] }
  | _ => none }
def FileNamesWrongFalsely : Prop := fileNamesRow.holds Try.pinned (OpenSpec.ofChange fileNamesWrong)

/-- 'deducelaw.FileTidies': WHATEVER THE INPUT: true; the input reads as it did. -/
def fileTidiesSpec : ChangeSpec := { name := "fileTidies", fn := fun _ => fun
  | [d] => { results := [.lit (.bool true)], args := [d] }
  | _ => none }
def fileTidiesRow : OpenClaim := { program := "ytkaminplfnejhaa", sum := "8dca8c688c32ca496b282bec3a2ad80423742c16995019ce448f3631eb897d24", func := "deduce/deducelaw.FileTidies", spec := "fileTidies", unfollowed := true, recurses := true, apart := false }
def FileTidiesSaid : Prop := fileTidiesRow.holds Try.pinned (OpenSpec.ofChange fileTidiesSpec)

/-- ITS FALSE NEIGHBOUR: 'it returns false'. Refute it at one input. -/
def fileTidiesWrong : ChangeSpec := { name := "fileTidies", fn := fun _ => fun
  | [d] => { results := [.lit (.bool false)], args := [d] }
  | _ => none }
def FileTidiesWrongFalsely : Prop := fileTidiesRow.holds Try.pinned (OpenSpec.ofChange fileTidiesWrong)

/- THE SECOND FORM. 'bulk': how many values and letters a reading holds, each counted each time it is reached (what is shared counts as often as it is met; a slice's spare places count too). A statement '..UptoSaid' is the law's where the arguments, and the package variables that the reading takes, are together of bulk at most 1048576: NARROWER than '..Said'. Prove '..Said' where nothing that the law and all that it calls make is longer than what came in: it says more and counts as full. Else prove '..UptoSaid'. A law counts once. -/
mutual
def uptoBulk {H : Type} : DataW H → Nat
  | .lit (.string bytes) => bytes.length + 1
  | .lit _ => 1
  | .nil => 1
  | .ptr d => uptoBulk d + 1
  | .slice elems spare => uptoBulkAll elems + uptoBulkAll spare + 1
  | .agg parts => uptoBulkAll parts + 1
  | .iface _ d => uptoBulk d + 1
  | .map entries => uptoBulkEntries entries + 1
  | .held _ => 1
def uptoBulkAll {H : Type} : List (DataW H) → Nat
  | [] => 0
  | d :: r => uptoBulk d + uptoBulkAll r
def uptoBulkEntries {H : Type} : List (Lit × DataW H) → Nat
  | [] => 0
  | x :: r => uptoBulkEntry x + uptoBulkEntries r
def uptoBulkEntry {H : Type} : Lit × DataW H → Nat
  | (.string bytes, d) => bytes.length + uptoBulk d + 1
  | (_, d) => uptoBulk d + 1
 end
def uptoSmall : (H : Type) → List (DataW H) → Bool := fun _ ds => decide (uptoBulkAll ds ≤ 1048576)
def OpenSpec.upto (s : _root_.Go.ChangeSpec) : _root_.Go.OpenSpec := { _root_.Go.OpenSpec.ofChange s with cond := some uptoSmall }

/-- 'deducelaw.WireVarints', WHERE WHAT IT READS IS OF BULK AT MOST 1048576: true; the input reads as it did. -/
def wireVarintsUptoRow : OpenClaim := { program := "ytkaminplfnejhaa", sum := "8dca8c688c32ca496b282bec3a2ad80423742c16995019ce448f3631eb897d24", func := "deduce/deducelaw.WireVarints", spec := "wireVarints", apart := false, narrowed := true }
def WireVarintsUptoSaid : Prop := wireVarintsUptoRow.holds Try.pinned (OpenSpec.upto wireVarintsSpec)

/-- 'deducelaw.WireFolds', WHERE WHAT IT READS IS OF BULK AT MOST 1048576: true; the input reads as it did. -/
def wireFoldsUptoRow : OpenClaim := { program := "ytkaminplfnejhaa", sum := "8dca8c688c32ca496b282bec3a2ad80423742c16995019ce448f3631eb897d24", func := "deduce/deducelaw.WireFolds", spec := "wireFolds", apart := false, narrowed := true }
def WireFoldsUptoSaid : Prop := wireFoldsUptoRow.holds Try.pinned (OpenSpec.upto wireFoldsSpec)

/-- 'deducelaw.WordsBuilds', WHERE WHAT IT READS IS OF BULK AT MOST 1048576: true; the input reads as it did. -/
def wordsBuildsUptoRow : OpenClaim := { program := "ytkaminplfnejhaa", sum := "8dca8c688c32ca496b282bec3a2ad80423742c16995019ce448f3631eb897d24", func := "deduce/deducelaw.WordsBuilds", spec := "wordsBuilds", apart := false, narrowed := true }
def WordsBuildsUptoSaid : Prop := wordsBuildsUptoRow.holds Try.pinned (OpenSpec.upto wordsBuildsSpec)

/-- 'deducelaw.WordsOpens', WHERE WHAT IT READS IS OF BULK AT MOST 1048576: true; the input reads as it did. -/
def wordsOpensUptoRow : OpenClaim := { program := "ytkaminplfnejhaa", sum := "8dca8c688c32ca496b282bec3a2ad80423742c16995019ce448f3631eb897d24", func := "deduce/deducelaw.WordsOpens", spec := "wordsOpens", apart := false, narrowed := true }
def WordsOpensUptoSaid : Prop := wordsOpensUptoRow.holds Try.pinned (OpenSpec.upto wordsOpensSpec)

/-- 'deducelaw.WordsBack', WHERE WHAT IT READS IS OF BULK AT MOST 1048576: true; the input reads as it did. -/
def wordsBackUptoRow : OpenClaim := { program := "ytkaminplfnejhaa", sum := "8dca8c688c32ca496b282bec3a2ad80423742c16995019ce448f3631eb897d24", func := "deduce/deducelaw.WordsBack", spec := "wordsBack", apart := false, narrowed := true }
def WordsBackUptoSaid : Prop := wordsBackUptoRow.holds Try.pinned (OpenSpec.upto wordsBackSpec)

/-- 'deducelaw.WordsFinds', WHERE WHAT IT READS IS OF BULK AT MOST 1048576: true; the input reads as it did. -/
def wordsFindsUptoRow : OpenClaim := { program := "ytkaminplfnejhaa", sum := "8dca8c688c32ca496b282bec3a2ad80423742c16995019ce448f3631eb897d24", func := "deduce/deducelaw.WordsFinds", spec := "wordsFinds", apart := false, narrowed := true }
def WordsFindsUptoSaid : Prop := wordsFindsUptoRow.holds Try.pinned (OpenSpec.upto wordsFindsSpec)

/-- 'deducelaw.FileNames', WHERE WHAT IT READS IS OF BULK AT MOST 1048576: true; the input reads as it did. -/
def fileNamesUptoRow : OpenClaim := { program := "ytkaminplfnejhaa", sum := "8dca8c688c32ca496b282bec3a2ad80423742c16995019ce448f3631eb897d24", func := "deduce/deducelaw.FileNames", spec := "fileNames", unfollowed := true, recurses := true, apart := false, narrowed := true }
def FileNamesUptoSaid : Prop := fileNamesUptoRow.holds Try.pinned (OpenSpec.upto fileNamesSpec)

/-- 'deducelaw.FileTidies', WHERE WHAT IT READS IS OF BULK AT MOST 1048576: true; the input reads as it did. -/
def fileTidiesUptoRow : OpenClaim := { program := "ytkaminplfnejhaa", sum := "8dca8c688c32ca496b282bec3a2ad80423742c16995019ce448f3631eb897d24", func := "deduce/deducelaw.FileTidies", spec := "fileTidies", unfollowed := true, recurses := true, apart := false, narrowed := true }
def FileTidiesUptoSaid : Prop := fileTidiesUptoRow.holds Try.pinned (OpenSpec.upto fileTidiesSpec)

end Rows
end Go.Proofs.Ytkaminplfnejhaa
