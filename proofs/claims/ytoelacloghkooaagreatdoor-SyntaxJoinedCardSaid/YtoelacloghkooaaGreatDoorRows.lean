/-
  NARROWER THAN 'FOR EVERY INPUT', by the rows' own cells (each row's printed sentence says how): SyntaxPrints: laid · SyntaxAgain: laid · SyntaxConstants: laid · SyntaxRemarks: laid · SyntaxJoined: laid.
  DERIVED. THE GIVEN ROWS OF THIS SEAT. 5 by the template 'for every input the law returns true; each argument reads behind the call as it read before'; 0 by the template 'total and deterministic' (their statements: YtoelacloghkooaaGreatDoorTotals.lean).
  GIVEN WITH THE SEED: the statements are not yours to turn. If you find one false, say at which input.
  Laid BY PROGRAM, IN A SANDBOX (cutbox-rows.mjs): the forced cells as the released guide's own fill.sh prints them over the translation 1a018a37c8122970… (all of the seat's roots in one cut). By AI agents, Wed Nov 11 2026. No macro, syntax, notation, axiom, sorry.
-/
import Derived.Test.YtoelacloghkooaaGreatDoorChecked
import GoSem.Claim
import GoSem.ClaimJoined
import GoSem.ClaimMapViews
import Derived.JoinedTies
import Derived.KernelRfl
namespace Go.Proofs.YtoelacloghkooaaGreatDoor
/- THE CELL 'sum', in the pinned program and in every row, IS THE sha256 OF THE DUMP (.gsa) THAT YtoelacloghkooaaGreatDoorProg.lean LOADS. Nothing in Lean hashes anything: it is a label: what it is worth is what the hold of that sum in a sandbox is worth. -/
noncomputable def Tryz.pinned : Pinned := { name := "ytoelacloghkooaagreatdoor", sum := "1a018a37c8122970aeb5f325f941ed3261bef03be4e064b3c7756c1773f027af", checked := Tryz.checked }
namespace Rows
def none {H : Type} : Left H := { results := [], args := [] }

/- WHAT THE LISTED PACKAGE-LEVEL VARIABLES READ AS WHEN THE CALL BEGINS. Each datum BY PROGRAM (the guide's laid-datum.mjs) off the statement by which the dump's own 'gosem.cut.vars' lays the variable. In a bare row this is a premise. The card (YtoelacloghkooaaGreatDoorCards.lean) ties it to the program's text. -/
def laid_errors_errorType {H : Type} : DataW H := .iface "internal/reflectlite.rtype" (.agg [.ptr (.lit (.string [101, 114, 114, 111, 114]))])
def laid_deduce_syntax_errLong {H : Type} : DataW H := .iface "*errors.errorString" (.ptr (.agg [.lit (.string [116, 111, 111, 32, 108, 111, 110, 103])]))
def laid_deduce_syntax_errText {H : Type} : DataW H := .iface "*errors.errorString" (.ptr (.agg [.lit (.string [110, 111, 116, 32, 119, 104, 97, 116, 32, 109, 97, 121, 32, 115, 116, 97, 110, 100, 32, 116, 104, 101, 114, 101])]))
def laid_deduce_syntax_errMany {H : Type} : DataW H := .iface "*errors.errorString" (.ptr (.agg [.lit (.string [116, 111, 111, 32, 109, 97, 110, 121])]))
def laid_deduce_syntax_signs {H : Type} : DataW H := .agg [.lit (.string []), .lit (.string []), .lit (.string [61]), .lit (.string [33, 61]), .lit (.string [60])]

/-- 'deducelaw.SyntaxPrints': WHATEVER THE INPUT: true; the input reads as it did. -/
def syntaxPrintsSpec : ChangeSpec := { name := "syntaxPrints", fn := fun _ => fun
  | [d] => { results := [.lit (.bool true)], args := [d] }
  | _ => none }
def syntaxPrintsRow : OpenClaim := { program := "ytoelacloghkooaagreatdoor", sum := "1a018a37c8122970aeb5f325f941ed3261bef03be4e064b3c7756c1773f027af", func := "deduce/deducelaw.SyntaxPrints", spec := "syntaxPrints", inPlace := ["internal/reflectlite.ValueOf", "(internal/reflectlite.Value).Type", "(internal/reflectlite.Value).IsNil", "internal/reflectlite.TypeOf", "(internal/reflectlite.Value).Elem", "(internal/reflectlite.Value).Set", "internal/abi.NoEscape", "sync/atomic.LoadUint32", "(*internal/sync.Mutex).Lock", "internal/race.Disable", "sync/atomic.CompareAndSwapInt32", "internal/race.Enable", "internal/race.Acquire", "(*internal/sync.Mutex).lockSlow", "internal/sync.runtime_canSpin", "internal/sync.runtime_doSpin", "internal/sync.throw", "internal/sync.runtime_nanotime", "internal/sync.runtime_SemacquireMutex", "sync/atomic.AddInt32", "(*internal/sync.Mutex).Unlock", "internal/race.ReleaseMerge", "(*internal/sync.Mutex).unlockSlow", "internal/sync.fatal", "internal/sync.runtime_Semrelease", "sync/atomic.StoreUint32"], unfollowed := true, recurses := true, named := ["deduce/syntax.errLong", "deduce/syntax.errText", "deduce/syntax.errMany", "deduce/syntax.signs", "errors.errorType"], apart := false, laid := [("errors.errorType", laid_errors_errorType), ("deduce/syntax.errLong", laid_deduce_syntax_errLong), ("deduce/syntax.errText", laid_deduce_syntax_errText), ("deduce/syntax.errMany", laid_deduce_syntax_errMany), ("deduce/syntax.signs", laid_deduce_syntax_signs)] }
def SyntaxPrintsSaid : Prop := syntaxPrintsRow.holds Tryz.pinned (OpenSpec.ofChange syntaxPrintsSpec)

/-- ITS FALSE NEIGHBOUR: 'it returns false'. Refute it at one input. -/
def syntaxPrintsWrong : ChangeSpec := { name := "syntaxPrints", fn := fun _ => fun
  | [d] => { results := [.lit (.bool false)], args := [d] }
  | _ => none }
def SyntaxPrintsWrongFalsely : Prop := syntaxPrintsRow.holds Tryz.pinned (OpenSpec.ofChange syntaxPrintsWrong)

/-- 'deducelaw.SyntaxAgain': WHATEVER THE INPUT: true; the input reads as it did. -/
def syntaxAgainSpec : ChangeSpec := { name := "syntaxAgain", fn := fun _ => fun
  | [d] => { results := [.lit (.bool true)], args := [d] }
  | _ => none }
def syntaxAgainRow : OpenClaim := { program := "ytoelacloghkooaagreatdoor", sum := "1a018a37c8122970aeb5f325f941ed3261bef03be4e064b3c7756c1773f027af", func := "deduce/deducelaw.SyntaxAgain", spec := "syntaxAgain", inPlace := ["internal/reflectlite.ValueOf", "(internal/reflectlite.Value).Type", "(internal/reflectlite.Value).IsNil", "internal/reflectlite.TypeOf", "(internal/reflectlite.Value).Elem", "(internal/reflectlite.Value).Set", "internal/abi.NoEscape", "sync/atomic.LoadUint32", "(*internal/sync.Mutex).Lock", "internal/race.Disable", "sync/atomic.CompareAndSwapInt32", "internal/race.Enable", "internal/race.Acquire", "(*internal/sync.Mutex).lockSlow", "internal/sync.runtime_canSpin", "internal/sync.runtime_doSpin", "internal/sync.throw", "internal/sync.runtime_nanotime", "internal/sync.runtime_SemacquireMutex", "sync/atomic.AddInt32", "(*internal/sync.Mutex).Unlock", "internal/race.ReleaseMerge", "(*internal/sync.Mutex).unlockSlow", "internal/sync.fatal", "internal/sync.runtime_Semrelease", "sync/atomic.StoreUint32"], unfollowed := true, recurses := true, named := ["deduce/syntax.errLong", "deduce/syntax.errText", "deduce/syntax.errMany", "deduce/syntax.signs", "errors.errorType"], apart := false, laid := [("errors.errorType", laid_errors_errorType), ("deduce/syntax.errLong", laid_deduce_syntax_errLong), ("deduce/syntax.errText", laid_deduce_syntax_errText), ("deduce/syntax.errMany", laid_deduce_syntax_errMany), ("deduce/syntax.signs", laid_deduce_syntax_signs)] }
def SyntaxAgainSaid : Prop := syntaxAgainRow.holds Tryz.pinned (OpenSpec.ofChange syntaxAgainSpec)

/-- ITS FALSE NEIGHBOUR: 'it returns false'. Refute it at one input. -/
def syntaxAgainWrong : ChangeSpec := { name := "syntaxAgain", fn := fun _ => fun
  | [d] => { results := [.lit (.bool false)], args := [d] }
  | _ => none }
def SyntaxAgainWrongFalsely : Prop := syntaxAgainRow.holds Tryz.pinned (OpenSpec.ofChange syntaxAgainWrong)

/-- 'deducelaw.SyntaxConstants': WHATEVER THE INPUT: true; the input reads as it did. -/
def syntaxConstantsSpec : ChangeSpec := { name := "syntaxConstants", fn := fun _ => fun
  | [d] => { results := [.lit (.bool true)], args := [d] }
  | _ => none }
def syntaxConstantsRow : OpenClaim := { program := "ytoelacloghkooaagreatdoor", sum := "1a018a37c8122970aeb5f325f941ed3261bef03be4e064b3c7756c1773f027af", func := "deduce/deducelaw.SyntaxConstants", spec := "syntaxConstants", inPlace := ["sync/atomic.LoadUint32", "(*internal/sync.Mutex).Lock", "internal/race.Disable", "sync/atomic.CompareAndSwapInt32", "internal/race.Enable", "internal/race.Acquire", "(*internal/sync.Mutex).lockSlow", "internal/sync.runtime_canSpin", "internal/sync.runtime_doSpin", "internal/sync.throw", "internal/sync.runtime_nanotime", "internal/sync.runtime_SemacquireMutex", "sync/atomic.AddInt32", "(*internal/sync.Mutex).Unlock", "internal/race.ReleaseMerge", "(*internal/sync.Mutex).unlockSlow", "internal/sync.fatal", "internal/sync.runtime_Semrelease", "sync/atomic.StoreUint32", "internal/reflectlite.ValueOf", "(internal/reflectlite.Value).Type", "(internal/reflectlite.Value).IsNil", "internal/reflectlite.TypeOf", "(internal/reflectlite.Value).Elem", "(internal/reflectlite.Value).Set"], unfollowed := true, recurses := true, named := ["deduce/syntax.errLong", "deduce/syntax.errText", "deduce/syntax.errMany", "deduce/syntax.signs", "errors.errorType"], apart := false, laid := [("errors.errorType", laid_errors_errorType), ("deduce/syntax.errLong", laid_deduce_syntax_errLong), ("deduce/syntax.errText", laid_deduce_syntax_errText), ("deduce/syntax.errMany", laid_deduce_syntax_errMany), ("deduce/syntax.signs", laid_deduce_syntax_signs)] }
def SyntaxConstantsSaid : Prop := syntaxConstantsRow.holds Tryz.pinned (OpenSpec.ofChange syntaxConstantsSpec)

/-- ITS FALSE NEIGHBOUR: 'it returns false'. Refute it at one input. -/
def syntaxConstantsWrong : ChangeSpec := { name := "syntaxConstants", fn := fun _ => fun
  | [d] => { results := [.lit (.bool false)], args := [d] }
  | _ => none }
def SyntaxConstantsWrongFalsely : Prop := syntaxConstantsRow.holds Tryz.pinned (OpenSpec.ofChange syntaxConstantsWrong)

/-- 'deducelaw.SyntaxRemarks': WHATEVER THE INPUT: true; the input reads as it did. -/
def syntaxRemarksSpec : ChangeSpec := { name := "syntaxRemarks", fn := fun _ => fun
  | [d1, d2] => { results := [.lit (.bool true)], args := [d1, d2] }
  | _ => none }
def syntaxRemarksRow : OpenClaim := { program := "ytoelacloghkooaagreatdoor", sum := "1a018a37c8122970aeb5f325f941ed3261bef03be4e064b3c7756c1773f027af", func := "deduce/deducelaw.SyntaxRemarks", spec := "syntaxRemarks", inPlace := ["internal/reflectlite.ValueOf", "(internal/reflectlite.Value).Type", "(internal/reflectlite.Value).IsNil", "internal/reflectlite.TypeOf", "(internal/reflectlite.Value).Elem", "(internal/reflectlite.Value).Set", "internal/abi.NoEscape", "sync/atomic.LoadUint32", "(*internal/sync.Mutex).Lock", "internal/race.Disable", "sync/atomic.CompareAndSwapInt32", "internal/race.Enable", "internal/race.Acquire", "(*internal/sync.Mutex).lockSlow", "internal/sync.runtime_canSpin", "internal/sync.runtime_doSpin", "internal/sync.throw", "internal/sync.runtime_nanotime", "internal/sync.runtime_SemacquireMutex", "sync/atomic.AddInt32", "(*internal/sync.Mutex).Unlock", "internal/race.ReleaseMerge", "(*internal/sync.Mutex).unlockSlow", "internal/sync.fatal", "internal/sync.runtime_Semrelease", "sync/atomic.StoreUint32"], unfollowed := true, recurses := true, named := ["deduce/syntax.errLong", "deduce/syntax.errText", "deduce/syntax.errMany", "deduce/syntax.signs", "errors.errorType"], apart := false, laid := [("errors.errorType", laid_errors_errorType), ("deduce/syntax.errLong", laid_deduce_syntax_errLong), ("deduce/syntax.errText", laid_deduce_syntax_errText), ("deduce/syntax.errMany", laid_deduce_syntax_errMany), ("deduce/syntax.signs", laid_deduce_syntax_signs)] }
def SyntaxRemarksSaid : Prop := syntaxRemarksRow.holds Tryz.pinned (OpenSpec.ofChange syntaxRemarksSpec)

/-- ITS FALSE NEIGHBOUR: 'it returns false'. Refute it at one input. -/
def syntaxRemarksWrong : ChangeSpec := { name := "syntaxRemarks", fn := fun _ => fun
  | [d1, d2] => { results := [.lit (.bool false)], args := [d1, d2] }
  | _ => none }
def SyntaxRemarksWrongFalsely : Prop := syntaxRemarksRow.holds Tryz.pinned (OpenSpec.ofChange syntaxRemarksWrong)

/-- 'deducelaw.SyntaxJoined': WHATEVER THE INPUT: true; the input reads as it did. -/
def syntaxJoinedSpec : ChangeSpec := { name := "syntaxJoined", fn := fun _ => fun
  | [d1, d2] => { results := [.lit (.bool true)], args := [d1, d2] }
  | _ => none }
def syntaxJoinedRow : OpenClaim := { program := "ytoelacloghkooaagreatdoor", sum := "1a018a37c8122970aeb5f325f941ed3261bef03be4e064b3c7756c1773f027af", func := "deduce/deducelaw.SyntaxJoined", spec := "syntaxJoined", inPlace := ["internal/reflectlite.ValueOf", "(internal/reflectlite.Value).Type", "(internal/reflectlite.Value).IsNil", "internal/reflectlite.TypeOf", "(internal/reflectlite.Value).Elem", "(internal/reflectlite.Value).Set", "internal/abi.NoEscape", "sync/atomic.LoadUint32", "(*internal/sync.Mutex).Lock", "internal/race.Disable", "sync/atomic.CompareAndSwapInt32", "internal/race.Enable", "internal/race.Acquire", "(*internal/sync.Mutex).lockSlow", "internal/sync.runtime_canSpin", "internal/sync.runtime_doSpin", "internal/sync.throw", "internal/sync.runtime_nanotime", "internal/sync.runtime_SemacquireMutex", "sync/atomic.AddInt32", "(*internal/sync.Mutex).Unlock", "internal/race.ReleaseMerge", "(*internal/sync.Mutex).unlockSlow", "internal/sync.fatal", "internal/sync.runtime_Semrelease", "sync/atomic.StoreUint32"], unfollowed := true, recurses := true, named := ["deduce/syntax.errLong", "deduce/syntax.errText", "deduce/syntax.errMany", "deduce/syntax.signs", "errors.errorType"], apart := false, laid := [("errors.errorType", laid_errors_errorType), ("deduce/syntax.errLong", laid_deduce_syntax_errLong), ("deduce/syntax.errText", laid_deduce_syntax_errText), ("deduce/syntax.errMany", laid_deduce_syntax_errMany), ("deduce/syntax.signs", laid_deduce_syntax_signs)] }
def SyntaxJoinedSaid : Prop := syntaxJoinedRow.holds Tryz.pinned (OpenSpec.ofChange syntaxJoinedSpec)

/-- ITS FALSE NEIGHBOUR: 'it returns false'. Refute it at one input. -/
def syntaxJoinedWrong : ChangeSpec := { name := "syntaxJoined", fn := fun _ => fun
  | [d1, d2] => { results := [.lit (.bool false)], args := [d1, d2] }
  | _ => none }
def SyntaxJoinedWrongFalsely : Prop := syntaxJoinedRow.holds Tryz.pinned (OpenSpec.ofChange syntaxJoinedWrong)

/- THE SECOND FORM. 'bulk': how many values and letters a reading holds, each counted each time it is reached (what is shared counts as often as it is met; a slice's spare places count too). A statement '..UptoSaid' is the law's where the arguments, and the package variables that the reading takes, are together of bulk at most 1048576: NARROWER than '..Said'. Prove '..Said' where nothing that the law and all that it calls make is longer than what came in: it says more and counts as full. Else prove '..UptoSaid'. A law counts once. -/
mutual
def uptoBulk {H : Type} : DataW H → Nat
  | .lit (.string bytes) => bytes.length + 1
  | .lit _ => 1
  | .nil => 1
  | .ptr d => uptoBulk d + 1
  | .slice elems spare => uptoBulkAll elems + uptoBulkAll spare + 1
  | .agg parts => uptoBulkAll parts + 1
  | .iface _ d => uptoBulk d + 1
  | .map entries => uptoBulkEntries entries + 1
  | .held _ => 1
def uptoBulkAll {H : Type} : List (DataW H) → Nat
  | [] => 0
  | d :: r => uptoBulk d + uptoBulkAll r
def uptoBulkEntries {H : Type} : List (Lit × DataW H) → Nat
  | [] => 0
  | x :: r => uptoBulkEntry x + uptoBulkEntries r
def uptoBulkEntry {H : Type} : Lit × DataW H → Nat
  | (.string bytes, d) => bytes.length + uptoBulk d + 1
  | (_, d) => uptoBulk d + 1
 end
def uptoSmall : (H : Type) → List (DataW H) → Bool := fun _ ds => decide (uptoBulkAll ds ≤ 1048576)
def OpenSpec.upto (s : _root_.Go.ChangeSpec) : _root_.Go.OpenSpec := { _root_.Go.OpenSpec.ofChange s with cond := some uptoSmall }

/-- 'deducelaw.SyntaxPrints', WHERE WHAT IT READS IS OF BULK AT MOST 1048576: true; the input reads as it did. -/
def syntaxPrintsUptoRow : OpenClaim := { program := "ytoelacloghkooaagreatdoor", sum := "1a018a37c8122970aeb5f325f941ed3261bef03be4e064b3c7756c1773f027af", func := "deduce/deducelaw.SyntaxPrints", spec := "syntaxPrints", inPlace := ["internal/reflectlite.ValueOf", "(internal/reflectlite.Value).Type", "(internal/reflectlite.Value).IsNil", "internal/reflectlite.TypeOf", "(internal/reflectlite.Value).Elem", "(internal/reflectlite.Value).Set", "internal/abi.NoEscape", "sync/atomic.LoadUint32", "(*internal/sync.Mutex).Lock", "internal/race.Disable", "sync/atomic.CompareAndSwapInt32", "internal/race.Enable", "internal/race.Acquire", "(*internal/sync.Mutex).lockSlow", "internal/sync.runtime_canSpin", "internal/sync.runtime_doSpin", "internal/sync.throw", "internal/sync.runtime_nanotime", "internal/sync.runtime_SemacquireMutex", "sync/atomic.AddInt32", "(*internal/sync.Mutex).Unlock", "internal/race.ReleaseMerge", "(*internal/sync.Mutex).unlockSlow", "internal/sync.fatal", "internal/sync.runtime_Semrelease", "sync/atomic.StoreUint32"], unfollowed := true, recurses := true, named := ["deduce/syntax.errLong", "deduce/syntax.errText", "deduce/syntax.errMany", "deduce/syntax.signs", "errors.errorType"], apart := false, laid := [("errors.errorType", laid_errors_errorType), ("deduce/syntax.errLong", laid_deduce_syntax_errLong), ("deduce/syntax.errText", laid_deduce_syntax_errText), ("deduce/syntax.errMany", laid_deduce_syntax_errMany), ("deduce/syntax.signs", laid_deduce_syntax_signs)], narrowed := true }
def SyntaxPrintsUptoSaid : Prop := syntaxPrintsUptoRow.holds Tryz.pinned (OpenSpec.upto syntaxPrintsSpec)

/-- 'deducelaw.SyntaxAgain', WHERE WHAT IT READS IS OF BULK AT MOST 1048576: true; the input reads as it did. -/
def syntaxAgainUptoRow : OpenClaim := { program := "ytoelacloghkooaagreatdoor", sum := "1a018a37c8122970aeb5f325f941ed3261bef03be4e064b3c7756c1773f027af", func := "deduce/deducelaw.SyntaxAgain", spec := "syntaxAgain", inPlace := ["internal/reflectlite.ValueOf", "(internal/reflectlite.Value).Type", "(internal/reflectlite.Value).IsNil", "internal/reflectlite.TypeOf", "(internal/reflectlite.Value).Elem", "(internal/reflectlite.Value).Set", "internal/abi.NoEscape", "sync/atomic.LoadUint32", "(*internal/sync.Mutex).Lock", "internal/race.Disable", "sync/atomic.CompareAndSwapInt32", "internal/race.Enable", "internal/race.Acquire", "(*internal/sync.Mutex).lockSlow", "internal/sync.runtime_canSpin", "internal/sync.runtime_doSpin", "internal/sync.throw", "internal/sync.runtime_nanotime", "internal/sync.runtime_SemacquireMutex", "sync/atomic.AddInt32", "(*internal/sync.Mutex).Unlock", "internal/race.ReleaseMerge", "(*internal/sync.Mutex).unlockSlow", "internal/sync.fatal", "internal/sync.runtime_Semrelease", "sync/atomic.StoreUint32"], unfollowed := true, recurses := true, named := ["deduce/syntax.errLong", "deduce/syntax.errText", "deduce/syntax.errMany", "deduce/syntax.signs", "errors.errorType"], apart := false, laid := [("errors.errorType", laid_errors_errorType), ("deduce/syntax.errLong", laid_deduce_syntax_errLong), ("deduce/syntax.errText", laid_deduce_syntax_errText), ("deduce/syntax.errMany", laid_deduce_syntax_errMany), ("deduce/syntax.signs", laid_deduce_syntax_signs)], narrowed := true }
def SyntaxAgainUptoSaid : Prop := syntaxAgainUptoRow.holds Tryz.pinned (OpenSpec.upto syntaxAgainSpec)

/-- 'deducelaw.SyntaxConstants', WHERE WHAT IT READS IS OF BULK AT MOST 1048576: true; the input reads as it did. -/
def syntaxConstantsUptoRow : OpenClaim := { program := "ytoelacloghkooaagreatdoor", sum := "1a018a37c8122970aeb5f325f941ed3261bef03be4e064b3c7756c1773f027af", func := "deduce/deducelaw.SyntaxConstants", spec := "syntaxConstants", inPlace := ["sync/atomic.LoadUint32", "(*internal/sync.Mutex).Lock", "internal/race.Disable", "sync/atomic.CompareAndSwapInt32", "internal/race.Enable", "internal/race.Acquire", "(*internal/sync.Mutex).lockSlow", "internal/sync.runtime_canSpin", "internal/sync.runtime_doSpin", "internal/sync.throw", "internal/sync.runtime_nanotime", "internal/sync.runtime_SemacquireMutex", "sync/atomic.AddInt32", "(*internal/sync.Mutex).Unlock", "internal/race.ReleaseMerge", "(*internal/sync.Mutex).unlockSlow", "internal/sync.fatal", "internal/sync.runtime_Semrelease", "sync/atomic.StoreUint32", "internal/reflectlite.ValueOf", "(internal/reflectlite.Value).Type", "(internal/reflectlite.Value).IsNil", "internal/reflectlite.TypeOf", "(internal/reflectlite.Value).Elem", "(internal/reflectlite.Value).Set"], unfollowed := true, recurses := true, named := ["deduce/syntax.errLong", "deduce/syntax.errText", "deduce/syntax.errMany", "deduce/syntax.signs", "errors.errorType"], apart := false, laid := [("errors.errorType", laid_errors_errorType), ("deduce/syntax.errLong", laid_deduce_syntax_errLong), ("deduce/syntax.errText", laid_deduce_syntax_errText), ("deduce/syntax.errMany", laid_deduce_syntax_errMany), ("deduce/syntax.signs", laid_deduce_syntax_signs)], narrowed := true }
def SyntaxConstantsUptoSaid : Prop := syntaxConstantsUptoRow.holds Tryz.pinned (OpenSpec.upto syntaxConstantsSpec)

/-- 'deducelaw.SyntaxRemarks', WHERE WHAT IT READS IS OF BULK AT MOST 1048576: true; the input reads as it did. -/
def syntaxRemarksUptoRow : OpenClaim := { program := "ytoelacloghkooaagreatdoor", sum := "1a018a37c8122970aeb5f325f941ed3261bef03be4e064b3c7756c1773f027af", func := "deduce/deducelaw.SyntaxRemarks", spec := "syntaxRemarks", inPlace := ["internal/reflectlite.ValueOf", "(internal/reflectlite.Value).Type", "(internal/reflectlite.Value).IsNil", "internal/reflectlite.TypeOf", "(internal/reflectlite.Value).Elem", "(internal/reflectlite.Value).Set", "internal/abi.NoEscape", "sync/atomic.LoadUint32", "(*internal/sync.Mutex).Lock", "internal/race.Disable", "sync/atomic.CompareAndSwapInt32", "internal/race.Enable", "internal/race.Acquire", "(*internal/sync.Mutex).lockSlow", "internal/sync.runtime_canSpin", "internal/sync.runtime_doSpin", "internal/sync.throw", "internal/sync.runtime_nanotime", "internal/sync.runtime_SemacquireMutex", "sync/atomic.AddInt32", "(*internal/sync.Mutex).Unlock", "internal/race.ReleaseMerge", "(*internal/sync.Mutex).unlockSlow", "internal/sync.fatal", "internal/sync.runtime_Semrelease", "sync/atomic.StoreUint32"], unfollowed := true, recurses := true, named := ["deduce/syntax.errLong", "deduce/syntax.errText", "deduce/syntax.errMany", "deduce/syntax.signs", "errors.errorType"], apart := false, laid := [("errors.errorType", laid_errors_errorType), ("deduce/syntax.errLong", laid_deduce_syntax_errLong), ("deduce/syntax.errText", laid_deduce_syntax_errText), ("deduce/syntax.errMany", laid_deduce_syntax_errMany), ("deduce/syntax.signs", laid_deduce_syntax_signs)], narrowed := true }
def SyntaxRemarksUptoSaid : Prop := syntaxRemarksUptoRow.holds Tryz.pinned (OpenSpec.upto syntaxRemarksSpec)

/-- 'deducelaw.SyntaxJoined', WHERE WHAT IT READS IS OF BULK AT MOST 1048576: true; the input reads as it did. -/
def syntaxJoinedUptoRow : OpenClaim := { program := "ytoelacloghkooaagreatdoor", sum := "1a018a37c8122970aeb5f325f941ed3261bef03be4e064b3c7756c1773f027af", func := "deduce/deducelaw.SyntaxJoined", spec := "syntaxJoined", inPlace := ["internal/reflectlite.ValueOf", "(internal/reflectlite.Value).Type", "(internal/reflectlite.Value).IsNil", "internal/reflectlite.TypeOf", "(internal/reflectlite.Value).Elem", "(internal/reflectlite.Value).Set", "internal/abi.NoEscape", "sync/atomic.LoadUint32", "(*internal/sync.Mutex).Lock", "internal/race.Disable", "sync/atomic.CompareAndSwapInt32", "internal/race.Enable", "internal/race.Acquire", "(*internal/sync.Mutex).lockSlow", "internal/sync.runtime_canSpin", "internal/sync.runtime_doSpin", "internal/sync.throw", "internal/sync.runtime_nanotime", "internal/sync.runtime_SemacquireMutex", "sync/atomic.AddInt32", "(*internal/sync.Mutex).Unlock", "internal/race.ReleaseMerge", "(*internal/sync.Mutex).unlockSlow", "internal/sync.fatal", "internal/sync.runtime_Semrelease", "sync/atomic.StoreUint32"], unfollowed := true, recurses := true, named := ["deduce/syntax.errLong", "deduce/syntax.errText", "deduce/syntax.errMany", "deduce/syntax.signs", "errors.errorType"], apart := false, laid := [("errors.errorType", laid_errors_errorType), ("deduce/syntax.errLong", laid_deduce_syntax_errLong), ("deduce/syntax.errText", laid_deduce_syntax_errText), ("deduce/syntax.errMany", laid_deduce_syntax_errMany), ("deduce/syntax.signs", laid_deduce_syntax_signs)], narrowed := true }
def SyntaxJoinedUptoSaid : Prop := syntaxJoinedUptoRow.holds Tryz.pinned (OpenSpec.upto syntaxJoinedSpec)

end Rows
end Go.Proofs.YtoelacloghkooaaGreatDoor
