/-
  No cell of these rows narrows 'for every input' (looked for: loops, veiled, ifaces, maps, wideKeys, modest, calm, conditions, laid).
  DERIVED. THE GIVEN ROWS OF THIS SEAT. 6 by the template 'for every input the law returns true; each argument reads behind the call as it read before'; 0 by the template 'total and deterministic' (their statements: YtckofkdeedbbgaaTotals.lean).
  GIVEN WITH THE SEED: the statements are not yours to turn. If you find one false, say at which input.
  Laid BY PROGRAM, IN A SANDBOX (cutbox-rows.mjs): the forced cells as the released guide's own fill.sh prints them over the translation 5203f87dbe90a72c… (all of the seat's roots in one cut). By AI agents, Wed Nov 11 2026. No macro, syntax, notation, axiom, sorry.
-/
import Derived.Test.YtckofkdeedbbgaaChecked
import GoSem.Claim
import GoSem.ClaimJoined
import GoSem.ClaimMapViews
import Derived.JoinedTies
import Derived.KernelRfl
namespace Go.Proofs.Ytckofkdeedbbgaa
/- THE CELL 'sum', in the pinned program and in every row, IS THE sha256 OF THE DUMP (.gsa) THAT YtckofkdeedbbgaaProg.lean LOADS. Nothing in Lean hashes anything: it is a label: what it is worth is what the hold of that sum in a sandbox is worth. -/
noncomputable def Try.pinned : Pinned := { name := "ytckofkdeedbbgaa", sum := "5203f87dbe90a72cb7a9d5ecd4c57b951027b0a6b428e4f21b8e3f926db1c654", checked := Try.checked }
namespace Rows
def none {H : Type} : Left H := { results := [], args := [] }

/-- 'laws.FnOrdersDone': WHATEVER THE INPUT: true; the input reads as it did. -/
def fnOrdersDoneSpec : ChangeSpec := { name := "fnOrdersDone", fn := fun _ => fun
  | [d] => { results := [.lit (.bool true)], args := [d] }
  | _ => none }
def fnOrdersDoneRow : OpenClaim := { program := "ytckofkdeedbbgaa", sum := "5203f87dbe90a72cb7a9d5ecd4c57b951027b0a6b428e4f21b8e3f926db1c654", func := "loop.example/g03316/laws.FnOrdersDone", spec := "fnOrdersDone", unfollowed := true, recurses := true, apart := false }
def FnOrdersDoneSaid : Prop := fnOrdersDoneRow.holds Try.pinned (OpenSpec.ofChange fnOrdersDoneSpec)

/-- ITS FALSE NEIGHBOUR: 'it returns false'. Refute it at one input. -/
def fnOrdersDoneWrong : ChangeSpec := { name := "fnOrdersDone", fn := fun _ => fun
  | [d] => { results := [.lit (.bool false)], args := [d] }
  | _ => none }
def FnOrdersDoneWrongFalsely : Prop := fnOrdersDoneRow.holds Try.pinned (OpenSpec.ofChange fnOrdersDoneWrong)

/-- 'laws.FnRecorder': WHATEVER THE INPUT: true; the input reads as it did. -/
def fnRecorderSpec : ChangeSpec := { name := "fnRecorder", fn := fun _ => fun
  | [d] => { results := [.lit (.bool true)], args := [d] }
  | _ => none }
def fnRecorderRow : OpenClaim := { program := "ytckofkdeedbbgaa", sum := "5203f87dbe90a72cb7a9d5ecd4c57b951027b0a6b428e4f21b8e3f926db1c654", func := "loop.example/g03316/laws.FnRecorder", spec := "fnRecorder", apart := false }
def FnRecorderSaid : Prop := fnRecorderRow.holds Try.pinned (OpenSpec.ofChange fnRecorderSpec)

/-- ITS FALSE NEIGHBOUR: 'it returns false'. Refute it at one input. -/
def fnRecorderWrong : ChangeSpec := { name := "fnRecorder", fn := fun _ => fun
  | [d] => { results := [.lit (.bool false)], args := [d] }
  | _ => none }
def FnRecorderWrongFalsely : Prop := fnRecorderRow.holds Try.pinned (OpenSpec.ofChange fnRecorderWrong)

/-- 'laws.FnSafeMode': WHATEVER THE INPUT: true; the input reads as it did. -/
def fnSafeModeSpec : ChangeSpec := { name := "fnSafeMode", fn := fun _ => fun
  | [d] => { results := [.lit (.bool true)], args := [d] }
  | _ => none }
def fnSafeModeRow : OpenClaim := { program := "ytckofkdeedbbgaa", sum := "5203f87dbe90a72cb7a9d5ecd4c57b951027b0a6b428e4f21b8e3f926db1c654", func := "loop.example/g03316/laws.FnSafeMode", spec := "fnSafeMode", unfollowed := true, recurses := true, apart := false }
def FnSafeModeSaid : Prop := fnSafeModeRow.holds Try.pinned (OpenSpec.ofChange fnSafeModeSpec)

/-- ITS FALSE NEIGHBOUR: 'it returns false'. Refute it at one input. -/
def fnSafeModeWrong : ChangeSpec := { name := "fnSafeMode", fn := fun _ => fun
  | [d] => { results := [.lit (.bool false)], args := [d] }
  | _ => none }
def FnSafeModeWrongFalsely : Prop := fnSafeModeRow.holds Try.pinned (OpenSpec.ofChange fnSafeModeWrong)

/-- 'laws.FnFilesWhole': WHATEVER THE INPUT: true; the input reads as it did. -/
def fnFilesWholeSpec : ChangeSpec := { name := "fnFilesWhole", fn := fun _ => fun
  | [d] => { results := [.lit (.bool true)], args := [d] }
  | _ => none }
def fnFilesWholeRow : OpenClaim := { program := "ytckofkdeedbbgaa", sum := "5203f87dbe90a72cb7a9d5ecd4c57b951027b0a6b428e4f21b8e3f926db1c654", func := "loop.example/g03316/laws.FnFilesWhole", spec := "fnFilesWhole", inPlace := ["internal/abi.NoEscape", "internal/bytealg.MakeNoZero"], unfollowed := true, recurses := true, apart := false }
def FnFilesWholeSaid : Prop := fnFilesWholeRow.holds Try.pinned (OpenSpec.ofChange fnFilesWholeSpec)

/-- ITS FALSE NEIGHBOUR: 'it returns false'. Refute it at one input. -/
def fnFilesWholeWrong : ChangeSpec := { name := "fnFilesWhole", fn := fun _ => fun
  | [d] => { results := [.lit (.bool false)], args := [d] }
  | _ => none }
def FnFilesWholeWrongFalsely : Prop := fnFilesWholeRow.holds Try.pinned (OpenSpec.ofChange fnFilesWholeWrong)

/-- 'laws.FnExactKeepRecord': WHATEVER THE INPUT: true; the input reads as it did. -/
def fnExactKeepRecordSpec : ChangeSpec := { name := "fnExactKeepRecord", fn := fun _ => fun
  | [d1, d2] => { results := [.lit (.bool true)], args := [d1, d2] }
  | _ => none }
def fnExactKeepRecordRow : OpenClaim := { program := "ytckofkdeedbbgaa", sum := "5203f87dbe90a72cb7a9d5ecd4c57b951027b0a6b428e4f21b8e3f926db1c654", func := "loop.example/g03316/laws.FnExactKeepRecord", spec := "fnExactKeepRecord", apart := false }
def FnExactKeepRecordSaid : Prop := fnExactKeepRecordRow.holds Try.pinned (OpenSpec.ofChange fnExactKeepRecordSpec)

/-- ITS FALSE NEIGHBOUR: 'it returns false'. Refute it at one input. -/
def fnExactKeepRecordWrong : ChangeSpec := { name := "fnExactKeepRecord", fn := fun _ => fun
  | [d1, d2] => { results := [.lit (.bool false)], args := [d1, d2] }
  | _ => none }
def FnExactKeepRecordWrongFalsely : Prop := fnExactKeepRecordRow.holds Try.pinned (OpenSpec.ofChange fnExactKeepRecordWrong)

/-- 'laws.FnExactNewBoard': WHATEVER THE INPUT: true; the input reads as it did. -/
def fnExactNewBoardSpec : ChangeSpec := { name := "fnExactNewBoard", fn := fun _ => fun
  | [d1, d2] => { results := [.lit (.bool true)], args := [d1, d2] }
  | _ => none }
def fnExactNewBoardRow : OpenClaim := { program := "ytckofkdeedbbgaa", sum := "5203f87dbe90a72cb7a9d5ecd4c57b951027b0a6b428e4f21b8e3f926db1c654", func := "loop.example/g03316/laws.FnExactNewBoard", spec := "fnExactNewBoard", unfollowed := true, recurses := true, apart := false }
def FnExactNewBoardSaid : Prop := fnExactNewBoardRow.holds Try.pinned (OpenSpec.ofChange fnExactNewBoardSpec)

/-- ITS FALSE NEIGHBOUR: 'it returns false'. Refute it at one input. -/
def fnExactNewBoardWrong : ChangeSpec := { name := "fnExactNewBoard", fn := fun _ => fun
  | [d1, d2] => { results := [.lit (.bool false)], args := [d1, d2] }
  | _ => none }
def FnExactNewBoardWrongFalsely : Prop := fnExactNewBoardRow.holds Try.pinned (OpenSpec.ofChange fnExactNewBoardWrong)

/- THE SECOND FORM. 'bulk': how many values and letters a reading holds, each counted each time it is reached (what is shared counts as often as it is met; a slice's spare places count too). A statement '..UptoSaid' is the law's where the arguments, and the package variables that the reading takes, are together of bulk at most 1048576: NARROWER than '..Said'. Prove '..Said' where nothing that the law and all that it calls make is longer than what came in: it says more and counts as full. Else prove '..UptoSaid'. A law counts once. -/
mutual
def uptoBulk {H : Type} : DataW H → Nat
  | .lit (.string bytes) => bytes.length + 1
  | .lit _ => 1
  | .nil => 1
  | .ptr d => uptoBulk d + 1
  | .slice elems spare => uptoBulkAll elems + uptoBulkAll spare + 1
  | .agg parts => uptoBulkAll parts + 1
  | .iface _ d => uptoBulk d + 1
  | .map entries => uptoBulkEntries entries + 1
  | .held _ => 1
def uptoBulkAll {H : Type} : List (DataW H) → Nat
  | [] => 0
  | d :: r => uptoBulk d + uptoBulkAll r
def uptoBulkEntries {H : Type} : List (Lit × DataW H) → Nat
  | [] => 0
  | x :: r => uptoBulkEntry x + uptoBulkEntries r
def uptoBulkEntry {H : Type} : Lit × DataW H → Nat
  | (.string bytes, d) => bytes.length + uptoBulk d + 1
  | (_, d) => uptoBulk d + 1
 end
def uptoSmall : (H : Type) → List (DataW H) → Bool := fun _ ds => decide (uptoBulkAll ds ≤ 1048576)
def OpenSpec.upto (s : _root_.Go.ChangeSpec) : _root_.Go.OpenSpec := { _root_.Go.OpenSpec.ofChange s with cond := some uptoSmall }

/-- 'laws.FnOrdersDone', WHERE WHAT IT READS IS OF BULK AT MOST 1048576: true; the input reads as it did. -/
def fnOrdersDoneUptoRow : OpenClaim := { program := "ytckofkdeedbbgaa", sum := "5203f87dbe90a72cb7a9d5ecd4c57b951027b0a6b428e4f21b8e3f926db1c654", func := "loop.example/g03316/laws.FnOrdersDone", spec := "fnOrdersDone", unfollowed := true, recurses := true, apart := false, narrowed := true }
def FnOrdersDoneUptoSaid : Prop := fnOrdersDoneUptoRow.holds Try.pinned (OpenSpec.upto fnOrdersDoneSpec)

/-- 'laws.FnRecorder', WHERE WHAT IT READS IS OF BULK AT MOST 1048576: true; the input reads as it did. -/
def fnRecorderUptoRow : OpenClaim := { program := "ytckofkdeedbbgaa", sum := "5203f87dbe90a72cb7a9d5ecd4c57b951027b0a6b428e4f21b8e3f926db1c654", func := "loop.example/g03316/laws.FnRecorder", spec := "fnRecorder", apart := false, narrowed := true }
def FnRecorderUptoSaid : Prop := fnRecorderUptoRow.holds Try.pinned (OpenSpec.upto fnRecorderSpec)

/-- 'laws.FnSafeMode', WHERE WHAT IT READS IS OF BULK AT MOST 1048576: true; the input reads as it did. -/
def fnSafeModeUptoRow : OpenClaim := { program := "ytckofkdeedbbgaa", sum := "5203f87dbe90a72cb7a9d5ecd4c57b951027b0a6b428e4f21b8e3f926db1c654", func := "loop.example/g03316/laws.FnSafeMode", spec := "fnSafeMode", unfollowed := true, recurses := true, apart := false, narrowed := true }
def FnSafeModeUptoSaid : Prop := fnSafeModeUptoRow.holds Try.pinned (OpenSpec.upto fnSafeModeSpec)

/-- 'laws.FnFilesWhole', WHERE WHAT IT READS IS OF BULK AT MOST 1048576: true; the input reads as it did. -/
def fnFilesWholeUptoRow : OpenClaim := { program := "ytckofkdeedbbgaa", sum := "5203f87dbe90a72cb7a9d5ecd4c57b951027b0a6b428e4f21b8e3f926db1c654", func := "loop.example/g03316/laws.FnFilesWhole", spec := "fnFilesWhole", inPlace := ["internal/abi.NoEscape", "internal/bytealg.MakeNoZero"], unfollowed := true, recurses := true, apart := false, narrowed := true }
def FnFilesWholeUptoSaid : Prop := fnFilesWholeUptoRow.holds Try.pinned (OpenSpec.upto fnFilesWholeSpec)

/-- 'laws.FnExactKeepRecord', WHERE WHAT IT READS IS OF BULK AT MOST 1048576: true; the input reads as it did. -/
def fnExactKeepRecordUptoRow : OpenClaim := { program := "ytckofkdeedbbgaa", sum := "5203f87dbe90a72cb7a9d5ecd4c57b951027b0a6b428e4f21b8e3f926db1c654", func := "loop.example/g03316/laws.FnExactKeepRecord", spec := "fnExactKeepRecord", apart := false, narrowed := true }
def FnExactKeepRecordUptoSaid : Prop := fnExactKeepRecordUptoRow.holds Try.pinned (OpenSpec.upto fnExactKeepRecordSpec)

/-- 'laws.FnExactNewBoard', WHERE WHAT IT READS IS OF BULK AT MOST 1048576: true; the input reads as it did. -/
def fnExactNewBoardUptoRow : OpenClaim := { program := "ytckofkdeedbbgaa", sum := "5203f87dbe90a72cb7a9d5ecd4c57b951027b0a6b428e4f21b8e3f926db1c654", func := "loop.example/g03316/laws.FnExactNewBoard", spec := "fnExactNewBoard", unfollowed := true, recurses := true, apart := false, narrowed := true }
def FnExactNewBoardUptoSaid : Prop := fnExactNewBoardUptoRow.holds Try.pinned (OpenSpec.upto fnExactNewBoardSpec)

end Rows
end Go.Proofs.Ytckofkdeedbbgaa
