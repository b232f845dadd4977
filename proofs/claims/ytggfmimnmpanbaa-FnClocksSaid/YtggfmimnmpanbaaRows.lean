/-
  No cell of these rows narrows 'for every input' (looked for: loops, veiled, ifaces, maps, wideKeys, modest, calm, conditions, laid).
  DERIVED. THE GIVEN ROWS OF THIS SEAT. 6 by the template 'for every input the law returns true; each argument reads behind the call as it read before'; 0 by the template 'total and deterministic' (their statements: YtggfmimnmpanbaaTotals.lean).
  GIVEN WITH THE SEED: the statements are not yours to turn. If you find one false, say at which input.
  Laid BY PROGRAM, IN A SANDBOX (cutbox-rows.mjs): the forced cells as the released guide's own fill.sh prints them over the translation d6924d43de4fb520… (all of the seat's roots in one cut). By AI agents, Wed Nov 11 2026. No macro, syntax, notation, axiom, sorry.
-/
import Derived.Test.YtggfmimnmpanbaaChecked
import GoSem.Claim
import GoSem.ClaimJoined
import GoSem.ClaimMapViews
import Derived.JoinedTies
import Derived.KernelRfl
namespace Go.Proofs.Ytggfmimnmpanbaa
/- THE CELL 'sum', in the pinned program and in every row, IS THE sha256 OF THE DUMP (.gsa) THAT YtggfmimnmpanbaaProg.lean LOADS. Nothing in Lean hashes anything: it is a label: what it is worth is what the hold of that sum in a sandbox is worth. -/
noncomputable def Try.pinned : Pinned := { name := "ytggfmimnmpanbaa", sum := "d6924d43de4fb52022af6bb1fbae54aa031bd24ab59b4f3d975b40cfe5fbe277", checked := Try.checked }
namespace Rows
def none {H : Type} : Left H := { results := [], args := [] }

/-- 'laws.FnClocks': WHATEVER THE INPUT: true; the input reads as it did. -/
def fnClocksSpec : ChangeSpec := { name := "fnClocks", fn := fun _ => fun
  | [d] => { results := [.lit (.bool true)], args := [d] }
  | _ => none }
def fnClocksRow : OpenClaim := { program := "ytggfmimnmpanbaa", sum := "d6924d43de4fb52022af6bb1fbae54aa031bd24ab59b4f3d975b40cfe5fbe277", func := "loop.example/g03316/laws.FnClocks", spec := "fnClocks", apart := false }
def FnClocksSaid : Prop := fnClocksRow.holds Try.pinned (OpenSpec.ofChange fnClocksSpec)

/-- ITS FALSE NEIGHBOUR: 'it returns false'. Refute it at one input. -/
def fnClocksWrong : ChangeSpec := { name := "fnClocks", fn := fun _ => fun
  | [d] => { results := [.lit (.bool false)], args := [d] }
  | _ => none }
def FnClocksWrongFalsely : Prop := fnClocksRow.holds Try.pinned (OpenSpec.ofChange fnClocksWrong)

/-- 'laws.FnExactDriftOk': WHATEVER THE INPUT: true; the input reads as it did. -/
def fnExactDriftOkSpec : ChangeSpec := { name := "fnExactDriftOk", fn := fun _ => fun
  | [d] => { results := [.lit (.bool true)], args := [d] }
  | _ => none }
def fnExactDriftOkRow : OpenClaim := { program := "ytggfmimnmpanbaa", sum := "d6924d43de4fb52022af6bb1fbae54aa031bd24ab59b4f3d975b40cfe5fbe277", func := "loop.example/g03316/laws.FnExactDriftOk", spec := "fnExactDriftOk", apart := false }
def FnExactDriftOkSaid : Prop := fnExactDriftOkRow.holds Try.pinned (OpenSpec.ofChange fnExactDriftOkSpec)

/-- ITS FALSE NEIGHBOUR: 'it returns false'. Refute it at one input. -/
def fnExactDriftOkWrong : ChangeSpec := { name := "fnExactDriftOk", fn := fun _ => fun
  | [d] => { results := [.lit (.bool false)], args := [d] }
  | _ => none }
def FnExactDriftOkWrongFalsely : Prop := fnExactDriftOkRow.holds Try.pinned (OpenSpec.ofChange fnExactDriftOkWrong)

/-- 'laws.FnExactBoardTime': WHATEVER THE INPUT: true; the input reads as it did. -/
def fnExactBoardTimeSpec : ChangeSpec := { name := "fnExactBoardTime", fn := fun _ => fun
  | [d1, d2] => { results := [.lit (.bool true)], args := [d1, d2] }
  | _ => none }
def fnExactBoardTimeRow : OpenClaim := { program := "ytggfmimnmpanbaa", sum := "d6924d43de4fb52022af6bb1fbae54aa031bd24ab59b4f3d975b40cfe5fbe277", func := "loop.example/g03316/laws.FnExactBoardTime", spec := "fnExactBoardTime", apart := false }
def FnExactBoardTimeSaid : Prop := fnExactBoardTimeRow.holds Try.pinned (OpenSpec.ofChange fnExactBoardTimeSpec)

/-- ITS FALSE NEIGHBOUR: 'it returns false'. Refute it at one input. -/
def fnExactBoardTimeWrong : ChangeSpec := { name := "fnExactBoardTime", fn := fun _ => fun
  | [d1, d2] => { results := [.lit (.bool false)], args := [d1, d2] }
  | _ => none }
def FnExactBoardTimeWrongFalsely : Prop := fnExactBoardTimeRow.holds Try.pinned (OpenSpec.ofChange fnExactBoardTimeWrong)

/-- 'laws.FnExactTicksDue': WHATEVER THE INPUT: true; the input reads as it did. -/
def fnExactTicksDueSpec : ChangeSpec := { name := "fnExactTicksDue", fn := fun _ => fun
  | [d1, d2] => { results := [.lit (.bool true)], args := [d1, d2] }
  | _ => none }
def fnExactTicksDueRow : OpenClaim := { program := "ytggfmimnmpanbaa", sum := "d6924d43de4fb52022af6bb1fbae54aa031bd24ab59b4f3d975b40cfe5fbe277", func := "loop.example/g03316/laws.FnExactTicksDue", spec := "fnExactTicksDue", apart := false }
def FnExactTicksDueSaid : Prop := fnExactTicksDueRow.holds Try.pinned (OpenSpec.ofChange fnExactTicksDueSpec)

/-- ITS FALSE NEIGHBOUR: 'it returns false'. Refute it at one input. -/
def fnExactTicksDueWrong : ChangeSpec := { name := "fnExactTicksDue", fn := fun _ => fun
  | [d1, d2] => { results := [.lit (.bool false)], args := [d1, d2] }
  | _ => none }
def FnExactTicksDueWrongFalsely : Prop := fnExactTicksDueRow.holds Try.pinned (OpenSpec.ofChange fnExactTicksDueWrong)

/-- 'laws.FnOrdersDone': WHATEVER THE INPUT: true; the input reads as it did. -/
def fnOrdersDoneSpec : ChangeSpec := { name := "fnOrdersDone", fn := fun _ => fun
  | [d] => { results := [.lit (.bool true)], args := [d] }
  | _ => none }
def fnOrdersDoneRow : OpenClaim := { program := "ytggfmimnmpanbaa", sum := "d6924d43de4fb52022af6bb1fbae54aa031bd24ab59b4f3d975b40cfe5fbe277", func := "loop.example/g03316/laws.FnOrdersDone", spec := "fnOrdersDone", unfollowed := true, recurses := true, apart := false }
def FnOrdersDoneSaid : Prop := fnOrdersDoneRow.holds Try.pinned (OpenSpec.ofChange fnOrdersDoneSpec)

/-- ITS FALSE NEIGHBOUR: 'it returns false'. Refute it at one input. -/
def fnOrdersDoneWrong : ChangeSpec := { name := "fnOrdersDone", fn := fun _ => fun
  | [d] => { results := [.lit (.bool false)], args := [d] }
  | _ => none }
def FnOrdersDoneWrongFalsely : Prop := fnOrdersDoneRow.holds Try.pinned (OpenSpec.ofChange fnOrdersDoneWrong)

/-- 'laws.FnSafeMode': WHATEVER THE INPUT: true; the input reads as it did. -/
def fnSafeModeSpec : ChangeSpec := { name := "fnSafeMode", fn := fun _ => fun
  | [d] => { results := [.lit (.bool true)], args := [d] }
  | _ => none }
def fnSafeModeRow : OpenClaim := { program := "ytggfmimnmpanbaa", sum := "d6924d43de4fb52022af6bb1fbae54aa031bd24ab59b4f3d975b40cfe5fbe277", func := "loop.example/g03316/laws.FnSafeMode", spec := "fnSafeMode", unfollowed := true, recurses := true, apart := false }
def FnSafeModeSaid : Prop := fnSafeModeRow.holds Try.pinned (OpenSpec.ofChange fnSafeModeSpec)

/-- ITS FALSE NEIGHBOUR: 'it returns false'. Refute it at one input. -/
def fnSafeModeWrong : ChangeSpec := { name := "fnSafeMode", fn := fun _ => fun
  | [d] => { results := [.lit (.bool false)], args := [d] }
  | _ => none }
def FnSafeModeWrongFalsely : Prop := fnSafeModeRow.holds Try.pinned (OpenSpec.ofChange fnSafeModeWrong)

/- THE SECOND FORM. 'bulk': how many values and letters a reading holds, each counted each time it is reached (what is shared counts as often as it is met; a slice's spare places count too). A statement '..UptoSaid' is the law's where the arguments, and the package variables that the reading takes, are together of bulk at most 1048576: NARROWER than '..Said'. Prove '..Said' where nothing that the law and all that it calls make is longer than what came in: it says more and counts as full. Else prove '..UptoSaid'. A law counts once. -/
mutual
def uptoBulk {H : Type} : DataW H → Nat
  | .lit (.string bytes) => bytes.length + 1
  | .lit _ => 1
  | .nil => 1
  | .ptr d => uptoBulk d + 1
  | .slice elems spare => uptoBulkAll elems + uptoBulkAll spare + 1
  | .agg parts => uptoBulkAll parts + 1
  | .iface _ d => uptoBulk d + 1
  | .map entries => uptoBulkEntries entries + 1
  | .held _ => 1
def uptoBulkAll {H : Type} : List (DataW H) → Nat
  | [] => 0
  | d :: r => uptoBulk d + uptoBulkAll r
def uptoBulkEntries {H : Type} : List (Lit × DataW H) → Nat
  | [] => 0
  | x :: r => uptoBulkEntry x + uptoBulkEntries r
def uptoBulkEntry {H : Type} : Lit × DataW H → Nat
  | (.string bytes, d) => bytes.length + uptoBulk d + 1
  | (_, d) => uptoBulk d + 1
 end
def uptoSmall : (H : Type) → List (DataW H) → Bool := fun _ ds => decide (uptoBulkAll ds ≤ 1048576)
def OpenSpec.upto (s : _root_.Go.ChangeSpec) : _root_.Go.OpenSpec := { _root_.Go.OpenSpec.ofChange s with cond := some uptoSmall }

/-- 'laws.FnClocks', WHERE WHAT IT READS IS OF BULK AT MOST 1048576: true; the input reads as it did. -/
def fnClocksUptoRow : OpenClaim := { program := "ytggfmimnmpanbaa", sum := "d6924d43de4fb52022af6bb1fbae54aa031bd24ab59b4f3d975b40cfe5fbe277", func := "loop.example/g03316/laws.FnClocks", spec := "fnClocks", apart := false, narrowed := true }
def FnClocksUptoSaid : Prop := fnClocksUptoRow.holds Try.pinned (OpenSpec.upto fnClocksSpec)

/-- 'laws.FnExactDriftOk', WHERE WHAT IT READS IS OF BULK AT MOST 1048576: true; the input reads as it did. -/
def fnExactDriftOkUptoRow : OpenClaim := { program := "ytggfmimnmpanbaa", sum := "d6924d43de4fb52022af6bb1fbae54aa031bd24ab59b4f3d975b40cfe5fbe277", func := "loop.example/g03316/laws.FnExactDriftOk", spec := "fnExactDriftOk", apart := false, narrowed := true }
def FnExactDriftOkUptoSaid : Prop := fnExactDriftOkUptoRow.holds Try.pinned (OpenSpec.upto fnExactDriftOkSpec)

/-- 'laws.FnExactBoardTime', WHERE WHAT IT READS IS OF BULK AT MOST 1048576: true; the input reads as it did. -/
def fnExactBoardTimeUptoRow : OpenClaim := { program := "ytggfmimnmpanbaa", sum := "d6924d43de4fb52022af6bb1fbae54aa031bd24ab59b4f3d975b40cfe5fbe277", func := "loop.example/g03316/laws.FnExactBoardTime", spec := "fnExactBoardTime", apart := false, narrowed := true }
def FnExactBoardTimeUptoSaid : Prop := fnExactBoardTimeUptoRow.holds Try.pinned (OpenSpec.upto fnExactBoardTimeSpec)

/-- 'laws.FnExactTicksDue', WHERE WHAT IT READS IS OF BULK AT MOST 1048576: true; the input reads as it did. -/
def fnExactTicksDueUptoRow : OpenClaim := { program := "ytggfmimnmpanbaa", sum := "d6924d43de4fb52022af6bb1fbae54aa031bd24ab59b4f3d975b40cfe5fbe277", func := "loop.example/g03316/laws.FnExactTicksDue", spec := "fnExactTicksDue", apart := false, narrowed := true }
def FnExactTicksDueUptoSaid : Prop := fnExactTicksDueUptoRow.holds Try.pinned (OpenSpec.upto fnExactTicksDueSpec)

/-- 'laws.FnOrdersDone', WHERE WHAT IT READS IS OF BULK AT MOST 1048576: true; the input reads as it did. -/
def fnOrdersDoneUptoRow : OpenClaim := { program := "ytggfmimnmpanbaa", sum := "d6924d43de4fb52022af6bb1fbae54aa031bd24ab59b4f3d975b40cfe5fbe277", func := "loop.example/g03316/laws.FnOrdersDone", spec := "fnOrdersDone", unfollowed := true, recurses := true, apart := false, narrowed := true }
def FnOrdersDoneUptoSaid : Prop := fnOrdersDoneUptoRow.holds Try.pinned (OpenSpec.upto fnOrdersDoneSpec)

/-- 'laws.FnSafeMode', WHERE WHAT IT READS IS OF BULK AT MOST 1048576: true; the input reads as it did. -/
def fnSafeModeUptoRow : OpenClaim := { program := "ytggfmimnmpanbaa", sum := "d6924d43de4fb52022af6bb1fbae54aa031bd24ab59b4f3d975b40cfe5fbe277", func := "loop.example/g03316/laws.FnSafeMode", spec := "fnSafeMode", unfollowed := true, recurses := true, apart := false, narrowed := true }
def FnSafeModeUptoSaid : Prop := fnSafeModeUptoRow.holds Try.pinned (OpenSpec.upto fnSafeModeSpec)

end Rows
end Go.Proofs.Ytggfmimnmpanbaa
