/-
  No cell of these rows narrows 'for every input' (looked for: loops, veiled, ifaces, maps, wideKeys, modest, calm, conditions, laid).
  DERIVED. THE GIVEN ROWS OF THIS SEAT. 6 by the template 'for every input the law returns true; each argument reads behind the call as it read before'; 0 by the template 'total and deterministic' (their statements: YtdfcamlnebcbpaaTotals.lean).
  GIVEN WITH THE SEED: the statements are not yours to turn. If you find one false, say at which input.
  Laid BY PROGRAM, IN A SANDBOX (cutbox-rows.mjs): the forced cells as the released guide's own fill.sh prints them over the translation 2cfe10be7a32fb37… (all of the seat's roots in one cut). By AI agents, Wed Nov 11 2026. No macro, syntax, notation, axiom, sorry.
-/
import Derived.Test.YtdfcamlnebcbpaaChecked
import GoSem.Claim
import GoSem.ClaimJoined
import GoSem.ClaimMapViews
import Derived.JoinedTies
import Derived.KernelRfl
namespace Go.Proofs.Ytdfcamlnebcbpaa
/- THE CELL 'sum', in the pinned program and in every row, IS THE sha256 OF THE DUMP (.gsa) THAT YtdfcamlnebcbpaaProg.lean LOADS. Nothing in Lean hashes anything: it is a label: what it is worth is what the hold of that sum in a sandbox is worth. -/
noncomputable def Try.pinned : Pinned := { name := "ytdfcamlnebcbpaa", sum := "2cfe10be7a32fb378471e40bb6a7142f5de4be41271624a61153bf65eb006c39", checked := Try.checked }
namespace Rows
def none {H : Type} : Left H := { results := [], args := [] }

/-- 'laws.FnVisible': WHATEVER THE INPUT: true; the input reads as it did. -/
def fnVisibleSpec : ChangeSpec := { name := "fnVisible", fn := fun _ => fun
  | [d] => { results := [.lit (.bool true)], args := [d] }
  | _ => none }
def fnVisibleRow : OpenClaim := { program := "ytdfcamlnebcbpaa", sum := "2cfe10be7a32fb378471e40bb6a7142f5de4be41271624a61153bf65eb006c39", func := "loop.example/g03316/laws.FnVisible", spec := "fnVisible", apart := false }
def FnVisibleSaid : Prop := fnVisibleRow.holds Try.pinned (OpenSpec.ofChange fnVisibleSpec)

/-- ITS FALSE NEIGHBOUR: 'it returns false'. Refute it at one input. -/
def fnVisibleWrong : ChangeSpec := { name := "fnVisible", fn := fun _ => fun
  | [d] => { results := [.lit (.bool false)], args := [d] }
  | _ => none }
def FnVisibleWrongFalsely : Prop := fnVisibleRow.holds Try.pinned (OpenSpec.ofChange fnVisibleWrong)

/-- 'laws.FnPlans': WHATEVER THE INPUT: true; the input reads as it did. -/
def fnPlansSpec : ChangeSpec := { name := "fnPlans", fn := fun _ => fun
  | [d] => { results := [.lit (.bool true)], args := [d] }
  | _ => none }
def fnPlansRow : OpenClaim := { program := "ytdfcamlnebcbpaa", sum := "2cfe10be7a32fb378471e40bb6a7142f5de4be41271624a61153bf65eb006c39", func := "loop.example/g03316/laws.FnPlans", spec := "fnPlans", unfollowed := true, recurses := true, apart := false }
def FnPlansSaid : Prop := fnPlansRow.holds Try.pinned (OpenSpec.ofChange fnPlansSpec)

/-- ITS FALSE NEIGHBOUR: 'it returns false'. Refute it at one input. -/
def fnPlansWrong : ChangeSpec := { name := "fnPlans", fn := fun _ => fun
  | [d] => { results := [.lit (.bool false)], args := [d] }
  | _ => none }
def FnPlansWrongFalsely : Prop := fnPlansRow.holds Try.pinned (OpenSpec.ofChange fnPlansWrong)

/-- 'laws.FnNoIdle': WHATEVER THE INPUT: true; the input reads as it did. -/
def fnNoIdleSpec : ChangeSpec := { name := "fnNoIdle", fn := fun _ => fun
  | [d] => { results := [.lit (.bool true)], args := [d] }
  | _ => none }
def fnNoIdleRow : OpenClaim := { program := "ytdfcamlnebcbpaa", sum := "2cfe10be7a32fb378471e40bb6a7142f5de4be41271624a61153bf65eb006c39", func := "loop.example/g03316/laws.FnNoIdle", spec := "fnNoIdle", unfollowed := true, recurses := true, apart := false }
def FnNoIdleSaid : Prop := fnNoIdleRow.holds Try.pinned (OpenSpec.ofChange fnNoIdleSpec)

/-- ITS FALSE NEIGHBOUR: 'it returns false'. Refute it at one input. -/
def fnNoIdleWrong : ChangeSpec := { name := "fnNoIdle", fn := fun _ => fun
  | [d] => { results := [.lit (.bool false)], args := [d] }
  | _ => none }
def FnNoIdleWrongFalsely : Prop := fnNoIdleRow.holds Try.pinned (OpenSpec.ofChange fnNoIdleWrong)

/-- 'laws.FnExactOrbitOk': WHATEVER THE INPUT: true; the input reads as it did. -/
def fnExactOrbitOkSpec : ChangeSpec := { name := "fnExactOrbitOk", fn := fun _ => fun
  | [d] => { results := [.lit (.bool true)], args := [d] }
  | _ => none }
def fnExactOrbitOkRow : OpenClaim := { program := "ytdfcamlnebcbpaa", sum := "2cfe10be7a32fb378471e40bb6a7142f5de4be41271624a61153bf65eb006c39", func := "loop.example/g03316/laws.FnExactOrbitOk", spec := "fnExactOrbitOk", apart := false }
def FnExactOrbitOkSaid : Prop := fnExactOrbitOkRow.holds Try.pinned (OpenSpec.ofChange fnExactOrbitOkSpec)

/-- ITS FALSE NEIGHBOUR: 'it returns false'. Refute it at one input. -/
def fnExactOrbitOkWrong : ChangeSpec := { name := "fnExactOrbitOk", fn := fun _ => fun
  | [d] => { results := [.lit (.bool false)], args := [d] }
  | _ => none }
def FnExactOrbitOkWrongFalsely : Prop := fnExactOrbitOkRow.holds Try.pinned (OpenSpec.ofChange fnExactOrbitOkWrong)

/-- 'laws.FnExactVisible': WHATEVER THE INPUT: true; the input reads as it did. -/
def fnExactVisibleSpec : ChangeSpec := { name := "fnExactVisible", fn := fun _ => fun
  | [d1, d2] => { results := [.lit (.bool true)], args := [d1, d2] }
  | _ => none }
def fnExactVisibleRow : OpenClaim := { program := "ytdfcamlnebcbpaa", sum := "2cfe10be7a32fb378471e40bb6a7142f5de4be41271624a61153bf65eb006c39", func := "loop.example/g03316/laws.FnExactVisible", spec := "fnExactVisible", apart := false }
def FnExactVisibleSaid : Prop := fnExactVisibleRow.holds Try.pinned (OpenSpec.ofChange fnExactVisibleSpec)

/-- ITS FALSE NEIGHBOUR: 'it returns false'. Refute it at one input. -/
def fnExactVisibleWrong : ChangeSpec := { name := "fnExactVisible", fn := fun _ => fun
  | [d1, d2] => { results := [.lit (.bool false)], args := [d1, d2] }
  | _ => none }
def FnExactVisibleWrongFalsely : Prop := fnExactVisibleRow.holds Try.pinned (OpenSpec.ofChange fnExactVisibleWrong)

/-- 'laws.FnExactPassOf': WHATEVER THE INPUT: true; the input reads as it did. -/
def fnExactPassOfSpec : ChangeSpec := { name := "fnExactPassOf", fn := fun _ => fun
  | [d1, d2] => { results := [.lit (.bool true)], args := [d1, d2] }
  | _ => none }
def fnExactPassOfRow : OpenClaim := { program := "ytdfcamlnebcbpaa", sum := "2cfe10be7a32fb378471e40bb6a7142f5de4be41271624a61153bf65eb006c39", func := "loop.example/g03316/laws.FnExactPassOf", spec := "fnExactPassOf", apart := false }
def FnExactPassOfSaid : Prop := fnExactPassOfRow.holds Try.pinned (OpenSpec.ofChange fnExactPassOfSpec)

/-- ITS FALSE NEIGHBOUR: 'it returns false'. Refute it at one input. -/
def fnExactPassOfWrong : ChangeSpec := { name := "fnExactPassOf", fn := fun _ => fun
  | [d1, d2] => { results := [.lit (.bool false)], args := [d1, d2] }
  | _ => none }
def FnExactPassOfWrongFalsely : Prop := fnExactPassOfRow.holds Try.pinned (OpenSpec.ofChange fnExactPassOfWrong)

/- THE SECOND FORM. 'bulk': how many values and letters a reading holds, each counted each time it is reached (what is shared counts as often as it is met; a slice's spare places count too). A statement '..UptoSaid' is the law's where the arguments, and the package variables that the reading takes, are together of bulk at most 1048576: NARROWER than '..Said'. Prove '..Said' where nothing that the law and all that it calls make is longer than what came in: it says more and counts as full. Else prove '..UptoSaid'. A law counts once. -/
mutual
def uptoBulk {H : Type} : DataW H → Nat
  | .lit (.string bytes) => bytes.length + 1
  | .lit _ => 1
  | .nil => 1
  | .ptr d => uptoBulk d + 1
  | .slice elems spare => uptoBulkAll elems + uptoBulkAll spare + 1
  | .agg parts => uptoBulkAll parts + 1
  | .iface _ d => uptoBulk d + 1
  | .map entries => uptoBulkEntries entries + 1
  | .held _ => 1
def uptoBulkAll {H : Type} : List (DataW H) → Nat
  | [] => 0
  | d :: r => uptoBulk d + uptoBulkAll r
def uptoBulkEntries {H : Type} : List (Lit × DataW H) → Nat
  | [] => 0
  | x :: r => uptoBulkEntry x + uptoBulkEntries r
def uptoBulkEntry {H : Type} : Lit × DataW H → Nat
  | (.string bytes, d) => bytes.length + uptoBulk d + 1
  | (_, d) => uptoBulk d + 1
 end
def uptoSmall : (H : Type) → List (DataW H) → Bool := fun _ ds => decide (uptoBulkAll ds ≤ 1048576)
def OpenSpec.upto (s : _root_.Go.ChangeSpec) : _root_.Go.OpenSpec := { _root_.Go.OpenSpec.ofChange s with cond := some uptoSmall }

/-- 'laws.FnVisible', WHERE WHAT IT READS IS OF BULK AT MOST 1048576: true; the input reads as it did. -/
def fnVisibleUptoRow : OpenClaim := { program := "ytdfcamlnebcbpaa", sum := "2cfe10be7a32fb378471e40bb6a7142f5de4be41271624a61153bf65eb006c39", func := "loop.example/g03316/laws.FnVisible", spec := "fnVisible", apart := false, narrowed := true }
def FnVisibleUptoSaid : Prop := fnVisibleUptoRow.holds Try.pinned (OpenSpec.upto fnVisibleSpec)

/-- 'laws.FnPlans', WHERE WHAT IT READS IS OF BULK AT MOST 1048576: true; the input reads as it did. -/
def fnPlansUptoRow : OpenClaim := { program := "ytdfcamlnebcbpaa", sum := "2cfe10be7a32fb378471e40bb6a7142f5de4be41271624a61153bf65eb006c39", func := "loop.example/g03316/laws.FnPlans", spec := "fnPlans", unfollowed := true, recurses := true, apart := false, narrowed := true }
def FnPlansUptoSaid : Prop := fnPlansUptoRow.holds Try.pinned (OpenSpec.upto fnPlansSpec)

/-- 'laws.FnNoIdle', WHERE WHAT IT READS IS OF BULK AT MOST 1048576: true; the input reads as it did. -/
def fnNoIdleUptoRow : OpenClaim := { program := "ytdfcamlnebcbpaa", sum := "2cfe10be7a32fb378471e40bb6a7142f5de4be41271624a61153bf65eb006c39", func := "loop.example/g03316/laws.FnNoIdle", spec := "fnNoIdle", unfollowed := true, recurses := true, apart := false, narrowed := true }
def FnNoIdleUptoSaid : Prop := fnNoIdleUptoRow.holds Try.pinned (OpenSpec.upto fnNoIdleSpec)

/-- 'laws.FnExactOrbitOk', WHERE WHAT IT READS IS OF BULK AT MOST 1048576: true; the input reads as it did. -/
def fnExactOrbitOkUptoRow : OpenClaim := { program := "ytdfcamlnebcbpaa", sum := "2cfe10be7a32fb378471e40bb6a7142f5de4be41271624a61153bf65eb006c39", func := "loop.example/g03316/laws.FnExactOrbitOk", spec := "fnExactOrbitOk", apart := false, narrowed := true }
def FnExactOrbitOkUptoSaid : Prop := fnExactOrbitOkUptoRow.holds Try.pinned (OpenSpec.upto fnExactOrbitOkSpec)

/-- 'laws.FnExactVisible', WHERE WHAT IT READS IS OF BULK AT MOST 1048576: true; the input reads as it did. -/
def fnExactVisibleUptoRow : OpenClaim := { program := "ytdfcamlnebcbpaa", sum := "2cfe10be7a32fb378471e40bb6a7142f5de4be41271624a61153bf65eb006c39", func := "loop.example/g03316/laws.FnExactVisible", spec := "fnExactVisible", apart := false, narrowed := true }
def FnExactVisibleUptoSaid : Prop := fnExactVisibleUptoRow.holds Try.pinned (OpenSpec.upto fnExactVisibleSpec)

/-- 'laws.FnExactPassOf', WHERE WHAT IT READS IS OF BULK AT MOST 1048576: true; the input reads as it did. -/
def fnExactPassOfUptoRow : OpenClaim := { program := "ytdfcamlnebcbpaa", sum := "2cfe10be7a32fb378471e40bb6a7142f5de4be41271624a61153bf65eb006c39", func := "loop.example/g03316/laws.FnExactPassOf", spec := "fnExactPassOf", apart := false, narrowed := true }
def FnExactPassOfUptoSaid : Prop := fnExactPassOfUptoRow.holds Try.pinned (OpenSpec.upto fnExactPassOfSpec)

end Rows
end Go.Proofs.Ytdfcamlnebcbpaa
