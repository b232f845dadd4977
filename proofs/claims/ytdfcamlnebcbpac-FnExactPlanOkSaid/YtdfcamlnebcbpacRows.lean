/-
  No cell of these rows narrows 'for every input' (looked for: loops, veiled, ifaces, maps, wideKeys, modest, calm, conditions, laid).
  DERIVED. THE GIVEN ROWS OF THIS SEAT. 5 by the template 'for every input the law returns true; each argument reads behind the call as it read before'; 0 by the template 'total and deterministic' (their statements: YtdfcamlnebcbpacTotals.lean).
  GIVEN WITH THE SEED: the statements are not yours to turn. If you find one false, say at which input.
  Laid BY PROGRAM, IN A SANDBOX (cutbox-rows.mjs): the forced cells as the released guide's own fill.sh prints them over the translation 295b962a9f873e53… (all of the seat's roots in one cut). By AI agents, Wed Nov 11 2026. No macro, syntax, notation, axiom, sorry.
-/
import Derived.Test.YtdfcamlnebcbpacChecked
import GoSem.Claim
import GoSem.ClaimJoined
import GoSem.ClaimMapViews
import Derived.JoinedTies
import Derived.KernelRfl
namespace Go.Proofs.Ytdfcamlnebcbpac
/- THE CELL 'sum', in the pinned program and in every row, IS THE sha256 OF THE DUMP (.gsa) THAT YtdfcamlnebcbpacProg.lean LOADS. Nothing in Lean hashes anything: it is a label: what it is worth is what the hold of that sum in a sandbox is worth. -/
noncomputable def Try.pinned : Pinned := { name := "ytdfcamlnebcbpac", sum := "295b962a9f873e53c058e16a0fefa0b8a1bbf0845e7003ec02c202a26a64fece", checked := Try.checked }
namespace Rows
def none {H : Type} : Left H := { results := [], args := [] }

/-- 'laws.FnExactPlanOk': WHATEVER THE INPUT: true; the input reads as it did. -/
def fnExactPlanOkSpec : ChangeSpec := { name := "fnExactPlanOk", fn := fun _ => fun
  | [d1, d2, d3] => { results := [.lit (.bool true)], args := [d1, d2, d3] }
  | _ => none }
def fnExactPlanOkRow : OpenClaim := { program := "ytdfcamlnebcbpac", sum := "295b962a9f873e53c058e16a0fefa0b8a1bbf0845e7003ec02c202a26a64fece", func := "loop.example/g03316/laws.FnExactPlanOk", spec := "fnExactPlanOk", unfollowed := true, recurses := true, apart := false }
def FnExactPlanOkSaid : Prop := fnExactPlanOkRow.holds Try.pinned (OpenSpec.ofChange fnExactPlanOkSpec)

/-- ITS FALSE NEIGHBOUR: 'it returns false'. Refute it at one input. -/
def fnExactPlanOkWrong : ChangeSpec := { name := "fnExactPlanOk", fn := fun _ => fun
  | [d1, d2, d3] => { results := [.lit (.bool false)], args := [d1, d2, d3] }
  | _ => none }
def FnExactPlanOkWrongFalsely : Prop := fnExactPlanOkRow.holds Try.pinned (OpenSpec.ofChange fnExactPlanOkWrong)

/-- 'laws.FnExactMissedOf': WHATEVER THE INPUT: true; the input reads as it did. -/
def fnExactMissedOfSpec : ChangeSpec := { name := "fnExactMissedOf", fn := fun _ => fun
  | [d1, d2] => { results := [.lit (.bool true)], args := [d1, d2] }
  | _ => none }
def fnExactMissedOfRow : OpenClaim := { program := "ytdfcamlnebcbpac", sum := "295b962a9f873e53c058e16a0fefa0b8a1bbf0845e7003ec02c202a26a64fece", func := "loop.example/g03316/laws.FnExactMissedOf", spec := "fnExactMissedOf", apart := false }
def FnExactMissedOfSaid : Prop := fnExactMissedOfRow.holds Try.pinned (OpenSpec.ofChange fnExactMissedOfSpec)

/-- ITS FALSE NEIGHBOUR: 'it returns false'. Refute it at one input. -/
def fnExactMissedOfWrong : ChangeSpec := { name := "fnExactMissedOf", fn := fun _ => fun
  | [d1, d2] => { results := [.lit (.bool false)], args := [d1, d2] }
  | _ => none }
def FnExactMissedOfWrongFalsely : Prop := fnExactMissedOfRow.holds Try.pinned (OpenSpec.ofChange fnExactMissedOfWrong)

/-- 'laws.FnExactDemandOf': WHATEVER THE INPUT: true; the input reads as it did. -/
def fnExactDemandOfSpec : ChangeSpec := { name := "fnExactDemandOf", fn := fun _ => fun
  | [d1, d2, d3] => { results := [.lit (.bool true)], args := [d1, d2, d3] }
  | _ => none }
def fnExactDemandOfRow : OpenClaim := { program := "ytdfcamlnebcbpac", sum := "295b962a9f873e53c058e16a0fefa0b8a1bbf0845e7003ec02c202a26a64fece", func := "loop.example/g03316/laws.FnExactDemandOf", spec := "fnExactDemandOf", unfollowed := true, recurses := true, apart := false }
def FnExactDemandOfSaid : Prop := fnExactDemandOfRow.holds Try.pinned (OpenSpec.ofChange fnExactDemandOfSpec)

/-- ITS FALSE NEIGHBOUR: 'it returns false'. Refute it at one input. -/
def fnExactDemandOfWrong : ChangeSpec := { name := "fnExactDemandOf", fn := fun _ => fun
  | [d1, d2, d3] => { results := [.lit (.bool false)], args := [d1, d2, d3] }
  | _ => none }
def FnExactDemandOfWrongFalsely : Prop := fnExactDemandOfRow.holds Try.pinned (OpenSpec.ofChange fnExactDemandOfWrong)

/-- 'laws.FnExactFeasible': WHATEVER THE INPUT: true; the input reads as it did. -/
def fnExactFeasibleSpec : ChangeSpec := { name := "fnExactFeasible", fn := fun _ => fun
  | [d1, d2] => { results := [.lit (.bool true)], args := [d1, d2] }
  | _ => none }
def fnExactFeasibleRow : OpenClaim := { program := "ytdfcamlnebcbpac", sum := "295b962a9f873e53c058e16a0fefa0b8a1bbf0845e7003ec02c202a26a64fece", func := "loop.example/g03316/laws.FnExactFeasible", spec := "fnExactFeasible", unfollowed := true, recurses := true, apart := false }
def FnExactFeasibleSaid : Prop := fnExactFeasibleRow.holds Try.pinned (OpenSpec.ofChange fnExactFeasibleSpec)

/-- ITS FALSE NEIGHBOUR: 'it returns false'. Refute it at one input. -/
def fnExactFeasibleWrong : ChangeSpec := { name := "fnExactFeasible", fn := fun _ => fun
  | [d1, d2] => { results := [.lit (.bool false)], args := [d1, d2] }
  | _ => none }
def FnExactFeasibleWrongFalsely : Prop := fnExactFeasibleRow.holds Try.pinned (OpenSpec.ofChange fnExactFeasibleWrong)

/-- 'laws.FnExactAcceptOrder': WHATEVER THE INPUT: true; the input reads as it did. -/
def fnExactAcceptOrderSpec : ChangeSpec := { name := "fnExactAcceptOrder", fn := fun _ => fun
  | [d1, d2] => { results := [.lit (.bool true)], args := [d1, d2] }
  | _ => none }
def fnExactAcceptOrderRow : OpenClaim := { program := "ytdfcamlnebcbpac", sum := "295b962a9f873e53c058e16a0fefa0b8a1bbf0845e7003ec02c202a26a64fece", func := "loop.example/g03316/laws.FnExactAcceptOrder", spec := "fnExactAcceptOrder", unfollowed := true, recurses := true, apart := false }
def FnExactAcceptOrderSaid : Prop := fnExactAcceptOrderRow.holds Try.pinned (OpenSpec.ofChange fnExactAcceptOrderSpec)

/-- ITS FALSE NEIGHBOUR: 'it returns false'. Refute it at one input. -/
def fnExactAcceptOrderWrong : ChangeSpec := { name := "fnExactAcceptOrder", fn := fun _ => fun
  | [d1, d2] => { results := [.lit (.bool false)], args := [d1, d2] }
  | _ => none }
def FnExactAcceptOrderWrongFalsely : Prop := fnExactAcceptOrderRow.holds Try.pinned (OpenSpec.ofChange fnExactAcceptOrderWrong)

/- THE SECOND FORM. 'bulk': how many values and letters a reading holds, each counted each time it is reached (what is shared counts as often as it is met; a slice's spare places count too). A statement '..UptoSaid' is the law's where the arguments, and the package variables that the reading takes, are together of bulk at most 1048576: NARROWER than '..Said'. Prove '..Said' where nothing that the law and all that it calls make is longer than what came in: it says more and counts as full. Else prove '..UptoSaid'. A law counts once. -/
mutual
def uptoBulk {H : Type} : DataW H → Nat
  | .lit (.string bytes) => bytes.length + 1
  | .lit _ => 1
  | .nil => 1
  | .ptr d => uptoBulk d + 1
  | .slice elems spare => uptoBulkAll elems + uptoBulkAll spare + 1
  | .agg parts => uptoBulkAll parts + 1
  | .iface _ d => uptoBulk d + 1
  | .map entries => uptoBulkEntries entries + 1
  | .held _ => 1
def uptoBulkAll {H : Type} : List (DataW H) → Nat
  | [] => 0
  | d :: r => uptoBulk d + uptoBulkAll r
def uptoBulkEntries {H : Type} : List (Lit × DataW H) → Nat
  | [] => 0
  | x :: r => uptoBulkEntry x + uptoBulkEntries r
def uptoBulkEntry {H : Type} : Lit × DataW H → Nat
  | (.string bytes, d) => bytes.length + uptoBulk d + 1
  | (_, d) => uptoBulk d + 1
 end
def uptoSmall : (H : Type) → List (DataW H) → Bool := fun _ ds => decide (uptoBulkAll ds ≤ 1048576)
def OpenSpec.upto (s : _root_.Go.ChangeSpec) : _root_.Go.OpenSpec := { _root_.Go.OpenSpec.ofChange s with cond := some uptoSmall }

/-- 'laws.FnExactPlanOk', WHERE WHAT IT READS IS OF BULK AT MOST 1048576: true; the input reads as it did. -/
def fnExactPlanOkUptoRow : OpenClaim := { program := "ytdfcamlnebcbpac", sum := "295b962a9f873e53c058e16a0fefa0b8a1bbf0845e7003ec02c202a26a64fece", func := "loop.example/g03316/laws.FnExactPlanOk", spec := "fnExactPlanOk", unfollowed := true, recurses := true, apart := false, narrowed := true }
def FnExactPlanOkUptoSaid : Prop := fnExactPlanOkUptoRow.holds Try.pinned (OpenSpec.upto fnExactPlanOkSpec)

/-- 'laws.FnExactMissedOf', WHERE WHAT IT READS IS OF BULK AT MOST 1048576: true; the input reads as it did. -/
def fnExactMissedOfUptoRow : OpenClaim := { program := "ytdfcamlnebcbpac", sum := "295b962a9f873e53c058e16a0fefa0b8a1bbf0845e7003ec02c202a26a64fece", func := "loop.example/g03316/laws.FnExactMissedOf", spec := "fnExactMissedOf", apart := false, narrowed := true }
def FnExactMissedOfUptoSaid : Prop := fnExactMissedOfUptoRow.holds Try.pinned (OpenSpec.upto fnExactMissedOfSpec)

/-- 'laws.FnExactDemandOf', WHERE WHAT IT READS IS OF BULK AT MOST 1048576: true; the input reads as it did. -/
def fnExactDemandOfUptoRow : OpenClaim := { program := "ytdfcamlnebcbpac", sum := "295b962a9f873e53c058e16a0fefa0b8a1bbf0845e7003ec02c202a26a64fece", func := "loop.example/g03316/laws.FnExactDemandOf", spec := "fnExactDemandOf", unfollowed := true, recurses := true, apart := false, narrowed := true }
def FnExactDemandOfUptoSaid : Prop := fnExactDemandOfUptoRow.holds Try.pinned (OpenSpec.upto fnExactDemandOfSpec)

/-- 'laws.FnExactFeasible', WHERE WHAT IT READS IS OF BULK AT MOST 1048576: true; the input reads as it did. -/
def fnExactFeasibleUptoRow : OpenClaim := { program := "ytdfcamlnebcbpac", sum := "295b962a9f873e53c058e16a0fefa0b8a1bbf0845e7003ec02c202a26a64fece", func := "loop.example/g03316/laws.FnExactFeasible", spec := "fnExactFeasible", unfollowed := true, recurses := true, apart := false, narrowed := true }
def FnExactFeasibleUptoSaid : Prop := fnExactFeasibleUptoRow.holds Try.pinned (OpenSpec.upto fnExactFeasibleSpec)

/-- 'laws.FnExactAcceptOrder', WHERE WHAT IT READS IS OF BULK AT MOST 1048576: true; the input reads as it did. -/
def fnExactAcceptOrderUptoRow : OpenClaim := { program := "ytdfcamlnebcbpac", sum := "295b962a9f873e53c058e16a0fefa0b8a1bbf0845e7003ec02c202a26a64fece", func := "loop.example/g03316/laws.FnExactAcceptOrder", spec := "fnExactAcceptOrder", unfollowed := true, recurses := true, apart := false, narrowed := true }
def FnExactAcceptOrderUptoSaid : Prop := fnExactAcceptOrderUptoRow.holds Try.pinned (OpenSpec.upto fnExactAcceptOrderSpec)

end Rows
end Go.Proofs.Ytdfcamlnebcbpac
