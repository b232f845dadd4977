/-
  No cell of these rows narrows 'for every input' (looked for: loops, veiled, ifaces, maps, wideKeys, modest, calm, conditions, laid).
  DERIVED. THE GIVEN ROWS OF THIS SEAT. 6 by the template 'for every input the law returns true; each argument reads behind the call as it read before'; 0 by the template 'total and deterministic' (their statements: YtdfcamlnebcbpabTotals.lean).
  GIVEN WITH THE SEED: the statements are not yours to turn. If you find one false, say at which input.
  Laid BY PROGRAM, IN A SANDBOX (cutbox-rows.mjs): the forced cells as the released guide's own fill.sh prints them over the translation f28c1cbd82a1f35c… (all of the seat's roots in one cut). By AI agents, Wed Nov 11 2026. No macro, syntax, notation, axiom, sorry.
-/
import Derived.Test.YtdfcamlnebcbpabChecked
import GoSem.Claim
import GoSem.ClaimJoined
import GoSem.ClaimMapViews
import Derived.JoinedTies
import Derived.KernelRfl
namespace Go.Proofs.Ytdfcamlnebcbpab
/- THE CELL 'sum', in the pinned program and in every row, IS THE sha256 OF THE DUMP (.gsa) THAT YtdfcamlnebcbpabProg.lean LOADS. Nothing in Lean hashes anything: it is a label: what it is worth is what the hold of that sum in a sandbox is worth. -/
noncomputable def Try.pinned : Pinned := { name := "ytdfcamlnebcbpab", sum := "f28c1cbd82a1f35ceee869f0e9cebafb5861fde676ceec3b9dc78c05d9014b2c", checked := Try.checked }
namespace Rows
def none {H : Type} : Left H := { results := [], args := [] }

/-- 'laws.FnExactNextVisible': WHATEVER THE INPUT: true; the input reads as it did. -/
def fnExactNextVisibleSpec : ChangeSpec := { name := "fnExactNextVisible", fn := fun _ => fun
  | [d1, d2] => { results := [.lit (.bool true)], args := [d1, d2] }
  | _ => none }
def fnExactNextVisibleRow : OpenClaim := { program := "ytdfcamlnebcbpab", sum := "f28c1cbd82a1f35ceee869f0e9cebafb5861fde676ceec3b9dc78c05d9014b2c", func := "loop.example/g03316/laws.FnExactNextVisible", spec := "fnExactNextVisible", apart := false }
def FnExactNextVisibleSaid : Prop := fnExactNextVisibleRow.holds Try.pinned (OpenSpec.ofChange fnExactNextVisibleSpec)

/-- ITS FALSE NEIGHBOUR: 'it returns false'. Refute it at one input. -/
def fnExactNextVisibleWrong : ChangeSpec := { name := "fnExactNextVisible", fn := fun _ => fun
  | [d1, d2] => { results := [.lit (.bool false)], args := [d1, d2] }
  | _ => none }
def FnExactNextVisibleWrongFalsely : Prop := fnExactNextVisibleRow.holds Try.pinned (OpenSpec.ofChange fnExactNextVisibleWrong)

/-- 'laws.FnExactVisibleCount': WHATEVER THE INPUT: true; the input reads as it did. -/
def fnExactVisibleCountSpec : ChangeSpec := { name := "fnExactVisibleCount", fn := fun _ => fun
  | [d1, d2, d3] => { results := [.lit (.bool true)], args := [d1, d2, d3] }
  | _ => none }
def fnExactVisibleCountRow : OpenClaim := { program := "ytdfcamlnebcbpab", sum := "f28c1cbd82a1f35ceee869f0e9cebafb5861fde676ceec3b9dc78c05d9014b2c", func := "loop.example/g03316/laws.FnExactVisibleCount", spec := "fnExactVisibleCount", apart := false }
def FnExactVisibleCountSaid : Prop := fnExactVisibleCountRow.holds Try.pinned (OpenSpec.ofChange fnExactVisibleCountSpec)

/-- ITS FALSE NEIGHBOUR: 'it returns false'. Refute it at one input. -/
def fnExactVisibleCountWrong : ChangeSpec := { name := "fnExactVisibleCount", fn := fun _ => fun
  | [d1, d2, d3] => { results := [.lit (.bool false)], args := [d1, d2, d3] }
  | _ => none }
def FnExactVisibleCountWrongFalsely : Prop := fnExactVisibleCountRow.holds Try.pinned (OpenSpec.ofChange fnExactVisibleCountWrong)

/-- 'laws.FnExactRequestsOk': WHATEVER THE INPUT: true; the input reads as it did. -/
def fnExactRequestsOkSpec : ChangeSpec := { name := "fnExactRequestsOk", fn := fun _ => fun
  | [d] => { results := [.lit (.bool true)], args := [d] }
  | _ => none }
def fnExactRequestsOkRow : OpenClaim := { program := "ytdfcamlnebcbpab", sum := "f28c1cbd82a1f35ceee869f0e9cebafb5861fde676ceec3b9dc78c05d9014b2c", func := "loop.example/g03316/laws.FnExactRequestsOk", spec := "fnExactRequestsOk", unfollowed := true, recurses := true, apart := false }
def FnExactRequestsOkSaid : Prop := fnExactRequestsOkRow.holds Try.pinned (OpenSpec.ofChange fnExactRequestsOkSpec)

/-- ITS FALSE NEIGHBOUR: 'it returns false'. Refute it at one input. -/
def fnExactRequestsOkWrong : ChangeSpec := { name := "fnExactRequestsOk", fn := fun _ => fun
  | [d] => { results := [.lit (.bool false)], args := [d] }
  | _ => none }
def FnExactRequestsOkWrongFalsely : Prop := fnExactRequestsOkRow.holds Try.pinned (OpenSpec.ofChange fnExactRequestsOkWrong)

/-- 'laws.FnExactPlanPasses': WHATEVER THE INPUT: true; the input reads as it did. -/
def fnExactPlanPassesSpec : ChangeSpec := { name := "fnExactPlanPasses", fn := fun _ => fun
  | [d1, d2] => { results := [.lit (.bool true)], args := [d1, d2] }
  | _ => none }
def fnExactPlanPassesRow : OpenClaim := { program := "ytdfcamlnebcbpab", sum := "f28c1cbd82a1f35ceee869f0e9cebafb5861fde676ceec3b9dc78c05d9014b2c", func := "loop.example/g03316/laws.FnExactPlanPasses", spec := "fnExactPlanPasses", unfollowed := true, recurses := true, apart := false }
def FnExactPlanPassesSaid : Prop := fnExactPlanPassesRow.holds Try.pinned (OpenSpec.ofChange fnExactPlanPassesSpec)

/-- ITS FALSE NEIGHBOUR: 'it returns false'. Refute it at one input. -/
def fnExactPlanPassesWrong : ChangeSpec := { name := "fnExactPlanPasses", fn := fun _ => fun
  | [d1, d2] => { results := [.lit (.bool false)], args := [d1, d2] }
  | _ => none }
def FnExactPlanPassesWrongFalsely : Prop := fnExactPlanPassesRow.holds Try.pinned (OpenSpec.ofChange fnExactPlanPassesWrong)

/-- 'laws.FnExactSlotAt': WHATEVER THE INPUT: true; the input reads as it did. -/
def fnExactSlotAtSpec : ChangeSpec := { name := "fnExactSlotAt", fn := fun _ => fun
  | [d1, d2] => { results := [.lit (.bool true)], args := [d1, d2] }
  | _ => none }
def fnExactSlotAtRow : OpenClaim := { program := "ytdfcamlnebcbpab", sum := "f28c1cbd82a1f35ceee869f0e9cebafb5861fde676ceec3b9dc78c05d9014b2c", func := "loop.example/g03316/laws.FnExactSlotAt", spec := "fnExactSlotAt", apart := false }
def FnExactSlotAtSaid : Prop := fnExactSlotAtRow.holds Try.pinned (OpenSpec.ofChange fnExactSlotAtSpec)

/-- ITS FALSE NEIGHBOUR: 'it returns false'. Refute it at one input. -/
def fnExactSlotAtWrong : ChangeSpec := { name := "fnExactSlotAt", fn := fun _ => fun
  | [d1, d2] => { results := [.lit (.bool false)], args := [d1, d2] }
  | _ => none }
def FnExactSlotAtWrongFalsely : Prop := fnExactSlotAtRow.holds Try.pinned (OpenSpec.ofChange fnExactSlotAtWrong)

/-- 'laws.FnExactSlotsOf': WHATEVER THE INPUT: true; the input reads as it did. -/
def fnExactSlotsOfSpec : ChangeSpec := { name := "fnExactSlotsOf", fn := fun _ => fun
  | [d1, d2] => { results := [.lit (.bool true)], args := [d1, d2] }
  | _ => none }
def fnExactSlotsOfRow : OpenClaim := { program := "ytdfcamlnebcbpab", sum := "f28c1cbd82a1f35ceee869f0e9cebafb5861fde676ceec3b9dc78c05d9014b2c", func := "loop.example/g03316/laws.FnExactSlotsOf", spec := "fnExactSlotsOf", apart := false }
def FnExactSlotsOfSaid : Prop := fnExactSlotsOfRow.holds Try.pinned (OpenSpec.ofChange fnExactSlotsOfSpec)

/-- ITS FALSE NEIGHBOUR: 'it returns false'. Refute it at one input. -/
def fnExactSlotsOfWrong : ChangeSpec := { name := "fnExactSlotsOf", fn := fun _ => fun
  | [d1, d2] => { results := [.lit (.bool false)], args := [d1, d2] }
  | _ => none }
def FnExactSlotsOfWrongFalsely : Prop := fnExactSlotsOfRow.holds Try.pinned (OpenSpec.ofChange fnExactSlotsOfWrong)

/- THE SECOND FORM. 'bulk': how many values and letters a reading holds, each counted each time it is reached (what is shared counts as often as it is met; a slice's spare places count too). A statement '..UptoSaid' is the law's where the arguments, and the package variables that the reading takes, are together of bulk at most 1048576: NARROWER than '..Said'. Prove '..Said' where nothing that the law and all that it calls make is longer than what came in: it says more and counts as full. Else prove '..UptoSaid'. A law counts once. -/
mutual
def uptoBulk {H : Type} : DataW H → Nat
  | .lit (.string bytes) => bytes.length + 1
  | .lit _ => 1
  | .nil => 1
  | .ptr d => uptoBulk d + 1
  | .slice elems spare => uptoBulkAll elems + uptoBulkAll spare + 1
  | .agg parts => uptoBulkAll parts + 1
  | .iface _ d => uptoBulk d + 1
  | .map entries => uptoBulkEntries entries + 1
  | .held _ => 1
def uptoBulkAll {H : Type} : List (DataW H) → Nat
  | [] => 0
  | d :: r => uptoBulk d + uptoBulkAll r
def uptoBulkEntries {H : Type} : List (Lit × DataW H) → Nat
  | [] => 0
  | x :: r => uptoBulkEntry x + uptoBulkEntries r
def uptoBulkEntry {H : Type} : Lit × DataW H → Nat
  | (.string bytes, d) => bytes.length + uptoBulk d + 1
  | (_, d) => uptoBulk d + 1
 end
def uptoSmall : (H : Type) → List (DataW H) → Bool := fun _ ds => decide (uptoBulkAll ds ≤ 1048576)
def OpenSpec.upto (s : _root_.Go.ChangeSpec) : _root_.Go.OpenSpec := { _root_.Go.OpenSpec.ofChange s with cond := some uptoSmall }

/-- 'laws.FnExactNextVisible', WHERE WHAT IT READS IS OF BULK AT MOST 1048576: true; the input reads as it did. -/
def fnExactNextVisibleUptoRow : OpenClaim := { program := "ytdfcamlnebcbpab", sum := "f28c1cbd82a1f35ceee869f0e9cebafb5861fde676ceec3b9dc78c05d9014b2c", func := "loop.example/g03316/laws.FnExactNextVisible", spec := "fnExactNextVisible", apart := false, narrowed := true }
def FnExactNextVisibleUptoSaid : Prop := fnExactNextVisibleUptoRow.holds Try.pinned (OpenSpec.upto fnExactNextVisibleSpec)

/-- 'laws.FnExactVisibleCount', WHERE WHAT IT READS IS OF BULK AT MOST 1048576: true; the input reads as it did. -/
def fnExactVisibleCountUptoRow : OpenClaim := { program := "ytdfcamlnebcbpab", sum := "f28c1cbd82a1f35ceee869f0e9cebafb5861fde676ceec3b9dc78c05d9014b2c", func := "loop.example/g03316/laws.FnExactVisibleCount", spec := "fnExactVisibleCount", apart := false, narrowed := true }
def FnExactVisibleCountUptoSaid : Prop := fnExactVisibleCountUptoRow.holds Try.pinned (OpenSpec.upto fnExactVisibleCountSpec)

/-- 'laws.FnExactRequestsOk', WHERE WHAT IT READS IS OF BULK AT MOST 1048576: true; the input reads as it did. -/
def fnExactRequestsOkUptoRow : OpenClaim := { program := "ytdfcamlnebcbpab", sum := "f28c1cbd82a1f35ceee869f0e9cebafb5861fde676ceec3b9dc78c05d9014b2c", func := "loop.example/g03316/laws.FnExactRequestsOk", spec := "fnExactRequestsOk", unfollowed := true, recurses := true, apart := false, narrowed := true }
def FnExactRequestsOkUptoSaid : Prop := fnExactRequestsOkUptoRow.holds Try.pinned (OpenSpec.upto fnExactRequestsOkSpec)

/-- 'laws.FnExactPlanPasses', WHERE WHAT IT READS IS OF BULK AT MOST 1048576: true; the input reads as it did. -/
def fnExactPlanPassesUptoRow : OpenClaim := { program := "ytdfcamlnebcbpab", sum := "f28c1cbd82a1f35ceee869f0e9cebafb5861fde676ceec3b9dc78c05d9014b2c", func := "loop.example/g03316/laws.FnExactPlanPasses", spec := "fnExactPlanPasses", unfollowed := true, recurses := true, apart := false, narrowed := true }
def FnExactPlanPassesUptoSaid : Prop := fnExactPlanPassesUptoRow.holds Try.pinned (OpenSpec.upto fnExactPlanPassesSpec)

/-- 'laws.FnExactSlotAt', WHERE WHAT IT READS IS OF BULK AT MOST 1048576: true; the input reads as it did. -/
def fnExactSlotAtUptoRow : OpenClaim := { program := "ytdfcamlnebcbpab", sum := "f28c1cbd82a1f35ceee869f0e9cebafb5861fde676ceec3b9dc78c05d9014b2c", func := "loop.example/g03316/laws.FnExactSlotAt", spec := "fnExactSlotAt", apart := false, narrowed := true }
def FnExactSlotAtUptoSaid : Prop := fnExactSlotAtUptoRow.holds Try.pinned (OpenSpec.upto fnExactSlotAtSpec)

/-- 'laws.FnExactSlotsOf', WHERE WHAT IT READS IS OF BULK AT MOST 1048576: true; the input reads as it did. -/
def fnExactSlotsOfUptoRow : OpenClaim := { program := "ytdfcamlnebcbpab", sum := "f28c1cbd82a1f35ceee869f0e9cebafb5861fde676ceec3b9dc78c05d9014b2c", func := "loop.example/g03316/laws.FnExactSlotsOf", spec := "fnExactSlotsOf", apart := false, narrowed := true }
def FnExactSlotsOfUptoSaid : Prop := fnExactSlotsOfUptoRow.holds Try.pinned (OpenSpec.upto fnExactSlotsOfSpec)

end Rows
end Go.Proofs.Ytdfcamlnebcbpab
