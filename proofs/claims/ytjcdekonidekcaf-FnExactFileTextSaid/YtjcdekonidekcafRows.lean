/-
  No cell of these rows narrows 'for every input' (looked for: loops, veiled, ifaces, maps, wideKeys, modest, calm, conditions, laid).
  DERIVED. THE GIVEN ROWS OF THIS SEAT. 6 by the template 'for every input the law returns true; each argument reads behind the call as it read before'; 0 by the template 'total and deterministic' (their statements: YtjcdekonidekcafTotals.lean).
  GIVEN WITH THE SEED: the statements are not yours to turn. If you find one false, say at which input.
  Laid BY PROGRAM, IN A SANDBOX (cutbox-rows.mjs): the forced cells as the released guide's own fill.sh prints them over the translation 8b58b7e6dc001ff9… (all of the seat's roots in one cut). By AI agents, Wed Nov 11 2026. No macro, syntax, notation, axiom, sorry.
-/
import Derived.Test.YtjcdekonidekcafChecked
import GoSem.Claim
import GoSem.ClaimJoined
import GoSem.ClaimMapViews
import Derived.JoinedTies
import Derived.KernelRfl
namespace Go.Proofs.Ytjcdekonidekcaf
/- THE CELL 'sum', in the pinned program and in every row, IS THE sha256 OF THE DUMP (.gsa) THAT YtjcdekonidekcafProg.lean LOADS. Nothing in Lean hashes anything: it is a label: what it is worth is what the hold of that sum in a sandbox is worth. -/
noncomputable def Try.pinned : Pinned := { name := "ytjcdekonidekcaf", sum := "8b58b7e6dc001ff9588d48b30c0b186addfbf2dd48fc0d6e515262ff6ecad718", checked := Try.checked }
namespace Rows
def none {H : Type} : Left H := { results := [], args := [] }

/-- 'laws.FnExactFileInOk': WHATEVER THE INPUT: true; the input reads as it did. -/
def fnExactFileInOkSpec : ChangeSpec := { name := "fnExactFileInOk", fn := fun _ => fun
  | [d] => { results := [.lit (.bool true)], args := [d] }
  | _ => none }
def fnExactFileInOkRow : OpenClaim := { program := "ytjcdekonidekcaf", sum := "8b58b7e6dc001ff9588d48b30c0b186addfbf2dd48fc0d6e515262ff6ecad718", func := "loop.example/g03316/laws.FnExactFileInOk", spec := "fnExactFileInOk", apart := false }
def FnExactFileInOkSaid : Prop := fnExactFileInOkRow.holds Try.pinned (OpenSpec.ofChange fnExactFileInOkSpec)

/-- ITS FALSE NEIGHBOUR: 'it returns false'. Refute it at one input. -/
def fnExactFileInOkWrong : ChangeSpec := { name := "fnExactFileInOk", fn := fun _ => fun
  | [d] => { results := [.lit (.bool false)], args := [d] }
  | _ => none }
def FnExactFileInOkWrongFalsely : Prop := fnExactFileInOkRow.holds Try.pinned (OpenSpec.ofChange fnExactFileInOkWrong)

/-- 'laws.FnExactNewFileIn': WHATEVER THE INPUT: true; the input reads as it did. -/
def fnExactNewFileInSpec : ChangeSpec := { name := "fnExactNewFileIn", fn := fun _ => fun
  | [d] => { results := [.lit (.bool true)], args := [d] }
  | _ => none }
def fnExactNewFileInRow : OpenClaim := { program := "ytjcdekonidekcaf", sum := "8b58b7e6dc001ff9588d48b30c0b186addfbf2dd48fc0d6e515262ff6ecad718", func := "loop.example/g03316/laws.FnExactNewFileIn", spec := "fnExactNewFileIn", apart := false }
def FnExactNewFileInSaid : Prop := fnExactNewFileInRow.holds Try.pinned (OpenSpec.ofChange fnExactNewFileInSpec)

/-- ITS FALSE NEIGHBOUR: 'it returns false'. Refute it at one input. -/
def fnExactNewFileInWrong : ChangeSpec := { name := "fnExactNewFileIn", fn := fun _ => fun
  | [d] => { results := [.lit (.bool false)], args := [d] }
  | _ => none }
def FnExactNewFileInWrongFalsely : Prop := fnExactNewFileInRow.holds Try.pinned (OpenSpec.ofChange fnExactNewFileInWrong)

/-- 'laws.FnExactHearPart': WHATEVER THE INPUT: true; the input reads as it did. -/
def fnExactHearPartSpec : ChangeSpec := { name := "fnExactHearPart", fn := fun _ => fun
  | [d1, d2] => { results := [.lit (.bool true)], args := [d1, d2] }
  | _ => none }
def fnExactHearPartRow : OpenClaim := { program := "ytjcdekonidekcaf", sum := "8b58b7e6dc001ff9588d48b30c0b186addfbf2dd48fc0d6e515262ff6ecad718", func := "loop.example/g03316/laws.FnExactHearPart", spec := "fnExactHearPart", apart := false }
def FnExactHearPartSaid : Prop := fnExactHearPartRow.holds Try.pinned (OpenSpec.ofChange fnExactHearPartSpec)

/-- ITS FALSE NEIGHBOUR: 'it returns false'. Refute it at one input. -/
def fnExactHearPartWrong : ChangeSpec := { name := "fnExactHearPart", fn := fun _ => fun
  | [d1, d2] => { results := [.lit (.bool false)], args := [d1, d2] }
  | _ => none }
def FnExactHearPartWrongFalsely : Prop := fnExactHearPartRow.holds Try.pinned (OpenSpec.ofChange fnExactHearPartWrong)

/-- 'laws.FnExactMissingOf': WHATEVER THE INPUT: true; the input reads as it did. -/
def fnExactMissingOfSpec : ChangeSpec := { name := "fnExactMissingOf", fn := fun _ => fun
  | [d] => { results := [.lit (.bool true)], args := [d] }
  | _ => none }
def fnExactMissingOfRow : OpenClaim := { program := "ytjcdekonidekcaf", sum := "8b58b7e6dc001ff9588d48b30c0b186addfbf2dd48fc0d6e515262ff6ecad718", func := "loop.example/g03316/laws.FnExactMissingOf", spec := "fnExactMissingOf", unfollowed := true, recurses := true, apart := false }
def FnExactMissingOfSaid : Prop := fnExactMissingOfRow.holds Try.pinned (OpenSpec.ofChange fnExactMissingOfSpec)

/-- ITS FALSE NEIGHBOUR: 'it returns false'. Refute it at one input. -/
def fnExactMissingOfWrong : ChangeSpec := { name := "fnExactMissingOf", fn := fun _ => fun
  | [d] => { results := [.lit (.bool false)], args := [d] }
  | _ => none }
def FnExactMissingOfWrongFalsely : Prop := fnExactMissingOfRow.holds Try.pinned (OpenSpec.ofChange fnExactMissingOfWrong)

/-- 'laws.FnExactFileText': WHATEVER THE INPUT: true; the input reads as it did. -/
def fnExactFileTextSpec : ChangeSpec := { name := "fnExactFileText", fn := fun _ => fun
  | [d] => { results := [.lit (.bool true)], args := [d] }
  | _ => none }
def fnExactFileTextRow : OpenClaim := { program := "ytjcdekonidekcaf", sum := "8b58b7e6dc001ff9588d48b30c0b186addfbf2dd48fc0d6e515262ff6ecad718", func := "loop.example/g03316/laws.FnExactFileText", spec := "fnExactFileText", inPlace := ["internal/abi.NoEscape", "internal/bytealg.MakeNoZero"], apart := false }
def FnExactFileTextSaid : Prop := fnExactFileTextRow.holds Try.pinned (OpenSpec.ofChange fnExactFileTextSpec)

/-- ITS FALSE NEIGHBOUR: 'it returns false'. Refute it at one input. -/
def fnExactFileTextWrong : ChangeSpec := { name := "fnExactFileText", fn := fun _ => fun
  | [d] => { results := [.lit (.bool false)], args := [d] }
  | _ => none }
def FnExactFileTextWrongFalsely : Prop := fnExactFileTextRow.holds Try.pinned (OpenSpec.ofChange fnExactFileTextWrong)

/-- 'laws.FnExactFileOutOk': WHATEVER THE INPUT: true; the input reads as it did. -/
def fnExactFileOutOkSpec : ChangeSpec := { name := "fnExactFileOutOk", fn := fun _ => fun
  | [d] => { results := [.lit (.bool true)], args := [d] }
  | _ => none }
def fnExactFileOutOkRow : OpenClaim := { program := "ytjcdekonidekcaf", sum := "8b58b7e6dc001ff9588d48b30c0b186addfbf2dd48fc0d6e515262ff6ecad718", func := "loop.example/g03316/laws.FnExactFileOutOk", spec := "fnExactFileOutOk", apart := false }
def FnExactFileOutOkSaid : Prop := fnExactFileOutOkRow.holds Try.pinned (OpenSpec.ofChange fnExactFileOutOkSpec)

/-- ITS FALSE NEIGHBOUR: 'it returns false'. Refute it at one input. -/
def fnExactFileOutOkWrong : ChangeSpec := { name := "fnExactFileOutOk", fn := fun _ => fun
  | [d] => { results := [.lit (.bool false)], args := [d] }
  | _ => none }
def FnExactFileOutOkWrongFalsely : Prop := fnExactFileOutOkRow.holds Try.pinned (OpenSpec.ofChange fnExactFileOutOkWrong)

/- THE SECOND FORM. 'bulk': how many values and letters a reading holds, each counted each time it is reached (what is shared counts as often as it is met; a slice's spare places count too). A statement '..UptoSaid' is the law's where the arguments, and the package variables that the reading takes, are together of bulk at most 1048576: NARROWER than '..Said'. Prove '..Said' where nothing that the law and all that it calls make is longer than what came in: it says more and counts as full. Else prove '..UptoSaid'. A law counts once. -/
mutual
def uptoBulk {H : Type} : DataW H → Nat
  | .lit (.string bytes) => bytes.length + 1
  | .lit _ => 1
  | .nil => 1
  | .ptr d => uptoBulk d + 1
  | .slice elems spare => uptoBulkAll elems + uptoBulkAll spare + 1
  | .agg parts => uptoBulkAll parts + 1
  | .iface _ d => uptoBulk d + 1
  | .map entries => uptoBulkEntries entries + 1
  | .held _ => 1
def uptoBulkAll {H : Type} : List (DataW H) → Nat
  | [] => 0
  | d :: r => uptoBulk d + uptoBulkAll r
def uptoBulkEntries {H : Type} : List (Lit × DataW H) → Nat
  | [] => 0
  | x :: r => uptoBulkEntry x + uptoBulkEntries r
def uptoBulkEntry {H : Type} : Lit × DataW H → Nat
  | (.string bytes, d) => bytes.length + uptoBulk d + 1
  | (_, d) => uptoBulk d + 1
 end
def uptoSmall : (H : Type) → List (DataW H) → Bool := fun _ ds => decide (uptoBulkAll ds ≤ 1048576)
def OpenSpec.upto (s : _root_.Go.ChangeSpec) : _root_.Go.OpenSpec := { _root_.Go.OpenSpec.ofChange s with cond := some uptoSmall }

/-- 'laws.FnExactFileInOk', WHERE WHAT IT READS IS OF BULK AT MOST 1048576: true; the input reads as it did. -/
def fnExactFileInOkUptoRow : OpenClaim := { program := "ytjcdekonidekcaf", sum := "8b58b7e6dc001ff9588d48b30c0b186addfbf2dd48fc0d6e515262ff6ecad718", func := "loop.example/g03316/laws.FnExactFileInOk", spec := "fnExactFileInOk", apart := false, narrowed := true }
def FnExactFileInOkUptoSaid : Prop := fnExactFileInOkUptoRow.holds Try.pinned (OpenSpec.upto fnExactFileInOkSpec)

/-- 'laws.FnExactNewFileIn', WHERE WHAT IT READS IS OF BULK AT MOST 1048576: true; the input reads as it did. -/
def fnExactNewFileInUptoRow : OpenClaim := { program := "ytjcdekonidekcaf", sum := "8b58b7e6dc001ff9588d48b30c0b186addfbf2dd48fc0d6e515262ff6ecad718", func := "loop.example/g03316/laws.FnExactNewFileIn", spec := "fnExactNewFileIn", apart := false, narrowed := true }
def FnExactNewFileInUptoSaid : Prop := fnExactNewFileInUptoRow.holds Try.pinned (OpenSpec.upto fnExactNewFileInSpec)

/-- 'laws.FnExactHearPart', WHERE WHAT IT READS IS OF BULK AT MOST 1048576: true; the input reads as it did. -/
def fnExactHearPartUptoRow : OpenClaim := { program := "ytjcdekonidekcaf", sum := "8b58b7e6dc001ff9588d48b30c0b186addfbf2dd48fc0d6e515262ff6ecad718", func := "loop.example/g03316/laws.FnExactHearPart", spec := "fnExactHearPart", apart := false, narrowed := true }
def FnExactHearPartUptoSaid : Prop := fnExactHearPartUptoRow.holds Try.pinned (OpenSpec.upto fnExactHearPartSpec)

/-- 'laws.FnExactMissingOf', WHERE WHAT IT READS IS OF BULK AT MOST 1048576: true; the input reads as it did. -/
def fnExactMissingOfUptoRow : OpenClaim := { program := "ytjcdekonidekcaf", sum := "8b58b7e6dc001ff9588d48b30c0b186addfbf2dd48fc0d6e515262ff6ecad718", func := "loop.example/g03316/laws.FnExactMissingOf", spec := "fnExactMissingOf", unfollowed := true, recurses := true, apart := false, narrowed := true }
def FnExactMissingOfUptoSaid : Prop := fnExactMissingOfUptoRow.holds Try.pinned (OpenSpec.upto fnExactMissingOfSpec)

/-- 'laws.FnExactFileText', WHERE WHAT IT READS IS OF BULK AT MOST 1048576: true; the input reads as it did. -/
def fnExactFileTextUptoRow : OpenClaim := { program := "ytjcdekonidekcaf", sum := "8b58b7e6dc001ff9588d48b30c0b186addfbf2dd48fc0d6e515262ff6ecad718", func := "loop.example/g03316/laws.FnExactFileText", spec := "fnExactFileText", inPlace := ["internal/abi.NoEscape", "internal/bytealg.MakeNoZero"], apart := false, narrowed := true }
def FnExactFileTextUptoSaid : Prop := fnExactFileTextUptoRow.holds Try.pinned (OpenSpec.upto fnExactFileTextSpec)

/-- 'laws.FnExactFileOutOk', WHERE WHAT IT READS IS OF BULK AT MOST 1048576: true; the input reads as it did. -/
def fnExactFileOutOkUptoRow : OpenClaim := { program := "ytjcdekonidekcaf", sum := "8b58b7e6dc001ff9588d48b30c0b186addfbf2dd48fc0d6e515262ff6ecad718", func := "loop.example/g03316/laws.FnExactFileOutOk", spec := "fnExactFileOutOk", apart := false, narrowed := true }
def FnExactFileOutOkUptoSaid : Prop := fnExactFileOutOkUptoRow.holds Try.pinned (OpenSpec.upto fnExactFileOutOkSpec)

end Rows
end Go.Proofs.Ytjcdekonidekcaf
