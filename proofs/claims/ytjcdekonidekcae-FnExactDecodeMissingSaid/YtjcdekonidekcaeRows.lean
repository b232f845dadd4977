/-
  No cell of these rows narrows 'for every input' (looked for: loops, veiled, ifaces, maps, wideKeys, modest, calm, conditions, laid).
  DERIVED. THE GIVEN ROWS OF THIS SEAT. 6 by the template 'for every input the law returns true; each argument reads behind the call as it read before'; 0 by the template 'total and deterministic' (their statements: YtjcdekonidekcaeTotals.lean).
  GIVEN WITH THE SEED: the statements are not yours to turn. If you find one false, say at which input.
  Laid BY PROGRAM, IN A SANDBOX (cutbox-rows.mjs): the forced cells as the released guide's own fill.sh prints them over the translation 690ab034a741fd28… (all of the seat's roots in one cut). By AI agents, Wed Nov 11 2026. No macro, syntax, notation, axiom, sorry.
-/
import Derived.Test.YtjcdekonidekcaeChecked
import GoSem.Claim
import GoSem.ClaimJoined
import GoSem.ClaimMapViews
import Derived.JoinedTies
import Derived.KernelRfl
namespace Go.Proofs.Ytjcdekonidekcae
/- THE CELL 'sum', in the pinned program and in every row, IS THE sha256 OF THE DUMP (.gsa) THAT YtjcdekonidekcaeProg.lean LOADS. Nothing in Lean hashes anything: it is a label: what it is worth is what the hold of that sum in a sandbox is worth. -/
noncomputable def Try.pinned : Pinned := { name := "ytjcdekonidekcae", sum := "690ab034a741fd28735cef31d16ceba854b58199b88442d35d9197e901d7a25f", checked := Try.checked }
namespace Rows
def none {H : Type} : Left H := { results := [], args := [] }

/-- 'laws.FnExactEncodeSegment': WHATEVER THE INPUT: true; the input reads as it did. -/
def fnExactEncodeSegmentSpec : ChangeSpec := { name := "fnExactEncodeSegment", fn := fun _ => fun
  | [d1, d2, d3] => { results := [.lit (.bool true)], args := [d1, d2, d3] }
  | _ => none }
def fnExactEncodeSegmentRow : OpenClaim := { program := "ytjcdekonidekcae", sum := "690ab034a741fd28735cef31d16ceba854b58199b88442d35d9197e901d7a25f", func := "loop.example/g03316/laws.FnExactEncodeSegment", spec := "fnExactEncodeSegment", apart := false }
def FnExactEncodeSegmentSaid : Prop := fnExactEncodeSegmentRow.holds Try.pinned (OpenSpec.ofChange fnExactEncodeSegmentSpec)

/-- ITS FALSE NEIGHBOUR: 'it returns false'. Refute it at one input. -/
def fnExactEncodeSegmentWrong : ChangeSpec := { name := "fnExactEncodeSegment", fn := fun _ => fun
  | [d1, d2, d3] => { results := [.lit (.bool false)], args := [d1, d2, d3] }
  | _ => none }
def FnExactEncodeSegmentWrongFalsely : Prop := fnExactEncodeSegmentRow.holds Try.pinned (OpenSpec.ofChange fnExactEncodeSegmentWrong)

/-- 'laws.FnExactDecodeSegment': WHATEVER THE INPUT: true; the input reads as it did. -/
def fnExactDecodeSegmentSpec : ChangeSpec := { name := "fnExactDecodeSegment", fn := fun _ => fun
  | [d] => { results := [.lit (.bool true)], args := [d] }
  | _ => none }
def fnExactDecodeSegmentRow : OpenClaim := { program := "ytjcdekonidekcae", sum := "690ab034a741fd28735cef31d16ceba854b58199b88442d35d9197e901d7a25f", func := "loop.example/g03316/laws.FnExactDecodeSegment", spec := "fnExactDecodeSegment", apart := false }
def FnExactDecodeSegmentSaid : Prop := fnExactDecodeSegmentRow.holds Try.pinned (OpenSpec.ofChange fnExactDecodeSegmentSpec)

/-- ITS FALSE NEIGHBOUR: 'it returns false'. Refute it at one input. -/
def fnExactDecodeSegmentWrong : ChangeSpec := { name := "fnExactDecodeSegment", fn := fun _ => fun
  | [d] => { results := [.lit (.bool false)], args := [d] }
  | _ => none }
def FnExactDecodeSegmentWrongFalsely : Prop := fnExactDecodeSegmentRow.holds Try.pinned (OpenSpec.ofChange fnExactDecodeSegmentWrong)

/-- 'laws.FnExactEncodeEnd': WHATEVER THE INPUT: true; the input reads as it did. -/
def fnExactEncodeEndSpec : ChangeSpec := { name := "fnExactEncodeEnd", fn := fun _ => fun
  | [d1, d2] => { results := [.lit (.bool true)], args := [d1, d2] }
  | _ => none }
def fnExactEncodeEndRow : OpenClaim := { program := "ytjcdekonidekcae", sum := "690ab034a741fd28735cef31d16ceba854b58199b88442d35d9197e901d7a25f", func := "loop.example/g03316/laws.FnExactEncodeEnd", spec := "fnExactEncodeEnd", apart := false }
def FnExactEncodeEndSaid : Prop := fnExactEncodeEndRow.holds Try.pinned (OpenSpec.ofChange fnExactEncodeEndSpec)

/-- ITS FALSE NEIGHBOUR: 'it returns false'. Refute it at one input. -/
def fnExactEncodeEndWrong : ChangeSpec := { name := "fnExactEncodeEnd", fn := fun _ => fun
  | [d1, d2] => { results := [.lit (.bool false)], args := [d1, d2] }
  | _ => none }
def FnExactEncodeEndWrongFalsely : Prop := fnExactEncodeEndRow.holds Try.pinned (OpenSpec.ofChange fnExactEncodeEndWrong)

/-- 'laws.FnExactDecodeEnd': WHATEVER THE INPUT: true; the input reads as it did. -/
def fnExactDecodeEndSpec : ChangeSpec := { name := "fnExactDecodeEnd", fn := fun _ => fun
  | [d] => { results := [.lit (.bool true)], args := [d] }
  | _ => none }
def fnExactDecodeEndRow : OpenClaim := { program := "ytjcdekonidekcae", sum := "690ab034a741fd28735cef31d16ceba854b58199b88442d35d9197e901d7a25f", func := "loop.example/g03316/laws.FnExactDecodeEnd", spec := "fnExactDecodeEnd", apart := false }
def FnExactDecodeEndSaid : Prop := fnExactDecodeEndRow.holds Try.pinned (OpenSpec.ofChange fnExactDecodeEndSpec)

/-- ITS FALSE NEIGHBOUR: 'it returns false'. Refute it at one input. -/
def fnExactDecodeEndWrong : ChangeSpec := { name := "fnExactDecodeEnd", fn := fun _ => fun
  | [d] => { results := [.lit (.bool false)], args := [d] }
  | _ => none }
def FnExactDecodeEndWrongFalsely : Prop := fnExactDecodeEndRow.holds Try.pinned (OpenSpec.ofChange fnExactDecodeEndWrong)

/-- 'laws.FnExactEncodeMissing': WHATEVER THE INPUT: true; the input reads as it did. -/
def fnExactEncodeMissingSpec : ChangeSpec := { name := "fnExactEncodeMissing", fn := fun _ => fun
  | [d1, d2] => { results := [.lit (.bool true)], args := [d1, d2] }
  | _ => none }
def fnExactEncodeMissingRow : OpenClaim := { program := "ytjcdekonidekcae", sum := "690ab034a741fd28735cef31d16ceba854b58199b88442d35d9197e901d7a25f", func := "loop.example/g03316/laws.FnExactEncodeMissing", spec := "fnExactEncodeMissing", apart := false }
def FnExactEncodeMissingSaid : Prop := fnExactEncodeMissingRow.holds Try.pinned (OpenSpec.ofChange fnExactEncodeMissingSpec)

/-- ITS FALSE NEIGHBOUR: 'it returns false'. Refute it at one input. -/
def fnExactEncodeMissingWrong : ChangeSpec := { name := "fnExactEncodeMissing", fn := fun _ => fun
  | [d1, d2] => { results := [.lit (.bool false)], args := [d1, d2] }
  | _ => none }
def FnExactEncodeMissingWrongFalsely : Prop := fnExactEncodeMissingRow.holds Try.pinned (OpenSpec.ofChange fnExactEncodeMissingWrong)

/-- 'laws.FnExactDecodeMissing': WHATEVER THE INPUT: true; the input reads as it did. -/
def fnExactDecodeMissingSpec : ChangeSpec := { name := "fnExactDecodeMissing", fn := fun _ => fun
  | [d] => { results := [.lit (.bool true)], args := [d] }
  | _ => none }
def fnExactDecodeMissingRow : OpenClaim := { program := "ytjcdekonidekcae", sum := "690ab034a741fd28735cef31d16ceba854b58199b88442d35d9197e901d7a25f", func := "loop.example/g03316/laws.FnExactDecodeMissing", spec := "fnExactDecodeMissing", apart := false }
def FnExactDecodeMissingSaid : Prop := fnExactDecodeMissingRow.holds Try.pinned (OpenSpec.ofChange fnExactDecodeMissingSpec)

/-- ITS FALSE NEIGHBOUR: 'it returns false'. Refute it at one input. -/
def fnExactDecodeMissingWrong : ChangeSpec := { name := "fnExactDecodeMissing", fn := fun _ => fun
  | [d] => { results := [.lit (.bool false)], args := [d] }
  | _ => none }
def FnExactDecodeMissingWrongFalsely : Prop := fnExactDecodeMissingRow.holds Try.pinned (OpenSpec.ofChange fnExactDecodeMissingWrong)

/- THE SECOND FORM. 'bulk': how many values and letters a reading holds, each counted each time it is reached (what is shared counts as often as it is met; a slice's spare places count too). A statement '..UptoSaid' is the law's where the arguments, and the package variables that the reading takes, are together of bulk at most 1048576: NARROWER than '..Said'. Prove '..Said' where nothing that the law and all that it calls make is longer than what came in: it says more and counts as full. Else prove '..UptoSaid'. A law counts once. -/
mutual
def uptoBulk {H : Type} : DataW H → Nat
  | .lit (.string bytes) => bytes.length + 1
  | .lit _ => 1
  | .nil => 1
  | .ptr d => uptoBulk d + 1
  | .slice elems spare => uptoBulkAll elems + uptoBulkAll spare + 1
  | .agg parts => uptoBulkAll parts + 1
  | .iface _ d => uptoBulk d + 1
  | .map entries => uptoBulkEntries entries + 1
  | .held _ => 1
def uptoBulkAll {H : Type} : List (DataW H) → Nat
  | [] => 0
  | d :: r => uptoBulk d + uptoBulkAll r
def uptoBulkEntries {H : Type} : List (Lit × DataW H) → Nat
  | [] => 0
  | x :: r => uptoBulkEntry x + uptoBulkEntries r
def uptoBulkEntry {H : Type} : Lit × DataW H → Nat
  | (.string bytes, d) => bytes.length + uptoBulk d + 1
  | (_, d) => uptoBulk d + 1
 end
def uptoSmall : (H : Type) → List (DataW H) → Bool := fun _ ds => decide (uptoBulkAll ds ≤ 1048576)
def OpenSpec.upto (s : _root_.Go.ChangeSpec) : _root_.Go.OpenSpec := { _root_.Go.OpenSpec.ofChange s with cond := some uptoSmall }

/-- 'laws.FnExactEncodeSegment', WHERE WHAT IT READS IS OF BULK AT MOST 1048576: true; the input reads as it did. -/
def fnExactEncodeSegmentUptoRow : OpenClaim := { program := "ytjcdekonidekcae", sum := "690ab034a741fd28735cef31d16ceba854b58199b88442d35d9197e901d7a25f", func := "loop.example/g03316/laws.FnExactEncodeSegment", spec := "fnExactEncodeSegment", apart := false, narrowed := true }
def FnExactEncodeSegmentUptoSaid : Prop := fnExactEncodeSegmentUptoRow.holds Try.pinned (OpenSpec.upto fnExactEncodeSegmentSpec)

/-- 'laws.FnExactDecodeSegment', WHERE WHAT IT READS IS OF BULK AT MOST 1048576: true; the input reads as it did. -/
def fnExactDecodeSegmentUptoRow : OpenClaim := { program := "ytjcdekonidekcae", sum := "690ab034a741fd28735cef31d16ceba854b58199b88442d35d9197e901d7a25f", func := "loop.example/g03316/laws.FnExactDecodeSegment", spec := "fnExactDecodeSegment", apart := false, narrowed := true }
def FnExactDecodeSegmentUptoSaid : Prop := fnExactDecodeSegmentUptoRow.holds Try.pinned (OpenSpec.upto fnExactDecodeSegmentSpec)

/-- 'laws.FnExactEncodeEnd', WHERE WHAT IT READS IS OF BULK AT MOST 1048576: true; the input reads as it did. -/
def fnExactEncodeEndUptoRow : OpenClaim := { program := "ytjcdekonidekcae", sum := "690ab034a741fd28735cef31d16ceba854b58199b88442d35d9197e901d7a25f", func := "loop.example/g03316/laws.FnExactEncodeEnd", spec := "fnExactEncodeEnd", apart := false, narrowed := true }
def FnExactEncodeEndUptoSaid : Prop := fnExactEncodeEndUptoRow.holds Try.pinned (OpenSpec.upto fnExactEncodeEndSpec)

/-- 'laws.FnExactDecodeEnd', WHERE WHAT IT READS IS OF BULK AT MOST 1048576: true; the input reads as it did. -/
def fnExactDecodeEndUptoRow : OpenClaim := { program := "ytjcdekonidekcae", sum := "690ab034a741fd28735cef31d16ceba854b58199b88442d35d9197e901d7a25f", func := "loop.example/g03316/laws.FnExactDecodeEnd", spec := "fnExactDecodeEnd", apart := false, narrowed := true }
def FnExactDecodeEndUptoSaid : Prop := fnExactDecodeEndUptoRow.holds Try.pinned (OpenSpec.upto fnExactDecodeEndSpec)

/-- 'laws.FnExactEncodeMissing', WHERE WHAT IT READS IS OF BULK AT MOST 1048576: true; the input reads as it did. -/
def fnExactEncodeMissingUptoRow : OpenClaim := { program := "ytjcdekonidekcae", sum := "690ab034a741fd28735cef31d16ceba854b58199b88442d35d9197e901d7a25f", func := "loop.example/g03316/laws.FnExactEncodeMissing", spec := "fnExactEncodeMissing", apart := false, narrowed := true }
def FnExactEncodeMissingUptoSaid : Prop := fnExactEncodeMissingUptoRow.holds Try.pinned (OpenSpec.upto fnExactEncodeMissingSpec)

/-- 'laws.FnExactDecodeMissing', WHERE WHAT IT READS IS OF BULK AT MOST 1048576: true; the input reads as it did. -/
def fnExactDecodeMissingUptoRow : OpenClaim := { program := "ytjcdekonidekcae", sum := "690ab034a741fd28735cef31d16ceba854b58199b88442d35d9197e901d7a25f", func := "loop.example/g03316/laws.FnExactDecodeMissing", spec := "fnExactDecodeMissing", apart := false, narrowed := true }
def FnExactDecodeMissingUptoSaid : Prop := fnExactDecodeMissingUptoRow.holds Try.pinned (OpenSpec.upto fnExactDecodeMissingSpec)

end Rows
end Go.Proofs.Ytjcdekonidekcae
