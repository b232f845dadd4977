/-
  No cell of these rows narrows 'for every input' (looked for: loops, veiled, ifaces, maps, wideKeys, modest, calm, conditions, laid).
  DERIVED. THE GIVEN ROWS OF THIS SEAT. 11 by the template 'for every input the law returns true; each argument reads behind the call as it read before'; 0 by the template 'total and deterministic' (their statements: YtebfefkknaalpaaTotals.lean).
  GIVEN WITH THE SEED: the statements are not yours to turn. If you find one false, say at which input.
  Laid BY PROGRAM, IN A SANDBOX (cutbox-rows.mjs): the forced cells as the released guide's own fill.sh prints them over the translation a8e253f5f97286d0… (all of the seat's roots in one cut). By AI agents, Wed Nov 11 2026. No macro, syntax, notation, axiom, sorry.
-/
import Derived.Test.YtebfefkknaalpaaChecked
import GoSem.Claim
import GoSem.ClaimJoined
import GoSem.ClaimMapViews
import Derived.JoinedTies
import Derived.KernelRfl
namespace Go.Proofs.Ytebfefkknaalpaa
/- THE CELL 'sum', in the pinned program and in every row, IS THE sha256 OF THE DUMP (.gsa) THAT YtebfefkknaalpaaProg.lean LOADS. Nothing in Lean hashes anything: it is a label: what it is worth is what the hold of that sum in a sandbox is worth. -/
noncomputable def Try.pinned : Pinned := { name := "ytebfefkknaalpaa", sum := "a8e253f5f97286d0f727393e4b8434758d8535cb1e8106cc7f29eb3f4aa0fef4", checked := Try.checked }
namespace Rows
def none {H : Type} : Left H := { results := [], args := [] }

/-- 'laws.FnOrderBytes': WHATEVER THE INPUT: true; the input reads as it did. -/
def fnOrderBytesSpec : ChangeSpec := { name := "fnOrderBytes", fn := fun _ => fun
  | [d] => { results := [.lit (.bool true)], args := [d] }
  | _ => none }
def fnOrderBytesRow : OpenClaim := { program := "ytebfefkknaalpaa", sum := "a8e253f5f97286d0f727393e4b8434758d8535cb1e8106cc7f29eb3f4aa0fef4", func := "loop.example/g03316/laws.FnOrderBytes", spec := "fnOrderBytes", apart := false }
def FnOrderBytesSaid : Prop := fnOrderBytesRow.holds Try.pinned (OpenSpec.ofChange fnOrderBytesSpec)

/-- ITS FALSE NEIGHBOUR: 'it returns false'. Refute it at one input. -/
def fnOrderBytesWrong : ChangeSpec := { name := "fnOrderBytes", fn := fun _ => fun
  | [d] => { results := [.lit (.bool false)], args := [d] }
  | _ => none }
def FnOrderBytesWrongFalsely : Prop := fnOrderBytesRow.holds Try.pinned (OpenSpec.ofChange fnOrderBytesWrong)

/-- 'laws.FnOrdersDone': WHATEVER THE INPUT: true; the input reads as it did. -/
def fnOrdersDoneSpec : ChangeSpec := { name := "fnOrdersDone", fn := fun _ => fun
  | [d] => { results := [.lit (.bool true)], args := [d] }
  | _ => none }
def fnOrdersDoneRow : OpenClaim := { program := "ytebfefkknaalpaa", sum := "a8e253f5f97286d0f727393e4b8434758d8535cb1e8106cc7f29eb3f4aa0fef4", func := "loop.example/g03316/laws.FnOrdersDone", spec := "fnOrdersDone", unfollowed := true, recurses := true, apart := false }
def FnOrdersDoneSaid : Prop := fnOrdersDoneRow.holds Try.pinned (OpenSpec.ofChange fnOrdersDoneSpec)

/-- ITS FALSE NEIGHBOUR: 'it returns false'. Refute it at one input. -/
def fnOrdersDoneWrong : ChangeSpec := { name := "fnOrdersDone", fn := fun _ => fun
  | [d] => { results := [.lit (.bool false)], args := [d] }
  | _ => none }
def FnOrdersDoneWrongFalsely : Prop := fnOrdersDoneRow.holds Try.pinned (OpenSpec.ofChange fnOrdersDoneWrong)

/-- 'laws.FnRecorder': WHATEVER THE INPUT: true; the input reads as it did. -/
def fnRecorderSpec : ChangeSpec := { name := "fnRecorder", fn := fun _ => fun
  | [d] => { results := [.lit (.bool true)], args := [d] }
  | _ => none }
def fnRecorderRow : OpenClaim := { program := "ytebfefkknaalpaa", sum := "a8e253f5f97286d0f727393e4b8434758d8535cb1e8106cc7f29eb3f4aa0fef4", func := "loop.example/g03316/laws.FnRecorder", spec := "fnRecorder", apart := false }
def FnRecorderSaid : Prop := fnRecorderRow.holds Try.pinned (OpenSpec.ofChange fnRecorderSpec)

/-- ITS FALSE NEIGHBOUR: 'it returns false'. Refute it at one input. -/
def fnRecorderWrong : ChangeSpec := { name := "fnRecorder", fn := fun _ => fun
  | [d] => { results := [.lit (.bool false)], args := [d] }
  | _ => none }
def FnRecorderWrongFalsely : Prop := fnRecorderRow.holds Try.pinned (OpenSpec.ofChange fnRecorderWrong)

/-- 'laws.FnSafeMode': WHATEVER THE INPUT: true; the input reads as it did. -/
def fnSafeModeSpec : ChangeSpec := { name := "fnSafeMode", fn := fun _ => fun
  | [d] => { results := [.lit (.bool true)], args := [d] }
  | _ => none }
def fnSafeModeRow : OpenClaim := { program := "ytebfefkknaalpaa", sum := "a8e253f5f97286d0f727393e4b8434758d8535cb1e8106cc7f29eb3f4aa0fef4", func := "loop.example/g03316/laws.FnSafeMode", spec := "fnSafeMode", unfollowed := true, recurses := true, apart := false }
def FnSafeModeSaid : Prop := fnSafeModeRow.holds Try.pinned (OpenSpec.ofChange fnSafeModeSpec)

/-- ITS FALSE NEIGHBOUR: 'it returns false'. Refute it at one input. -/
def fnSafeModeWrong : ChangeSpec := { name := "fnSafeMode", fn := fun _ => fun
  | [d] => { results := [.lit (.bool false)], args := [d] }
  | _ => none }
def FnSafeModeWrongFalsely : Prop := fnSafeModeRow.holds Try.pinned (OpenSpec.ofChange fnSafeModeWrong)

/-- 'laws.FnExactOrderOk': WHATEVER THE INPUT: true; the input reads as it did. -/
def fnExactOrderOkSpec : ChangeSpec := { name := "fnExactOrderOk", fn := fun _ => fun
  | [d] => { results := [.lit (.bool true)], args := [d] }
  | _ => none }
def fnExactOrderOkRow : OpenClaim := { program := "ytebfefkknaalpaa", sum := "a8e253f5f97286d0f727393e4b8434758d8535cb1e8106cc7f29eb3f4aa0fef4", func := "loop.example/g03316/laws.FnExactOrderOk", spec := "fnExactOrderOk", apart := false }
def FnExactOrderOkSaid : Prop := fnExactOrderOkRow.holds Try.pinned (OpenSpec.ofChange fnExactOrderOkSpec)

/-- ITS FALSE NEIGHBOUR: 'it returns false'. Refute it at one input. -/
def fnExactOrderOkWrong : ChangeSpec := { name := "fnExactOrderOk", fn := fun _ => fun
  | [d] => { results := [.lit (.bool false)], args := [d] }
  | _ => none }
def FnExactOrderOkWrongFalsely : Prop := fnExactOrderOkRow.holds Try.pinned (OpenSpec.ofChange fnExactOrderOkWrong)

/-- 'laws.FnExactEncodeOrder': WHATEVER THE INPUT: true; the input reads as it did. -/
def fnExactEncodeOrderSpec : ChangeSpec := { name := "fnExactEncodeOrder", fn := fun _ => fun
  | [d] => { results := [.lit (.bool true)], args := [d] }
  | _ => none }
def fnExactEncodeOrderRow : OpenClaim := { program := "ytebfefkknaalpaa", sum := "a8e253f5f97286d0f727393e4b8434758d8535cb1e8106cc7f29eb3f4aa0fef4", func := "loop.example/g03316/laws.FnExactEncodeOrder", spec := "fnExactEncodeOrder", apart := false }
def FnExactEncodeOrderSaid : Prop := fnExactEncodeOrderRow.holds Try.pinned (OpenSpec.ofChange fnExactEncodeOrderSpec)

/-- ITS FALSE NEIGHBOUR: 'it returns false'. Refute it at one input. -/
def fnExactEncodeOrderWrong : ChangeSpec := { name := "fnExactEncodeOrder", fn := fun _ => fun
  | [d] => { results := [.lit (.bool false)], args := [d] }
  | _ => none }
def FnExactEncodeOrderWrongFalsely : Prop := fnExactEncodeOrderRow.holds Try.pinned (OpenSpec.ofChange fnExactEncodeOrderWrong)

/-- 'laws.FnExactDecodeOrder': WHATEVER THE INPUT: true; the input reads as it did. -/
def fnExactDecodeOrderSpec : ChangeSpec := { name := "fnExactDecodeOrder", fn := fun _ => fun
  | [d] => { results := [.lit (.bool true)], args := [d] }
  | _ => none }
def fnExactDecodeOrderRow : OpenClaim := { program := "ytebfefkknaalpaa", sum := "a8e253f5f97286d0f727393e4b8434758d8535cb1e8106cc7f29eb3f4aa0fef4", func := "loop.example/g03316/laws.FnExactDecodeOrder", spec := "fnExactDecodeOrder", apart := false }
def FnExactDecodeOrderSaid : Prop := fnExactDecodeOrderRow.holds Try.pinned (OpenSpec.ofChange fnExactDecodeOrderSpec)

/-- ITS FALSE NEIGHBOUR: 'it returns false'. Refute it at one input. -/
def fnExactDecodeOrderWrong : ChangeSpec := { name := "fnExactDecodeOrder", fn := fun _ => fun
  | [d] => { results := [.lit (.bool false)], args := [d] }
  | _ => none }
def FnExactDecodeOrderWrongFalsely : Prop := fnExactDecodeOrderRow.holds Try.pinned (OpenSpec.ofChange fnExactDecodeOrderWrong)

/-- 'laws.FnExactRecordOk': WHATEVER THE INPUT: true; the input reads as it did. -/
def fnExactRecordOkSpec : ChangeSpec := { name := "fnExactRecordOk", fn := fun _ => fun
  | [d] => { results := [.lit (.bool true)], args := [d] }
  | _ => none }
def fnExactRecordOkRow : OpenClaim := { program := "ytebfefkknaalpaa", sum := "a8e253f5f97286d0f727393e4b8434758d8535cb1e8106cc7f29eb3f4aa0fef4", func := "loop.example/g03316/laws.FnExactRecordOk", spec := "fnExactRecordOk", apart := false }
def FnExactRecordOkSaid : Prop := fnExactRecordOkRow.holds Try.pinned (OpenSpec.ofChange fnExactRecordOkSpec)

/-- ITS FALSE NEIGHBOUR: 'it returns false'. Refute it at one input. -/
def fnExactRecordOkWrong : ChangeSpec := { name := "fnExactRecordOk", fn := fun _ => fun
  | [d] => { results := [.lit (.bool false)], args := [d] }
  | _ => none }
def FnExactRecordOkWrongFalsely : Prop := fnExactRecordOkRow.holds Try.pinned (OpenSpec.ofChange fnExactRecordOkWrong)

/-- 'laws.FnExactEncodeRecord': WHATEVER THE INPUT: true; the input reads as it did. -/
def fnExactEncodeRecordSpec : ChangeSpec := { name := "fnExactEncodeRecord", fn := fun _ => fun
  | [d] => { results := [.lit (.bool true)], args := [d] }
  | _ => none }
def fnExactEncodeRecordRow : OpenClaim := { program := "ytebfefkknaalpaa", sum := "a8e253f5f97286d0f727393e4b8434758d8535cb1e8106cc7f29eb3f4aa0fef4", func := "loop.example/g03316/laws.FnExactEncodeRecord", spec := "fnExactEncodeRecord", apart := false }
def FnExactEncodeRecordSaid : Prop := fnExactEncodeRecordRow.holds Try.pinned (OpenSpec.ofChange fnExactEncodeRecordSpec)

/-- ITS FALSE NEIGHBOUR: 'it returns false'. Refute it at one input. -/
def fnExactEncodeRecordWrong : ChangeSpec := { name := "fnExactEncodeRecord", fn := fun _ => fun
  | [d] => { results := [.lit (.bool false)], args := [d] }
  | _ => none }
def FnExactEncodeRecordWrongFalsely : Prop := fnExactEncodeRecordRow.holds Try.pinned (OpenSpec.ofChange fnExactEncodeRecordWrong)

/-- 'laws.FnExactDecodeRecord': WHATEVER THE INPUT: true; the input reads as it did. -/
def fnExactDecodeRecordSpec : ChangeSpec := { name := "fnExactDecodeRecord", fn := fun _ => fun
  | [d] => { results := [.lit (.bool true)], args := [d] }
  | _ => none }
def fnExactDecodeRecordRow : OpenClaim := { program := "ytebfefkknaalpaa", sum := "a8e253f5f97286d0f727393e4b8434758d8535cb1e8106cc7f29eb3f4aa0fef4", func := "loop.example/g03316/laws.FnExactDecodeRecord", spec := "fnExactDecodeRecord", apart := false }
def FnExactDecodeRecordSaid : Prop := fnExactDecodeRecordRow.holds Try.pinned (OpenSpec.ofChange fnExactDecodeRecordSpec)

/-- ITS FALSE NEIGHBOUR: 'it returns false'. Refute it at one input. -/
def fnExactDecodeRecordWrong : ChangeSpec := { name := "fnExactDecodeRecord", fn := fun _ => fun
  | [d] => { results := [.lit (.bool false)], args := [d] }
  | _ => none }
def FnExactDecodeRecordWrongFalsely : Prop := fnExactDecodeRecordRow.holds Try.pinned (OpenSpec.ofChange fnExactDecodeRecordWrong)

/-- 'laws.FnExactRecorderOk': WHATEVER THE INPUT: true; the input reads as it did. -/
def fnExactRecorderOkSpec : ChangeSpec := { name := "fnExactRecorderOk", fn := fun _ => fun
  | [d] => { results := [.lit (.bool true)], args := [d] }
  | _ => none }
def fnExactRecorderOkRow : OpenClaim := { program := "ytebfefkknaalpaa", sum := "a8e253f5f97286d0f727393e4b8434758d8535cb1e8106cc7f29eb3f4aa0fef4", func := "loop.example/g03316/laws.FnExactRecorderOk", spec := "fnExactRecorderOk", apart := false }
def FnExactRecorderOkSaid : Prop := fnExactRecorderOkRow.holds Try.pinned (OpenSpec.ofChange fnExactRecorderOkSpec)

/-- ITS FALSE NEIGHBOUR: 'it returns false'. Refute it at one input. -/
def fnExactRecorderOkWrong : ChangeSpec := { name := "fnExactRecorderOk", fn := fun _ => fun
  | [d] => { results := [.lit (.bool false)], args := [d] }
  | _ => none }
def FnExactRecorderOkWrongFalsely : Prop := fnExactRecorderOkRow.holds Try.pinned (OpenSpec.ofChange fnExactRecorderOkWrong)

/- THE SECOND FORM. 'bulk': how many values and letters a reading holds, each counted each time it is reached (what is shared counts as often as it is met; a slice's spare places count too). A statement '..UptoSaid' is the law's where the arguments, and the package variables that the reading takes, are together of bulk at most 1048576: NARROWER than '..Said'. Prove '..Said' where nothing that the law and all that it calls make is longer than what came in: it says more and counts as full. Else prove '..UptoSaid'. A law counts once. -/
mutual
def uptoBulk {H : Type} : DataW H → Nat
  | .lit (.string bytes) => bytes.length + 1
  | .lit _ => 1
  | .nil => 1
  | .ptr d => uptoBulk d + 1
  | .slice elems spare => uptoBulkAll elems + uptoBulkAll spare + 1
  | .agg parts => uptoBulkAll parts + 1
  | .iface _ d => uptoBulk d + 1
  | .map entries => uptoBulkEntries entries + 1
  | .held _ => 1
def uptoBulkAll {H : Type} : List (DataW H) → Nat
  | [] => 0
  | d :: r => uptoBulk d + uptoBulkAll r
def uptoBulkEntries {H : Type} : List (Lit × DataW H) → Nat
  | [] => 0
  | x :: r => uptoBulkEntry x + uptoBulkEntries r
def uptoBulkEntry {H : Type} : Lit × DataW H → Nat
  | (.string bytes, d) => bytes.length + uptoBulk d + 1
  | (_, d) => uptoBulk d + 1
 end
def uptoSmall : (H : Type) → List (DataW H) → Bool := fun _ ds => decide (uptoBulkAll ds ≤ 1048576)
def OpenSpec.upto (s : _root_.Go.ChangeSpec) : _root_.Go.OpenSpec := { _root_.Go.OpenSpec.ofChange s with cond := some uptoSmall }

/-- 'laws.FnOrderBytes', WHERE WHAT IT READS IS OF BULK AT MOST 1048576: true; the input reads as it did. -/
def fnOrderBytesUptoRow : OpenClaim := { program := "ytebfefkknaalpaa", sum := "a8e253f5f97286d0f727393e4b8434758d8535cb1e8106cc7f29eb3f4aa0fef4", func := "loop.example/g03316/laws.FnOrderBytes", spec := "fnOrderBytes", apart := false, narrowed := true }
def FnOrderBytesUptoSaid : Prop := fnOrderBytesUptoRow.holds Try.pinned (OpenSpec.upto fnOrderBytesSpec)

/-- 'laws.FnOrdersDone', WHERE WHAT IT READS IS OF BULK AT MOST 1048576: true; the input reads as it did. -/
def fnOrdersDoneUptoRow : OpenClaim := { program := "ytebfefkknaalpaa", sum := "a8e253f5f97286d0f727393e4b8434758d8535cb1e8106cc7f29eb3f4aa0fef4", func := "loop.example/g03316/laws.FnOrdersDone", spec := "fnOrdersDone", unfollowed := true, recurses := true, apart := false, narrowed := true }
def FnOrdersDoneUptoSaid : Prop := fnOrdersDoneUptoRow.holds Try.pinned (OpenSpec.upto fnOrdersDoneSpec)

/-- 'laws.FnRecorder', WHERE WHAT IT READS IS OF BULK AT MOST 1048576: true; the input reads as it did. -/
def fnRecorderUptoRow : OpenClaim := { program := "ytebfefkknaalpaa", sum := "a8e253f5f97286d0f727393e4b8434758d8535cb1e8106cc7f29eb3f4aa0fef4", func := "loop.example/g03316/laws.FnRecorder", spec := "fnRecorder", apart := false, narrowed := true }
def FnRecorderUptoSaid : Prop := fnRecorderUptoRow.holds Try.pinned (OpenSpec.upto fnRecorderSpec)

/-- 'laws.FnSafeMode', WHERE WHAT IT READS IS OF BULK AT MOST 1048576: true; the input reads as it did. -/
def fnSafeModeUptoRow : OpenClaim := { program := "ytebfefkknaalpaa", sum := "a8e253f5f97286d0f727393e4b8434758d8535cb1e8106cc7f29eb3f4aa0fef4", func := "loop.example/g03316/laws.FnSafeMode", spec := "fnSafeMode", unfollowed := true, recurses := true, apart := false, narrowed := true }
def FnSafeModeUptoSaid : Prop := fnSafeModeUptoRow.holds Try.pinned (OpenSpec.upto fnSafeModeSpec)

/-- 'laws.FnExactOrderOk', WHERE WHAT IT READS IS OF BULK AT MOST 1048576: true; the input reads as it did. -/
def fnExactOrderOkUptoRow : OpenClaim := { program := "ytebfefkknaalpaa", sum := "a8e253f5f97286d0f727393e4b8434758d8535cb1e8106cc7f29eb3f4aa0fef4", func := "loop.example/g03316/laws.FnExactOrderOk", spec := "fnExactOrderOk", apart := false, narrowed := true }
def FnExactOrderOkUptoSaid : Prop := fnExactOrderOkUptoRow.holds Try.pinned (OpenSpec.upto fnExactOrderOkSpec)

/-- 'laws.FnExactEncodeOrder', WHERE WHAT IT READS IS OF BULK AT MOST 1048576: true; the input reads as it did. -/
def fnExactEncodeOrderUptoRow : OpenClaim := { program := "ytebfefkknaalpaa", sum := "a8e253f5f97286d0f727393e4b8434758d8535cb1e8106cc7f29eb3f4aa0fef4", func := "loop.example/g03316/laws.FnExactEncodeOrder", spec := "fnExactEncodeOrder", apart := false, narrowed := true }
def FnExactEncodeOrderUptoSaid : Prop := fnExactEncodeOrderUptoRow.holds Try.pinned (OpenSpec.upto fnExactEncodeOrderSpec)

/-- 'laws.FnExactDecodeOrder', WHERE WHAT IT READS IS OF BULK AT MOST 1048576: true; the input reads as it did. -/
def fnExactDecodeOrderUptoRow : OpenClaim := { program := "ytebfefkknaalpaa", sum := "a8e253f5f97286d0f727393e4b8434758d8535cb1e8106cc7f29eb3f4aa0fef4", func := "loop.example/g03316/laws.FnExactDecodeOrder", spec := "fnExactDecodeOrder", apart := false, narrowed := true }
def FnExactDecodeOrderUptoSaid : Prop := fnExactDecodeOrderUptoRow.holds Try.pinned (OpenSpec.upto fnExactDecodeOrderSpec)

/-- 'laws.FnExactRecordOk', WHERE WHAT IT READS IS OF BULK AT MOST 1048576: true; the input reads as it did. -/
def fnExactRecordOkUptoRow : OpenClaim := { program := "ytebfefkknaalpaa", sum := "a8e253f5f97286d0f727393e4b8434758d8535cb1e8106cc7f29eb3f4aa0fef4", func := "loop.example/g03316/laws.FnExactRecordOk", spec := "fnExactRecordOk", apart := false, narrowed := true }
def FnExactRecordOkUptoSaid : Prop := fnExactRecordOkUptoRow.holds Try.pinned (OpenSpec.upto fnExactRecordOkSpec)

/-- 'laws.FnExactEncodeRecord', WHERE WHAT IT READS IS OF BULK AT MOST 1048576: true; the input reads as it did. -/
def fnExactEncodeRecordUptoRow : OpenClaim := { program := "ytebfefkknaalpaa", sum := "a8e253f5f97286d0f727393e4b8434758d8535cb1e8106cc7f29eb3f4aa0fef4", func := "loop.example/g03316/laws.FnExactEncodeRecord", spec := "fnExactEncodeRecord", apart := false, narrowed := true }
def FnExactEncodeRecordUptoSaid : Prop := fnExactEncodeRecordUptoRow.holds Try.pinned (OpenSpec.upto fnExactEncodeRecordSpec)

/-- 'laws.FnExactDecodeRecord', WHERE WHAT IT READS IS OF BULK AT MOST 1048576: true; the input reads as it did. -/
def fnExactDecodeRecordUptoRow : OpenClaim := { program := "ytebfefkknaalpaa", sum := "a8e253f5f97286d0f727393e4b8434758d8535cb1e8106cc7f29eb3f4aa0fef4", func := "loop.example/g03316/laws.FnExactDecodeRecord", spec := "fnExactDecodeRecord", apart := false, narrowed := true }
def FnExactDecodeRecordUptoSaid : Prop := fnExactDecodeRecordUptoRow.holds Try.pinned (OpenSpec.upto fnExactDecodeRecordSpec)

/-- 'laws.FnExactRecorderOk', WHERE WHAT IT READS IS OF BULK AT MOST 1048576: true; the input reads as it did. -/
def fnExactRecorderOkUptoRow : OpenClaim := { program := "ytebfefkknaalpaa", sum := "a8e253f5f97286d0f727393e4b8434758d8535cb1e8106cc7f29eb3f4aa0fef4", func := "loop.example/g03316/laws.FnExactRecorderOk", spec := "fnExactRecorderOk", apart := false, narrowed := true }
def FnExactRecorderOkUptoSaid : Prop := fnExactRecorderOkUptoRow.holds Try.pinned (OpenSpec.upto fnExactRecorderOkSpec)

end Rows
end Go.Proofs.Ytebfefkknaalpaa
