/-
  No cell of these rows narrows 'for every input' (looked for: loops, veiled, ifaces, maps, wideKeys, modest, calm, conditions, laid).
  DERIVED. THE GIVEN ROWS OF THIS SEAT. 6 by the template 'for every input the law returns true; each argument reads behind the call as it read before'; 0 by the template 'total and deterministic' (their statements: YtegahdlfjdjcaabTotals.lean).
  GIVEN WITH THE SEED: the statements are not yours to turn. If you find one false, say at which input.
  Laid BY PROGRAM, IN A SANDBOX (cutbox-rows.mjs): the forced cells as the released guide's own fill.sh prints them over the translation f6a1757e9da14835… (all of the seat's roots in one cut). By AI agents, Wed Nov 11 2026. No macro, syntax, notation, axiom, sorry.
-/
import Derived.Test.YtegahdlfjdjcaabChecked
import GoSem.Claim
import GoSem.ClaimJoined
import GoSem.ClaimMapViews
import Derived.JoinedTies
import Derived.KernelRfl
namespace Go.Proofs.Ytegahdlfjdjcaab
/- THE CELL 'sum', in the pinned program and in every row, IS THE sha256 OF THE DUMP (.gsa) THAT YtegahdlfjdjcaabProg.lean LOADS. Nothing in Lean hashes anything: it is a label: what it is worth is what the hold of that sum in a sandbox is worth. -/
noncomputable def Try.pinned : Pinned := { name := "ytegahdlfjdjcaab", sum := "f6a1757e9da148355b56edb4ad15483d4969bdf07c38c26eeefa2a22f55cded5", checked := Try.checked }
namespace Rows
def none {H : Type} : Left H := { results := [], args := [] }

/-- 'laws.FnExactTakeFrame': WHATEVER THE INPUT: true; the input reads as it did. -/
def fnExactTakeFrameSpec : ChangeSpec := { name := "fnExactTakeFrame", fn := fun _ => fun
  | [d] => { results := [.lit (.bool true)], args := [d] }
  | _ => none }
def fnExactTakeFrameRow : OpenClaim := { program := "ytegahdlfjdjcaab", sum := "f6a1757e9da148355b56edb4ad15483d4969bdf07c38c26eeefa2a22f55cded5", func := "loop.example/g03316/laws.FnExactTakeFrame", spec := "fnExactTakeFrame", apart := false }
def FnExactTakeFrameSaid : Prop := fnExactTakeFrameRow.holds Try.pinned (OpenSpec.ofChange fnExactTakeFrameSpec)

/-- ITS FALSE NEIGHBOUR: 'it returns false'. Refute it at one input. -/
def fnExactTakeFrameWrong : ChangeSpec := { name := "fnExactTakeFrame", fn := fun _ => fun
  | [d] => { results := [.lit (.bool false)], args := [d] }
  | _ => none }
def FnExactTakeFrameWrongFalsely : Prop := fnExactTakeFrameRow.holds Try.pinned (OpenSpec.ofChange fnExactTakeFrameWrong)

/-- 'laws.FnExactTakeFrames': WHATEVER THE INPUT: true; the input reads as it did. -/
def fnExactTakeFramesSpec : ChangeSpec := { name := "fnExactTakeFrames", fn := fun _ => fun
  | [d] => { results := [.lit (.bool true)], args := [d] }
  | _ => none }
def fnExactTakeFramesRow : OpenClaim := { program := "ytegahdlfjdjcaab", sum := "f6a1757e9da148355b56edb4ad15483d4969bdf07c38c26eeefa2a22f55cded5", func := "loop.example/g03316/laws.FnExactTakeFrames", spec := "fnExactTakeFrames", apart := false }
def FnExactTakeFramesSaid : Prop := fnExactTakeFramesRow.holds Try.pinned (OpenSpec.ofChange fnExactTakeFramesSpec)

/-- ITS FALSE NEIGHBOUR: 'it returns false'. Refute it at one input. -/
def fnExactTakeFramesWrong : ChangeSpec := { name := "fnExactTakeFrames", fn := fun _ => fun
  | [d] => { results := [.lit (.bool false)], args := [d] }
  | _ => none }
def FnExactTakeFramesWrongFalsely : Prop := fnExactTakeFramesRow.holds Try.pinned (OpenSpec.ofChange fnExactTakeFramesWrong)

/-- 'laws.FnExactUnpackerOk': WHATEVER THE INPUT: true; the input reads as it did. -/
def fnExactUnpackerOkSpec : ChangeSpec := { name := "fnExactUnpackerOk", fn := fun _ => fun
  | [d] => { results := [.lit (.bool true)], args := [d] }
  | _ => none }
def fnExactUnpackerOkRow : OpenClaim := { program := "ytegahdlfjdjcaab", sum := "f6a1757e9da148355b56edb4ad15483d4969bdf07c38c26eeefa2a22f55cded5", func := "loop.example/g03316/laws.FnExactUnpackerOk", spec := "fnExactUnpackerOk", apart := false }
def FnExactUnpackerOkSaid : Prop := fnExactUnpackerOkRow.holds Try.pinned (OpenSpec.ofChange fnExactUnpackerOkSpec)

/-- ITS FALSE NEIGHBOUR: 'it returns false'. Refute it at one input. -/
def fnExactUnpackerOkWrong : ChangeSpec := { name := "fnExactUnpackerOk", fn := fun _ => fun
  | [d] => { results := [.lit (.bool false)], args := [d] }
  | _ => none }
def FnExactUnpackerOkWrongFalsely : Prop := fnExactUnpackerOkRow.holds Try.pinned (OpenSpec.ofChange fnExactUnpackerOkWrong)

/-- 'laws.FnExactNewUnpacker': WHATEVER THE INPUT: true; the input reads as it did. -/
def fnExactNewUnpackerSpec : ChangeSpec := { name := "fnExactNewUnpacker", fn := fun _ => fun
  | [d] => { results := [.lit (.bool true)], args := [d] }
  | _ => none }
def fnExactNewUnpackerRow : OpenClaim := { program := "ytegahdlfjdjcaab", sum := "f6a1757e9da148355b56edb4ad15483d4969bdf07c38c26eeefa2a22f55cded5", func := "loop.example/g03316/laws.FnExactNewUnpacker", spec := "fnExactNewUnpacker", apart := false }
def FnExactNewUnpackerSaid : Prop := fnExactNewUnpackerRow.holds Try.pinned (OpenSpec.ofChange fnExactNewUnpackerSpec)

/-- ITS FALSE NEIGHBOUR: 'it returns false'. Refute it at one input. -/
def fnExactNewUnpackerWrong : ChangeSpec := { name := "fnExactNewUnpacker", fn := fun _ => fun
  | [d] => { results := [.lit (.bool false)], args := [d] }
  | _ => none }
def FnExactNewUnpackerWrongFalsely : Prop := fnExactNewUnpackerRow.holds Try.pinned (OpenSpec.ofChange fnExactNewUnpackerWrong)

/-- 'laws.FnExactPushFrame': WHATEVER THE INPUT: true; the input reads as it did. -/
def fnExactPushFrameSpec : ChangeSpec := { name := "fnExactPushFrame", fn := fun _ => fun
  | [d1, d2] => { results := [.lit (.bool true)], args := [d1, d2] }
  | _ => none }
def fnExactPushFrameRow : OpenClaim := { program := "ytegahdlfjdjcaab", sum := "f6a1757e9da148355b56edb4ad15483d4969bdf07c38c26eeefa2a22f55cded5", func := "loop.example/g03316/laws.FnExactPushFrame", spec := "fnExactPushFrame", apart := false }
def FnExactPushFrameSaid : Prop := fnExactPushFrameRow.holds Try.pinned (OpenSpec.ofChange fnExactPushFrameSpec)

/-- ITS FALSE NEIGHBOUR: 'it returns false'. Refute it at one input. -/
def fnExactPushFrameWrong : ChangeSpec := { name := "fnExactPushFrame", fn := fun _ => fun
  | [d1, d2] => { results := [.lit (.bool false)], args := [d1, d2] }
  | _ => none }
def FnExactPushFrameWrongFalsely : Prop := fnExactPushFrameRow.holds Try.pinned (OpenSpec.ofChange fnExactPushFrameWrong)

/-- 'laws.FnExactPushFrames': WHATEVER THE INPUT: true; the input reads as it did. -/
def fnExactPushFramesSpec : ChangeSpec := { name := "fnExactPushFrames", fn := fun _ => fun
  | [d1, d2] => { results := [.lit (.bool true)], args := [d1, d2] }
  | _ => none }
def fnExactPushFramesRow : OpenClaim := { program := "ytegahdlfjdjcaab", sum := "f6a1757e9da148355b56edb4ad15483d4969bdf07c38c26eeefa2a22f55cded5", func := "loop.example/g03316/laws.FnExactPushFrames", spec := "fnExactPushFrames", apart := false }
def FnExactPushFramesSaid : Prop := fnExactPushFramesRow.holds Try.pinned (OpenSpec.ofChange fnExactPushFramesSpec)

/-- ITS FALSE NEIGHBOUR: 'it returns false'. Refute it at one input. -/
def fnExactPushFramesWrong : ChangeSpec := { name := "fnExactPushFrames", fn := fun _ => fun
  | [d1, d2] => { results := [.lit (.bool false)], args := [d1, d2] }
  | _ => none }
def FnExactPushFramesWrongFalsely : Prop := fnExactPushFramesRow.holds Try.pinned (OpenSpec.ofChange fnExactPushFramesWrong)

/- THE SECOND FORM. 'bulk': how many values and letters a reading holds, each counted each time it is reached (what is shared counts as often as it is met; a slice's spare places count too). A statement '..UptoSaid' is the law's where the arguments, and the package variables that the reading takes, are together of bulk at most 1048576: NARROWER than '..Said'. Prove '..Said' where nothing that the law and all that it calls make is longer than what came in: it says more and counts as full. Else prove '..UptoSaid'. A law counts once. -/
mutual
def uptoBulk {H : Type} : DataW H → Nat
  | .lit (.string bytes) => bytes.length + 1
  | .lit _ => 1
  | .nil => 1
  | .ptr d => uptoBulk d + 1
  | .slice elems spare => uptoBulkAll elems + uptoBulkAll spare + 1
  | .agg parts => uptoBulkAll parts + 1
  | .iface _ d => uptoBulk d + 1
  | .map entries => uptoBulkEntries entries + 1
  | .held _ => 1
def uptoBulkAll {H : Type} : List (DataW H) → Nat
  | [] => 0
  | d :: r => uptoBulk d + uptoBulkAll r
def uptoBulkEntries {H : Type} : List (Lit × DataW H) → Nat
  | [] => 0
  | x :: r => uptoBulkEntry x + uptoBulkEntries r
def uptoBulkEntry {H : Type} : Lit × DataW H → Nat
  | (.string bytes, d) => bytes.length + uptoBulk d + 1
  | (_, d) => uptoBulk d + 1
 end
def uptoSmall : (H : Type) → List (DataW H) → Bool := fun _ ds => decide (uptoBulkAll ds ≤ 1048576)
def OpenSpec.upto (s : _root_.Go.ChangeSpec) : _root_.Go.OpenSpec := { _root_.Go.OpenSpec.ofChange s with cond := some uptoSmall }

/-- 'laws.FnExactTakeFrame', WHERE WHAT IT READS IS OF BULK AT MOST 1048576: true; the input reads as it did. -/
def fnExactTakeFrameUptoRow : OpenClaim := { program := "ytegahdlfjdjcaab", sum := "f6a1757e9da148355b56edb4ad15483d4969bdf07c38c26eeefa2a22f55cded5", func := "loop.example/g03316/laws.FnExactTakeFrame", spec := "fnExactTakeFrame", apart := false, narrowed := true }
def FnExactTakeFrameUptoSaid : Prop := fnExactTakeFrameUptoRow.holds Try.pinned (OpenSpec.upto fnExactTakeFrameSpec)

/-- 'laws.FnExactTakeFrames', WHERE WHAT IT READS IS OF BULK AT MOST 1048576: true; the input reads as it did. -/
def fnExactTakeFramesUptoRow : OpenClaim := { program := "ytegahdlfjdjcaab", sum := "f6a1757e9da148355b56edb4ad15483d4969bdf07c38c26eeefa2a22f55cded5", func := "loop.example/g03316/laws.FnExactTakeFrames", spec := "fnExactTakeFrames", apart := false, narrowed := true }
def FnExactTakeFramesUptoSaid : Prop := fnExactTakeFramesUptoRow.holds Try.pinned (OpenSpec.upto fnExactTakeFramesSpec)

/-- 'laws.FnExactUnpackerOk', WHERE WHAT IT READS IS OF BULK AT MOST 1048576: true; the input reads as it did. -/
def fnExactUnpackerOkUptoRow : OpenClaim := { program := "ytegahdlfjdjcaab", sum := "f6a1757e9da148355b56edb4ad15483d4969bdf07c38c26eeefa2a22f55cded5", func := "loop.example/g03316/laws.FnExactUnpackerOk", spec := "fnExactUnpackerOk", apart := false, narrowed := true }
def FnExactUnpackerOkUptoSaid : Prop := fnExactUnpackerOkUptoRow.holds Try.pinned (OpenSpec.upto fnExactUnpackerOkSpec)

/-- 'laws.FnExactNewUnpacker', WHERE WHAT IT READS IS OF BULK AT MOST 1048576: true; the input reads as it did. -/
def fnExactNewUnpackerUptoRow : OpenClaim := { program := "ytegahdlfjdjcaab", sum := "f6a1757e9da148355b56edb4ad15483d4969bdf07c38c26eeefa2a22f55cded5", func := "loop.example/g03316/laws.FnExactNewUnpacker", spec := "fnExactNewUnpacker", apart := false, narrowed := true }
def FnExactNewUnpackerUptoSaid : Prop := fnExactNewUnpackerUptoRow.holds Try.pinned (OpenSpec.upto fnExactNewUnpackerSpec)

/-- 'laws.FnExactPushFrame', WHERE WHAT IT READS IS OF BULK AT MOST 1048576: true; the input reads as it did. -/
def fnExactPushFrameUptoRow : OpenClaim := { program := "ytegahdlfjdjcaab", sum := "f6a1757e9da148355b56edb4ad15483d4969bdf07c38c26eeefa2a22f55cded5", func := "loop.example/g03316/laws.FnExactPushFrame", spec := "fnExactPushFrame", apart := false, narrowed := true }
def FnExactPushFrameUptoSaid : Prop := fnExactPushFrameUptoRow.holds Try.pinned (OpenSpec.upto fnExactPushFrameSpec)

/-- 'laws.FnExactPushFrames', WHERE WHAT IT READS IS OF BULK AT MOST 1048576: true; the input reads as it did. -/
def fnExactPushFramesUptoRow : OpenClaim := { program := "ytegahdlfjdjcaab", sum := "f6a1757e9da148355b56edb4ad15483d4969bdf07c38c26eeefa2a22f55cded5", func := "loop.example/g03316/laws.FnExactPushFrames", spec := "fnExactPushFrames", apart := false, narrowed := true }
def FnExactPushFramesUptoSaid : Prop := fnExactPushFramesUptoRow.holds Try.pinned (OpenSpec.upto fnExactPushFramesSpec)

end Rows
end Go.Proofs.Ytegahdlfjdjcaab
