/-
  No cell of these rows narrows 'for every input' (looked for: loops, veiled, ifaces, maps, wideKeys, modest, calm, conditions, laid).
  DERIVED. THE GIVEN ROWS OF THIS SEAT. 12 by the template 'for every input the law returns true; each argument reads behind the call as it read before'; 0 by the template 'total and deterministic' (their statements: YtegahdlfjdjcaaaTotals.lean).
  GIVEN WITH THE SEED: the statements are not yours to turn. If you find one false, say at which input.
  Laid BY PROGRAM, IN A SANDBOX (cutbox-rows.mjs): the forced cells as the released guide's own fill.sh prints them over the translation f7d26121646843b9… (all of the seat's roots in one cut). By AI agents, Wed Nov 11 2026. No macro, syntax, notation, axiom, sorry.
-/
import Derived.Test.YtegahdlfjdjcaaaChecked
import GoSem.Claim
import GoSem.ClaimJoined
import GoSem.ClaimMapViews
import Derived.JoinedTies
import Derived.KernelRfl
namespace Go.Proofs.Ytegahdlfjdjcaaa
/- THE CELL 'sum', in the pinned program and in every row, IS THE sha256 OF THE DUMP (.gsa) THAT YtegahdlfjdjcaaaProg.lean LOADS. Nothing in Lean hashes anything: it is a label: what it is worth is what the hold of that sum in a sandbox is worth. -/
noncomputable def Try.pinned : Pinned := { name := "ytegahdlfjdjcaaa", sum := "f7d26121646843b9ce5a890e1e15b9413c7569cb7aa33548680468dbca467c5f", checked := Try.checked }
namespace Rows
def none {H : Type} : Left H := { results := [], args := [] }

/-- 'laws.FnPacketBytes': WHATEVER THE INPUT: true; the input reads as it did. -/
def fnPacketBytesSpec : ChangeSpec := { name := "fnPacketBytes", fn := fun _ => fun
  | [d] => { results := [.lit (.bool true)], args := [d] }
  | _ => none }
def fnPacketBytesRow : OpenClaim := { program := "ytegahdlfjdjcaaa", sum := "f7d26121646843b9ce5a890e1e15b9413c7569cb7aa33548680468dbca467c5f", func := "loop.example/g03316/laws.FnPacketBytes", spec := "fnPacketBytes", apart := false }
def FnPacketBytesSaid : Prop := fnPacketBytesRow.holds Try.pinned (OpenSpec.ofChange fnPacketBytesSpec)

/-- ITS FALSE NEIGHBOUR: 'it returns false'. Refute it at one input. -/
def fnPacketBytesWrong : ChangeSpec := { name := "fnPacketBytes", fn := fun _ => fun
  | [d] => { results := [.lit (.bool false)], args := [d] }
  | _ => none }
def FnPacketBytesWrongFalsely : Prop := fnPacketBytesRow.holds Try.pinned (OpenSpec.ofChange fnPacketBytesWrong)

/-- 'laws.FnFramesWhole': WHATEVER THE INPUT: true; the input reads as it did. -/
def fnFramesWholeSpec : ChangeSpec := { name := "fnFramesWhole", fn := fun _ => fun
  | [d] => { results := [.lit (.bool true)], args := [d] }
  | _ => none }
def fnFramesWholeRow : OpenClaim := { program := "ytegahdlfjdjcaaa", sum := "f7d26121646843b9ce5a890e1e15b9413c7569cb7aa33548680468dbca467c5f", func := "loop.example/g03316/laws.FnFramesWhole", spec := "fnFramesWhole", apart := false }
def FnFramesWholeSaid : Prop := fnFramesWholeRow.holds Try.pinned (OpenSpec.ofChange fnFramesWholeSpec)

/-- ITS FALSE NEIGHBOUR: 'it returns false'. Refute it at one input. -/
def fnFramesWholeWrong : ChangeSpec := { name := "fnFramesWhole", fn := fun _ => fun
  | [d] => { results := [.lit (.bool false)], args := [d] }
  | _ => none }
def FnFramesWholeWrongFalsely : Prop := fnFramesWholeRow.holds Try.pinned (OpenSpec.ofChange fnFramesWholeWrong)

/-- 'laws.FnFramesLost': WHATEVER THE INPUT: true; the input reads as it did. -/
def fnFramesLostSpec : ChangeSpec := { name := "fnFramesLost", fn := fun _ => fun
  | [d] => { results := [.lit (.bool true)], args := [d] }
  | _ => none }
def fnFramesLostRow : OpenClaim := { program := "ytegahdlfjdjcaaa", sum := "f7d26121646843b9ce5a890e1e15b9413c7569cb7aa33548680468dbca467c5f", func := "loop.example/g03316/laws.FnFramesLost", spec := "fnFramesLost", apart := false }
def FnFramesLostSaid : Prop := fnFramesLostRow.holds Try.pinned (OpenSpec.ofChange fnFramesLostSpec)

/-- ITS FALSE NEIGHBOUR: 'it returns false'. Refute it at one input. -/
def fnFramesLostWrong : ChangeSpec := { name := "fnFramesLost", fn := fun _ => fun
  | [d] => { results := [.lit (.bool false)], args := [d] }
  | _ => none }
def FnFramesLostWrongFalsely : Prop := fnFramesLostRow.holds Try.pinned (OpenSpec.ofChange fnFramesLostWrong)

/-- 'laws.FnExactPacketOk': WHATEVER THE INPUT: true; the input reads as it did. -/
def fnExactPacketOkSpec : ChangeSpec := { name := "fnExactPacketOk", fn := fun _ => fun
  | [d] => { results := [.lit (.bool true)], args := [d] }
  | _ => none }
def fnExactPacketOkRow : OpenClaim := { program := "ytegahdlfjdjcaaa", sum := "f7d26121646843b9ce5a890e1e15b9413c7569cb7aa33548680468dbca467c5f", func := "loop.example/g03316/laws.FnExactPacketOk", spec := "fnExactPacketOk", apart := false }
def FnExactPacketOkSaid : Prop := fnExactPacketOkRow.holds Try.pinned (OpenSpec.ofChange fnExactPacketOkSpec)

/-- ITS FALSE NEIGHBOUR: 'it returns false'. Refute it at one input. -/
def fnExactPacketOkWrong : ChangeSpec := { name := "fnExactPacketOk", fn := fun _ => fun
  | [d] => { results := [.lit (.bool false)], args := [d] }
  | _ => none }
def FnExactPacketOkWrongFalsely : Prop := fnExactPacketOkRow.holds Try.pinned (OpenSpec.ofChange fnExactPacketOkWrong)

/-- 'laws.FnExactEncodePacket': WHATEVER THE INPUT: true; the input reads as it did. -/
def fnExactEncodePacketSpec : ChangeSpec := { name := "fnExactEncodePacket", fn := fun _ => fun
  | [d] => { results := [.lit (.bool true)], args := [d] }
  | _ => none }
def fnExactEncodePacketRow : OpenClaim := { program := "ytegahdlfjdjcaaa", sum := "f7d26121646843b9ce5a890e1e15b9413c7569cb7aa33548680468dbca467c5f", func := "loop.example/g03316/laws.FnExactEncodePacket", spec := "fnExactEncodePacket", apart := false }
def FnExactEncodePacketSaid : Prop := fnExactEncodePacketRow.holds Try.pinned (OpenSpec.ofChange fnExactEncodePacketSpec)

/-- ITS FALSE NEIGHBOUR: 'it returns false'. Refute it at one input. -/
def fnExactEncodePacketWrong : ChangeSpec := { name := "fnExactEncodePacket", fn := fun _ => fun
  | [d] => { results := [.lit (.bool false)], args := [d] }
  | _ => none }
def FnExactEncodePacketWrongFalsely : Prop := fnExactEncodePacketRow.holds Try.pinned (OpenSpec.ofChange fnExactEncodePacketWrong)

/-- 'laws.FnExactDecodePacket': WHATEVER THE INPUT: true; the input reads as it did. -/
def fnExactDecodePacketSpec : ChangeSpec := { name := "fnExactDecodePacket", fn := fun _ => fun
  | [d1, d2] => { results := [.lit (.bool true)], args := [d1, d2] }
  | _ => none }
def fnExactDecodePacketRow : OpenClaim := { program := "ytegahdlfjdjcaaa", sum := "f7d26121646843b9ce5a890e1e15b9413c7569cb7aa33548680468dbca467c5f", func := "loop.example/g03316/laws.FnExactDecodePacket", spec := "fnExactDecodePacket", apart := false }
def FnExactDecodePacketSaid : Prop := fnExactDecodePacketRow.holds Try.pinned (OpenSpec.ofChange fnExactDecodePacketSpec)

/-- ITS FALSE NEIGHBOUR: 'it returns false'. Refute it at one input. -/
def fnExactDecodePacketWrong : ChangeSpec := { name := "fnExactDecodePacket", fn := fun _ => fun
  | [d1, d2] => { results := [.lit (.bool false)], args := [d1, d2] }
  | _ => none }
def FnExactDecodePacketWrongFalsely : Prop := fnExactDecodePacketRow.holds Try.pinned (OpenSpec.ofChange fnExactDecodePacketWrong)

/-- 'laws.FnExactFrameOk': WHATEVER THE INPUT: true; the input reads as it did. -/
def fnExactFrameOkSpec : ChangeSpec := { name := "fnExactFrameOk", fn := fun _ => fun
  | [d] => { results := [.lit (.bool true)], args := [d] }
  | _ => none }
def fnExactFrameOkRow : OpenClaim := { program := "ytegahdlfjdjcaaa", sum := "f7d26121646843b9ce5a890e1e15b9413c7569cb7aa33548680468dbca467c5f", func := "loop.example/g03316/laws.FnExactFrameOk", spec := "fnExactFrameOk", apart := false }
def FnExactFrameOkSaid : Prop := fnExactFrameOkRow.holds Try.pinned (OpenSpec.ofChange fnExactFrameOkSpec)

/-- ITS FALSE NEIGHBOUR: 'it returns false'. Refute it at one input. -/
def fnExactFrameOkWrong : ChangeSpec := { name := "fnExactFrameOk", fn := fun _ => fun
  | [d] => { results := [.lit (.bool false)], args := [d] }
  | _ => none }
def FnExactFrameOkWrongFalsely : Prop := fnExactFrameOkRow.holds Try.pinned (OpenSpec.ofChange fnExactFrameOkWrong)

/-- 'laws.FnExactEncodeFrame': WHATEVER THE INPUT: true; the input reads as it did. -/
def fnExactEncodeFrameSpec : ChangeSpec := { name := "fnExactEncodeFrame", fn := fun _ => fun
  | [d] => { results := [.lit (.bool true)], args := [d] }
  | _ => none }
def fnExactEncodeFrameRow : OpenClaim := { program := "ytegahdlfjdjcaaa", sum := "f7d26121646843b9ce5a890e1e15b9413c7569cb7aa33548680468dbca467c5f", func := "loop.example/g03316/laws.FnExactEncodeFrame", spec := "fnExactEncodeFrame", apart := false }
def FnExactEncodeFrameSaid : Prop := fnExactEncodeFrameRow.holds Try.pinned (OpenSpec.ofChange fnExactEncodeFrameSpec)

/-- ITS FALSE NEIGHBOUR: 'it returns false'. Refute it at one input. -/
def fnExactEncodeFrameWrong : ChangeSpec := { name := "fnExactEncodeFrame", fn := fun _ => fun
  | [d] => { results := [.lit (.bool false)], args := [d] }
  | _ => none }
def FnExactEncodeFrameWrongFalsely : Prop := fnExactEncodeFrameRow.holds Try.pinned (OpenSpec.ofChange fnExactEncodeFrameWrong)

/-- 'laws.FnExactDecodeFrame': WHATEVER THE INPUT: true; the input reads as it did. -/
def fnExactDecodeFrameSpec : ChangeSpec := { name := "fnExactDecodeFrame", fn := fun _ => fun
  | [d] => { results := [.lit (.bool true)], args := [d] }
  | _ => none }
def fnExactDecodeFrameRow : OpenClaim := { program := "ytegahdlfjdjcaaa", sum := "f7d26121646843b9ce5a890e1e15b9413c7569cb7aa33548680468dbca467c5f", func := "loop.example/g03316/laws.FnExactDecodeFrame", spec := "fnExactDecodeFrame", apart := false }
def FnExactDecodeFrameSaid : Prop := fnExactDecodeFrameRow.holds Try.pinned (OpenSpec.ofChange fnExactDecodeFrameSpec)

/-- ITS FALSE NEIGHBOUR: 'it returns false'. Refute it at one input. -/
def fnExactDecodeFrameWrong : ChangeSpec := { name := "fnExactDecodeFrame", fn := fun _ => fun
  | [d] => { results := [.lit (.bool false)], args := [d] }
  | _ => none }
def FnExactDecodeFrameWrongFalsely : Prop := fnExactDecodeFrameRow.holds Try.pinned (OpenSpec.ofChange fnExactDecodeFrameWrong)

/-- 'laws.FnExactPackerOk': WHATEVER THE INPUT: true; the input reads as it did. -/
def fnExactPackerOkSpec : ChangeSpec := { name := "fnExactPackerOk", fn := fun _ => fun
  | [d] => { results := [.lit (.bool true)], args := [d] }
  | _ => none }
def fnExactPackerOkRow : OpenClaim := { program := "ytegahdlfjdjcaaa", sum := "f7d26121646843b9ce5a890e1e15b9413c7569cb7aa33548680468dbca467c5f", func := "loop.example/g03316/laws.FnExactPackerOk", spec := "fnExactPackerOk", apart := false }
def FnExactPackerOkSaid : Prop := fnExactPackerOkRow.holds Try.pinned (OpenSpec.ofChange fnExactPackerOkSpec)

/-- ITS FALSE NEIGHBOUR: 'it returns false'. Refute it at one input. -/
def fnExactPackerOkWrong : ChangeSpec := { name := "fnExactPackerOk", fn := fun _ => fun
  | [d] => { results := [.lit (.bool false)], args := [d] }
  | _ => none }
def FnExactPackerOkWrongFalsely : Prop := fnExactPackerOkRow.holds Try.pinned (OpenSpec.ofChange fnExactPackerOkWrong)

/-- 'laws.FnExactPackPacket': WHATEVER THE INPUT: true; the input reads as it did. -/
def fnExactPackPacketSpec : ChangeSpec := { name := "fnExactPackPacket", fn := fun _ => fun
  | [d1, d2] => { results := [.lit (.bool true)], args := [d1, d2] }
  | _ => none }
def fnExactPackPacketRow : OpenClaim := { program := "ytegahdlfjdjcaaa", sum := "f7d26121646843b9ce5a890e1e15b9413c7569cb7aa33548680468dbca467c5f", func := "loop.example/g03316/laws.FnExactPackPacket", spec := "fnExactPackPacket", apart := false }
def FnExactPackPacketSaid : Prop := fnExactPackPacketRow.holds Try.pinned (OpenSpec.ofChange fnExactPackPacketSpec)

/-- ITS FALSE NEIGHBOUR: 'it returns false'. Refute it at one input. -/
def fnExactPackPacketWrong : ChangeSpec := { name := "fnExactPackPacket", fn := fun _ => fun
  | [d1, d2] => { results := [.lit (.bool false)], args := [d1, d2] }
  | _ => none }
def FnExactPackPacketWrongFalsely : Prop := fnExactPackPacketRow.holds Try.pinned (OpenSpec.ofChange fnExactPackPacketWrong)

/-- 'laws.FnExactFillPacker': WHATEVER THE INPUT: true; the input reads as it did. -/
def fnExactFillPackerSpec : ChangeSpec := { name := "fnExactFillPacker", fn := fun _ => fun
  | [d] => { results := [.lit (.bool true)], args := [d] }
  | _ => none }
def fnExactFillPackerRow : OpenClaim := { program := "ytegahdlfjdjcaaa", sum := "f7d26121646843b9ce5a890e1e15b9413c7569cb7aa33548680468dbca467c5f", func := "loop.example/g03316/laws.FnExactFillPacker", spec := "fnExactFillPacker", apart := false }
def FnExactFillPackerSaid : Prop := fnExactFillPackerRow.holds Try.pinned (OpenSpec.ofChange fnExactFillPackerSpec)

/-- ITS FALSE NEIGHBOUR: 'it returns false'. Refute it at one input. -/
def fnExactFillPackerWrong : ChangeSpec := { name := "fnExactFillPacker", fn := fun _ => fun
  | [d] => { results := [.lit (.bool false)], args := [d] }
  | _ => none }
def FnExactFillPackerWrongFalsely : Prop := fnExactFillPackerRow.holds Try.pinned (OpenSpec.ofChange fnExactFillPackerWrong)

/- THE SECOND FORM. 'bulk': how many values and letters a reading holds, each counted each time it is reached (what is shared counts as often as it is met; a slice's spare places count too). A statement '..UptoSaid' is the law's where the arguments, and the package variables that the reading takes, are together of bulk at most 1048576: NARROWER than '..Said'. Prove '..Said' where nothing that the law and all that it calls make is longer than what came in: it says more and counts as full. Else prove '..UptoSaid'. A law counts once. -/
mutual
def uptoBulk {H : Type} : DataW H → Nat
  | .lit (.string bytes) => bytes.length + 1
  | .lit _ => 1
  | .nil => 1
  | .ptr d => uptoBulk d + 1
  | .slice elems spare => uptoBulkAll elems + uptoBulkAll spare + 1
  | .agg parts => uptoBulkAll parts + 1
  | .iface _ d => uptoBulk d + 1
  | .map entries => uptoBulkEntries entries + 1
  | .held _ => 1
def uptoBulkAll {H : Type} : List (DataW H) → Nat
  | [] => 0
  | d :: r => uptoBulk d + uptoBulkAll r
def uptoBulkEntries {H : Type} : List (Lit × DataW H) → Nat
  | [] => 0
  | x :: r => uptoBulkEntry x + uptoBulkEntries r
def uptoBulkEntry {H : Type} : Lit × DataW H → Nat
  | (.string bytes, d) => bytes.length + uptoBulk d + 1
  | (_, d) => uptoBulk d + 1
 end
def uptoSmall : (H : Type) → List (DataW H) → Bool := fun _ ds => decide (uptoBulkAll ds ≤ 1048576)
def OpenSpec.upto (s : _root_.Go.ChangeSpec) : _root_.Go.OpenSpec := { _root_.Go.OpenSpec.ofChange s with cond := some uptoSmall }

/-- 'laws.FnPacketBytes', WHERE WHAT IT READS IS OF BULK AT MOST 1048576: true; the input reads as it did. -/
def fnPacketBytesUptoRow : OpenClaim := { program := "ytegahdlfjdjcaaa", sum := "f7d26121646843b9ce5a890e1e15b9413c7569cb7aa33548680468dbca467c5f", func := "loop.example/g03316/laws.FnPacketBytes", spec := "fnPacketBytes", apart := false, narrowed := true }
def FnPacketBytesUptoSaid : Prop := fnPacketBytesUptoRow.holds Try.pinned (OpenSpec.upto fnPacketBytesSpec)

/-- 'laws.FnFramesWhole', WHERE WHAT IT READS IS OF BULK AT MOST 1048576: true; the input reads as it did. -/
def fnFramesWholeUptoRow : OpenClaim := { program := "ytegahdlfjdjcaaa", sum := "f7d26121646843b9ce5a890e1e15b9413c7569cb7aa33548680468dbca467c5f", func := "loop.example/g03316/laws.FnFramesWhole", spec := "fnFramesWhole", apart := false, narrowed := true }
def FnFramesWholeUptoSaid : Prop := fnFramesWholeUptoRow.holds Try.pinned (OpenSpec.upto fnFramesWholeSpec)

/-- 'laws.FnFramesLost', WHERE WHAT IT READS IS OF BULK AT MOST 1048576: true; the input reads as it did. -/
def fnFramesLostUptoRow : OpenClaim := { program := "ytegahdlfjdjcaaa", sum := "f7d26121646843b9ce5a890e1e15b9413c7569cb7aa33548680468dbca467c5f", func := "loop.example/g03316/laws.FnFramesLost", spec := "fnFramesLost", apart := false, narrowed := true }
def FnFramesLostUptoSaid : Prop := fnFramesLostUptoRow.holds Try.pinned (OpenSpec.upto fnFramesLostSpec)

/-- 'laws.FnExactPacketOk', WHERE WHAT IT READS IS OF BULK AT MOST 1048576: true; the input reads as it did. -/
def fnExactPacketOkUptoRow : OpenClaim := { program := "ytegahdlfjdjcaaa", sum := "f7d26121646843b9ce5a890e1e15b9413c7569cb7aa33548680468dbca467c5f", func := "loop.example/g03316/laws.FnExactPacketOk", spec := "fnExactPacketOk", apart := false, narrowed := true }
def FnExactPacketOkUptoSaid : Prop := fnExactPacketOkUptoRow.holds Try.pinned (OpenSpec.upto fnExactPacketOkSpec)

/-- 'laws.FnExactEncodePacket', WHERE WHAT IT READS IS OF BULK AT MOST 1048576: true; the input reads as it did. -/
def fnExactEncodePacketUptoRow : OpenClaim := { program := "ytegahdlfjdjcaaa", sum := "f7d26121646843b9ce5a890e1e15b9413c7569cb7aa33548680468dbca467c5f", func := "loop.example/g03316/laws.FnExactEncodePacket", spec := "fnExactEncodePacket", apart := false, narrowed := true }
def FnExactEncodePacketUptoSaid : Prop := fnExactEncodePacketUptoRow.holds Try.pinned (OpenSpec.upto fnExactEncodePacketSpec)

/-- 'laws.FnExactDecodePacket', WHERE WHAT IT READS IS OF BULK AT MOST 1048576: true; the input reads as it did. -/
def fnExactDecodePacketUptoRow : OpenClaim := { program := "ytegahdlfjdjcaaa", sum := "f7d26121646843b9ce5a890e1e15b9413c7569cb7aa33548680468dbca467c5f", func := "loop.example/g03316/laws.FnExactDecodePacket", spec := "fnExactDecodePacket", apart := false, narrowed := true }
def FnExactDecodePacketUptoSaid : Prop := fnExactDecodePacketUptoRow.holds Try.pinned (OpenSpec.upto fnExactDecodePacketSpec)

/-- 'laws.FnExactFrameOk', WHERE WHAT IT READS IS OF BULK AT MOST 1048576: true; the input reads as it did. -/
def fnExactFrameOkUptoRow : OpenClaim := { program := "ytegahdlfjdjcaaa", sum := "f7d26121646843b9ce5a890e1e15b9413c7569cb7aa33548680468dbca467c5f", func := "loop.example/g03316/laws.FnExactFrameOk", spec := "fnExactFrameOk", apart := false, narrowed := true }
def FnExactFrameOkUptoSaid : Prop := fnExactFrameOkUptoRow.holds Try.pinned (OpenSpec.upto fnExactFrameOkSpec)

/-- 'laws.FnExactEncodeFrame', WHERE WHAT IT READS IS OF BULK AT MOST 1048576: true; the input reads as it did. -/
def fnExactEncodeFrameUptoRow : OpenClaim := { program := "ytegahdlfjdjcaaa", sum := "f7d26121646843b9ce5a890e1e15b9413c7569cb7aa33548680468dbca467c5f", func := "loop.example/g03316/laws.FnExactEncodeFrame", spec := "fnExactEncodeFrame", apart := false, narrowed := true }
def FnExactEncodeFrameUptoSaid : Prop := fnExactEncodeFrameUptoRow.holds Try.pinned (OpenSpec.upto fnExactEncodeFrameSpec)

/-- 'laws.FnExactDecodeFrame', WHERE WHAT IT READS IS OF BULK AT MOST 1048576: true; the input reads as it did. -/
def fnExactDecodeFrameUptoRow : OpenClaim := { program := "ytegahdlfjdjcaaa", sum := "f7d26121646843b9ce5a890e1e15b9413c7569cb7aa33548680468dbca467c5f", func := "loop.example/g03316/laws.FnExactDecodeFrame", spec := "fnExactDecodeFrame", apart := false, narrowed := true }
def FnExactDecodeFrameUptoSaid : Prop := fnExactDecodeFrameUptoRow.holds Try.pinned (OpenSpec.upto fnExactDecodeFrameSpec)

/-- 'laws.FnExactPackerOk', WHERE WHAT IT READS IS OF BULK AT MOST 1048576: true; the input reads as it did. -/
def fnExactPackerOkUptoRow : OpenClaim := { program := "ytegahdlfjdjcaaa", sum := "f7d26121646843b9ce5a890e1e15b9413c7569cb7aa33548680468dbca467c5f", func := "loop.example/g03316/laws.FnExactPackerOk", spec := "fnExactPackerOk", apart := false, narrowed := true }
def FnExactPackerOkUptoSaid : Prop := fnExactPackerOkUptoRow.holds Try.pinned (OpenSpec.upto fnExactPackerOkSpec)

/-- 'laws.FnExactPackPacket', WHERE WHAT IT READS IS OF BULK AT MOST 1048576: true; the input reads as it did. -/
def fnExactPackPacketUptoRow : OpenClaim := { program := "ytegahdlfjdjcaaa", sum := "f7d26121646843b9ce5a890e1e15b9413c7569cb7aa33548680468dbca467c5f", func := "loop.example/g03316/laws.FnExactPackPacket", spec := "fnExactPackPacket", apart := false, narrowed := true }
def FnExactPackPacketUptoSaid : Prop := fnExactPackPacketUptoRow.holds Try.pinned (OpenSpec.upto fnExactPackPacketSpec)

/-- 'laws.FnExactFillPacker', WHERE WHAT IT READS IS OF BULK AT MOST 1048576: true; the input reads as it did. -/
def fnExactFillPackerUptoRow : OpenClaim := { program := "ytegahdlfjdjcaaa", sum := "f7d26121646843b9ce5a890e1e15b9413c7569cb7aa33548680468dbca467c5f", func := "loop.example/g03316/laws.FnExactFillPacker", spec := "fnExactFillPacker", apart := false, narrowed := true }
def FnExactFillPackerUptoSaid : Prop := fnExactFillPackerUptoRow.holds Try.pinned (OpenSpec.upto fnExactFillPackerSpec)

end Rows
end Go.Proofs.Ytegahdlfjdjcaaa
