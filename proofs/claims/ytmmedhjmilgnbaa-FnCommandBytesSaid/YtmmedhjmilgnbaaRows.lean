/-
  No cell of these rows narrows 'for every input' (looked for: loops, veiled, ifaces, maps, wideKeys, modest, calm, conditions, laid).
  DERIVED. THE GIVEN ROWS OF THIS SEAT. 9 by the template 'for every input the law returns true; each argument reads behind the call as it read before'; 0 by the template 'total and deterministic' (their statements: YtmmedhjmilgnbaaTotals.lean).
  GIVEN WITH THE SEED: the statements are not yours to turn. If you find one false, say at which input.
  Laid BY PROGRAM, IN A SANDBOX (cutbox-rows.mjs): the forced cells as the released guide's own fill.sh prints them over the translation da1c795ab5ccd562… (all of the seat's roots in one cut). By AI agents, Wed Nov 11 2026. No macro, syntax, notation, axiom, sorry.
-/
import Derived.Test.YtmmedhjmilgnbaaChecked
import GoSem.Claim
import GoSem.ClaimJoined
import GoSem.ClaimMapViews
import Derived.JoinedTies
import Derived.KernelRfl
namespace Go.Proofs.Ytmmedhjmilgnbaa
/- THE CELL 'sum', in the pinned program and in every row, IS THE sha256 OF THE DUMP (.gsa) THAT YtmmedhjmilgnbaaProg.lean LOADS. Nothing in Lean hashes anything: it is a label: what it is worth is what the hold of that sum in a sandbox is worth. -/
noncomputable def Try.pinned : Pinned := { name := "ytmmedhjmilgnbaa", sum := "da1c795ab5ccd562645d126593c19773723eced289fe3aea6bd94fe20a225871", checked := Try.checked }
namespace Rows
def none {H : Type} : Left H := { results := [], args := [] }

/-- 'laws.FnCommandBytes': WHATEVER THE INPUT: true; the input reads as it did. -/
def fnCommandBytesSpec : ChangeSpec := { name := "fnCommandBytes", fn := fun _ => fun
  | [d] => { results := [.lit (.bool true)], args := [d] }
  | _ => none }
def fnCommandBytesRow : OpenClaim := { program := "ytmmedhjmilgnbaa", sum := "da1c795ab5ccd562645d126593c19773723eced289fe3aea6bd94fe20a225871", func := "loop.example/g03316/laws.FnCommandBytes", spec := "fnCommandBytes", apart := false }
def FnCommandBytesSaid : Prop := fnCommandBytesRow.holds Try.pinned (OpenSpec.ofChange fnCommandBytesSpec)

/-- ITS FALSE NEIGHBOUR: 'it returns false'. Refute it at one input. -/
def fnCommandBytesWrong : ChangeSpec := { name := "fnCommandBytes", fn := fun _ => fun
  | [d] => { results := [.lit (.bool false)], args := [d] }
  | _ => none }
def FnCommandBytesWrongFalsely : Prop := fnCommandBytesRow.holds Try.pinned (OpenSpec.ofChange fnCommandBytesWrong)

/-- 'laws.FnExactSenderOk': WHATEVER THE INPUT: true; the input reads as it did. -/
def fnExactSenderOkSpec : ChangeSpec := { name := "fnExactSenderOk", fn := fun _ => fun
  | [d] => { results := [.lit (.bool true)], args := [d] }
  | _ => none }
def fnExactSenderOkRow : OpenClaim := { program := "ytmmedhjmilgnbaa", sum := "da1c795ab5ccd562645d126593c19773723eced289fe3aea6bd94fe20a225871", func := "loop.example/g03316/laws.FnExactSenderOk", spec := "fnExactSenderOk", apart := false }
def FnExactSenderOkSaid : Prop := fnExactSenderOkRow.holds Try.pinned (OpenSpec.ofChange fnExactSenderOkSpec)

/-- ITS FALSE NEIGHBOUR: 'it returns false'. Refute it at one input. -/
def fnExactSenderOkWrong : ChangeSpec := { name := "fnExactSenderOk", fn := fun _ => fun
  | [d] => { results := [.lit (.bool false)], args := [d] }
  | _ => none }
def FnExactSenderOkWrongFalsely : Prop := fnExactSenderOkRow.holds Try.pinned (OpenSpec.ofChange fnExactSenderOkWrong)

/-- 'laws.FnExactNewSender': WHATEVER THE INPUT: true; the input reads as it did. -/
def fnExactNewSenderSpec : ChangeSpec := { name := "fnExactNewSender", fn := fun _ => fun
  | [d] => { results := [.lit (.bool true)], args := [d] }
  | _ => none }
def fnExactNewSenderRow : OpenClaim := { program := "ytmmedhjmilgnbaa", sum := "da1c795ab5ccd562645d126593c19773723eced289fe3aea6bd94fe20a225871", func := "loop.example/g03316/laws.FnExactNewSender", spec := "fnExactNewSender", apart := false }
def FnExactNewSenderSaid : Prop := fnExactNewSenderRow.holds Try.pinned (OpenSpec.ofChange fnExactNewSenderSpec)

/-- ITS FALSE NEIGHBOUR: 'it returns false'. Refute it at one input. -/
def fnExactNewSenderWrong : ChangeSpec := { name := "fnExactNewSender", fn := fun _ => fun
  | [d] => { results := [.lit (.bool false)], args := [d] }
  | _ => none }
def FnExactNewSenderWrongFalsely : Prop := fnExactNewSenderRow.holds Try.pinned (OpenSpec.ofChange fnExactNewSenderWrong)

/-- 'laws.FnExactOfferCommand': WHATEVER THE INPUT: true; the input reads as it did. -/
def fnExactOfferCommandSpec : ChangeSpec := { name := "fnExactOfferCommand", fn := fun _ => fun
  | [d1, d2] => { results := [.lit (.bool true)], args := [d1, d2] }
  | _ => none }
def fnExactOfferCommandRow : OpenClaim := { program := "ytmmedhjmilgnbaa", sum := "da1c795ab5ccd562645d126593c19773723eced289fe3aea6bd94fe20a225871", func := "loop.example/g03316/laws.FnExactOfferCommand", spec := "fnExactOfferCommand", apart := false }
def FnExactOfferCommandSaid : Prop := fnExactOfferCommandRow.holds Try.pinned (OpenSpec.ofChange fnExactOfferCommandSpec)

/-- ITS FALSE NEIGHBOUR: 'it returns false'. Refute it at one input. -/
def fnExactOfferCommandWrong : ChangeSpec := { name := "fnExactOfferCommand", fn := fun _ => fun
  | [d1, d2] => { results := [.lit (.bool false)], args := [d1, d2] }
  | _ => none }
def FnExactOfferCommandWrongFalsely : Prop := fnExactOfferCommandRow.holds Try.pinned (OpenSpec.ofChange fnExactOfferCommandWrong)

/-- 'laws.FnExactEncodeCommand': WHATEVER THE INPUT: true; the input reads as it did. -/
def fnExactEncodeCommandSpec : ChangeSpec := { name := "fnExactEncodeCommand", fn := fun _ => fun
  | [d1, d2, d3] => { results := [.lit (.bool true)], args := [d1, d2, d3] }
  | _ => none }
def fnExactEncodeCommandRow : OpenClaim := { program := "ytmmedhjmilgnbaa", sum := "da1c795ab5ccd562645d126593c19773723eced289fe3aea6bd94fe20a225871", func := "loop.example/g03316/laws.FnExactEncodeCommand", spec := "fnExactEncodeCommand", apart := false }
def FnExactEncodeCommandSaid : Prop := fnExactEncodeCommandRow.holds Try.pinned (OpenSpec.ofChange fnExactEncodeCommandSpec)

/-- ITS FALSE NEIGHBOUR: 'it returns false'. Refute it at one input. -/
def fnExactEncodeCommandWrong : ChangeSpec := { name := "fnExactEncodeCommand", fn := fun _ => fun
  | [d1, d2, d3] => { results := [.lit (.bool false)], args := [d1, d2, d3] }
  | _ => none }
def FnExactEncodeCommandWrongFalsely : Prop := fnExactEncodeCommandRow.holds Try.pinned (OpenSpec.ofChange fnExactEncodeCommandWrong)

/-- 'laws.FnExactDecodeCommand': WHATEVER THE INPUT: true; the input reads as it did. -/
def fnExactDecodeCommandSpec : ChangeSpec := { name := "fnExactDecodeCommand", fn := fun _ => fun
  | [d] => { results := [.lit (.bool true)], args := [d] }
  | _ => none }
def fnExactDecodeCommandRow : OpenClaim := { program := "ytmmedhjmilgnbaa", sum := "da1c795ab5ccd562645d126593c19773723eced289fe3aea6bd94fe20a225871", func := "loop.example/g03316/laws.FnExactDecodeCommand", spec := "fnExactDecodeCommand", apart := false }
def FnExactDecodeCommandSaid : Prop := fnExactDecodeCommandRow.holds Try.pinned (OpenSpec.ofChange fnExactDecodeCommandSpec)

/-- ITS FALSE NEIGHBOUR: 'it returns false'. Refute it at one input. -/
def fnExactDecodeCommandWrong : ChangeSpec := { name := "fnExactDecodeCommand", fn := fun _ => fun
  | [d] => { results := [.lit (.bool false)], args := [d] }
  | _ => none }
def FnExactDecodeCommandWrongFalsely : Prop := fnExactDecodeCommandRow.holds Try.pinned (OpenSpec.ofChange fnExactDecodeCommandWrong)

/-- 'laws.FnExactCommandBlocks': WHATEVER THE INPUT: true; the input reads as it did. -/
def fnExactCommandBlocksSpec : ChangeSpec := { name := "fnExactCommandBlocks", fn := fun _ => fun
  | [d] => { results := [.lit (.bool true)], args := [d] }
  | _ => none }
def fnExactCommandBlocksRow : OpenClaim := { program := "ytmmedhjmilgnbaa", sum := "da1c795ab5ccd562645d126593c19773723eced289fe3aea6bd94fe20a225871", func := "loop.example/g03316/laws.FnExactCommandBlocks", spec := "fnExactCommandBlocks", apart := false }
def FnExactCommandBlocksSaid : Prop := fnExactCommandBlocksRow.holds Try.pinned (OpenSpec.ofChange fnExactCommandBlocksSpec)

/-- ITS FALSE NEIGHBOUR: 'it returns false'. Refute it at one input. -/
def fnExactCommandBlocksWrong : ChangeSpec := { name := "fnExactCommandBlocks", fn := fun _ => fun
  | [d] => { results := [.lit (.bool false)], args := [d] }
  | _ => none }
def FnExactCommandBlocksWrongFalsely : Prop := fnExactCommandBlocksRow.holds Try.pinned (OpenSpec.ofChange fnExactCommandBlocksWrong)

/-- 'laws.FnExactReceiverOk': WHATEVER THE INPUT: true; the input reads as it did. -/
def fnExactReceiverOkSpec : ChangeSpec := { name := "fnExactReceiverOk", fn := fun _ => fun
  | [d] => { results := [.lit (.bool true)], args := [d] }
  | _ => none }
def fnExactReceiverOkRow : OpenClaim := { program := "ytmmedhjmilgnbaa", sum := "da1c795ab5ccd562645d126593c19773723eced289fe3aea6bd94fe20a225871", func := "loop.example/g03316/laws.FnExactReceiverOk", spec := "fnExactReceiverOk", apart := false }
def FnExactReceiverOkSaid : Prop := fnExactReceiverOkRow.holds Try.pinned (OpenSpec.ofChange fnExactReceiverOkSpec)

/-- ITS FALSE NEIGHBOUR: 'it returns false'. Refute it at one input. -/
def fnExactReceiverOkWrong : ChangeSpec := { name := "fnExactReceiverOk", fn := fun _ => fun
  | [d] => { results := [.lit (.bool false)], args := [d] }
  | _ => none }
def FnExactReceiverOkWrongFalsely : Prop := fnExactReceiverOkRow.holds Try.pinned (OpenSpec.ofChange fnExactReceiverOkWrong)

/-- 'laws.FnExactNoticeOf': WHATEVER THE INPUT: true; the input reads as it did. -/
def fnExactNoticeOfSpec : ChangeSpec := { name := "fnExactNoticeOf", fn := fun _ => fun
  | [d] => { results := [.lit (.bool true)], args := [d] }
  | _ => none }
def fnExactNoticeOfRow : OpenClaim := { program := "ytmmedhjmilgnbaa", sum := "da1c795ab5ccd562645d126593c19773723eced289fe3aea6bd94fe20a225871", func := "loop.example/g03316/laws.FnExactNoticeOf", spec := "fnExactNoticeOf", apart := false }
def FnExactNoticeOfSaid : Prop := fnExactNoticeOfRow.holds Try.pinned (OpenSpec.ofChange fnExactNoticeOfSpec)

/-- ITS FALSE NEIGHBOUR: 'it returns false'. Refute it at one input. -/
def fnExactNoticeOfWrong : ChangeSpec := { name := "fnExactNoticeOf", fn := fun _ => fun
  | [d] => { results := [.lit (.bool false)], args := [d] }
  | _ => none }
def FnExactNoticeOfWrongFalsely : Prop := fnExactNoticeOfRow.holds Try.pinned (OpenSpec.ofChange fnExactNoticeOfWrong)

/- THE SECOND FORM. 'bulk': how many values and letters a reading holds, each counted each time it is reached (what is shared counts as often as it is met; a slice's spare places count too). A statement '..UptoSaid' is the law's where the arguments, and the package variables that the reading takes, are together of bulk at most 1048576: NARROWER than '..Said'. Prove '..Said' where nothing that the law and all that it calls make is longer than what came in: it says more and counts as full. Else prove '..UptoSaid'. A law counts once. -/
mutual
def uptoBulk {H : Type} : DataW H → Nat
  | .lit (.string bytes) => bytes.length + 1
  | .lit _ => 1
  | .nil => 1
  | .ptr d => uptoBulk d + 1
  | .slice elems spare => uptoBulkAll elems + uptoBulkAll spare + 1
  | .agg parts => uptoBulkAll parts + 1
  | .iface _ d => uptoBulk d + 1
  | .map entries => uptoBulkEntries entries + 1
  | .held _ => 1
def uptoBulkAll {H : Type} : List (DataW H) → Nat
  | [] => 0
  | d :: r => uptoBulk d + uptoBulkAll r
def uptoBulkEntries {H : Type} : List (Lit × DataW H) → Nat
  | [] => 0
  | x :: r => uptoBulkEntry x + uptoBulkEntries r
def uptoBulkEntry {H : Type} : Lit × DataW H → Nat
  | (.string bytes, d) => bytes.length + uptoBulk d + 1
  | (_, d) => uptoBulk d + 1
 end
def uptoSmall : (H : Type) → List (DataW H) → Bool := fun _ ds => decide (uptoBulkAll ds ≤ 1048576)
def OpenSpec.upto (s : _root_.Go.ChangeSpec) : _root_.Go.OpenSpec := { _root_.Go.OpenSpec.ofChange s with cond := some uptoSmall }

/-- 'laws.FnCommandBytes', WHERE WHAT IT READS IS OF BULK AT MOST 1048576: true; the input reads as it did. -/
def fnCommandBytesUptoRow : OpenClaim := { program := "ytmmedhjmilgnbaa", sum := "da1c795ab5ccd562645d126593c19773723eced289fe3aea6bd94fe20a225871", func := "loop.example/g03316/laws.FnCommandBytes", spec := "fnCommandBytes", apart := false, narrowed := true }
def FnCommandBytesUptoSaid : Prop := fnCommandBytesUptoRow.holds Try.pinned (OpenSpec.upto fnCommandBytesSpec)

/-- 'laws.FnExactSenderOk', WHERE WHAT IT READS IS OF BULK AT MOST 1048576: true; the input reads as it did. -/
def fnExactSenderOkUptoRow : OpenClaim := { program := "ytmmedhjmilgnbaa", sum := "da1c795ab5ccd562645d126593c19773723eced289fe3aea6bd94fe20a225871", func := "loop.example/g03316/laws.FnExactSenderOk", spec := "fnExactSenderOk", apart := false, narrowed := true }
def FnExactSenderOkUptoSaid : Prop := fnExactSenderOkUptoRow.holds Try.pinned (OpenSpec.upto fnExactSenderOkSpec)

/-- 'laws.FnExactNewSender', WHERE WHAT IT READS IS OF BULK AT MOST 1048576: true; the input reads as it did. -/
def fnExactNewSenderUptoRow : OpenClaim := { program := "ytmmedhjmilgnbaa", sum := "da1c795ab5ccd562645d126593c19773723eced289fe3aea6bd94fe20a225871", func := "loop.example/g03316/laws.FnExactNewSender", spec := "fnExactNewSender", apart := false, narrowed := true }
def FnExactNewSenderUptoSaid : Prop := fnExactNewSenderUptoRow.holds Try.pinned (OpenSpec.upto fnExactNewSenderSpec)

/-- 'laws.FnExactOfferCommand', WHERE WHAT IT READS IS OF BULK AT MOST 1048576: true; the input reads as it did. -/
def fnExactOfferCommandUptoRow : OpenClaim := { program := "ytmmedhjmilgnbaa", sum := "da1c795ab5ccd562645d126593c19773723eced289fe3aea6bd94fe20a225871", func := "loop.example/g03316/laws.FnExactOfferCommand", spec := "fnExactOfferCommand", apart := false, narrowed := true }
def FnExactOfferCommandUptoSaid : Prop := fnExactOfferCommandUptoRow.holds Try.pinned (OpenSpec.upto fnExactOfferCommandSpec)

/-- 'laws.FnExactEncodeCommand', WHERE WHAT IT READS IS OF BULK AT MOST 1048576: true; the input reads as it did. -/
def fnExactEncodeCommandUptoRow : OpenClaim := { program := "ytmmedhjmilgnbaa", sum := "da1c795ab5ccd562645d126593c19773723eced289fe3aea6bd94fe20a225871", func := "loop.example/g03316/laws.FnExactEncodeCommand", spec := "fnExactEncodeCommand", apart := false, narrowed := true }
def FnExactEncodeCommandUptoSaid : Prop := fnExactEncodeCommandUptoRow.holds Try.pinned (OpenSpec.upto fnExactEncodeCommandSpec)

/-- 'laws.FnExactDecodeCommand', WHERE WHAT IT READS IS OF BULK AT MOST 1048576: true; the input reads as it did. -/
def fnExactDecodeCommandUptoRow : OpenClaim := { program := "ytmmedhjmilgnbaa", sum := "da1c795ab5ccd562645d126593c19773723eced289fe3aea6bd94fe20a225871", func := "loop.example/g03316/laws.FnExactDecodeCommand", spec := "fnExactDecodeCommand", apart := false, narrowed := true }
def FnExactDecodeCommandUptoSaid : Prop := fnExactDecodeCommandUptoRow.holds Try.pinned (OpenSpec.upto fnExactDecodeCommandSpec)

/-- 'laws.FnExactCommandBlocks', WHERE WHAT IT READS IS OF BULK AT MOST 1048576: true; the input reads as it did. -/
def fnExactCommandBlocksUptoRow : OpenClaim := { program := "ytmmedhjmilgnbaa", sum := "da1c795ab5ccd562645d126593c19773723eced289fe3aea6bd94fe20a225871", func := "loop.example/g03316/laws.FnExactCommandBlocks", spec := "fnExactCommandBlocks", apart := false, narrowed := true }
def FnExactCommandBlocksUptoSaid : Prop := fnExactCommandBlocksUptoRow.holds Try.pinned (OpenSpec.upto fnExactCommandBlocksSpec)

/-- 'laws.FnExactReceiverOk', WHERE WHAT IT READS IS OF BULK AT MOST 1048576: true; the input reads as it did. -/
def fnExactReceiverOkUptoRow : OpenClaim := { program := "ytmmedhjmilgnbaa", sum := "da1c795ab5ccd562645d126593c19773723eced289fe3aea6bd94fe20a225871", func := "loop.example/g03316/laws.FnExactReceiverOk", spec := "fnExactReceiverOk", apart := false, narrowed := true }
def FnExactReceiverOkUptoSaid : Prop := fnExactReceiverOkUptoRow.holds Try.pinned (OpenSpec.upto fnExactReceiverOkSpec)

/-- 'laws.FnExactNoticeOf', WHERE WHAT IT READS IS OF BULK AT MOST 1048576: true; the input reads as it did. -/
def fnExactNoticeOfUptoRow : OpenClaim := { program := "ytmmedhjmilgnbaa", sum := "da1c795ab5ccd562645d126593c19773723eced289fe3aea6bd94fe20a225871", func := "loop.example/g03316/laws.FnExactNoticeOf", spec := "fnExactNoticeOf", apart := false, narrowed := true }
def FnExactNoticeOfUptoSaid : Prop := fnExactNoticeOfUptoRow.holds Try.pinned (OpenSpec.upto fnExactNoticeOfSpec)

end Rows
end Go.Proofs.Ytmmedhjmilgnbaa
