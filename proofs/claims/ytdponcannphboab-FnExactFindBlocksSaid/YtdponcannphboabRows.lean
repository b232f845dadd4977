/-
  No cell of these rows narrows 'for every input' (looked for: loops, veiled, ifaces, maps, wideKeys, modest, calm, conditions, laid).
  DERIVED. THE GIVEN ROWS OF THIS SEAT. 3 by the template 'for every input the law returns true; each argument reads behind the call as it read before'; 0 by the template 'total and deterministic' (their statements: YtdponcannphboabTotals.lean).
  GIVEN WITH THE SEED: the statements are not yours to turn. If you find one false, say at which input.
  Laid BY PROGRAM, IN A SANDBOX (cutbox-rows.mjs): the forced cells as the released guide's own fill.sh prints them over the translation a4da891c3abf0e52… (all of the seat's roots in one cut). By AI agents, Wed Nov 11 2026. No macro, syntax, notation, axiom, sorry.
-/
import Derived.Test.YtdponcannphboabChecked
import GoSem.Claim
import GoSem.ClaimJoined
import GoSem.ClaimMapViews
import Derived.JoinedTies
import Derived.KernelRfl
namespace Go.Proofs.Ytdponcannphboab
/- THE CELL 'sum', in the pinned program and in every row, IS THE sha256 OF THE DUMP (.gsa) THAT YtdponcannphboabProg.lean LOADS. Nothing in Lean hashes anything: it is a label: what it is worth is what the hold of that sum in a sandbox is worth. -/
noncomputable def Try.pinned : Pinned := { name := "ytdponcannphboab", sum := "a4da891c3abf0e525741de9186e70b6a84e0ef77834c6bf0df670209c58b835e", checked := Try.checked }
namespace Rows
def none {H : Type} : Left H := { results := [], args := [] }

/-- 'laws.FnExactBurstText': WHATEVER THE INPUT: true; the input reads as it did. -/
def fnExactBurstTextSpec : ChangeSpec := { name := "fnExactBurstText", fn := fun _ => fun
  | [d1, d2] => { results := [.lit (.bool true)], args := [d1, d2] }
  | _ => none }
def fnExactBurstTextRow : OpenClaim := { program := "ytdponcannphboab", sum := "a4da891c3abf0e525741de9186e70b6a84e0ef77834c6bf0df670209c58b835e", func := "loop.example/g03316/laws.FnExactBurstText", spec := "fnExactBurstText", apart := false }
def FnExactBurstTextSaid : Prop := fnExactBurstTextRow.holds Try.pinned (OpenSpec.ofChange fnExactBurstTextSpec)

/-- ITS FALSE NEIGHBOUR: 'it returns false'. Refute it at one input. -/
def fnExactBurstTextWrong : ChangeSpec := { name := "fnExactBurstText", fn := fun _ => fun
  | [d1, d2] => { results := [.lit (.bool false)], args := [d1, d2] }
  | _ => none }
def FnExactBurstTextWrongFalsely : Prop := fnExactBurstTextRow.holds Try.pinned (OpenSpec.ofChange fnExactBurstTextWrong)

/-- 'laws.FnExactSendBlock': WHATEVER THE INPUT: true; the input reads as it did. -/
def fnExactSendBlockSpec : ChangeSpec := { name := "fnExactSendBlock", fn := fun _ => fun
  | [d1, d2] => { results := [.lit (.bool true)], args := [d1, d2] }
  | _ => none }
def fnExactSendBlockRow : OpenClaim := { program := "ytdponcannphboab", sum := "a4da891c3abf0e525741de9186e70b6a84e0ef77834c6bf0df670209c58b835e", func := "loop.example/g03316/laws.FnExactSendBlock", spec := "fnExactSendBlock", apart := false }
def FnExactSendBlockSaid : Prop := fnExactSendBlockRow.holds Try.pinned (OpenSpec.ofChange fnExactSendBlockSpec)

/-- ITS FALSE NEIGHBOUR: 'it returns false'. Refute it at one input. -/
def fnExactSendBlockWrong : ChangeSpec := { name := "fnExactSendBlock", fn := fun _ => fun
  | [d1, d2] => { results := [.lit (.bool false)], args := [d1, d2] }
  | _ => none }
def FnExactSendBlockWrongFalsely : Prop := fnExactSendBlockRow.holds Try.pinned (OpenSpec.ofChange fnExactSendBlockWrong)

/-- 'laws.FnExactFindBlocks': WHATEVER THE INPUT: true; the input reads as it did. -/
def fnExactFindBlocksSpec : ChangeSpec := { name := "fnExactFindBlocks", fn := fun _ => fun
  | [d1, d2] => { results := [.lit (.bool true)], args := [d1, d2] }
  | _ => none }
def fnExactFindBlocksRow : OpenClaim := { program := "ytdponcannphboab", sum := "a4da891c3abf0e525741de9186e70b6a84e0ef77834c6bf0df670209c58b835e", func := "loop.example/g03316/laws.FnExactFindBlocks", spec := "fnExactFindBlocks", unfollowed := true, recurses := true, apart := false }
def FnExactFindBlocksSaid : Prop := fnExactFindBlocksRow.holds Try.pinned (OpenSpec.ofChange fnExactFindBlocksSpec)

/-- ITS FALSE NEIGHBOUR: 'it returns false'. Refute it at one input. -/
def fnExactFindBlocksWrong : ChangeSpec := { name := "fnExactFindBlocks", fn := fun _ => fun
  | [d1, d2] => { results := [.lit (.bool false)], args := [d1, d2] }
  | _ => none }
def FnExactFindBlocksWrongFalsely : Prop := fnExactFindBlocksRow.holds Try.pinned (OpenSpec.ofChange fnExactFindBlocksWrong)

/- THE SECOND FORM. 'bulk': how many values and letters a reading holds, each counted each time it is reached (what is shared counts as often as it is met; a slice's spare places count too). A statement '..UptoSaid' is the law's where the arguments, and the package variables that the reading takes, are together of bulk at most 1048576: NARROWER than '..Said'. Prove '..Said' where nothing that the law and all that it calls make is longer than what came in: it says more and counts as full. Else prove '..UptoSaid'. A law counts once. -/
mutual
def uptoBulk {H : Type} : DataW H → Nat
  | .lit (.string bytes) => bytes.length + 1
  | .lit _ => 1
  | .nil => 1
  | .ptr d => uptoBulk d + 1
  | .slice elems spare => uptoBulkAll elems + uptoBulkAll spare + 1
  | .agg parts => uptoBulkAll parts + 1
  | .iface _ d => uptoBulk d + 1
  | .map entries => uptoBulkEntries entries + 1
  | .held _ => 1
def uptoBulkAll {H : Type} : List (DataW H) → Nat
  | [] => 0
  | d :: r => uptoBulk d + uptoBulkAll r
def uptoBulkEntries {H : Type} : List (Lit × DataW H) → Nat
  | [] => 0
  | x :: r => uptoBulkEntry x + uptoBulkEntries r
def uptoBulkEntry {H : Type} : Lit × DataW H → Nat
  | (.string bytes, d) => bytes.length + uptoBulk d + 1
  | (_, d) => uptoBulk d + 1
 end
def uptoSmall : (H : Type) → List (DataW H) → Bool := fun _ ds => decide (uptoBulkAll ds ≤ 1048576)
def OpenSpec.upto (s : _root_.Go.ChangeSpec) : _root_.Go.OpenSpec := { _root_.Go.OpenSpec.ofChange s with cond := some uptoSmall }

/-- 'laws.FnExactBurstText', WHERE WHAT IT READS IS OF BULK AT MOST 1048576: true; the input reads as it did. -/
def fnExactBurstTextUptoRow : OpenClaim := { program := "ytdponcannphboab", sum := "a4da891c3abf0e525741de9186e70b6a84e0ef77834c6bf0df670209c58b835e", func := "loop.example/g03316/laws.FnExactBurstText", spec := "fnExactBurstText", apart := false, narrowed := true }
def FnExactBurstTextUptoSaid : Prop := fnExactBurstTextUptoRow.holds Try.pinned (OpenSpec.upto fnExactBurstTextSpec)

/-- 'laws.FnExactSendBlock', WHERE WHAT IT READS IS OF BULK AT MOST 1048576: true; the input reads as it did. -/
def fnExactSendBlockUptoRow : OpenClaim := { program := "ytdponcannphboab", sum := "a4da891c3abf0e525741de9186e70b6a84e0ef77834c6bf0df670209c58b835e", func := "loop.example/g03316/laws.FnExactSendBlock", spec := "fnExactSendBlock", apart := false, narrowed := true }
def FnExactSendBlockUptoSaid : Prop := fnExactSendBlockUptoRow.holds Try.pinned (OpenSpec.upto fnExactSendBlockSpec)

/-- 'laws.FnExactFindBlocks', WHERE WHAT IT READS IS OF BULK AT MOST 1048576: true; the input reads as it did. -/
def fnExactFindBlocksUptoRow : OpenClaim := { program := "ytdponcannphboab", sum := "a4da891c3abf0e525741de9186e70b6a84e0ef77834c6bf0df670209c58b835e", func := "loop.example/g03316/laws.FnExactFindBlocks", spec := "fnExactFindBlocks", unfollowed := true, recurses := true, apart := false, narrowed := true }
def FnExactFindBlocksUptoSaid : Prop := fnExactFindBlocksUptoRow.holds Try.pinned (OpenSpec.upto fnExactFindBlocksSpec)

end Rows
end Go.Proofs.Ytdponcannphboab
