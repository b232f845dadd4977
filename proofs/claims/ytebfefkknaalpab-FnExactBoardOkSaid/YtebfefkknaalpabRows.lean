/-
  No cell of these rows narrows 'for every input' (looked for: loops, veiled, ifaces, maps, wideKeys, modest, calm, conditions, laid).
  DERIVED. THE GIVEN ROWS OF THIS SEAT. 6 by the template 'for every input the law returns true; each argument reads behind the call as it read before'; 0 by the template 'total and deterministic' (their statements: YtebfefkknaalpabTotals.lean).
  GIVEN WITH THE SEED: the statements are not yours to turn. If you find one false, say at which input.
  Laid BY PROGRAM, IN A SANDBOX (cutbox-rows.mjs): the forced cells as the released guide's own fill.sh prints them over the translation 8621da7090feb4ea… (all of the seat's roots in one cut). By AI agents, Wed Nov 11 2026. No macro, syntax, notation, axiom, sorry.
-/
import Derived.Test.YtebfefkknaalpabChecked
import GoSem.Claim
import GoSem.ClaimJoined
import GoSem.ClaimMapViews
import Derived.JoinedTies
import Derived.KernelRfl
namespace Go.Proofs.Ytebfefkknaalpab
/- THE CELL 'sum', in the pinned program and in every row, IS THE sha256 OF THE DUMP (.gsa) THAT YtebfefkknaalpabProg.lean LOADS. Nothing in Lean hashes anything: it is a label: what it is worth is what the hold of that sum in a sandbox is worth. -/
noncomputable def Try.pinned : Pinned := { name := "ytebfefkknaalpab", sum := "8621da7090feb4ea1f582654269249f92d42a26c46128ffb2727021ecf082ebe", checked := Try.checked }
namespace Rows
def none {H : Type} : Left H := { results := [], args := [] }

/-- 'laws.FnExactRoomLeft': WHATEVER THE INPUT: true; the input reads as it did. -/
def fnExactRoomLeftSpec : ChangeSpec := { name := "fnExactRoomLeft", fn := fun _ => fun
  | [d] => { results := [.lit (.bool true)], args := [d] }
  | _ => none }
def fnExactRoomLeftRow : OpenClaim := { program := "ytebfefkknaalpab", sum := "8621da7090feb4ea1f582654269249f92d42a26c46128ffb2727021ecf082ebe", func := "loop.example/g03316/laws.FnExactRoomLeft", spec := "fnExactRoomLeft", apart := false }
def FnExactRoomLeftSaid : Prop := fnExactRoomLeftRow.holds Try.pinned (OpenSpec.ofChange fnExactRoomLeftSpec)

/-- ITS FALSE NEIGHBOUR: 'it returns false'. Refute it at one input. -/
def fnExactRoomLeftWrong : ChangeSpec := { name := "fnExactRoomLeft", fn := fun _ => fun
  | [d] => { results := [.lit (.bool false)], args := [d] }
  | _ => none }
def FnExactRoomLeftWrongFalsely : Prop := fnExactRoomLeftRow.holds Try.pinned (OpenSpec.ofChange fnExactRoomLeftWrong)

/-- 'laws.FnExactKeepRecord': WHATEVER THE INPUT: true; the input reads as it did. -/
def fnExactKeepRecordSpec : ChangeSpec := { name := "fnExactKeepRecord", fn := fun _ => fun
  | [d1, d2] => { results := [.lit (.bool true)], args := [d1, d2] }
  | _ => none }
def fnExactKeepRecordRow : OpenClaim := { program := "ytebfefkknaalpab", sum := "8621da7090feb4ea1f582654269249f92d42a26c46128ffb2727021ecf082ebe", func := "loop.example/g03316/laws.FnExactKeepRecord", spec := "fnExactKeepRecord", apart := false }
def FnExactKeepRecordSaid : Prop := fnExactKeepRecordRow.holds Try.pinned (OpenSpec.ofChange fnExactKeepRecordSpec)

/-- ITS FALSE NEIGHBOUR: 'it returns false'. Refute it at one input. -/
def fnExactKeepRecordWrong : ChangeSpec := { name := "fnExactKeepRecord", fn := fun _ => fun
  | [d1, d2] => { results := [.lit (.bool false)], args := [d1, d2] }
  | _ => none }
def FnExactKeepRecordWrongFalsely : Prop := fnExactKeepRecordRow.holds Try.pinned (OpenSpec.ofChange fnExactKeepRecordWrong)

/-- 'laws.FnExactTakeRecords': WHATEVER THE INPUT: true; the input reads as it did. -/
def fnExactTakeRecordsSpec : ChangeSpec := { name := "fnExactTakeRecords", fn := fun _ => fun
  | [d1, d2] => { results := [.lit (.bool true)], args := [d1, d2] }
  | _ => none }
def fnExactTakeRecordsRow : OpenClaim := { program := "ytebfefkknaalpab", sum := "8621da7090feb4ea1f582654269249f92d42a26c46128ffb2727021ecf082ebe", func := "loop.example/g03316/laws.FnExactTakeRecords", spec := "fnExactTakeRecords", apart := false }
def FnExactTakeRecordsSaid : Prop := fnExactTakeRecordsRow.holds Try.pinned (OpenSpec.ofChange fnExactTakeRecordsSpec)

/-- ITS FALSE NEIGHBOUR: 'it returns false'. Refute it at one input. -/
def fnExactTakeRecordsWrong : ChangeSpec := { name := "fnExactTakeRecords", fn := fun _ => fun
  | [d1, d2] => { results := [.lit (.bool false)], args := [d1, d2] }
  | _ => none }
def FnExactTakeRecordsWrongFalsely : Prop := fnExactTakeRecordsRow.holds Try.pinned (OpenSpec.ofChange fnExactTakeRecordsWrong)

/-- 'laws.FnExactBoardOk': WHATEVER THE INPUT: true; the input reads as it did. -/
def fnExactBoardOkSpec : ChangeSpec := { name := "fnExactBoardOk", fn := fun _ => fun
  | [d] => { results := [.lit (.bool true)], args := [d] }
  | _ => none }
def fnExactBoardOkRow : OpenClaim := { program := "ytebfefkknaalpab", sum := "8621da7090feb4ea1f582654269249f92d42a26c46128ffb2727021ecf082ebe", func := "loop.example/g03316/laws.FnExactBoardOk", spec := "fnExactBoardOk", unfollowed := true, recurses := true, apart := false }
def FnExactBoardOkSaid : Prop := fnExactBoardOkRow.holds Try.pinned (OpenSpec.ofChange fnExactBoardOkSpec)

/-- ITS FALSE NEIGHBOUR: 'it returns false'. Refute it at one input. -/
def fnExactBoardOkWrong : ChangeSpec := { name := "fnExactBoardOk", fn := fun _ => fun
  | [d] => { results := [.lit (.bool false)], args := [d] }
  | _ => none }
def FnExactBoardOkWrongFalsely : Prop := fnExactBoardOkRow.holds Try.pinned (OpenSpec.ofChange fnExactBoardOkWrong)

/-- 'laws.FnExactNewBoard': WHATEVER THE INPUT: true; the input reads as it did. -/
def fnExactNewBoardSpec : ChangeSpec := { name := "fnExactNewBoard", fn := fun _ => fun
  | [d1, d2] => { results := [.lit (.bool true)], args := [d1, d2] }
  | _ => none }
def fnExactNewBoardRow : OpenClaim := { program := "ytebfefkknaalpab", sum := "8621da7090feb4ea1f582654269249f92d42a26c46128ffb2727021ecf082ebe", func := "loop.example/g03316/laws.FnExactNewBoard", spec := "fnExactNewBoard", unfollowed := true, recurses := true, apart := false }
def FnExactNewBoardSaid : Prop := fnExactNewBoardRow.holds Try.pinned (OpenSpec.ofChange fnExactNewBoardSpec)

/-- ITS FALSE NEIGHBOUR: 'it returns false'. Refute it at one input. -/
def fnExactNewBoardWrong : ChangeSpec := { name := "fnExactNewBoard", fn := fun _ => fun
  | [d1, d2] => { results := [.lit (.bool false)], args := [d1, d2] }
  | _ => none }
def FnExactNewBoardWrongFalsely : Prop := fnExactNewBoardRow.holds Try.pinned (OpenSpec.ofChange fnExactNewBoardWrong)

/-- 'laws.FnExactAcceptOrder': WHATEVER THE INPUT: true; the input reads as it did. -/
def fnExactAcceptOrderSpec : ChangeSpec := { name := "fnExactAcceptOrder", fn := fun _ => fun
  | [d1, d2] => { results := [.lit (.bool true)], args := [d1, d2] }
  | _ => none }
def fnExactAcceptOrderRow : OpenClaim := { program := "ytebfefkknaalpab", sum := "8621da7090feb4ea1f582654269249f92d42a26c46128ffb2727021ecf082ebe", func := "loop.example/g03316/laws.FnExactAcceptOrder", spec := "fnExactAcceptOrder", unfollowed := true, recurses := true, apart := false }
def FnExactAcceptOrderSaid : Prop := fnExactAcceptOrderRow.holds Try.pinned (OpenSpec.ofChange fnExactAcceptOrderSpec)

/-- ITS FALSE NEIGHBOUR: 'it returns false'. Refute it at one input. -/
def fnExactAcceptOrderWrong : ChangeSpec := { name := "fnExactAcceptOrder", fn := fun _ => fun
  | [d1, d2] => { results := [.lit (.bool false)], args := [d1, d2] }
  | _ => none }
def FnExactAcceptOrderWrongFalsely : Prop := fnExactAcceptOrderRow.holds Try.pinned (OpenSpec.ofChange fnExactAcceptOrderWrong)

/- THE SECOND FORM. 'bulk': how many values and letters a reading holds, each counted each time it is reached (what is shared counts as often as it is met; a slice's spare places count too). A statement '..UptoSaid' is the law's where the arguments, and the package variables that the reading takes, are together of bulk at most 1048576: NARROWER than '..Said'. Prove '..Said' where nothing that the law and all that it calls make is longer than what came in: it says more and counts as full. Else prove '..UptoSaid'. A law counts once. -/
mutual
def uptoBulk {H : Type} : DataW H → Nat
  | .lit (.string bytes) => bytes.length + 1
  | .lit _ => 1
  | .nil => 1
  | .ptr d => uptoBulk d + 1
  | .slice elems spare => uptoBulkAll elems + uptoBulkAll spare + 1
  | .agg parts => uptoBulkAll parts + 1
  | .iface _ d => uptoBulk d + 1
  | .map entries => uptoBulkEntries entries + 1
  | .held _ => 1
def uptoBulkAll {H : Type} : List (DataW H) → Nat
  | [] => 0
  | d :: r => uptoBulk d + uptoBulkAll r
def uptoBulkEntries {H : Type} : List (Lit × DataW H) → Nat
  | [] => 0
  | x :: r => uptoBulkEntry x + uptoBulkEntries r
def uptoBulkEntry {H : Type} : Lit × DataW H → Nat
  | (.string bytes, d) => bytes.length + uptoBulk d + 1
  | (_, d) => uptoBulk d + 1
 end
def uptoSmall : (H : Type) → List (DataW H) → Bool := fun _ ds => decide (uptoBulkAll ds ≤ 1048576)
def OpenSpec.upto (s : _root_.Go.ChangeSpec) : _root_.Go.OpenSpec := { _root_.Go.OpenSpec.ofChange s with cond := some uptoSmall }

/-- 'laws.FnExactRoomLeft', WHERE WHAT IT READS IS OF BULK AT MOST 1048576: true; the input reads as it did. -/
def fnExactRoomLeftUptoRow : OpenClaim := { program := "ytebfefkknaalpab", sum := "8621da7090feb4ea1f582654269249f92d42a26c46128ffb2727021ecf082ebe", func := "loop.example/g03316/laws.FnExactRoomLeft", spec := "fnExactRoomLeft", apart := false, narrowed := true }
def FnExactRoomLeftUptoSaid : Prop := fnExactRoomLeftUptoRow.holds Try.pinned (OpenSpec.upto fnExactRoomLeftSpec)

/-- 'laws.FnExactKeepRecord', WHERE WHAT IT READS IS OF BULK AT MOST 1048576: true; the input reads as it did. -/
def fnExactKeepRecordUptoRow : OpenClaim := { program := "ytebfefkknaalpab", sum := "8621da7090feb4ea1f582654269249f92d42a26c46128ffb2727021ecf082ebe", func := "loop.example/g03316/laws.FnExactKeepRecord", spec := "fnExactKeepRecord", apart := false, narrowed := true }
def FnExactKeepRecordUptoSaid : Prop := fnExactKeepRecordUptoRow.holds Try.pinned (OpenSpec.upto fnExactKeepRecordSpec)

/-- 'laws.FnExactTakeRecords', WHERE WHAT IT READS IS OF BULK AT MOST 1048576: true; the input reads as it did. -/
def fnExactTakeRecordsUptoRow : OpenClaim := { program := "ytebfefkknaalpab", sum := "8621da7090feb4ea1f582654269249f92d42a26c46128ffb2727021ecf082ebe", func := "loop.example/g03316/laws.FnExactTakeRecords", spec := "fnExactTakeRecords", apart := false, narrowed := true }
def FnExactTakeRecordsUptoSaid : Prop := fnExactTakeRecordsUptoRow.holds Try.pinned (OpenSpec.upto fnExactTakeRecordsSpec)

/-- 'laws.FnExactBoardOk', WHERE WHAT IT READS IS OF BULK AT MOST 1048576: true; the input reads as it did. -/
def fnExactBoardOkUptoRow : OpenClaim := { program := "ytebfefkknaalpab", sum := "8621da7090feb4ea1f582654269249f92d42a26c46128ffb2727021ecf082ebe", func := "loop.example/g03316/laws.FnExactBoardOk", spec := "fnExactBoardOk", unfollowed := true, recurses := true, apart := false, narrowed := true }
def FnExactBoardOkUptoSaid : Prop := fnExactBoardOkUptoRow.holds Try.pinned (OpenSpec.upto fnExactBoardOkSpec)

/-- 'laws.FnExactNewBoard', WHERE WHAT IT READS IS OF BULK AT MOST 1048576: true; the input reads as it did. -/
def fnExactNewBoardUptoRow : OpenClaim := { program := "ytebfefkknaalpab", sum := "8621da7090feb4ea1f582654269249f92d42a26c46128ffb2727021ecf082ebe", func := "loop.example/g03316/laws.FnExactNewBoard", spec := "fnExactNewBoard", unfollowed := true, recurses := true, apart := false, narrowed := true }
def FnExactNewBoardUptoSaid : Prop := fnExactNewBoardUptoRow.holds Try.pinned (OpenSpec.upto fnExactNewBoardSpec)

/-- 'laws.FnExactAcceptOrder', WHERE WHAT IT READS IS OF BULK AT MOST 1048576: true; the input reads as it did. -/
def fnExactAcceptOrderUptoRow : OpenClaim := { program := "ytebfefkknaalpab", sum := "8621da7090feb4ea1f582654269249f92d42a26c46128ffb2727021ecf082ebe", func := "loop.example/g03316/laws.FnExactAcceptOrder", spec := "fnExactAcceptOrder", unfollowed := true, recurses := true, apart := false, narrowed := true }
def FnExactAcceptOrderUptoSaid : Prop := fnExactAcceptOrderUptoRow.holds Try.pinned (OpenSpec.upto fnExactAcceptOrderSpec)

end Rows
end Go.Proofs.Ytebfefkknaalpab
