/-
  NARROWER THAN 'FOR EVERY INPUT', by the rows' own cells (each row's printed sentence says how): FnBounds: laid · FnExactPairsOk: laid · FnExactAddPair: laid · FnExactBoundsOf: laid · FnExactGuessTrue: laid · FnExactRateOf: laid.
  DERIVED. THE GIVEN ROWS OF THIS SEAT. 6 by the template 'for every input the law returns true; each argument reads behind the call as it read before'; 0 by the template 'total and deterministic' (their statements: YtggfmimnmpanbaaDoorTotals.lean).
  GIVEN WITH THE SEED: the statements are not yours to turn. If you find one false, say at which input.
  Laid BY PROGRAM, IN A SANDBOX (cutbox-rows.mjs): the forced cells as the released guide's own fill.sh prints them over the translation aa1c81a55a6ebaeb… (all of the seat's roots in one cut). By AI agents, Wed Nov 11 2026. No macro, syntax, notation, axiom, sorry.
-/
import Derived.Test.YtggfmimnmpanbaaDoorChecked
import GoSem.Claim
import GoSem.ClaimJoined
import GoSem.ClaimMapViews
import Derived.JoinedTies
import Derived.KernelRfl
namespace Go.Proofs.YtggfmimnmpanbaaDoor
/- THE CELL 'sum', in the pinned program and in every row, IS THE sha256 OF THE DUMP (.gsa) THAT YtggfmimnmpanbaaDoorProg.lean LOADS. Nothing in Lean hashes anything: it is a label: what it is worth is what the hold of that sum in a sandbox is worth. -/
noncomputable def Tryd.pinned : Pinned := { name := "ytggfmimnmpanbaadoor", sum := "aa1c81a55a6ebaeba4d7d44ddaddc8a83c85518367ea1b3414ffa03add4c9d8d", checked := Tryd.checked }
namespace Rows
def none {H : Type} : Left H := { results := [], args := [] }

/- WHAT THE LISTED PACKAGE-LEVEL VARIABLES READ AS WHEN THE CALL BEGINS. Each datum BY PROGRAM (the guide's laid-datum.mjs) off the statement by which the dump's own 'gosem.cut.vars' lays the variable. In a bare row this is a premise. The card (YtggfmimnmpanbaaDoorCards.lean) ties it to the program's text. -/
def laid_loop_example_g03316_impl_beforeAll {H : Type} : DataW H := .agg [.lit (.int .i64 (-1)), .lit (.int .i64 (-1))]
def laid_loop_example_g03316_impl_behindAll {H : Type} : DataW H := .agg [.lit (.int .i64 2000001), .lit (.int .i64 1000001)]

/-- 'laws.FnBounds': WHATEVER THE INPUT: true; the input reads as it did. -/
def fnBoundsSpec : ChangeSpec := { name := "fnBounds", vars := ["loop.example/g03316/impl.beforeAll", "loop.example/g03316/impl.behindAll"], fn := fun _ => fun
  | [d, g1, g2] => { results := [.lit (.bool true)], args := [d], vars := [g1, g2] }
  | _ => none }
def fnBoundsRow : OpenClaim := { program := "ytggfmimnmpanbaadoor", sum := "aa1c81a55a6ebaeba4d7d44ddaddc8a83c85518367ea1b3414ffa03add4c9d8d", func := "loop.example/g03316/laws.FnBounds", spec := "fnBounds", unfollowed := true, recurses := true, named := ["loop.example/g03316/impl.beforeAll", "loop.example/g03316/impl.behindAll"], apart := false, laid := [("loop.example/g03316/impl.beforeAll", laid_loop_example_g03316_impl_beforeAll), ("loop.example/g03316/impl.behindAll", laid_loop_example_g03316_impl_behindAll)] }
def FnBoundsSaid : Prop := fnBoundsRow.holds Tryd.pinned (OpenSpec.ofChange fnBoundsSpec)

/-- ITS FALSE NEIGHBOUR: 'it returns false'. Refute it at one input. -/
def fnBoundsWrong : ChangeSpec := { name := "fnBounds", vars := ["loop.example/g03316/impl.beforeAll", "loop.example/g03316/impl.behindAll"], fn := fun _ => fun
  | [d, g1, g2] => { results := [.lit (.bool false)], args := [d], vars := [g1, g2] }
  | _ => none }
def FnBoundsWrongFalsely : Prop := fnBoundsRow.holds Tryd.pinned (OpenSpec.ofChange fnBoundsWrong)

/-- 'laws.FnExactPairsOk': WHATEVER THE INPUT: true; the input reads as it did. -/
def fnExactPairsOkSpec : ChangeSpec := { name := "fnExactPairsOk", vars := ["loop.example/g03316/impl.beforeAll"], fn := fun _ => fun
  | [d, g1] => { results := [.lit (.bool true)], args := [d], vars := [g1] }
  | _ => none }
def fnExactPairsOkRow : OpenClaim := { program := "ytggfmimnmpanbaadoor", sum := "aa1c81a55a6ebaeba4d7d44ddaddc8a83c85518367ea1b3414ffa03add4c9d8d", func := "loop.example/g03316/laws.FnExactPairsOk", spec := "fnExactPairsOk", unfollowed := true, recurses := true, named := ["loop.example/g03316/impl.beforeAll"], apart := false, laid := [("loop.example/g03316/impl.beforeAll", laid_loop_example_g03316_impl_beforeAll)] }
def FnExactPairsOkSaid : Prop := fnExactPairsOkRow.holds Tryd.pinned (OpenSpec.ofChange fnExactPairsOkSpec)

/-- ITS FALSE NEIGHBOUR: 'it returns false'. Refute it at one input. -/
def fnExactPairsOkWrong : ChangeSpec := { name := "fnExactPairsOk", vars := ["loop.example/g03316/impl.beforeAll"], fn := fun _ => fun
  | [d, g1] => { results := [.lit (.bool false)], args := [d], vars := [g1] }
  | _ => none }
def FnExactPairsOkWrongFalsely : Prop := fnExactPairsOkRow.holds Tryd.pinned (OpenSpec.ofChange fnExactPairsOkWrong)

/-- 'laws.FnExactAddPair': WHATEVER THE INPUT: true; the input reads as it did. -/
def fnExactAddPairSpec : ChangeSpec := { name := "fnExactAddPair", vars := ["loop.example/g03316/impl.beforeAll"], fn := fun _ => fun
  | [d1, d2, g1] => { results := [.lit (.bool true)], args := [d1, d2], vars := [g1] }
  | _ => none }
def fnExactAddPairRow : OpenClaim := { program := "ytggfmimnmpanbaadoor", sum := "aa1c81a55a6ebaeba4d7d44ddaddc8a83c85518367ea1b3414ffa03add4c9d8d", func := "loop.example/g03316/laws.FnExactAddPair", spec := "fnExactAddPair", unfollowed := true, recurses := true, named := ["loop.example/g03316/impl.beforeAll"], apart := false, laid := [("loop.example/g03316/impl.beforeAll", laid_loop_example_g03316_impl_beforeAll)] }
def FnExactAddPairSaid : Prop := fnExactAddPairRow.holds Tryd.pinned (OpenSpec.ofChange fnExactAddPairSpec)

/-- ITS FALSE NEIGHBOUR: 'it returns false'. Refute it at one input. -/
def fnExactAddPairWrong : ChangeSpec := { name := "fnExactAddPair", vars := ["loop.example/g03316/impl.beforeAll"], fn := fun _ => fun
  | [d1, d2, g1] => { results := [.lit (.bool false)], args := [d1, d2], vars := [g1] }
  | _ => none }
def FnExactAddPairWrongFalsely : Prop := fnExactAddPairRow.holds Tryd.pinned (OpenSpec.ofChange fnExactAddPairWrong)

/-- 'laws.FnExactBoundsOf': WHATEVER THE INPUT: true; the input reads as it did. -/
def fnExactBoundsOfSpec : ChangeSpec := { name := "fnExactBoundsOf", vars := ["loop.example/g03316/impl.beforeAll", "loop.example/g03316/impl.behindAll"], fn := fun _ => fun
  | [d1, d2, g1, g2] => { results := [.lit (.bool true)], args := [d1, d2], vars := [g1, g2] }
  | _ => none }
def fnExactBoundsOfRow : OpenClaim := { program := "ytggfmimnmpanbaadoor", sum := "aa1c81a55a6ebaeba4d7d44ddaddc8a83c85518367ea1b3414ffa03add4c9d8d", func := "loop.example/g03316/laws.FnExactBoundsOf", spec := "fnExactBoundsOf", unfollowed := true, recurses := true, named := ["loop.example/g03316/impl.beforeAll", "loop.example/g03316/impl.behindAll"], apart := false, laid := [("loop.example/g03316/impl.beforeAll", laid_loop_example_g03316_impl_beforeAll), ("loop.example/g03316/impl.behindAll", laid_loop_example_g03316_impl_behindAll)] }
def FnExactBoundsOfSaid : Prop := fnExactBoundsOfRow.holds Tryd.pinned (OpenSpec.ofChange fnExactBoundsOfSpec)

/-- ITS FALSE NEIGHBOUR: 'it returns false'. Refute it at one input. -/
def fnExactBoundsOfWrong : ChangeSpec := { name := "fnExactBoundsOf", vars := ["loop.example/g03316/impl.beforeAll", "loop.example/g03316/impl.behindAll"], fn := fun _ => fun
  | [d1, d2, g1, g2] => { results := [.lit (.bool false)], args := [d1, d2], vars := [g1, g2] }
  | _ => none }
def FnExactBoundsOfWrongFalsely : Prop := fnExactBoundsOfRow.holds Tryd.pinned (OpenSpec.ofChange fnExactBoundsOfWrong)

/-- 'laws.FnExactGuessTrue': WHATEVER THE INPUT: true; the input reads as it did. -/
def fnExactGuessTrueSpec : ChangeSpec := { name := "fnExactGuessTrue", vars := ["loop.example/g03316/impl.beforeAll"], fn := fun _ => fun
  | [d1, d2, g1] => { results := [.lit (.bool true)], args := [d1, d2], vars := [g1] }
  | _ => none }
def fnExactGuessTrueRow : OpenClaim := { program := "ytggfmimnmpanbaadoor", sum := "aa1c81a55a6ebaeba4d7d44ddaddc8a83c85518367ea1b3414ffa03add4c9d8d", func := "loop.example/g03316/laws.FnExactGuessTrue", spec := "fnExactGuessTrue", unfollowed := true, recurses := true, named := ["loop.example/g03316/impl.beforeAll"], apart := false, laid := [("loop.example/g03316/impl.beforeAll", laid_loop_example_g03316_impl_beforeAll)] }
def FnExactGuessTrueSaid : Prop := fnExactGuessTrueRow.holds Tryd.pinned (OpenSpec.ofChange fnExactGuessTrueSpec)

/-- ITS FALSE NEIGHBOUR: 'it returns false'. Refute it at one input. -/
def fnExactGuessTrueWrong : ChangeSpec := { name := "fnExactGuessTrue", vars := ["loop.example/g03316/impl.beforeAll"], fn := fun _ => fun
  | [d1, d2, g1] => { results := [.lit (.bool false)], args := [d1, d2], vars := [g1] }
  | _ => none }
def FnExactGuessTrueWrongFalsely : Prop := fnExactGuessTrueRow.holds Tryd.pinned (OpenSpec.ofChange fnExactGuessTrueWrong)

/-- 'laws.FnExactRateOf': WHATEVER THE INPUT: true; the input reads as it did. -/
def fnExactRateOfSpec : ChangeSpec := { name := "fnExactRateOf", vars := ["loop.example/g03316/impl.beforeAll"], fn := fun _ => fun
  | [d, g1] => { results := [.lit (.bool true)], args := [d], vars := [g1] }
  | _ => none }
def fnExactRateOfRow : OpenClaim := { program := "ytggfmimnmpanbaadoor", sum := "aa1c81a55a6ebaeba4d7d44ddaddc8a83c85518367ea1b3414ffa03add4c9d8d", func := "loop.example/g03316/laws.FnExactRateOf", spec := "fnExactRateOf", unfollowed := true, recurses := true, named := ["loop.example/g03316/impl.beforeAll"], apart := false, laid := [("loop.example/g03316/impl.beforeAll", laid_loop_example_g03316_impl_beforeAll)] }
def FnExactRateOfSaid : Prop := fnExactRateOfRow.holds Tryd.pinned (OpenSpec.ofChange fnExactRateOfSpec)

/-- ITS FALSE NEIGHBOUR: 'it returns false'. Refute it at one input. -/
def fnExactRateOfWrong : ChangeSpec := { name := "fnExactRateOf", vars := ["loop.example/g03316/impl.beforeAll"], fn := fun _ => fun
  | [d, g1] => { results := [.lit (.bool false)], args := [d], vars := [g1] }
  | _ => none }
def FnExactRateOfWrongFalsely : Prop := fnExactRateOfRow.holds Tryd.pinned (OpenSpec.ofChange fnExactRateOfWrong)

/- THE SECOND FORM. 'bulk': how many values and letters a reading holds, each counted each time it is reached (what is shared counts as often as it is met; a slice's spare places count too). A statement '..UptoSaid' is the law's where the arguments, and the package variables that the reading takes, are together of bulk at most 1048576: NARROWER than '..Said'. Prove '..Said' where nothing that the law and all that it calls make is longer than what came in: it says more and counts as full. Else prove '..UptoSaid'. A law counts once. -/
mutual
def uptoBulk {H : Type} : DataW H → Nat
  | .lit (.string bytes) => bytes.length + 1
  | .lit _ => 1
  | .nil => 1
  | .ptr d => uptoBulk d + 1
  | .slice elems spare => uptoBulkAll elems + uptoBulkAll spare + 1
  | .agg parts => uptoBulkAll parts + 1
  | .iface _ d => uptoBulk d + 1
  | .map entries => uptoBulkEntries entries + 1
  | .held _ => 1
def uptoBulkAll {H : Type} : List (DataW H) → Nat
  | [] => 0
  | d :: r => uptoBulk d + uptoBulkAll r
def uptoBulkEntries {H : Type} : List (Lit × DataW H) → Nat
  | [] => 0
  | x :: r => uptoBulkEntry x + uptoBulkEntries r
def uptoBulkEntry {H : Type} : Lit × DataW H → Nat
  | (.string bytes, d) => bytes.length + uptoBulk d + 1
  | (_, d) => uptoBulk d + 1
 end
def uptoSmall : (H : Type) → List (DataW H) → Bool := fun _ ds => decide (uptoBulkAll ds ≤ 1048576)
def OpenSpec.upto (s : _root_.Go.ChangeSpec) : _root_.Go.OpenSpec := { _root_.Go.OpenSpec.ofChange s with cond := some uptoSmall }

/-- 'laws.FnBounds', WHERE WHAT IT READS IS OF BULK AT MOST 1048576: true; the input reads as it did. -/
def fnBoundsUptoRow : OpenClaim := { program := "ytggfmimnmpanbaadoor", sum := "aa1c81a55a6ebaeba4d7d44ddaddc8a83c85518367ea1b3414ffa03add4c9d8d", func := "loop.example/g03316/laws.FnBounds", spec := "fnBounds", unfollowed := true, recurses := true, named := ["loop.example/g03316/impl.beforeAll", "loop.example/g03316/impl.behindAll"], apart := false, laid := [("loop.example/g03316/impl.beforeAll", laid_loop_example_g03316_impl_beforeAll), ("loop.example/g03316/impl.behindAll", laid_loop_example_g03316_impl_behindAll)], narrowed := true }
def FnBoundsUptoSaid : Prop := fnBoundsUptoRow.holds Tryd.pinned (OpenSpec.upto fnBoundsSpec)

/-- 'laws.FnExactPairsOk', WHERE WHAT IT READS IS OF BULK AT MOST 1048576: true; the input reads as it did. -/
def fnExactPairsOkUptoRow : OpenClaim := { program := "ytggfmimnmpanbaadoor", sum := "aa1c81a55a6ebaeba4d7d44ddaddc8a83c85518367ea1b3414ffa03add4c9d8d", func := "loop.example/g03316/laws.FnExactPairsOk", spec := "fnExactPairsOk", unfollowed := true, recurses := true, named := ["loop.example/g03316/impl.beforeAll"], apart := false, laid := [("loop.example/g03316/impl.beforeAll", laid_loop_example_g03316_impl_beforeAll)], narrowed := true }
def FnExactPairsOkUptoSaid : Prop := fnExactPairsOkUptoRow.holds Tryd.pinned (OpenSpec.upto fnExactPairsOkSpec)

/-- 'laws.FnExactAddPair', WHERE WHAT IT READS IS OF BULK AT MOST 1048576: true; the input reads as it did. -/
def fnExactAddPairUptoRow : OpenClaim := { program := "ytggfmimnmpanbaadoor", sum := "aa1c81a55a6ebaeba4d7d44ddaddc8a83c85518367ea1b3414ffa03add4c9d8d", func := "loop.example/g03316/laws.FnExactAddPair", spec := "fnExactAddPair", unfollowed := true, recurses := true, named := ["loop.example/g03316/impl.beforeAll"], apart := false, laid := [("loop.example/g03316/impl.beforeAll", laid_loop_example_g03316_impl_beforeAll)], narrowed := true }
def FnExactAddPairUptoSaid : Prop := fnExactAddPairUptoRow.holds Tryd.pinned (OpenSpec.upto fnExactAddPairSpec)

/-- 'laws.FnExactBoundsOf', WHERE WHAT IT READS IS OF BULK AT MOST 1048576: true; the input reads as it did. -/
def fnExactBoundsOfUptoRow : OpenClaim := { program := "ytggfmimnmpanbaadoor", sum := "aa1c81a55a6ebaeba4d7d44ddaddc8a83c85518367ea1b3414ffa03add4c9d8d", func := "loop.example/g03316/laws.FnExactBoundsOf", spec := "fnExactBoundsOf", unfollowed := true, recurses := true, named := ["loop.example/g03316/impl.beforeAll", "loop.example/g03316/impl.behindAll"], apart := false, laid := [("loop.example/g03316/impl.beforeAll", laid_loop_example_g03316_impl_beforeAll), ("loop.example/g03316/impl.behindAll", laid_loop_example_g03316_impl_behindAll)], narrowed := true }
def FnExactBoundsOfUptoSaid : Prop := fnExactBoundsOfUptoRow.holds Tryd.pinned (OpenSpec.upto fnExactBoundsOfSpec)

/-- 'laws.FnExactGuessTrue', WHERE WHAT IT READS IS OF BULK AT MOST 1048576: true; the input reads as it did. -/
def fnExactGuessTrueUptoRow : OpenClaim := { program := "ytggfmimnmpanbaadoor", sum := "aa1c81a55a6ebaeba4d7d44ddaddc8a83c85518367ea1b3414ffa03add4c9d8d", func := "loop.example/g03316/laws.FnExactGuessTrue", spec := "fnExactGuessTrue", unfollowed := true, recurses := true, named := ["loop.example/g03316/impl.beforeAll"], apart := false, laid := [("loop.example/g03316/impl.beforeAll", laid_loop_example_g03316_impl_beforeAll)], narrowed := true }
def FnExactGuessTrueUptoSaid : Prop := fnExactGuessTrueUptoRow.holds Tryd.pinned (OpenSpec.upto fnExactGuessTrueSpec)

/-- 'laws.FnExactRateOf', WHERE WHAT IT READS IS OF BULK AT MOST 1048576: true; the input reads as it did. -/
def fnExactRateOfUptoRow : OpenClaim := { program := "ytggfmimnmpanbaadoor", sum := "aa1c81a55a6ebaeba4d7d44ddaddc8a83c85518367ea1b3414ffa03add4c9d8d", func := "loop.example/g03316/laws.FnExactRateOf", spec := "fnExactRateOf", unfollowed := true, recurses := true, named := ["loop.example/g03316/impl.beforeAll"], apart := false, laid := [("loop.example/g03316/impl.beforeAll", laid_loop_example_g03316_impl_beforeAll)], narrowed := true }
def FnExactRateOfUptoSaid : Prop := fnExactRateOfUptoRow.holds Tryd.pinned (OpenSpec.upto fnExactRateOfSpec)

end Rows
end Go.Proofs.YtggfmimnmpanbaaDoor
